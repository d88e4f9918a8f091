/- The memory of the laws on the museum's processor: 65536 bytes behind a pointer. Contracts of its Read and Write. -/
import Derived.Test.YthhihmggaddlmaaChecked
import Derived.Test.YthhihmggaddlmaaWholeMath
import Derived.Below
import Derived.BigQuiet
import Derived.ChangeMaps5
import Derived.Deep.CutBlock
import Derived.Deep.DeepAppendWide
import Derived.Deep.DeepCutAuto
import Derived.Deep.Draws
import Derived.Deep.MidRow
import Derived.Deep.OwnRows
import Derived.Deep.QuietTactic
import Derived.Deep.RegionHeld3
import Derived.Deep.RegionLaw
import Derived.Deep.RegionWith
import Derived.Deep.Slices
import Derived.Deep.WholeRow
import Derived.Laws.OwnMore
import Derived.Lib.Hide
import Derived.Lib.SmallJoins
import Derived.OpenShut
import Derived.OrdersHeld
import Derived.OwnWalk
import Derived.RowKit3
import Derived.Shelf.Abstract
import Derived.SizedLaws
import Derived.StillTactics
import Derived.StillTail
import Derived.StillTailTactics
import Derived.WalkKit
namespace Go.Proofs.Ythhihmggaddlmaa
open Go.RowKit
set_option maxRecDepth 100000

/-- Where an address leads. -/
def at16 (a : Int) : Nat := (a % 65536).toNat
theorem at16_lt (a : Int) : at16 a < 65536 := by unfold at16; omega
theorem at16_of (k : Nat) (h : k < 65536) : at16 (k : Int) = k := by unfold at16; omega
theorem at16_int {a : Int} (h0 : 0 ≤ a) (h1 : a < 65536) : (at16 a : Int) = a := by unfold at16; omega
theorem and65535 (a : Int) : bits .and .i64 a 65535 = (at16 a : Int) := by
  have e : BitVec.ofInt 64 a &&& BitVec.ofInt 64 65535 = BitVec.ofNat 64 (at16 a) := by
    apply BitVec.eq_of_toNat_eq
    rw [BitVec.toNat_and, BitVec.toNat_ofInt, BitVec.toNat_ofInt]
    have e2 : ((65535 : Int) % (2 ^ 64 : Nat)).toNat = 2 ^ 16 - 1 := by decide
    rw [e2, Nat.and_two_pow_sub_one_eq_mod, BitVec.toNat_ofNat]
    unfold at16
    omega
  show IntKind.i64.wrap ((BitVec.ofInt 64 a &&& BitVec.ofInt 64 65535).toNat : Int) = _
  have hl := at16_lt a
  rw [e, BitVec.toNat_ofNat, Nat.mod_eq_of_lt (by omega)]
  exact IntWalk.i64_in _ ⟨by omega, by omega⟩
def flatF : MemF (Nat → Int) := ⟨fun m a => m (at16 a), fun m a d k => if k = at16 a then d % 256 else m k⟩
def flatG (g b : Nat) (k : Nat) : Prop := k = g ∨ k = b
section
end
end Go.Proofs.Ythhihmggaddlmaa
