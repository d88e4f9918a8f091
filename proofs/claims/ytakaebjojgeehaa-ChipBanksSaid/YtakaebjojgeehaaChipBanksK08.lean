/- A part of the proof of ChipBanks: Regs, DevForm, DevNum, DevPick. -/
import Derived.Test.YtakaebjojgeehaaChipBanksK01
import Derived.Test.YtakaebjojgeehaaChipBanksK02
import Derived.Test.YtakaebjojgeehaaChipBanksK03
import Derived.Test.YtakaebjojgeehaaChipBanksK04
import Derived.Test.YtakaebjojgeehaaChipBanksK05
import Derived.Test.YtakaebjojgeehaaChipBanksK06
import Derived.Test.YtakaebjojgeehaaChipBanksK07
import Derived.Below
import Derived.BigQuiet
import Derived.ChangeMaps5
import Derived.Deep.DeepCutAuto
import Derived.Deep.Draws
import Derived.Deep.MidRow
import Derived.Deep.OwnRows
import Derived.Deep.QuietTactic
import Derived.Deep.RegionHeld3
import Derived.Deep.RegionWith
import Derived.Deep.Slices
import Derived.Deep.WholeRow
import Derived.Lib.Hide
import Derived.Lib.SmallJoins
import Derived.OpenShut
import Derived.OrdersHeld
import Derived.OwnWalk
import Derived.RowKit3
import Derived.StillTactics
import Derived.StillTail
import Derived.StillTailTactics
import Derived.Test.YtakaebjojgeehaaChecked
import Derived.WalkKit
namespace Go.Proofs.Ytakaebjojgeehaa
open Go.RowKit
section
variable {w : World} {g : Nat} {t : TypeId} {f : Nat → Int}
end
theorem below_rowR {B g : Nat} {a w : World} (h : Below B a w) (c : Array Value) (hg : B ≤ g) : Below B a (w.setRow g c) := by
  refine h.trans ⟨rfl, rfl, rfl, by simp [World.setRow], fun k hk => ?_⟩
  simp only [World.setRow, Array.getElem?_modify]
  rw [if_neg (by omega)]

end Go.Proofs.Ytakaebjojgeehaa
namespace Go.Proofs.Ytakaebjojgeehaa
open Go.RowKit
set_option maxRecDepth 100000
/-- A chip's description, by value. -/
def chip5 (nm : ByteArray) (k b z : Int) (dat : Value) : Array Value := #[.string nm, .int .i64 k, .int .i64 b, .int .i64 z, dat]

end Go.Proofs.Ytakaebjojgeehaa
namespace Go.Proofs.Ytakaebjojgeehaa
open Go.RowKit
set_option maxRecDepth 100000
theorem devNumber_any (v vm : Value) (l : List Int) (k : Nat) (b : Int) (w : World) (h : isArg w v l) :
    Calls Try.prog 84 #[.agg #[v, vm], .int .i64 k, .int .i64 b] w fun e w' => e = .returned (.int .i64 (lo (l.getD k 0) (wd b))) ∧ Below w.heap.size w w' := by
  obtain ⟨a, cap, rfl, hf⟩ := isArg_form h
  have hk0 : decide ((k : Int) < 0) = false := decide_eq_false (by omega)
  have b0 := (boxes1 w (.cells #[.slice a l.length cap, vm] 34)).2.1
  by_cases hk : k < l.length
  · obtain ⟨g, off, rfl, hg, h1, h2, hc⟩ := hf k hk
    have hd : decide ((l.length : Int) ≤ (k : Int)) = false := by simp; omega
    generalize l.getD k 0 = x at *
    go_enter Try.func84, Try.ntmps84
    go_wp2_with (go_at_call 16; refine (low_any _ _ _).mono ?_; rintro e w' ⟨rfl, rfl⟩)
    go_ret
    exact ⟨rfl, b0⟩
  · have hd : decide ((l.length : Int) ≤ (k : Int)) = true := by simp; omega
    have e : l.getD k 0 = 0 := by rw [List.getD_eq_getElem?_getD, List.getElem?_eq_none (by omega)]; rfl
    have e2 : lo 0 (wd b) = 0 := by unfold lo; exact Int.zero_emod _
    rw [e, e2]
    go_enter Try.func84, Try.ntmps84
    go_wp2_with fail
    go_ret
    exact ⟨rfl, b0⟩

end Go.Proofs.Ytakaebjojgeehaa
namespace Go.Proofs.Ytakaebjojgeehaa
open Go.RowKit
set_option maxRecDepth 100000
theorem isArg_none (w : World) : isArg w (.slice none 0 0) [] := .inl ⟨none, 0, rfl, rfl⟩
end Go.Proofs.Ytakaebjojgeehaa
