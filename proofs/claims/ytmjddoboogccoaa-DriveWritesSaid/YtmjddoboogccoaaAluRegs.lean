/- The fact that a step adds, and the registers that the laws draw. -/
import Derived.Test.YtmjddoboogccoaaAluDo
import Derived.Test.YtmjddoboogccoaaChecked
import Derived.Test.YtmjddoboogccoaaMakeNext
import Derived.Below
import Derived.BigQuiet
import Derived.Deep.CutBlock
import Derived.Deep.DeepCutAuto
import Derived.Deep.Draws
import Derived.Deep.MidRow
import Derived.Deep.OwnRows
import Derived.Deep.QuietTactic
import Derived.Deep.RegionHeld3
import Derived.Deep.RegionLaw
import Derived.Deep.RegionWith
import Derived.Deep.WholeRow
import Derived.Lib.Hide
import Derived.OpenShut
import Derived.OrdersHeld
import Derived.OwnWalk
import Derived.RangeFuncBox
import Derived.RowKit3
import Derived.StillTactics
import Derived.StillTail
import Derived.StillTailTactics
import Derived.WalkKit
namespace Go.Proofs.Ytmjddoboogccoaa
set_option maxRecDepth 100000
open Go.RowKit

def from200 (k : Nat) : Int := if k = 0 then 200 else if k = 1 then 100 else 0
def into44 (k : Nat) : Int := if k = 0 then 44 else if k = 1 then 100 else if k = 4 then 1 else 0
theorem does_val : arr9 (doF 4 (reg 0) (reg 1) 0 (fitR from200)) = arr9 into44 := by kernel_rfl
theorem regB_grown {w w' : World} {g : Nat} {r : Option Nat} {t : TypeId} {f : Nat → Int} (h : regB w g t f) (hg : w.grownBy w' r) (hr : some g ≠ r) : regB w' g t f := by
  unfold regB at *; rw [hg.block g (regB_lt h) hr]; exact h
theorem fits_setW {f : Nat → Int} (h : fits f) (k : Nat) (x : Int) (hk : k = 7 ∨ k = 8) (h0 : 0 ≤ x) (h1 : x < 65536) : fits (setR f k x) := fun j => by
  have := h j
  unfold setR
  by_cases e : j = k
  · rw [if_pos e]; omega
  · rw [if_neg e]; exact this
theorem fits_zero : fits (fun _ => 0) := fun k => by simp
theorem streamR_alloc {w0 w : World} {g : Nat} {l : List Int} (h : stream w0 w g l) (o : Obj) : stream w0 (w.alloc o) g l := by
  obtain ⟨h1, h2, h3, v, h4, h5⟩ := h
  exact ⟨h1, h2.alloc h2.size o, h3, v, h4.alloc o, h5⟩
theorem streamR_set {w0 w : World} {g : Nat} {l : List Int} (h : stream w0 w g l) {k i : Nat} (hk : g < k) (u : Value) : stream w0 (w.setCell ⟨k, i, none⟩ u) g l := by
  obtain ⟨h1, h2, h3, v, h4, h5⟩ := h
  refine ⟨h1, h2.setCell (by show w0.heap.size ≤ k; omega) u, h3, v, ?_, h5⟩
  show (w.setCell ⟨k, i, none⟩ u).heap[g]? = _
  rw [Below.heap_setCell w ⟨k, i, none⟩ u g (by show g ≠ k; omega)]
  exact h4

theorem ne_two (n : Nat) : (some (n + 1 + 1) : Option Nat) ≠ some (n + 1) := fun h => by injection h; omega
theorem ne_one (n : Nat) : (some n : Option Nat) ≠ some (n + 1) := fun h => by injection h; omega
theorem ne_far (n : Nat) : n + 1 + 1 ≠ n := by omega
end Go.Proofs.Ytmjddoboogccoaa
