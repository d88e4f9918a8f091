/- Package dev: the lowest bits of a number of a state. -/
import Derived.Test.YtmjddoboogccoaaBitWalks
import Derived.Test.YtmjddoboogccoaaChecked
import Derived.Test.YtmjddoboogccoaaDev
import Derived.Below
import Derived.BigQuiet
import Derived.ChangeMaps5
import Derived.Deep.DeepCutAuto
import Derived.Deep.Draws
import Derived.Deep.MidRow
import Derived.Deep.OwnRows
import Derived.Deep.QuietTactic
import Derived.Deep.RegionHeld3
import Derived.Deep.RegionWith
import Derived.Deep.Slices
import Derived.Deep.WholeRow
import Derived.Lib.Hide
import Derived.Lib.SmallJoins
import Derived.OpenShut
import Derived.OrdersHeld
import Derived.OwnWalk
import Derived.RowKit3
import Derived.StillTactics
import Derived.StillTail
import Derived.StillTailTactics
import Derived.WalkKit
namespace Go.Proofs.Ytmjddoboogccoaa
open Go.RowKit
set_option maxRecDepth 100000

theorem devNumber_any (v vm : Value) (l : List Int) (k : Nat) (b : Int) (w : World) (h : isArg w v l) :
    Calls Try.prog 58 #[.agg #[v, vm], .int .i64 k, .int .i64 b] w fun e w' => e = .returned (.int .i64 (lo (l.getD k 0) (wd b))) ∧ Below w.heap.size w w' := by
  obtain ⟨a, cap, rfl, hf⟩ := isArg_form h
  have hk0 : decide ((k : Int) < 0) = false := decide_eq_false (by omega)
  have b0 := (boxes1 w (.cells #[.slice a l.length cap, vm] 25)).2.1
  by_cases hk : k < l.length
  · obtain ⟨g, off, rfl, hg, h1, h2, hc⟩ := hf k hk
    have hd : decide ((l.length : Int) ≤ (k : Int)) = false := by simp; omega
    generalize l.getD k 0 = x at *
    go_enter Try.func58, Try.ntmps58
    go_wp2_with (go_at_call 43; refine (low_any _ _ _).mono ?_; rintro e w' ⟨rfl, rfl⟩)
    go_ret
    exact ⟨rfl, b0⟩
  · have hd : decide ((l.length : Int) ≤ (k : Int)) = true := by simp; omega
    have e : l.getD k 0 = 0 := by rw [List.getD_eq_getElem?_getD, List.getElem?_eq_none (by omega)]; rfl
    have e2 : lo 0 (wd b) = 0 := by unfold lo; exact Int.zero_emod _
    rw [e, e2]
    go_enter Try.func58, Try.ntmps58
    go_wp2_with fail
    go_ret
    exact ⟨rfl, b0⟩

end Go.Proofs.Ytmjddoboogccoaa
