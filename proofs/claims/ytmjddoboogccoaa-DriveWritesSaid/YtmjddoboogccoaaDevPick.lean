/- Shared by the kinds of chips: a field of a state, what is picked of a list by a number. -/
import Derived.Test.YtmjddoboogccoaaChecked
import Derived.Test.YtmjddoboogccoaaDev
import Derived.Below
import Derived.BigQuiet
import Derived.ChangeMaps5
import Derived.Deep.DeepCutAuto
import Derived.Deep.Draws
import Derived.Deep.MidRow
import Derived.Deep.OwnRows
import Derived.Deep.QuietTactic
import Derived.Deep.RegionHeld3
import Derived.Deep.RegionWith
import Derived.Deep.Slices
import Derived.Deep.WholeRow
import Derived.Lib.Hide
import Derived.Lib.SmallJoins
import Derived.OpenShut
import Derived.OrdersHeld
import Derived.OwnWalk
import Derived.RowKit3
import Derived.StillTactics
import Derived.StillTail
import Derived.StillTailTactics
import Derived.WalkKit
namespace Go.Proofs.Ytmjddoboogccoaa
open Go.RowKit
set_option maxRecDepth 100000

theorem run_devN (x y : Value) (w : World) : (Instr.field 25 (.agg #[x, y]) 0).run Try.prog w = .ok x w := by
  have hu : Try.prog.underlying 25 = _ := Try.underlying25
  simp [Instr.field, run_underlying hu, asAgg, part, go_sem]
theorem isArg_none (w : World) : isArg w (.slice none 0 0) [] := .inl ⟨none, 0, rfl, rfl⟩
/-- What is picked of a list by a number. -/
def pickN (l : List Int) (a : Int) : Int := if 0 ≤ a then l.getD a.toNat 0 else 0
theorem pick_any (v : Value) (l : List Int) (q : Nat) (a : Int) (w : World) (h : isArg w v l) (hq : rowB w q 3 #[.int .i64 a]) :
    Calls Try.prog 38 #[v, .pointer (some ⟨q, 0, none⟩)] w fun e w' => e = .returned (.int .i64 (pickN l a)) ∧ w = w' := by
  obtain ⟨p, cap, rfl, hf⟩ := isArg_form h
  have c0 := rowB_cell hq 0 (v := .int .i64 a) rfl
  rcases (by omega : a < 0 ∨ (0 ≤ a ∧ ¬ a.toNat < l.length) ∨ (0 ≤ a ∧ a.toNat < l.length)) with h1 | ⟨h1, h2⟩ | ⟨h1, h2⟩
  · have e : pickN l a = 0 := if_neg (by omega)
    have hd : decide (a < 0) = true := decide_eq_true h1
    rw [e]
    go_enter Try.func38, Try.ntmps38
    go_wp2_with fail
    go_ret
    exact ⟨rfl, rfl⟩
  · have e : pickN l a = 0 := (if_pos h1).trans (by rw [List.getD_eq_getElem?_getD, List.getElem?_eq_none (by omega)]; rfl)
    have hd : decide (a < 0) = false := decide_eq_false (by omega)
    have hd2 : decide ((l.length : Int) ≤ a) = true := decide_eq_true (by omega)
    rw [e]
    go_enter Try.func38, Try.ntmps38
    go_wp2_with fail
    go_ret
    exact ⟨rfl, rfl⟩
  · have e : pickN l a = l.getD a.toNat 0 := if_pos h1
    rw [e]
    obtain ⟨n, rfl⟩ : ∃ n : Nat, a = n := ⟨a.toNat, by omega⟩
    rw [Int.toNat_natCast] at *
    obtain ⟨g, off, rfl, hg, hc1, hc2, hc⟩ := hf n h2
    have hd : decide ((n : Int) < 0) = false := decide_eq_false (by omega)
    have hd2 : decide ((l.length : Int) ≤ (n : Int)) = false := decide_eq_false (by omega)
    generalize l.getD n 0 = x at *
    clear hf h e
    go_enter Try.func38, Try.ntmps38
    go_wp2_with fail
    go_ret
    exact ⟨rfl, rfl⟩
end Go.Proofs.Ytmjddoboogccoaa
