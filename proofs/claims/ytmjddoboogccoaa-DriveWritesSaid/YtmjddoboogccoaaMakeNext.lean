/- The stream that the makers of inputs draw numbers from. -/
import Derived.Test.YtmjddoboogccoaaBitWalksB
import Derived.Test.YtmjddoboogccoaaChecked
import Derived.Test.YtmjddoboogccoaaRefArgs
import Derived.Below
import Derived.BigQuiet
import Derived.Deep.Draws
import Derived.Deep.OwnRows
import Derived.Deep.QuietTactic
import Derived.Lib.Hide
import Derived.OpenShut
import Derived.OwnWalk
import Derived.RangeFuncBox
import Derived.RowKit3
import Derived.WalkKit
namespace Go.Proofs.Ytmjddoboogccoaa
open Go.RowKit

/-- Block g holds the stream, and the list l is what is left of it; the list lies in the world w0. -/
def stream (w0 w : World) (g : Nat) (l : List Int) : Prop :=
  w0.heap.size ≤ g ∧ Below w0.heap.size w0 w ∧ (∀ x ∈ l, (Lit.int .i64 x).wf = true) ∧ ∃ v, Boxed w g 78 v ∧ isArg w0 v l

theorem next_any (w0 : World) (g : Nat) (l : List Int) (n : Int) (hn : (Lit.int .i64 n).wf = true) (w : World) (h : stream w0 w g l) :
    Calls Try.prog 54 #[.pointer (some ⟨g, 0, none⟩), .int .i64 n] w fun e w' =>
      ∃ r, e = .returned (.int .i64 r) ∧ 0 ≤ r ∧ (r < n ∨ r = 0) ∧ w.grownBy w' (some g) ∧ w'.heap.size = w.heap.size ∧ ∃ l', stream w0 w' g l' := by
  obtain ⟨hg, hb, hwf, v, hv, harg⟩ := h
  have hc := hv.cell
  have hfz := hv.frozen
  by_cases h1 : n < 1
  · go_enter Try.func54, Try.ntmps54
    go_wp2_with fail
    go_ret
    exact ⟨0, rfl, Int.le_refl _, .inr rfl, World.grownBy.refl _ _, rfl, l, hg, hb, hwf, v, hv, harg⟩
  · rcases harg with ⟨a, cap, rfl, rfl⟩ | ⟨b, off, cap, rfl, k1, k2, k3, k4⟩
    · go_enter Try.func54, Try.ntmps54
      go_wp2_with fail
      go_ret
      exact ⟨0, rfl, Int.le_refl _, .inr rfl, World.grownBy.refl _ _, rfl, [], hg, hb, hwf, _, hv, .inl ⟨_, _, rfl, rfl⟩⟩
    · cases l with
      | nil =>
        go_enter Try.func54, Try.ntmps54
        go_wp2_with fail
        go_ret
        exact ⟨0, rfl, Int.le_refl _, .inr rfl, World.grownBy.refl _ _, rfl, [], hg, hb, hwf, _, hv, .inl ⟨_, _, rfl, rfl⟩⟩
      | cons x l =>
        have c0 := k4 0 (Nat.succ_pos _)
        rw [← hb.cell (p := ⟨b, off + 0, none⟩) k1] at c0
        simp only [Nat.add_zero, List.getD_cons_zero] at c0
        have hx := bounds_i64 (hwf x (List.mem_cons_self ..))
        have hn2 := bounds_i64 hn
        have hm0 := Int.emod_nonneg x (b := n) (by omega)
        have hm1 := Int.emod_lt_of_pos x (b := n) (by omega)
        have kl : (x :: l).length = l.length + 1 := rfl
        rw [kl] at k2
        have K4 := Lib.hid k4
        have Hwf := Lib.hid hwf
        clear k4 hwf
        by_cases hcap : cap = 1
        all_goals go_enter Try.func54, Try.ntmps54
        all_goals go_wp2_with (go_at_call 30; refine (below_any _ _ hx (by omega) _).mono ?_; rintro e w1 ⟨rfl, rfl⟩)
        · obtain rfl : l = [] := List.eq_nil_of_length_eq_zero (by omega)
          go_ret
          exact ⟨x % n, rfl, hm0, .inl hm1, grownBy_setCell' _ _ _, by simp, [], hg, hb.setCell hg _, (by simp), _, hv.set _, .inl ⟨_, _, rfl, rfl⟩⟩
        · go_ret
          refine ⟨x % n, rfl, hm0, .inl hm1, grownBy_setCell' _ _ _, by simp, l, hg, hb.setCell hg _, fun y hy => Hwf.out y (List.mem_cons_of_mem _ hy), _, hv.set _, .inr ⟨b, off + 1, cap - 1, rfl, k1, by omega, by omega, fun j hj => ?_⟩⟩
          have := K4.out (j + 1) (by rw [kl]; omega)
          rw [Nat.add_assoc, Nat.add_comm 1 j]
          simpa using this
end Go.Proofs.Ytmjddoboogccoaa
