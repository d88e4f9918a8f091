/- The maker of steps makes steps that are valid. -/
import Derived.Test.YtnkplfimcehnmaaMakeNext
import Derived.Test.YtnkplfimcehnmaaTabCpu
import Derived.Handy
import Derived.RangeFuncNested
namespace Go.Proofs.Ytnkplfimcehnmaa
open Go.RowKit

theorem grown_trans {a b c : World} {r : Option Nat} (h : a.grownBy b r) (g : b.grownBy c r) : a.grownBy c r :=
  ⟨g.os.trans h.os, g.tape.trans h.tape, g.output.trans h.output, Nat.le_trans h.size g.size, fun k hk hne => (g.block k (Nat.lt_of_lt_of_le hk h.size) hne).trans (h.block k hk hne)⟩
theorem grown_set {a b : World} {r : Option Nat} (h : a.grownBy b r) {k i : Nat} (hk : a.heap.size ≤ k) (u : Value) : a.grownBy (b.setCell ⟨k, i, none⟩ u) r :=
  ⟨h.os, h.tape, h.output, by simpa using h.size, fun j hj hne => by
    rw [Below.heap_setCell b ⟨k, i, none⟩ u j (by show j ≠ k; omega)]; exact h.block j hj hne⟩
theorem stream_set {w0 w : World} {g : Nat} {l : List Int} (h : stream w0 w g l) {k i : Nat} (hk : g < k) (u : Value) : stream w0 (w.setCell ⟨k, i, none⟩ u) g l := by
  obtain ⟨h1, h2, h3, v, h4, h5⟩ := h
  refine ⟨h1, h2.setCell (by show w0.heap.size ≤ k; omega) u, h3, v, ?_, h5⟩
  show (w.setCell ⟨k, i, none⟩ u).heap[g]? = _
  rw [Below.heap_setCell w ⟨k, i, none⟩ u g (by show g ≠ k; omega)]
  exact h4
theorem stream_alloc {w0 w : World} {g : Nat} {l : List Int} (h : stream w0 w g l) (o : Obj) : stream w0 (w.alloc o) g l := by
  obtain ⟨h1, h2, h3, v, h4, h5⟩ := h
  exact ⟨h1, h2.alloc h2.size o, h3, v, h4.alloc o, h5⟩

/-- While a step is made: the stream, what has changed since w, and the box for the result. -/
def atStep (w0 w wc : World) (g : Nat) : Prop :=
  (∃ l, stream w0 wc g l) ∧ w.grownBy wc (some g) ∧ wc.heap[w.heap.size]? = some (.cells #[.int .i64 0, .int .i64 0, .int .i64 0, .int .i64 0] 81 (0, 0))
theorem frozen4 {w : World} {b : Nat} {c : Array Value} {t : TypeId} (h : w.heap[b]? = some (.cells c t (0, 0))) (i : Nat) : w.frozen? ⟨b, i, none⟩ = false := by simp [World.frozen?, h]
theorem next_at (w0 w : World) (g : Nat) (hg : g < w.heap.size) (n : Int) (hn : (Lit.int .i64 n).wf = true) (wc : World) (h : atStep w0 w wc g) :
    Calls Try.prog 31 #[.pointer (some ⟨g, 0, none⟩), .int .i64 n] wc fun e w' =>
      ∃ r, e = .returned (.int .i64 r) ∧ 0 ≤ r ∧ (r < n ∨ r = 0) ∧ atStep w0 w w' g := by
  obtain ⟨⟨l, hs⟩, hgr, hbx⟩ := h
  refine (next_any w0 g l n hn wc hs).mono ?_
  rintro e w' ⟨r, he, h0, h1, h2, _, l', h3⟩
  refine ⟨r, he, h0, h1, ⟨l', h3⟩, grown_trans hgr h2, ?_⟩
  rw [h2.block _ (Array.getElem?_eq_some_iff.1 hbx).1 (by intro e; cases e; omega)]
  exact hbx

set_option maxRecDepth 100000 in
set_option maxHeartbeats 8000000 in
theorem step_made (w0 : World) (g : Nat) (l : List Int) (w : World) (h : stream w0 w g l) :
    Calls Try.prog 56 #[.pointer (some ⟨g, 0, none⟩)] w fun e w' =>
      ∃ s : St, e = .returned (.agg #[.int .i64 s.d, .int .i64 s.t, .int .i64 s.f, .int .i64 s.n]) ∧ stepE s = 0 ∧ w.grownBy w' (some g) ∧ ∃ l', stream w0 w' g l' := by
  have hg : g < w.heap.size := h.2.2.2.choose_spec.1.lt
  have A0 : atStep w0 w (w.alloc (.cells #[.int .i64 0, .int .i64 0, .int .i64 0, .int .i64 0] 81)) g :=
    ⟨⟨l, stream_alloc h _⟩, World.grownBy_alloc _ _ _, heap_alloc_new w _⟩
  go_enter Try.func56, Try.ntmps56
  go_wp2_with (first
    | (go_at_call_of 31 (Value.pointer (some ⟨g, 0, none⟩)); refine (next_at w0 w g hg _ (by decide) _ (by assumption)).mono ?_; rintro e w1 ⟨r, rfl, r0, r1, A1⟩; have F1 := frozen4 A1.2.2; obtain ⟨b0, b1, b2, b3⟩ := cells4 A1.2.2))
  all_goals
    refine bodyPost_ret (v := .agg #[_, _, _, _]) (by simp [results, Try.results56, go_sem, b0, b1, b2, b3]; first | exact ⟨rfl, rfl, rfl, rfl⟩ | rfl) rfl ?_
    refine ⟨⟨_, _, _, _⟩, rfl, ?v, ?g, ?s⟩
    case g => repeat (first | exact A1.2.1 | refine grown_set ?_ (Nat.le_refl _) _)
    case s =>
      obtain ⟨l1, h1⟩ := A1.1
      refine ⟨l1, ?_⟩
      repeat (first | exact h1 | refine stream_set ?_ hg _)
    case v =>
      clear A0 A1 F1 b0 b1 b2 b3
      simp only [beq_iff_eq, beq_eq_false_iff_ne, ne_eq] at *
      first
        | (simp [stepE, stepOk, nar, wid, *]; done)
        | (subst_vars; simp [stepE, stepOk, nar, wid]; omega)
        | (have hr : r = 3 ∨ r = 10 ∨ r = 11 ∨ r = 12 ∨ r = 13 ∨ r = 14 ∨ r = 15 := by omega
           rcases hr with rfl | rfl | rfl | rfl | rfl | rfl | rfl <;> (simp [stepE, stepOk, nar, wid]; omega))
end Go.Proofs.Ytnkplfimcehnmaa
