/- The maker of processors makes valid processors. -/
import Derived.Test.YtdaaaaacknpbhaaChecked
import Derived.Test.YtdaaaaacknpbhaaMakeNext
import Derived.Test.YtdaaaaacknpbhaaTabFind
import Derived.Below
import Derived.BigQuiet
import Derived.Carry
import Derived.ChangeMaps5
import Derived.Deep.DeepCutAuto
import Derived.Deep.Draws
import Derived.Deep.OwnRows
import Derived.Deep.QuietTactic
import Derived.Deep.RegionWith
import Derived.Deep.Slices
import Derived.DeepKeys4
import Derived.Handy
import Derived.KernelRfl
import Derived.Lib.Bytealg
import Derived.Lib.Hide
import Derived.Lib.IndexAny
import Derived.Lib.SmallJoins
import Derived.Lib.Walk
import Derived.Maps.Keyed
import Derived.Maps.OwnSet
import Derived.Maps.Views
import Derived.OpenShut
import Derived.OwnWalk
import Derived.RangeFuncBox
import Derived.RangeFuncNested
import Derived.RowKit3
import Derived.StillTailTactics
import Derived.WalkKit
import Derived.Test.YtdaaaaacknpbhaaArrOwn2
import Derived.Deep.AppendLies
import Derived.Deep.DeepAppendWide
import Derived.Deep.RegionHeld
import Derived.Deep.RegionHeld3
import Derived.Deep.RegionLaw
import Derived.Laws.OwnMore
import Derived.Laws.StructEq
import Derived.Lib.SliceRun
import Derived.Shelf.Abstract
import Derived.SizedLaws
namespace Go.Proofs.Ytdaaaaacknpbhaa
open Go.RowKit

theorem grown_trans {a b c : World} {r : Option Nat} (h : a.grownBy b r) (g : b.grownBy c r) : a.grownBy c r :=
  ⟨g.os.trans h.os, g.tape.trans h.tape, g.output.trans h.output, Nat.le_trans h.size g.size, fun k hk hne => (g.block k (Nat.lt_of_lt_of_le hk h.size) hne).trans (h.block k hk hne)⟩
theorem grown_set {a b : World} {r : Option Nat} (h : a.grownBy b r) {k i : Nat} (hk : a.heap.size ≤ k) (u : Value) : a.grownBy (b.setCell ⟨k, i, none⟩ u) r :=
  ⟨h.os, h.tape, h.output, by simpa using h.size, fun j hj hne => by
    rw [Below.heap_setCell b ⟨k, i, none⟩ u j (by show j ≠ k; omega)]; exact h.block j hj hne⟩
theorem stream_set {w0 w : World} {g : Nat} {l : List Int} (h : stream w0 w g l) {k i : Nat} (hk : g < k) (u : Value) : stream w0 (w.setCell ⟨k, i, none⟩ u) g l := by
  obtain ⟨h1, h2, h3, v, h4, h5⟩ := h
  refine ⟨h1, h2.setCell (by show w0.heap.size ≤ k; omega) u, h3, v, ?_, h5⟩
  show (w.setCell ⟨k, i, none⟩ u).heap[g]? = _
  rw [Below.heap_setCell w ⟨k, i, none⟩ u g (by show g ≠ k; omega)]
  exact h4
theorem stream_alloc {w0 w : World} {g : Nat} {l : List Int} (h : stream w0 w g l) (o : Obj) : stream w0 (w.alloc o) g l := by
  obtain ⟨h1, h2, h3, v, h4, h5⟩ := h
  exact ⟨h1, h2.alloc h2.size o, h3, v, h4.alloc o, h5⟩

/-- While a step is made: the stream, what has changed since w, and the box for the result. -/
def atStep (w0 w wc : World) (g : Nat) : Prop :=
  (∃ l, stream w0 wc g l) ∧ w.grownBy wc (some g) ∧ wc.heap[w.heap.size]? = some (.cells #[.int .i64 0, .int .i64 0, .int .i64 0, .int .i64 0] 57 (0, 0))
theorem frozen4 {w : World} {b : Nat} {c : Array Value} {t : TypeId} (h : w.heap[b]? = some (.cells c t (0, 0))) (i : Nat) : w.frozen? ⟨b, i, none⟩ = false := by simp [World.frozen?, h]
theorem next_at (w0 w : World) (g : Nat) (hg : g < w.heap.size) (n : Int) (hn : (Lit.int .i64 n).wf = true) (wc : World) (h : atStep w0 w wc g) :
    Calls Try.prog 62 #[.pointer (some ⟨g, 0, none⟩), .int .i64 n] wc fun e w' =>
      ∃ r, e = .returned (.int .i64 r) ∧ 0 ≤ r ∧ (r < n ∨ r = 0) ∧ atStep w0 w w' g := by
  obtain ⟨⟨l, hs⟩, hgr, hbx⟩ := h
  refine (next_any w0 g l n hn wc hs).mono ?_
  rintro e w' ⟨r, he, h0, h1, h2, _, l', h3⟩
  refine ⟨r, he, h0, h1, ⟨l', h3⟩, grown_trans hgr h2, ?_⟩
  rw [h2.block _ (Array.getElem?_eq_some_iff.1 hbx).1 (by intro e; cases e; omega)]
  exact hbx

set_option maxRecDepth 100000 in
set_option maxHeartbeats 8000000 in
theorem step_made (w0 : World) (g : Nat) (l : List Int) (w : World) (h : stream w0 w g l) :
    Calls Try.prog 98 #[.pointer (some ⟨g, 0, none⟩)] w fun e w' =>
      ∃ s : St, e = .returned (.agg #[.int .i64 s.d, .int .i64 s.t, .int .i64 s.f, .int .i64 s.n]) ∧ stepE s = 0 ∧ w.grownBy w' (some g) ∧ ∃ l', stream w0 w' g l' := by
  have hg : g < w.heap.size := h.2.2.2.choose_spec.1.lt
  have A0 : atStep w0 w (w.alloc (.cells #[.int .i64 0, .int .i64 0, .int .i64 0, .int .i64 0] 57)) g :=
    ⟨⟨l, stream_alloc h _⟩, World.grownBy_alloc _ _ _, heap_alloc_new w _⟩
  go_enter Try.func98, Try.ntmps98
  go_wp2_with (first
    | (go_at_call_of 62 (Value.pointer (some ⟨g, 0, none⟩)); refine (next_at w0 w g hg _ (by decide) _ (by assumption)).mono ?_; rintro e w1 ⟨r, rfl, r0, r1, A1⟩; have F1 := frozen4 A1.2.2; obtain ⟨b0, b1, b2, b3⟩ := cells4 A1.2.2))
  all_goals
    refine bodyPost_ret (v := .agg #[_, _, _, _]) (by simp [results, Try.results98, go_sem, b0, b1, b2, b3]; first | exact ⟨rfl, rfl, rfl, rfl⟩ | rfl) rfl ?_
    refine ⟨⟨_, _, _, _⟩, rfl, ?v, ?g, ?s⟩
    case g => repeat (first | exact A1.2.1 | refine grown_set ?_ (Nat.le_refl _) _)
    case s =>
      obtain ⟨l1, h1⟩ := A1.1
      refine ⟨l1, ?_⟩
      repeat (first | exact h1 | refine stream_set ?_ hg _)
    case v =>
      clear A0 A1 F1 b0 b1 b2 b3
      simp only [beq_iff_eq, beq_eq_false_iff_ne, ne_eq] at *
      first
        | (simp [stepE, stepOk, nar, wid, *]; done)
        | (subst_vars; simp [stepE, stepOk, nar, wid]; omega)
        | (have hr : r = 3 ∨ r = 10 ∨ r = 11 ∨ r = 12 ∨ r = 13 ∨ r = 14 ∨ r = 15 := by omega
           rcases hr with rfl | rfl | rfl | rfl | rfl | rfl | rfl <;> (simp [stepE, stepOk, nar, wid]; omega))
end Go.Proofs.Ytdaaaaacknpbhaa
namespace Go.Proofs.Ytdaaaaacknpbhaa
open Go.RowKit

theorem stream_below {w0 a b : World} {g lo : Nat} {l : List Int} (h : stream w0 a g l) (hg : g < lo) (hb : Below lo a b) : stream w0 b g l := by
  obtain ⟨h1, h2, h3, v, h4, h5⟩ := h
  refine ⟨h1, h2.trans (hb.mono (by omega)), h3, v, ?_, h5⟩
  show b.heap[g]? = _
  rw [hb.block g hg]
  exact h4

/-- Cycles that have no steps yet. -/
def R0 (cs : List Value) (c : Cy) : Prop := cs = [.int .i64 c.bus, .int .i64 c.place, .int .i64 c.reg, .slice none 0 0] ∧ c.steps = []
theorem R0_one : ∀ cs c, R0 cs c → ∀ u ∈ cs, u.oneCell' = true := by
  rintro cs c ⟨rfl, _⟩ u hu
  simp only [List.mem_cons, List.not_mem_nil, or_false] at hu
  rcases hu with rfl | rfl | rfl | rfl <;> rfl
theorem one_cycle (wr : World) (b p r : Int) : isArr 4 (fun _ => R0) (wr.alloc (.cells #[.int .i64 b, .int .i64 p, .int .i64 r, .slice none 0 0] 55)) (.slice (some ⟨wr.heap.size, 0, none⟩) 1 1) [⟨b, p, r, []⟩] := by
  have h := heap_alloc_new wr (.cells #[.int .i64 b, .int .i64 p, .int .i64 r, .slice none 0 0] 55)
  refine .inr ⟨wr.heap.size, 0, 1, rfl, (Array.getElem?_eq_some_iff.1 h).1, Nat.le_refl _, by decide, fun i x hx => ?_⟩
  match i, hx with
  | 0, hx =>
    cases hx
    refine ⟨[.int .i64 b, .int .i64 p, .int .i64 r, .slice none 0 0], rfl, fun j hj => ?_, rfl, rfl⟩
    rw [Nat.zero_mul, Nat.add_zero, Nat.zero_add, cell_of_row _ _ j _ _ _ h]
    match j, hj with
    | 0, _ => rfl
    | 1, _ => rfl
    | 2, _ => rfl
    | 3, _ => rfl

/-- While cycles are made: the slice, what has changed since w, and the stream. -/
def making (w0 w : World) (g : Nat) (wr : World) (v : Value) (cs : List Cy) : Prop :=
  ownArr 4 R0 w.heap.size 55 wr v cs ∧ w.grownBy wr (some g) ∧ ∃ l, stream w0 wr g l
theorem next_making (w0 w : World) (g : Nat) (hg : g < w.heap.size) (n : Int) (hn : (Lit.int .i64 n).wf = true) (wr : World) (v : Value) (cs : List Cy) (h : making w0 w g wr v cs) :
    Calls Try.prog 62 #[.pointer (some ⟨g, 0, none⟩), .int .i64 n] wr fun e w' =>
      ∃ r, e = .returned (.int .i64 r) ∧ 0 ≤ r ∧ (r < n ∨ r = 0) ∧ making w0 w g w' v cs ∧ wr.grownBy w' (some g) ∧ w'.heap.size = wr.heap.size := by
  obtain ⟨ho, hgr, l, hs⟩ := h
  refine (next_any w0 g l n hn wr hs).mono ?_
  rintro e w' ⟨r, he, h0, h1, h2, hsz, h3⟩
  exact ⟨r, he, h0, h1, ⟨ownArr_kept ho h2 (ownArr_off ho hg), grown_trans hgr h2, h3⟩, h2, hsz⟩
theorem making_alloc {w0 w : World} {g : Nat} {wr : World} {v : Value} {cs : List Cy} (h : making w0 w g wr v cs) (o : Obj) : making w0 w g (wr.alloc o) v cs := by
  obtain ⟨ho, hgr, l, hs⟩ := h
  exact ⟨ownArr_alloc ho o, grown_trans hgr (World.grownBy_alloc _ _ _), l, stream_alloc hs o⟩
/-- Behind an append of a cycle. -/
theorem making_more {w0 w : World} {g : Nat} {wr wr' : World} {v v' : Value} {cs cs' : List Cy} (h : making w0 w g wr v cs) (hg : g < w.heap.size) (ho : ownArr 4 R0 w.heap.size 55 wr' v' cs') (hgr : wr.grownBy wr' v.ownBlock) : making w0 w g wr' v' cs' := by
  obtain ⟨ho1, hgr1, l, hs⟩ := h
  have hb := own_grown ho1 hgr hgr1.size
  exact ⟨ho, grown_below hgr1 hb, l, stream_below hs hg hb⟩
theorem grown_cell (W : World) (b j : Nat) (v : Value) : W.grownBy (W.setCell ⟨b, j, none⟩ v) (some b) :=
  ⟨rfl, rfl, rfl, by simp, fun k _ hk => Below.heap_setCell _ _ _ k (fun e => hk (by rw [e]))⟩
theorem making_ne {w0 w : World} {g : Nat} {wr : World} {v : Value} {cs : List Cy} (h : making w0 w g wr v cs) : v.ownBlock ≠ some wr.heap.size := fun e => by
  have := (h.1.choose_spec.2.1.lt _ e).2
  omega
theorem making_set {w0 w : World} {g : Nat} {wr : World} {v : Value} {cs : List Cy} (h : making w0 w g wr v cs) (hg : g < w.heap.size) {B : Nat} (hB : w.heap.size ≤ B) (hne : v.ownBlock ≠ some B) (j : Nat) (x : Value) : making w0 w g (wr.setCell ⟨B, j, none⟩ x) v cs := by
  obtain ⟨ho, hgr, l, hs⟩ := h
  exact ⟨ownArr_kept ho (grown_cell _ _ _ _) (.inr hne), grown_set hgr hB x, l, stream_set hs (by omega) x⟩
end Go.Proofs.Ytdaaaaacknpbhaa
namespace Go.Proofs.Ytdaaaaacknpbhaa
open Go.RowKit

theorem heap_set {W : World} {b j : Nat} {c : Array Value} {t : TypeId} {fz : Nat × Nat} (h : W.heap[b]? = some (.cells c t fz)) (v : Value) : (W.setCell ⟨b, j, none⟩ v).heap[b]? = some (.cells (c.setIfInBounds j v) t fz) := by
  show (W.setCell ⟨b, j, none⟩ v).heap[b]? = _
  unfold World.setCell
  rw [Array.getElem?_modify, if_pos rfl, h]
  rfl
def cellsAt (wr : World) (bu j : Nat) (c : Cy) (v : Value) : Prop :=
  wr.cell? ⟨bu, j * 4, none⟩ = some (.int .i64 c.bus) ∧ wr.cell? ⟨bu, j * 4 + 1, none⟩ = some (.int .i64 c.place) ∧ wr.cell? ⟨bu, j * 4 + 2, none⟩ = some (.int .i64 c.reg) ∧ wr.cell? ⟨bu, j * 4 + 3, none⟩ = some v
theorem cellsAt_block {a b : World} {bu j : Nat} {c : Cy} {v : Value} (h : cellsAt a bu j c v) (hb : b.heap[bu]? = a.heap[bu]?) : cellsAt b bu j c v := by
  have f : ∀ k, b.cell? ⟨bu, k, none⟩ = a.cell? ⟨bu, k, none⟩ := fun k => by simp only [World.cell?, hb]
  unfold cellsAt
  rw [f, f, f, f]
  exact h
/-- A slice of steps that lies from lo on, in another block than q (or is empty). -/
def sepB (lo : Nat) (q : Option Nat) (v : Value) (l : List St) : Prop := l = [] ∨ ∃ b off n cap, v = .slice (some ⟨b, off, none⟩) n cap ∧ lo ≤ b ∧ some b ≠ q
theorem steps_grown {w w' : World} {v : Value} {l : List St} {row : Option Nat} {lo : Nat} (h : isArr 4 stepR w v l) (hg : w.grownBy w' row) (hne : sepB lo row v l) : isArr 4 stepR w' v l := by
  rcases h with h | ⟨b, off, cap, rfl, h1, h2, h3, h4⟩
  · exact .inl h
  · rcases hne with rfl | ⟨b', off', n', cap', e, _, hne⟩
    · exact .inl ⟨_, _, rfl, rfl⟩
    · cases e
      refine .inr ⟨b, off, cap, rfl, Nat.lt_of_lt_of_le h1 hg.size, h2, h3, fun i y hy => ?_⟩
      obtain ⟨cs, c1, c2, c3⟩ := h4 i y hy
      refine ⟨cs, c1, fun k hk => ?_, c3⟩
      rw [World.cell?_of_block (hg.block b h1 hne)]
      exact c2 k hk
theorem sepB_low {lo g : Nat} {q : Option Nat} {v : Value} {l : List St} (h : sepB lo q v l) (hg : g < lo) : sepB lo (some g) v l := by
  rcases h with h | ⟨b, off, n, cap, e, hb, _⟩
  · exact .inl h
  · exact .inr ⟨b, off, n, cap, e, hb, fun e => by cases e; omega⟩

/-- The first i of the cycles in block bu have got their steps, the others none. -/
def madeArr (wr : World) (lo bu : Nat) (cs : List Cy) (i : Nat) : Prop :=
  (∃ c t, wr.heap[bu]? = some (.cells c t (0, 0))) ∧ ∀ j c, cs[j]? = some c → ∃ v, cellsAt wr bu j c v ∧ isArr 4 stepR wr v c.steps ∧ sepB lo (some bu) v c.steps ∧ (i ≤ j → v = .slice none 0 0 ∧ c.steps = [])
/-- .. and cycle i is getting its steps: the slice vi. -/
def innerArr (wr : World) (lo bu : Nat) (cs : List Cy) (i : Nat) (c : Cy) (vi : Value) : Prop :=
  (∃ c t, wr.heap[bu]? = some (.cells c t (0, 0))) ∧ (cs[i]? = some c ∧ cellsAt wr bu i c vi ∧ ownArr 4 (stepR wr) lo 57 wr vi c.steps ∧ vi.ownBlock ≠ some bu) ∧
  ∀ j c, j ≠ i → cs[j]? = some c → ∃ v, cellsAt wr bu j c v ∧ isArr 4 stepR wr v c.steps ∧ sepB lo (some bu) v c.steps ∧ sepB lo vi.ownBlock v c.steps ∧ (i < j → v = .slice none 0 0 ∧ c.steps = [])

theorem inner_start {wr : World} {lo bu : Nat} {cs : List Cy} {i : Nat} (h : madeArr wr lo bu cs i) {c : Cy} (hc : cs[i]? = some c) : c.steps = [] ∧ innerArr wr lo bu cs i c (.slice none 0 0) := by
  obtain ⟨h1, h2⟩ := h
  obtain ⟨v, k1, k2, k3, k4⟩ := h2 i c hc
  obtain ⟨rfl, e⟩ := k4 (Nat.le_refl _)
  refine ⟨e, h1, ⟨hc, k1, ?_, by simp [Value.ownBlock]⟩, fun j c' hj hc' => ?_⟩
  · rw [e]; exact ownArr_nil _ _ _ _ _
  · obtain ⟨v, m1, m2, m3, m4⟩ := h2 j c' hc'
    refine ⟨v, m1, m2, m3, ?_, fun hlt => m4 (by omega)⟩
    rcases m3 with e | ⟨b, off, n, cap, e, hb, _⟩
    · exact .inl e
    · exact .inr ⟨b, off, n, cap, e, hb, by simp [Value.ownBlock]⟩
theorem inner_end {wr : World} {lo bu : Nat} {cs : List Cy} {i : Nat} {c : Cy} {vi : Value} (h : innerArr wr lo bu cs i c vi) : madeArr wr lo bu cs (i + 1) := by
  obtain ⟨h1, ⟨hc, k1, k2, k3⟩, h2⟩ := h
  refine ⟨h1, fun j c' hc' => ?_⟩
  by_cases e : j = i
  · subst e
    rw [hc] at hc'
    cases hc'
    refine ⟨vi, k1, ownArr_isArr k2, ?_, fun h => by omega⟩
    obtain ⟨f, _, hown, _⟩ := k2
    rcases hown.2 with ⟨_, hn⟩ | ⟨b, cap, cur, e, hB, _⟩
    · exact .inl (List.eq_nil_of_length_eq_zero hn)
    · exact .inr ⟨b, 0, _, cap, e, hB, fun e' => k3 (by rw [e]; exact e')⟩
  · obtain ⟨v, m1, m2, m3, _, m5⟩ := h2 j c' e hc'
    exact ⟨v, m1, m2, m3, fun h => m5 (by omega)⟩
/-- Where another block than these changes. -/
theorem inner_grown {wr w' : World} {lo bu g : Nat} {cs : List Cy} {i : Nat} {c : Cy} {vi : Value} (h : innerArr wr lo bu cs i c vi) (hg : wr.grownBy w' (some g)) (hl : g < lo) (hb : lo ≤ bu) : innerArr w' lo bu cs i c vi := by
  obtain ⟨⟨cc, t, h1⟩, ⟨hc, k1, k2, k3⟩, h2⟩ := h
  have hblk : w'.heap[bu]? = wr.heap[bu]? := hg.block bu (Array.getElem?_eq_some_iff.1 h1).1 (by intro e; cases e; omega)
  refine ⟨⟨cc, t, hblk.trans h1⟩, ⟨hc, cellsAt_block k1 hblk, ownArr_kept k2 hg (ownArr_off k2 hl), k3⟩, fun j c' hj hc' => ?_⟩
  obtain ⟨v, m1, m2, m3, m4, m5⟩ := h2 j c' hj hc'
  exact ⟨v, cellsAt_block m1 hblk, steps_grown m2 hg (sepB_low m3 hl), m3, m4, m5⟩
theorem inner_none {wr w' : World} {lo bu : Nat} {cs : List Cy} {i : Nat} {c : Cy} {vi : Value} (h : innerArr wr lo bu cs i c vi) (hg : wr.grownBy w' none) : innerArr w' lo bu cs i c vi := by
  obtain ⟨⟨cc, t, h1⟩, ⟨hc, k1, k2, k3⟩, h2⟩ := h
  have hblk : w'.heap[bu]? = wr.heap[bu]? := hg.block bu (Array.getElem?_eq_some_iff.1 h1).1 (by simp)
  refine ⟨⟨cc, t, hblk.trans h1⟩, ⟨hc, cellsAt_block k1 hblk, ownArr_kept k2 hg ?_, k3⟩, fun j c' hj hc' => ?_⟩
  · cases vi.ownBlock <;> simp
  · obtain ⟨v, m1, m2, m3, m4, m5⟩ := h2 j c' hj hc'
    refine ⟨v, cellsAt_block m1 hblk, steps_grown (lo := lo) m2 hg ?_, m3, m4, m5⟩
    rcases m3 with e | ⟨b, off, n, cap, e, hb, _⟩
    · exact .inl e
    · exact .inr ⟨b, off, n, cap, e, hb, by simp⟩
/-- A step is appended, and the new slice stored. -/
theorem inner_push {wr w' : World} {lo bu : Nat} {cs : List Cy} {i : Nat} {c : Cy} {vi v' : Value} {s : St} (h : innerArr wr lo bu cs i c vi) (ho : ownArr 4 (stepR wr) lo 57 w' v' (c.steps ++ [s])) (hg : wr.grownBy w' vi.ownBlock) (hnew : v'.ownBlock = vi.ownBlock ∨ ∃ b, v'.ownBlock = some b ∧ wr.heap.size ≤ b) :
    innerArr (w'.setCell ⟨bu, i * 4 + 3, none⟩ v') lo bu (cs.set i ⟨c.bus, c.place, c.reg, c.steps ++ [s]⟩) i ⟨c.bus, c.place, c.reg, c.steps ++ [s]⟩ v' := by
  obtain ⟨⟨cc, t, h1⟩, ⟨hc, ⟨k0, k1, k2, k3⟩, ko, kb⟩, h2⟩ := h
  have hlt := (Array.getElem?_eq_some_iff.1 h1).1
  have hblk : w'.heap[bu]? = wr.heap[bu]? := hg.block bu hlt (fun e => kb e.symm)
  have hi := (List.getElem?_eq_some_iff.1 hc).1
  have hf : ∀ k, w'.cell? ⟨bu, k, none⟩ = wr.cell? ⟨bu, k, none⟩ := fun k => by simp only [World.cell?, hblk]
  have hs : ∀ k u, k ≠ i * 4 + 3 → wr.cell? ⟨bu, k, none⟩ = some u → (w'.setCell ⟨bu, i * 4 + 3, none⟩ v').cell? ⟨bu, k, none⟩ = some u := fun k u hk hu => by
    rw [World.cell?_setCell_other _ _ _ _ (by intro e; cases e; exact hk rfl), hf]; exact hu
  have hv' : v'.ownBlock ≠ some bu := by
    rcases hnew with e | ⟨b, e, hb⟩
    · rw [e]; exact kb
    · rw [e]; intro e'; cases e'; omega
  refine ⟨⟨_, t, heap_set (hblk.trans h1) v'⟩, ⟨by rw [List.getElem?_set_self hi], ⟨hs _ _ (by omega) k0, hs _ _ (by omega) k1, hs _ _ (by omega) k2, World.cell?_setCell_same _ _ _ ((hf _).trans k3)⟩, ownArr_kept ho (grown_cell _ _ _ _) (.inr hv'), hv'⟩, fun j c' hj hc' => ?_⟩
  rw [List.getElem?_set_ne (fun e => hj e.symm)] at hc'
  obtain ⟨v, ⟨m0, m1, m2, m3⟩, n1, n2, n3, n4⟩ := h2 j c' hj hc'
  have hvlt : v.ownBlock = none ∨ ∃ b, v.ownBlock = some b ∧ (c'.steps = [] ∨ b < wr.heap.size) := by
    rcases n1 with ⟨a, cap, rfl, e⟩ | ⟨b, off, cap, rfl, hb, _⟩
    · cases a with
      | none => exact .inl rfl
      | some a => exact .inr ⟨_, rfl, .inl e⟩
    · exact .inr ⟨b, rfl, .inr hb⟩
  refine ⟨v, ⟨hs _ _ (by omega) m0, hs _ _ (by omega) m1, hs _ _ (by omega) m2, hs _ _ (by omega) m3⟩, steps_grown (steps_grown n1 hg n3) (grown_cell _ _ _ _) n2, n2, ?_, n4⟩
  rcases n3 with e | ⟨b, off, n, cap, e, hb, hne⟩
  · exact .inl e
  · rcases n1 with ⟨_, _, _, e0⟩ | ⟨b', off', cap', e', hb', _⟩
    · exact .inl e0
    · rw [e] at e'
      cases e'
      refine .inr ⟨b, off, _, cap, e, hb, ?_⟩
      rcases hnew with e2 | ⟨b2, e2, hb2⟩
      · rw [e2]; exact hne
      · rw [e2]; intro e3; cases e3; omega
theorem made_grown {wr w' : World} {lo bu g : Nat} {cs : List Cy} {i : Nat} (h : madeArr wr lo bu cs i) (hg : wr.grownBy w' (some g)) (hl : g < lo) (hb : lo ≤ bu) : madeArr w' lo bu cs i := by
  obtain ⟨⟨cc, t, h1⟩, h2⟩ := h
  have hblk : w'.heap[bu]? = wr.heap[bu]? := hg.block bu (Array.getElem?_eq_some_iff.1 h1).1 (by intro e; cases e; omega)
  refine ⟨⟨cc, t, hblk.trans h1⟩, fun j c' hc' => ?_⟩
  obtain ⟨v, m1, m2, m3, m4⟩ := h2 j c' hc'
  exact ⟨v, cellsAt_block m1 hblk, steps_grown m2 hg (sepB_low m3 hl), m3, m4⟩
theorem made_of {w0 w : World} {g : Nat} {wr : World} {v : Value} {cs : List Cy} (h : making w0 w g wr v cs) : (v = .slice none 0 0 ∧ cs = []) ∨ ∃ bu cap, v = .slice (some ⟨bu, 0, none⟩) cs.length cap ∧ cs.length ≤ cap ∧ cap ≤ 9223372036854775807 ∧ w.heap.size ≤ bu ∧ madeArr wr w.heap.size bu cs 0 := by
  obtain ⟨ho, _, _⟩ := h
  have harr := ownArr_isArr ho
  obtain ⟨f, _, hown, _⟩ := ho
  rcases hown.2 with ⟨rfl, hn⟩ | ⟨g, cap, cur, rfl, hB, hg, hn, hc, _, _⟩
  · exact .inl ⟨rfl, List.eq_nil_of_length_eq_zero hn⟩
  · refine .inr ⟨g, cap, rfl, hn, by simpa [maxLen] using hc, hB, ⟨⟨cur, _, hg⟩, fun i x hx => ?_⟩⟩
    rcases harr with ⟨a', cap', e', rfl⟩ | ⟨b, off, cap', e', _, _, _, h4⟩
    · cases hx
    · cases e'
      obtain ⟨cs, _, hcs, rfl, hu⟩ := h4 i x hx
      obtain ⟨k0, k1, k2, k3⟩ := four_cells hcs
      rw [Nat.zero_add] at k0 k1 k2 k3
      exact ⟨_, ⟨k0, k1, k2, k3⟩, .inl ⟨_, _, rfl, hu⟩, .inl hu, fun _ => ⟨rfl, hu⟩⟩
theorem made_fresh {wr : World} {lo bu cap : Nat} {cs : List Cy} {i : Nat} (h : madeArr wr lo bu cs i) (h1 : cs.length ≤ cap) (h2 : cap ≤ 9223372036854775807) (hb : lo ≤ bu) : freshArr lo wr (.slice (some ⟨bu, 0, none⟩) cs.length cap) cs := by
  obtain ⟨⟨cc, t, hg⟩, h3⟩ := h
  refine ⟨.inr ⟨bu, 0, cap, rfl, (Array.getElem?_eq_some_iff.1 hg).1, h1, h2, fun i x hx => ?_⟩, .inr ⟨bu, 0, _, cap, rfl, hb⟩⟩
  obtain ⟨v, ⟨k0, k1, k2, k3⟩, h4, h5, _⟩ := h3 i x hx
  refine ⟨[.int .i64 x.bus, .int .i64 x.place, .int .i64 x.reg, v], rfl, fun j hj => ?_, v, rfl, h4, ?_⟩
  · rw [Nat.zero_add]
    match j, hj with
    | 0, _ => exact k0
    | 1, _ => exact k1
    | 2, _ => exact k2
    | 3, _ => exact k3
  · rcases h5 with e | ⟨b, off, n, cap, e, hb, _⟩
    · exact .inl e
    · exact .inr ⟨b, off, n, cap, e, hb⟩

/-- Valid cycles with at most two steps each, of which n read at PC. -/
def okCy (n : Nat) (cs : List Cy) : Prop := (∀ c ∈ cs, cycleE c = 0 ∧ c.steps.length ≤ 2) ∧ reads cs = n
theorem stepsE_snoc (l : List St) (s : St) (h : stepsE l = 0) (hs : stepE s = 0) : stepsE (l ++ [s]) = 0 := by
  induction l with
  | nil => simp [stepsE, hs]
  | cons x l ih =>
    rw [List.cons_append, stepsE_cons]
    rw [stepsE_cons] at h
    by_cases hx : stepE x = 0
    · rw [if_pos hx] at h ⊢; exact ih h
    · rw [if_neg hx] at h; exact absurd h hx
theorem cycleE_push (c : Cy) (s : St) (h : cycleE c = 0) (hl : c.steps.length ≤ 5) (hs : stepE s = 0) : cycleE ⟨c.bus, c.place, c.reg, c.steps ++ [s]⟩ = 0 := by
  unfold cycleE at h ⊢
  dsimp only
  by_cases g1 : c.bus ≠ 0 ∧ c.bus ≠ 1 ∧ c.bus ≠ 2
  · rw [if_pos g1] at h; cases h
  rw [if_neg g1] at h ⊢
  by_cases g2 : c.bus = 0 ∧ (c.place ≠ 0 ∨ c.reg ≠ 0)
  · rw [if_pos g2] at h; cases h
  rw [if_neg g2] at h ⊢
  by_cases g3 : c.place < 0 ∨ 11 < c.place ∨ nar c.reg = false
  · rw [if_pos g3] at h; cases h
  rw [if_neg g3] at h ⊢
  rw [if_neg (by omega)] at h
  rw [if_neg (by rw [List.length_append]; simp; omega)]
  exact stepsE_snoc _ _ h hs
theorem ok_push {n : Nat} {cs : List Cy} {i : Nat} {c : Cy} {s : St} (h : okCy n cs) (hc : cs[i]? = some c) (hl : c.steps.length ≤ 1) (hs : stepE s = 0) : okCy n (cs.set i ⟨c.bus, c.place, c.reg, c.steps ++ [s]⟩) := by
  have hi := (List.getElem?_eq_some_iff.1 hc).1
  refine ⟨fun x hx => ?_, ?_⟩
  · obtain ⟨j, hj⟩ := List.getElem?_of_mem hx
    by_cases e : j = i
    · subst e
      rw [List.getElem?_set_self hi] at hj
      cases hj
      exact ⟨cycleE_push c s (h.1 c (List.mem_of_getElem? hc)).1 (by omega) hs, by simp; omega⟩
    · rw [List.getElem?_set_ne (fun e' => e e'.symm)] at hj
      exact h.1 x (List.mem_of_getElem? hj)
  · have e : ∀ l : List Cy, reads l = ((l.map fun c => (c.bus == 1 && c.place == 0)).count true : Nat) := fun l => by
      unfold reads
      rw [List.count, List.countP_map]
      congr 2
      funext c
      simp
    rw [e, List.map_set, ← h.2, e]
    congr 2
    apply List.ext_getElem?
    intro j
    by_cases ej : j = i
    · subst ej
      rw [List.getElem?_set_self (by simpa using hi), List.getElem?_map, hc]; rfl
    · rw [List.getElem?_set_ne (fun e' => ej e'.symm)]
theorem one_step_at (wr : World) (s : St) (q : Nat) (e : wr.heap.size = q) (R : World) : isArr 4 (fun _ => stepR R) (wr.alloc (.cells #[.int .i64 s.d, .int .i64 s.t, .int .i64 s.f, .int .i64 s.n] 57)) (.slice (some ⟨q, 0, none⟩) 1 1) [s] := by
  subst e
  have h := heap_alloc_new wr (.cells #[.int .i64 s.d, .int .i64 s.t, .int .i64 s.f, .int .i64 s.n] 57)
  refine .inr ⟨wr.heap.size, 0, 1, rfl, (Array.getElem?_eq_some_iff.1 h).1, Nat.le_refl _, by decide, fun i x hx => ?_⟩
  match i, hx with
  | 0, hx =>
    cases hx
    refine ⟨[.int .i64 s.d, .int .i64 s.t, .int .i64 s.f, .int .i64 s.n], rfl, fun j hj => ?_, rfl⟩
    rw [Nat.zero_mul, Nat.add_zero, Nat.zero_add, cell_of_row _ _ j _ _ _ h]
    match j, hj with
    | 0, _ => rfl
    | 1, _ => rfl
    | 2, _ => rfl
    | 3, _ => rfl
theorem ownArr_snoc {α : Type} {k : Nat} {R : List Value → α → Prop} {lo : Nat} {e : TypeId} {w' : World} {v' : Value} {l : List α} {s : α} {f : Nat → List Value} (hf : ∀ i, i < l.length → (f i).length = k) (hR : ∀ i x, l[i]? = some x → R (f i) x) {news : List Value} (hn : news.length = k) (hs : R news s)
    (ho : w'.ownsRow lo e k v' (l.length + 1) (flat f l.length ++ news)) : ownArr k R lo e w' v' (l ++ [s]) := by
  refine ⟨joinF l.length f (fun _ => news), fun i hi => ?_, ?_, fun i x hx => ?_⟩
  · unfold joinF
    split
    · exact hf i (by assumption)
    · exact hn
  · rw [List.length_append, List.length_singleton, flat_join]
    exact ho
  · unfold joinF
    split
    · rw [List.getElem?_append_left (by assumption)] at hx
      exact hR i x hx
    · rw [List.getElem?_append_right (by omega)] at hx
      have h0 : i - l.length = 0 := by
        have := (List.getElem?_eq_some_iff.1 hx).1
        simpa using this
      rw [h0] at hx
      cases hx
      exact hs
theorem step_append_step {w : World} {ops : Array Oper} {o : Oper} {a : Act} {K : Act → World → Prop} {Q : Exit → Act → World → Prop} {E : Prop} (hgd : o.guard = none) (s x : Operand)
    (ho : o.op = .call { callee := .builtin .append, args := #[s, x], argTypes := #[53, 53] }) {R : World} {lo : Nat} {v : Value} {l : List St} (hs : a.eval s = v) (hown : ownArr 4 (stepR R) lo 57 w v l)
    (B : Nat) (st : St) (hx : a.eval x = .slice (some ⟨B, 0, none⟩) 1 1) (hB : w.heap[B]? = some (.cells #[.int .i64 st.d, .int .i64 st.t, .int .i64 st.f, .int .i64 st.n] 57 (0, 0))) (hl : l.length ≤ 100) (hlo : lo ≤ w.heap.size)
    (h : ∀ b cap w', ownArr 4 (stepR R) lo 57 w' (.slice (some ⟨b, 0, none⟩) (l.length + 1) cap) (l ++ [st]) → w.grownBy w' v.ownBlock → (v.ownBlock = some b ∨ b = w.heap.size) → b < w'.heap.size → K (a.put o.dst (.slice (some ⟨b, 0, none⟩) (l.length + 1) cap)) w') :
    if Region.wanted o (yielded ops a.tmps) = true then Oper.wp Try.prog o a w K Q else E := by
  obtain ⟨i, i1, i2, i3, i4⟩ := infoSs
  obtain ⟨f, hf, hrow, hR⟩ := hown
  exact step_append_lies w hgd s x 53 ho lo 57 i _ 4 32 Try.underlying53 i1 i2 i3 i4 rfl (by decide) v l.length _ hs hrow ⟨B, 0, none⟩ 1 1 [.int .i64 st.d, .int .i64 st.t, .int .i64 st.f, .int .i64 st.n] hx rfl
    (World.news_of_block hB) (by intro u hu; simp only [List.mem_cons, List.not_mem_nil, or_false] at hu; rcases hu with rfl | rfl | rfl | rfl <;> rfl) (by decide) (by simp only [maxLen]; omega) (by omega) hlo _ rfl
    (fun b cap w' h1 h2 h3 h4 => h b cap w' (ownArr_snoc hf hR rfl rfl h1) h2 h3 h4)
theorem grown_drew (w : World) (r : Option Nat) : w.grownBy w.drew r := ⟨rfl, rfl, rfl, Nat.le_refl _, fun _ _ _ => rfl⟩
theorem stream_drew {w0 w : World} {g : Nat} {l : List Int} (h : stream w0 w g l) : stream w0 w.drew g l := by
  obtain ⟨h1, h2, h3, v, h4, h5⟩ := h
  exact ⟨h1, h2.drew, h3, v, h4, h5⟩
/-- A round of the innermost loop: everything that has changed. -/
theorem inner_round {w0 w wr w2 w3 : World} {g lo bu b cap : Nat} {cs : List Cy} {i : Nat} {c : Cy} {vi : Value} {s : St} {ls : List Int} {o : Obj} (hlo : lo = w.heap.size) (hI : innerArr wr lo bu cs i c vi) (hl : g < lo) (hb : lo ≤ bu) (hG : w.grownBy wr (some g)) (G2 : wr.grownBy w2 (some g)) (S2 : stream w0 w2 g ls)
    (ho : ownArr 4 (stepR wr) lo 57 w3 (.slice (some ⟨b, 0, none⟩) (c.steps.length + 1) cap) (c.steps ++ [s])) (hg : (w2.alloc o).grownBy w3 vi.ownBlock) (hnew : vi.ownBlock = some b ∨ b = (w2.alloc o).heap.size) :
    innerArr (w3.setCell ⟨bu, i * 4 + 3, none⟩ (.slice (some ⟨b, 0, none⟩) (c.steps.length + 1) cap)) lo bu (cs.set i ⟨c.bus, c.place, c.reg, c.steps ++ [s]⟩) i ⟨c.bus, c.place, c.reg, c.steps ++ [s]⟩ (.slice (some ⟨b, 0, none⟩) (c.steps.length + 1) cap) ∧
      w.grownBy (w3.setCell ⟨bu, i * 4 + 3, none⟩ (.slice (some ⟨b, 0, none⟩) (c.steps.length + 1) cap)) (some g) ∧ stream w0 (w3.setCell ⟨bu, i * 4 + 3, none⟩ (.slice (some ⟨b, 0, none⟩) (c.steps.length + 1) cap)) g ls := by
  subst hlo
  have I2 := inner_none (inner_grown hI G2 hl hb) (World.grownBy_alloc w2 o none)
  have hb3 := own_grown I2.2.1.2.2.1 hg (Nat.le_trans (Nat.le_trans hG.size G2.size) (by simp))
  refine ⟨inner_push I2 ho hg ?_, grown_set (grown_below (grown_trans (grown_trans hG G2) (World.grownBy_alloc _ _ _)) hb3) hb _, stream_set (stream_below (stream_alloc S2 o) hl hb3) (by omega) _⟩
  rcases hnew with e | e
  · exact .inl e.symm
  · exact .inr ⟨b, rfl, by omega⟩
theorem inner_kept {wr w3 : World} {lo bu : Nat} {cs : List Cy} {i : Nat} {c : Cy} {vi : Value} (h : innerArr wr lo bu cs i c vi) (hg : wr.grownBy w3 vi.ownBlock) : w3.cell? ⟨bu, i * 4 + 3, none⟩ = some vi ∧ w3.frozen? ⟨bu, i * 4 + 3, none⟩ = false := by
  obtain ⟨⟨cc, t, h1⟩, ⟨_, ⟨_, _, _, k3⟩, _, kb⟩, _⟩ := h
  have hblk : w3.heap[bu]? = wr.heap[bu]? := hg.block bu (Array.getElem?_eq_some_iff.1 h1).1 (fun e => kb e.symm)
  exact ⟨by simp only [World.cell?, hblk] at k3 ⊢; exact k3, by simp [World.frozen?, hblk, h1]⟩
end Go.Proofs.Ytdaaaaacknpbhaa
namespace Go.Proofs.Ytdaaaaacknpbhaa
open Go.RowKit

/-- What the first two loops make: valid cycles without steps, of which the first m read at PC. -/
def plainCy (m : Nat) (cs : List Cy) : Prop := (∀ c ∈ cs, cycleE c = 0 ∧ c.steps = []) ∧ reads cs = m
theorem reads_snoc (cs : List Cy) (c : Cy) : reads (cs ++ [c]) = reads cs + if (c.bus == 1 && c.place == 0) = true then 1 else 0 := by
  unfold reads
  rw [List.countP_append]
  simp [List.countP_cons]
  split <;> rfl
theorem plain_read {m : Nat} {cs : List Cy} (h : plainCy m cs) {r : Int} (h0 : 0 ≤ r) (h1 : r < 7 ∨ r = 0) : plainCy (m + 1) (cs ++ [⟨1, 0, r, []⟩]) := by
  refine ⟨fun c hc => ?_, ?_⟩
  · rcases List.mem_append.1 hc with hc | hc
    · exact h.1 c hc
    · simp only [List.mem_singleton] at hc
      subst hc
      refine ⟨?_, rfl⟩
      have hn : nar r = true := by unfold nar; simp; omega
      simp [cycleE, hn, stepsE]
  · rw [reads_snoc, h.2]
    simp
theorem plain_more {m : Nat} {cs : List Cy} (h : plainCy m cs) {b p r : Int} (hb : (b = 0 ∧ p = 0 ∧ r = 0) ∨ ((b = 1 ∨ b = 2) ∧ 1 ≤ p ∧ p ≤ 11 ∧ 0 ≤ r ∧ r ≤ 6)) : plainCy m (cs ++ [⟨b, p, r, []⟩]) := by
  refine ⟨fun c hc => ?_, ?_⟩
  · rcases List.mem_append.1 hc with hc | hc
    · exact h.1 c hc
    · simp only [List.mem_singleton] at hc
      subst hc
      refine ⟨?_, rfl⟩
      rcases hb with ⟨rfl, rfl, rfl⟩ | ⟨h1, h2, h3, h4, h5⟩
      · rfl
      · have hn : nar r = true := by unfold nar; simp; omega
        unfold cycleE
        rw [if_neg (by show ¬ (b ≠ 0 ∧ b ≠ 1 ∧ b ≠ 2); omega), if_neg (by show ¬ (b = 0 ∧ (p ≠ 0 ∨ r ≠ 0)); omega), if_neg (by show ¬ (p < 0 ∨ 11 < p ∨ nar r = false); rw [hn]; simp; omega), if_neg (by show ¬ 6 < 0; decide)]
        rfl
  · rw [reads_snoc, h.2, if_neg]
    · omega
    · simp
      omega

theorem one_cycle_at (wr : World) (b p r : Int) (s : Nat) (e : wr.heap.size = s) : isArr 4 (fun _ => R0) (wr.alloc (.cells #[.int .i64 b, .int .i64 p, .int .i64 r, .slice none 0 0] 55)) (.slice (some ⟨s, 0, none⟩) 1 1) [⟨b, p, r, []⟩] := by
  subst e; exact one_cycle wr b p r

set_option maxRecDepth 100000 in
set_option maxHeartbeats 4000000 in
theorem cycles_made (w0 : World) (g : Nat) (l : List Int) (n : Nat) (hn : n ≤ 2) (w : World) (h : stream w0 w g l) (hg : g < w.heap.size) :
    Calls Try.prog 63 #[.pointer (some ⟨g, 0, none⟩), .int .i64 n] w fun e w' =>
      ∃ u cs, e = .returned u ∧ freshArr w.heap.size w' u cs ∧ okCy n cs ∧ cs.length ≤ 5 ∧ w.grownBy w' (some g) ∧ ∃ l', stream w0 w' g l' := by
  obtain ⟨i, i1, i2, i3, i4⟩ := infoCs
  have M0 : making w0 w g w (.slice none 0 0) [] := ⟨ownArr_nil _ _ _ _ _, World.grownBy.refl _ _, l, h⟩
  go_enter Try.func63, Try.ntmps63
  go_wp2_with fail
  go_loopw [5, 9] (fun v i wr => ∃ (k : Nat) (cs : List Cy), k ≤ n ∧ i = .int .i64 k ∧ cs.length = k ∧ plainCy k cs ∧ making w0 w g wr v cs) (fun _ i _ => n - (intOf i).toNat)
  case atStart => exact ⟨0, [], Nat.zero_le _, rfl, rfl, ⟨(fun c hc => by cases hc), rfl⟩, M0⟩
  case round =>
    obtain ⟨k, cs, hk, rfl, hlen, hpl, hM⟩ := hrel
    by_cases hlt : k < n
    · have HP := Lib.hid (fun r h0 h1 => plain_read hpl (r := r) h0 h1)
      have hM' := hM
      clear hpl h
      go_wp2_with (first
        | (go_at_call 62; refine (next_making w0 w g hg 7 (by decide) _ _ _ hM).mono ?_; rintro e w1 ⟨r, rfl, r0, r1, M1, -, -⟩)
        | (at_builtin; refine wpList_append_arr2 rfl _ _ 23 rfl 55 4 48 i _ Try.underlying23 i1 i2 i3 i4 rfl (by decide) R0_one w.heap.size _ _ rfl rfl cs [⟨1, 0, r, []⟩] (making_alloc M1 _).1 (one_cycle w1 1 0 r) ?c1 ?c2 ?c3 ?_))
      case c1 => simp only [List.length_cons, List.length_nil, maxLen]; omega
      case c2 => simp only [List.length_cons, List.length_nil]; omega
      case c3 => exact Nat.le_trans M1.2.1.size (by simp)
      intro v' w2 hown2 hgr2
      have M2 := making_more (making_alloc M1 _) hg hown2 hgr2
      go_wp2_with fail
      go_roundw
      case rel => exact ⟨k + 1, cs ++ [⟨1, 0, r, []⟩], by omega, by go_num, by simp [hlen], HP.out r r0 r1, M2⟩
      case measure => simp [intOf]; omega
    · obtain rfl : k = n := by omega
      clear h
      go_wp2_with (go_at_call 62; refine (next_making w0 w g hg 4 (by decide) _ _ _ hM).mono ?_; rintro e w1 ⟨r, rfl, r0, r1, M1, -, -⟩)
      obtain ⟨R, rfl⟩ : ∃ R : Nat, r = (R : Int) := ⟨r.toNat, by omega⟩
      have hR : R ≤ 3 := by omega
      clear r0 r1 hM
      go_loopw [5, 20] (fun v i wr => ∃ (q : Nat) (ds : List Cy), q ≤ R ∧ i = .int .i64 q ∧ ds.length = k + q ∧ plainCy k ds ∧ making w0 w g wr v ds) (fun _ i _ => R - (intOf i).toNat)
      case atStart => exact ⟨0, cs, Nat.zero_le _, rfl, hlen, hpl, M1⟩
      case round =>
        clear M1 hlen hpl
        obtain ⟨q, ds, hq, rfl, hlen, hpl, hM⟩ := hrel
        by_cases hlt2 : q < R
        · have HP := Lib.hid (fun b p r h => plain_more hpl (b := b) (p := p) (r := r) h)
          clear hpl
          go_wp2_with (first
            | (go_at_call_of 62 (Value.int .i64 3); refine (next_making w0 w g hg 3 (by decide) _ _ _ hM).mono ?_; rintro e w1 ⟨b, rfl, b0, b1, M1, -, -⟩; have B1 := M1.2.1.size; have N1 := making_ne M1)
            | (go_at_call_of 62 (Value.int .i64 11); refine (next_making w0 w g hg 11 (by decide) _ _ _ (making_alloc M1 _)).mono ?_; rintro e w3 ⟨a, rfl, a0, a1, M3, G3, -⟩; have k3 := keep_grown (heap_alloc_new w1 _) G3 (by intro e; cases e; omega))
            | (go_at_call_of 62 (Value.int .i64 7); refine (next_making w0 w g hg 7 (by decide) _ _ _ M3).mono ?_; rintro e w4 ⟨rr, rfl, s0, s1, M4, G4, -⟩; have k4 := keep_grown k3 G4 (by intro e; cases e; omega); have z1 := frozenB k4 1; have z2 := frozenB k4 2; obtain ⟨y0, y1, y2, y3⟩ := cells4 k4)
            | (at_builtin; refine wpList_append_arr2 rfl _ _ 23 rfl 55 4 48 i _ Try.underlying23 i1 i2 i3 i4 rfl (by decide) R0_one w.heap.size _ _ rfl rfl ds [⟨b, 1 + a, rr, []⟩] (making_alloc (making_set (making_set M4 hg B1 N1 _ _) hg B1 N1 _ _) _).1 (one_cycle_at _ b (1 + a) rr _ (by simp)) (by simp only [List.length_cons, List.length_nil, maxLen]; omega) (by simp only [List.length_cons, List.length_nil]; omega) (by have := M4.2.1.size; simp; omega) ?_)
            | (at_builtin; refine wpList_append_arr2 rfl _ _ 23 rfl 55 4 48 i _ Try.underlying23 i1 i2 i3 i4 rfl (by decide) R0_one w.heap.size _ _ rfl rfl ds [⟨b, 0, 0, []⟩] (making_alloc (making_alloc M1 _) _).1 (one_cycle_at _ b 0 0 _ (by simp)) (by simp only [List.length_cons, List.length_nil, maxLen]; omega) (by simp only [List.length_cons, List.length_nil]; omega) (by simp; omega) ?_))
          all_goals intro v' w5 hown5 hgr5
          · have M5 := making_more (making_alloc (making_set (making_set M4 hg B1 N1 _ _) hg B1 N1 _ _) _) hg hown5 hgr5
            have hbn : b ≠ 0 := by first | assumption | (have h : (b != 0) = true := by assumption
                                                         simpa using h)
            have HQ := Lib.hid (HP.out b (1 + a) rr (.inr (by omega)))
            go_wp2_with fail
            go_roundw
            case rel => exact ⟨q + 1, _, by omega, by go_num, by simp [hlen]; omega, HQ.out, M5⟩
            case measure => simp [intOf]; omega
          · have M5 := making_more (making_alloc (making_alloc M1 _) _) hg hown5 hgr5
            have hbn : b = 0 := by first | assumption | (have h : (b != 0) = false := by assumption
                                                         simpa using h) | (have h : ¬ (b != 0) = true := by assumption
                                                                           simpa using h)
            have HQ := Lib.hid (HP.out b 0 0 (.inl (by omega)))
            go_wp2_with fail
            go_roundw
            case rel => exact ⟨q + 1, _, by omega, by go_num, by simp [hlen]; omega, HQ.out, M5⟩
            case measure => simp [intOf]; omega
        · obtain rfl : q = R := by omega
          have hok : okCy k ds := ⟨fun c hc => ⟨(hpl.1 c hc).1, by rw [(hpl.1 c hc).2]; decide⟩, hpl.2⟩
          have hlen5 : ds.length ≤ 5 := by omega
          have hG := hM.2.1
          have hS := hM.2.2
          rcases made_of hM with ⟨rfl, rfl⟩ | ⟨bu, cap, rfl, hcap, hcap2, hbu, hA⟩
          · clear hlen hpl M0 i1 i2 i3 i4
            go_wp2_with fail
            refine wp_loop_rounds 1 ?_
            rw [rounds_succ]
            go_wp2_with fail
            go_ret
            exact ⟨_, [], rfl, freshArr_nil _ _ _ _, hok, by decide, hG, hS⟩
          · clear hpl hM
            obtain ⟨N, hN⟩ : ∃ N, ds.length = N := ⟨_, rfl⟩
            rw [hN] at hcap hlen5 ⊢
            go_wp2_with fail
            go_loopw [42] (fun i wr => ∃ (j : Nat) (es : List Cy), j ≤ N ∧ i = .int .i64 j ∧ es.length = N ∧ okCy k es ∧ madeArr wr w.heap.size bu es j ∧ w.grownBy wr (some g) ∧ ∃ l, stream w0 wr g l) (fun i _ => N - (intOf i).toNat)
            case atStart => exact ⟨0, ds, Nat.zero_le _, rfl, hN, hok, hA, hG, hS⟩
            case round =>
              clear hA hG hS hok hN hlen
              obtain ⟨j, es, hj, rfl, hN, hok, hA, hG, hS⟩ := hrel
              by_cases hlt3 : j < N
              · obtain ⟨ls, hS⟩ := hS
                obtain ⟨c0, hc0, _⟩ := drop_at (by omega : j < es.length)
                obtain ⟨hst0, hI0⟩ := inner_start hA hc0
                clear hA hc0
                go_wp2_with (go_at_call 62; refine (next_any w0 g ls 3 (by decide) _ hS).mono ?_; rintro e w1 ⟨r, rfl, r0, r1, G1, -, S1⟩; have I1 := inner_grown hI0 G1 hg hbu; have W1 := grown_trans hG G1)
                obtain ⟨R2, rfl⟩ : ∃ R2 : Nat, r = (R2 : Int) := ⟨r.toNat, by omega⟩
                have hR2 : R2 ≤ 2 := by omega
                have hl0 : c0.steps.length = 0 := by rw [hst0]; rfl
                clear r0 r1 hI0 hS hG
                go_loopw [47] (fun i wr => ∃ (m : Nat) (fs : List Cy) (c : Cy) (vi : Value), m ≤ R2 ∧ i = .int .i64 m ∧ c.steps.length = m ∧ fs.length = N ∧ okCy k fs ∧ innerArr wr w.heap.size bu fs j c vi ∧ w.grownBy wr (some g) ∧ ∃ l, stream w0 wr g l) (fun i _ => R2 - (intOf i).toNat)
                case atStart => exact ⟨0, es, c0, _, Nat.zero_le _, rfl, hl0, hN, hok, I1, W1, S1⟩
                case round =>
                  clear I1 W1 S1 hok hN hst0 hl0
                  obtain ⟨m, fs, c, vi, hm, rfl, hcl, hN, hok, hI, hG, ls2, hS⟩ := hrel
                  obtain ⟨wo, rfl⟩ : ∃ wo, wo = wr := ⟨_, rfl⟩
                  by_cases hlt4 : m < R2
                  · have hcell := hI.2.1.2.1.2.2.2
                    have hlz := hG.size
                    obtain ⟨va, vcap, rfl, _, _⟩ := isArr_form (ownArr_isArr hI.2.1.2.2.1)
                    obtain ⟨is, j1, j2, j3, j4⟩ := infoSs
                    have HI := Lib.hid hI
                    have HS := Lib.hid hS
                    have HG := Lib.hid hG
                    have HCL := Lib.hid hcl
                    have hcl2 : c.steps.length ≤ 1 := by omega
                    clear hI hS hG hcl
                    go_wp2_with fail
                    go_region_law (first
                      | (go_simp; go_at_call 98; refine (step_made w0 g ls2 _ (by first | exact HS.out | exact stream_drew HS.out)).mono ?_; rintro e w2 ⟨s, rfl, hsE, G2', ls3, S2⟩; have G2 : wo.grownBy w2 (some g) := (by first | exact G2' | exact grown_trans (grown_drew _ _) G2'); have I2 := inner_grown HI.out G2 hg hbu; have hcell2 := I2.2.1.2.1.2.2.2; have hbl2 : bu < w2.heap.size := (Array.getElem?_eq_some_iff.1 I2.1.choose_spec.choose_spec).1)
                      | (refine step_append_step rfl _ _ rfl rfl (inner_none (inner_grown HI.out G2 hg hbu) (by first | exact World.grownBy_alloc _ _ _ | exact grown_trans (grown_drew _ _) (World.grownBy_alloc _ _ _))).2.1.2.2.1 _ s rfl (by first | exact heap_alloc_new _ _) (by omega) (by have := G2.size; simp; omega) ?_; intro b bcap w3 hown3 hgr3 hat3 hlt3; obtain ⟨hcell3, hfz3⟩ := inner_kept (inner_none (inner_grown HI.out G2 hg hbu) (by first | exact World.grownBy_alloc _ _ _ | exact grown_trans (grown_drew _ _) (World.grownBy_alloc _ _ _))) hgr3))
                    all_goals
                      have HR := Lib.hid (inner_round rfl HI.out hg hbu HG.out G2 S2 hown3 hgr3 hat3)
                      have HO := Lib.hid (ok_push hok HI.out.2.1.1 hcl2 hsE)
                      clear hown3 hgr3 hat3 hcell3 hfz3 hcell2 I2 hok hbl2
                      go_wp2_with fail
                      go_roundw
                      case rel => exact ⟨m + 1, _, _, _, by omega, by go_num, by simp [HCL.out], by simp [hN], HO.out, HR.out.1, HR.out.2.1, _, HR.out.2.2⟩
                      case measure => simp [intOf]; omega
                  · obtain rfl : m = R2 := by omega
                    have HE := Lib.hid (inner_end hI)
                    clear hI
                    go_wp2_with fail
                    go_roundw
                    case rel => exact ⟨j + 1, fs, by omega, by go_num, hN, hok, HE.out, hG, ls2, hS⟩
                    case measure => simp [intOf]; omega
              · obtain rfl : j = N := by omega
                have HF := Lib.hid (made_fresh hA (by omega) hcap2 hbu)
                rw [hN] at HF
                go_wp2_with fail
                go_ret
                exact ⟨_, es, rfl, HF.out, hok, by omega, hG, hS⟩
end Go.Proofs.Ytdaaaaacknpbhaa
namespace Go.Proofs.Ytdaaaaacknpbhaa
open Go.RowKit

/-- A slice that lies from lo on, in another block than q (or is empty). -/
def sepQ {α : Type} (lo : Nat) (q : Option Nat) (v : Value) (l : List α) : Prop := l = [] ∨ ∃ b off n cap, v = .slice (some ⟨b, off, none⟩) n cap ∧ lo ≤ b ∧ some b ≠ q
def cycleQ (lo : Nat) (q : Option Nat) (w : World) (cs : List Value) (c : Cy) : Prop := ∃ v, cs = [.int .i64 c.bus, .int .i64 c.place, .int .i64 c.reg, v] ∧ isArr 4 stepR w v c.steps ∧ sepQ lo q v c.steps
def arrQ (lo : Nat) (q : Option Nat) (w : World) (v : Value) (l : List Cy) : Prop := isArr 4 (cycleQ lo q) w v l ∧ sepQ lo q v l
theorem arrQ_isArr {lo : Nat} {q : Option Nat} {w : World} {v : Value} {l : List Cy} (h : arrQ lo q w v l) : isArr 4 cycleR w v l := by
  rcases h.1 with h | ⟨b, off, cap, rfl, h1, h2, h3, h4⟩
  · exact .inl h
  · refine .inr ⟨b, off, cap, rfl, h1, h2, h3, fun i x hx => ?_⟩
    obtain ⟨cs, c1, c2, u, c3, c4, _⟩ := h4 i x hx
    exact ⟨cs, c1, c2, u, c3, c4⟩
theorem arrQ_of {lo lo' : Nat} {q : Option Nat} {w : World} {v : Value} {l : List Cy} (h : freshArr lo' w v l) (hl : lo ≤ lo') (hq : ∀ b, lo' ≤ b → some b ≠ q) : arrQ lo q w v l := by
  refine ⟨?_, ?_⟩
  · rcases h.1 with h | ⟨b, off, cap, rfl, h1, h2, h3, h4⟩
    · exact .inl h
    · refine .inr ⟨b, off, cap, rfl, h1, h2, h3, fun i x hx => ?_⟩
      obtain ⟨cs, c1, c2, u, c3, c4, c5⟩ := h4 i x hx
      refine ⟨cs, c1, c2, u, c3, c4, ?_⟩
      rcases c5 with e | ⟨b', off', n', cap', e, hb⟩
      · exact .inl e
      · exact .inr ⟨b', off', n', cap', e, by omega, hq b' hb⟩
  · rcases h.2 with e | ⟨b', off', n', cap', e, hb⟩
    · exact .inl e
    · exact .inr ⟨b', off', n', cap', e, by omega, hq b' hb⟩
theorem arrQ_grown {lo : Nat} {q row : Option Nat} {w w' : World} {v : Value} {l : List Cy} (h : arrQ lo q w v l) (hg : w.grownBy w' row) (hr : ∀ b, lo ≤ b → some b ≠ q → some b ≠ row) : arrQ lo q w' v l := by
  refine ⟨?_, h.2⟩
  rcases h.1 with h1 | ⟨b, off, cap, rfl, h1, h2, h3, h4⟩
  · exact .inl h1
  · rcases h.2 with rfl | ⟨b', off', n', cap', e, hlo, hne⟩
    · exact .inl ⟨_, _, rfl, rfl⟩
    · cases e
      refine .inr ⟨b, off, cap, rfl, Nat.lt_of_lt_of_le h1 hg.size, h2, h3, fun i x hx => ?_⟩
      obtain ⟨cs, c1, c2, u, c3, c4, c5⟩ := h4 i x hx
      refine ⟨cs, c1, fun k hk => ?_, u, c3, steps_grown (lo := lo) c4 hg ?_, c5⟩
      · rw [World.cell?_of_block (hg.block b h1 (hr b hlo hne))]
        exact c2 k hk
      · rcases c5 with e | ⟨b', off', n', cap', e, hb, hb2⟩
        · exact .inl e
        · exact .inr ⟨b', off', n', cap', e, hb, hr b' hb hb2⟩
theorem steps_lt {w : World} {b off n cap : Nat} {l : List St} (h : isArr 4 stepR w (.slice (some ⟨b, off, none⟩) n cap) l) : l = [] ∨ b < w.heap.size := by
  rcases h with ⟨_, _, _, h⟩ | ⟨b', off', cap', e, h1, _⟩
  · exact .inl h
  · cases e; exact .inr h1
theorem arrQ_move {lo : Nat} {q q' : Option Nat} {w : World} {v : Value} {l : List Cy} (h : arrQ lo q w v l) (hq : q' = q ∨ ∃ b, q' = some b ∧ w.heap.size ≤ b) : arrQ lo q' w v l := by
  rcases hq with rfl | ⟨b0, rfl, hb0⟩
  · exact h
  · refine ⟨?_, ?_⟩
    · rcases h.1 with h1 | ⟨b, off, cap, rfl, h1, h2, h3, h4⟩
      · exact .inl h1
      · refine .inr ⟨b, off, cap, rfl, h1, h2, h3, fun i x hx => ?_⟩
        obtain ⟨cs, c1, c2, u, c3, c4, c5⟩ := h4 i x hx
        refine ⟨cs, c1, c2, u, c3, c4, ?_⟩
        rcases c5 with e | ⟨b', off', n', cap', rfl, hb, _⟩
        · exact .inl e
        · rcases steps_lt c4 with e | hlt
          · exact .inl e
          · exact .inr ⟨b', off', n', cap', rfl, hb, fun e => by cases e; omega⟩
    · rcases h.2 with e | ⟨b', off', n', cap', rfl, hlo, _⟩
      · exact .inl e
      · rcases h.1 with ⟨_, _, _, e⟩ | ⟨b, off, cap, e, h1, _⟩
        · exact .inl e
        · cases e
          exact .inr ⟨b', off', _, cap', rfl, hlo, fun e => by cases e; omega⟩

/-- An instruction's cells, beside the slice of its cycles. -/
def R1 (cs : List Value) (p : In × Value) : Prop := cs = [.int .i64 p.1.op, .string p.1.name, .int .i64 p.1.mode, p.2] ∧ ∃ a n cap, p.2 = .slice a n cap
theorem R1_one : ∀ cs p, R1 cs p → ∀ u ∈ cs, u.oneCell' = true := by
  rintro cs ⟨x, v⟩ ⟨rfl, a, n, cap, rfl⟩ u hu
  simp only [List.mem_cons, List.not_mem_nil, or_false] at hu
  rcases hu with rfl | rfl | rfl | rfl <;> rfl

/-- Names of the k-th instruction, and of the processor. -/
def inName (k : Nat) : ByteArray := ⟨#[105, 110, 45]⟩ ++ Utf8.encode (97 + (k : Int))
def cpuName (k : Nat) : ByteArray := ⟨#[99, 112, 117, 45]⟩ ++ Utf8.encode (97 + (k : Int))
theorem inName_ok : ∀ k : Fin 8, nameB (inName k.1) = true ∧ (inName k.1).size ≤ 20 := by decide +kernel
theorem cpuName_ok : ∀ k : Fin 26, nameB (cpuName k.1) = true ∧ (cpuName k.1).size ≤ 20 := by decide +kernel
theorem inName_ne : ∀ j k : Fin 8, j ≠ k → ¬ (inName j.1).data.toList = (inName k.1).data.toList := by decide +kernel

theorem enc_fin : ∀ k : Fin 26, (Utf8.encode (97 + (k.1 : Int))).size ≤ 4 := by decide +kernel
theorem enc_small {r : Int} (h0 : 0 ≤ r) (h1 : r ≤ 25) : (Utf8.encode (97 + r)).size ≤ 4 := by
  obtain ⟨R, rfl⟩ : ∃ R : Nat, r = (R : Int) := ⟨r.toNat, by omega⟩
  exact enc_fin ⟨R, by omega⟩

/-- The instructions made so far: valid, named in order, small. -/
def goodIns (l : List In) : Prop :=
  instrsF [] l = 0 ∧ (∀ j x, l[j]? = some x → x.name = inName j) ∧ (∀ x ∈ l, goodIn x ∧ sizedIn x)
theorem instrsF_snoc (x : In) : ∀ (l done : List In), instrsF done l = 0 → instrE (done ++ l) x = 0 → instrsF done (l ++ [x]) = 0
  | [], done, _, h => by
    rw [List.append_nil] at h
    show (if instrE done x = 0 then instrsF (done ++ [x]) [] else instrE done x) = 0
    rw [if_pos h]; rfl
  | y :: l, done, h1, h2 => by
    rw [List.cons_append]
    show (if instrE done y = 0 then instrsF (done ++ [y]) (l ++ [x]) else instrE done y) = 0
    have h1' : (if instrE done y = 0 then instrsF (done ++ [y]) l else instrE done y) = 0 := h1
    by_cases h : instrE done y = 0
    · rw [if_pos h] at h1' ⊢
      exact instrsF_snoc x l (done ++ [y]) h1' (by rw [List.append_assoc]; exact h2)
    · rw [if_neg h] at h1'
      exact absurd h1' h
theorem good_more {l : List In} (h : goodIns l) {x : In} (hk : l.length < 8) (hn : x.name = inName l.length) (hop : 0 ≤ x.op ∧ x.op ≤ 255) (hord : l = [] ∨ lastOp l < x.op) (hm : 0 ≤ x.mode ∧ x.mode ≤ 8) (hc : okCy (operand x.mode).toNat x.cycles) (hl : x.cycles.length ≤ 5) : goodIns (l ++ [x]) := by
  obtain ⟨h1, h2, h3⟩ := h
  have hN := inName_ok ⟨l.length, hk⟩
  have hop0 : 0 ≤ operand x.mode := by
    unfold operand
    rw [if_neg (by omega)]
    split
    · omega
    · split <;> omega
  have hcy : cyclesE x.cycles = 0 := by
    unfold cyclesE
    rw [if_neg (by omega)]
    have : ∀ l : List Cy, (∀ c ∈ l, cycleE c = 0) → cyclesF l = 0 := by
      intro l
      induction l with
      | nil => intro _; rfl
      | cons c l ih =>
        intro hc
        show (if cycleE c = 0 then cyclesF l else cycleE c) = 0
        rw [if_pos (hc c (List.mem_cons_self ..))]
        exact ih fun d hd => hc d (List.mem_cons_of_mem _ hd)
    exact this _ fun c hc' => (hc.1 c hc').1
  have hany : l.any (sameKey x) = false := by
    rw [List.any_eq_false]
    intro y hy hs
    obtain ⟨j, hj⟩ := List.getElem?_of_mem hy
    have hjl := (List.getElem?_eq_some_iff.1 hj).1
    have e := h2 j y hj
    have e2 : x.name = y.name := by
      unfold sameKey at hs
      simp only [Bool.and_eq_true, decide_eq_true_eq] at hs
      exact hs.1
    exact inName_ne ⟨j, by omega⟩ ⟨l.length, hk⟩ (by intro e3; injection e3 with e4; omega) (by rw [show inName j = inName l.length by rw [← e, ← e2, hn]])
  refine ⟨instrsF_snoc x l [] h1 ?_, fun j y hy => ?_, fun y hy => ?_⟩
  · rw [List.nil_append]
    unfold instrE
    rw [if_neg (by omega), if_neg (by rcases hord with rfl | h; · simp
                                      · omega), if_neg (by rw [hn, hN.1]; decide), if_neg (by omega), if_neg (by rw [hany]; decide), if_neg (by rw [hcy]; decide), if_neg]
    rw [hc.2]
    omega
  · by_cases e : j < l.length
    · rw [List.getElem?_append_left e] at hy
      exact h2 j y hy
    · rw [List.getElem?_append_right (by omega)] at hy
      have h0 : j - l.length = 0 := by
        have := (List.getElem?_eq_some_iff.1 hy).1
        simpa using this
      rw [h0] at hy
      cases hy
      rw [hn]
      congr 1
      omega
  · rcases List.mem_append.1 hy with hy | hy
    · exact h3 y hy
    · simp only [List.mem_singleton] at hy
      subst hy
      refine ⟨⟨by rw [hn]; have hN2 : (inName l.length).size ≤ 20 := hN.2; omega, ?_⟩, by omega, fun c hc' => by have := (hc.1 c hc').2; omega⟩
      simp [Lit.wf, IntKind.min, IntKind.max, IntKind.signed, IntKind.bits]
      omega
theorem step_append_instr {w : World} {ops : Array Oper} {o : Oper} {a : Act} {K : Act → World → Prop} {Q : Exit → Act → World → Prop} {E : Prop} (hgd : o.guard = none) (s x : Operand)
    (ho : o.op = .call { callee := .builtin .append, args := #[s, x], argTypes := #[22, 22] }) {lo : Nat} {v : Value} {L : List (In × Value)} (hs : a.eval s = v) (hown : ownArr 4 R1 lo 49 w v L)
    (B : Nat) (p : In × Value) (hx : a.eval x = .slice (some ⟨B, 0, none⟩) 1 1) (hp : ∃ a n cap, p.2 = .slice a n cap) (hB : w.heap[B]? = some (.cells #[.int .i64 p.1.op, .string p.1.name, .int .i64 p.1.mode, p.2] 49 (0, 0))) (hl : L.length ≤ 100) (hlo : lo ≤ w.heap.size)
    (h : ∀ b cap w', ownArr 4 R1 lo 49 w' (.slice (some ⟨b, 0, none⟩) (L.length + 1) cap) (L ++ [p]) → w.grownBy w' v.ownBlock → (v.ownBlock = some b ∨ b = w.heap.size) → b < w'.heap.size → K (a.put o.dst (.slice (some ⟨b, 0, none⟩) (L.length + 1) cap)) w') :
    if Region.wanted o (yielded ops a.tmps) = true then Oper.wp Try.prog o a w K Q else E := by
  obtain ⟨i, i1, i2, i3, i4⟩ := infoNs
  obtain ⟨f, hf, hrow, hR⟩ := hown
  exact step_append_lies w hgd s x 22 ho lo 49 i _ 4 56 Try.underlying22 i1 i2 i3 i4 rfl (by decide) v L.length _ hs hrow ⟨B, 0, none⟩ 1 1 [.int .i64 p.1.op, .string p.1.name, .int .i64 p.1.mode, p.2] hx rfl
    (World.news_of_block hB) (R1_one _ p ⟨rfl, hp⟩) (by decide) (by simp only [maxLen]; omega) (by omega) hlo _ rfl
    (fun b cap w' h1 h2 h3 h4 => h b cap w' (ownArr_snoc hf hR rfl ⟨rfl, hp⟩ h1) h2 h3 h4)

theorem own_ltA {α : Type} {k : Nat} {R : List Value → α → Prop} {B : Nat} {e : TypeId} {w : World} {v : Value} {l : List α} (h : ownArr k R B e w v l) : ∀ b, v.ownBlock = some b → B ≤ b ∧ b < w.heap.size := fun b e => h.choose_spec.2.1.lt b e

/-- While instructions are made: the box of the processor, the slice of instructions, the stream. -/
def cpuAt (w wr : World) (nm : ByteArray) (vI : Value) (L : List (In × Value)) : Prop :=
  wr.heap[w.heap.size + 2]? = some (.cells #[.string nm, vI, .slice none 0 0, .slice none 0 0, .slice none 0 0] 25 (0, 0)) ∧
  wr.heap[w.heap.size]? = some (.cells #[.string ⟨#[]⟩, .slice none 0 0, .slice none 0 0, .slice none 0 0, .slice none 0 0] 25 (0, 0)) ∧
  ownArr 4 R1 (w.heap.size + 3) 49 wr vI L ∧ (∀ p ∈ L, arrQ (w.heap.size + 3) vI.ownBlock wr p.2 p.1.cycles) ∧ ∃ ls, stream w wr (w.heap.size + 1) ls
theorem cpuAt_grown {w wr w' : World} {nm : ByteArray} {vI : Value} {L : List (In × Value)} (h : cpuAt w wr nm vI L) (hg : wr.grownBy w' (some (w.heap.size + 1))) {ls : List Int} (hs : stream w w' (w.heap.size + 1) ls) : cpuAt w w' nm vI L := by
  obtain ⟨h1, h2, h3, h4, _⟩ := h
  exact ⟨keep_grown h1 hg (by simp), keep_grown h2 hg (by simp), ownArr_kept h3 hg (ownArr_off h3 (by omega)), fun p hp => arrQ_grown (h4 p hp) hg (fun b hb _ => by simp; omega), ls, hs⟩
theorem cpuAt_alloc {w wr : World} {nm : ByteArray} {vI : Value} {L : List (In × Value)} (h : cpuAt w wr nm vI L) (o : Obj) : cpuAt w (wr.alloc o) nm vI L := by
  obtain ⟨h1, h2, h3, h4, ls, h5⟩ := h
  exact ⟨box_alloc h1, box_alloc h2, ownArr_alloc h3 o, fun p hp => arrQ_grown (h4 p hp) (World.grownBy_alloc _ _ none) (fun b _ _ => by simp), ls, stream_alloc h5 o⟩
theorem cpuAt_drew {w wr : World} {nm : ByteArray} {vI : Value} {L : List (In × Value)} (h : cpuAt w wr nm vI L) : cpuAt w wr.drew nm vI L := by
  obtain ⟨h1, h2, h3, h4, ls, h5⟩ := h
  exact ⟨h1, h2, ownArr_kept h3 (grown_drew wr none) (by cases vI.ownBlock <;> simp), fun p hp => arrQ_grown (h4 p hp) (grown_drew wr none) (fun b _ _ => by simp), ls, stream_drew h5⟩
/-- An instruction is appended, and the slice stored into the box. -/
theorem cpu_more {w w6 w7 : World} {nm : ByteArray} {vI : Value} {L : List (In × Value)} {x : In} {u : Value} {o : Obj} {b cap : Nat} (h : cpuAt w w6 nm vI L) (hf : arrQ (w.heap.size + 3) vI.ownBlock w6 u x.cycles)
    (ho : ownArr 4 R1 (w.heap.size + 3) 49 w7 (.slice (some ⟨b, 0, none⟩) (L.length + 1) cap) (L ++ [(x, u)])) (hg : (w6.alloc o).grownBy w7 vI.ownBlock) (hnew : vI.ownBlock = some b ∨ b = (w6.alloc o).heap.size) :
    cpuAt w (w7.setCell ⟨w.heap.size + 2, 1, none⟩ (.slice (some ⟨b, 0, none⟩) (L.length + 1) cap)) nm (.slice (some ⟨b, 0, none⟩) (L.length + 1) cap) (L ++ [(x, u)]) := by
  have h' := cpuAt_alloc h o
  obtain ⟨h1, h2, h3, h4, ls, h5⟩ := h'
  have hlt := own_ltA h3
  have hsz := (Array.getElem?_eq_some_iff.1 h1).1
  have hB : Below (w.heap.size + 3) (w6.alloc o) w7 := own_grown h3 hg (by omega)
  have hbx : w7.heap[w.heap.size + 2]? = _ := keep_grown h1 hg (by intro e; have := hlt _ e.symm; omega)
  have hbr : w7.heap[w.heap.size]? = _ := keep_grown h2 hg (by intro e; have := hlt _ e.symm; omega)
  have hmove : ∀ {v : Value} {l : List Cy}, arrQ (w.heap.size + 3) vI.ownBlock (w6.alloc o) v l → arrQ (w.heap.size + 3) (some b) (w7.setCell ⟨w.heap.size + 2, 1, none⟩ (.slice (some ⟨b, 0, none⟩) (L.length + 1) cap)) v l := fun {v l} ha => by
    have h8 := arrQ_move ha (q' := some b) (by
      rcases hnew with e | e
      · exact .inl e.symm
      · exact .inr ⟨b, rfl, by omega⟩)
    have h9 : arrQ (w.heap.size + 3) vI.ownBlock w7 v l := arrQ_grown ha hg (fun b' _ hb' => hb')
    have h10 : arrQ (w.heap.size + 3) (some b) w7 v l := by
      rcases hnew with e | e
      · rw [← e]; exact h9
      · refine ⟨?_, h8.2⟩
        rcases h9.1 with hh | ⟨b1, off, cp, rfl, g1, g2, g3, g4⟩
        · exact .inl hh
        · rcases h8.1 with ⟨_, _, _, rfl⟩ | ⟨b2, off2, cp2, e2, _, _, _, g4'⟩
          · exact .inl ⟨_, _, rfl, rfl⟩
          · cases e2
            refine .inr ⟨b1, off, cp, rfl, g1, g2, g3, fun i y hy => ?_⟩
            obtain ⟨cs, c1, c2, q, c3, c4, c5⟩ := g4 i y hy
            obtain ⟨cs', d1, d2, q', d3, d4, d5⟩ := g4' i y hy
            refine ⟨cs, c1, c2, q, c3, c4, ?_⟩
            rcases c5 with e3 | ⟨b3, o3, n3, k3, rfl, hb3, hne3⟩
            · exact .inl e3
            · have hcell : (w6.alloc o).cell? ⟨b1, off + i * 4 + 3, none⟩ = w7.cell? ⟨b1, off + i * 4 + 3, none⟩ := by
                rcases ha.2 with rfl | ⟨b4, o4, n4, k4, e4, hb4, hne4⟩
                · simp at hy
                · cases e4
                  refine (World.cell?_of_block (hg.block _ ?_ hne4)).symm
                  rcases ha.1 with ⟨_, _, _, rfl⟩ | ⟨_, _, _, e5, hh5, _⟩
                  · simp at hy
                  · cases e5; exact hh5
              have e5 := d2 3 (by decide)
              rw [hcell, c2 3 (by decide), c3, d3] at e5
              cases e5
              exact d5
    exact arrQ_grown h10 (grown_cell _ _ _ _) (fun b' hb' _ => by simp; omega)
  refine ⟨heap_set hbx _, ?_, ownArr_kept ho (grown_cell _ _ _ _) ?_, fun p hp => ?_, ls, stream_set (stream_below h5 (by omega) hB) (by omega) _⟩
  · rw [Below.heap_setCell w7 ⟨w.heap.size + 2, 1, none⟩ _ w.heap.size (by show w.heap.size ≠ w.heap.size + 2; omega)]; exact hbr
  · refine .inr fun e => ?_
    have := own_ltA ho _ e
    omega
  · show arrQ (w.heap.size + 3) (some b) _ p.2 p.1.cycles
    rcases List.mem_append.1 hp with hp | hp
    · exact hmove (h4 p hp)
    · simp only [List.mem_singleton] at hp
      subst hp
      exact hmove (arrQ_grown hf (World.grownBy_alloc _ _ none) (fun b' _ _ => by simp))
theorem arrQ_cell {lo k : Nat} {q : Option Nat} {w : World} {v : Value} {l : List Cy} (h : arrQ lo q w v l) (hk : k < lo) (j : Nat) (x : Value) : arrQ lo q (w.setCell ⟨k, j, none⟩ x) v l :=
  arrQ_grown h (grown_cell w k j x) (fun b hb _ => by simp; omega)
theorem own_cell {α : Type} {n : Nat} {R : List Value → α → Prop} {lo k : Nat} {e : TypeId} {w : World} {v : Value} {l : List α} (h : ownArr n R lo e w v l) (hk : k < lo) (j : Nat) (x : Value) : ownArr n R lo e (w.setCell ⟨k, j, none⟩ x) v l :=
  ownArr_kept h (grown_cell w k j x) (.inr fun e => by have := (own_ltA h _ e).1; omega)
theorem fin_instrs {w : World} {lo : Nat} {q : Option Nat} {e : TypeId} {v : Value} {L : List (In × Value)} (h : ownArr 4 R1 lo e w v L) (ha : ∀ p ∈ L, arrQ lo q w p.2 p.1.cycles) (hg : ∀ x ∈ L.map Prod.fst, goodIn x) : isArr 4 insR w v (L.map Prod.fst) := by
  rcases ownArr_isArr h with ⟨a, cap, rfl, rfl⟩ | ⟨b, off, cap, rfl, h1, h2, h3, h4⟩
  · exact .inl ⟨_, _, rfl, rfl⟩
  · refine .inr ⟨b, off, cap, by rw [List.length_map], h1, by rw [List.length_map]; exact h2, h3, fun i x hx => ?_⟩
    rw [List.getElem?_map] at hx
    cases hp : L[i]? with
    | none => rw [hp] at hx; cases hx
    | some p =>
      rw [hp] at hx
      cases hx
      obtain ⟨cs, c1, c2, c3, _⟩ := h4 i p hp
      exact ⟨cs, c1, c2, p.2, c3, arrQ_isArr (ha p (List.mem_of_getElem? hp)), hg p.1 (List.mem_map_of_mem (List.mem_of_getElem? hp))⟩
theorem cpuE_zero {c : Cp} (h1 : nameB c.name = true) (h2 : c.instrs.length ≤ 256) (h3 : instrsF [] c.instrs = 0) (h4 : okCy 0 c.res ∧ c.res.length ≤ 5) (h5 : okCy 0 c.irq ∧ c.irq.length ≤ 5) (h6 : okCy 0 c.nmi ∧ c.nmi.length ≤ 5) : cpuE c = 0 := by
  have hF : ∀ l : List Cy, okCy 0 l ∧ l.length ≤ 5 → cyclesE l = 0 := by
    rintro l ⟨ho, hl⟩
    unfold cyclesE
    rw [if_neg (by omega)]
    have : ∀ l : List Cy, (∀ c ∈ l, cycleE c = 0) → cyclesF l = 0 := by
      intro l
      induction l with
      | nil => intro _; rfl
      | cons c l ih =>
        intro hc
        show (if cycleE c = 0 then cyclesF l else cycleE c) = 0
        rw [if_pos (hc c (List.mem_cons_self ..))]
        exact ih fun d hd => hc d (List.mem_cons_of_mem _ hd)
    exact this _ fun c hc' => (ho.1 c hc').1
  unfold cpuE
  rw [if_neg (by rw [h1]; decide), if_neg (by omega), h3, if_neg (by decide), hF _ h4, if_neg (by decide), hF _ h5, if_neg (by decide), hF _ h6]
/-- The four cells behind the name, and the name: a box of five, set. -/
theorem box5_set {w : World} {g : Nat} {a b c d e : Value} {t : TypeId} (h : w.heap[g]? = some (.cells #[a, b, c, d, e] t (0, 0))) (c' d' e' : Value) :
    (((w.setCell ⟨g, 2, none⟩ c').setCell ⟨g, 3, none⟩ d').setCell ⟨g, 4, none⟩ e').heap[g]? = some (.cells #[a, b, c', d', e'] t (0, 0)) := by
  rw [heap_set (heap_set (heap_set h c') d') e']
  rfl
end Go.Proofs.Ytdaaaaacknpbhaa
namespace Go.Proofs.Ytdaaaaacknpbhaa
open Go.RowKit

set_option maxRecDepth 100000 in
set_option maxHeartbeats 8000000 in
theorem cpu_made (v : Value) (l : List Int) (w : World) (h : isArg w v l) (hwf : ∀ x ∈ l, (Lit.int .i64 x).wf = true) :
    Calls Try.prog 28 #[v] w fun e w' => ∃ (c : Cp) (v0 v1 v2 v3 : Value), e = .returned (.agg #[.string c.name, v0, v1, v2, v3]) ∧ cpuArg w' v0 v1 v2 v3 c ∧ cpuE c = 0 ∧ 1 ≤ c.instrs.length ∧ c.instrs.length ≤ 8 ∧ (∀ x ∈ c.instrs, sizedIn x) ∧ Below w.heap.size w w' ∧ (∀ (k : Nat) (x : Value), k < w.heap.size → cpuArg (w'.setCell ⟨k, 0, none⟩ x) v0 v1 v2 v3 c) ∧ goodIns c.instrs := by
  have hb2 := below_two w (.cells #[.string ⟨#[]⟩, .slice none 0 0, .slice none 0 0, .slice none 0 0, .slice none 0 0] 25) (.cells #[v] 109)
  have hs0 : stream w ((w.alloc (.cells #[.string ⟨#[]⟩, .slice none 0 0, .slice none 0 0, .slice none 0 0, .slice none 0 0] 25)).alloc (.cells #[v] 109)) (w.heap.size + 1) l := by
    refine ⟨by omega, hb2, hwf, v, ?_, h⟩
    have := Boxed.new (w.alloc (.cells #[.string ⟨#[]⟩, .slice none 0 0, .slice none 0 0, .slice none 0 0, .slice none 0 0] 25)) 109 v
    rw [World.size_alloc] at this
    exact this
  have k0 := box_alloc (p := .cells #[v] 109) (heap_alloc_new w (.cells #[.string ⟨#[]⟩, .slice none 0 0, .slice none 0 0, .slice none 0 0, .slice none 0 0] 25))
  have K0 := Lib.hid k0
  have HS := Lib.hid hs0
  obtain ⟨sa, sl, scap, rfl⟩ : ∃ a n c, v = .slice a n c := by
    rcases h with ⟨a, cap, rfl, _⟩ | ⟨b, off, cap, rfl, _⟩ <;> exact ⟨_, _, _, rfl⟩
  clear k0 hs0 h
  go_enter Try.func28, Try.ntmps28
  go_upto_region 3 with (go_at_call_of 62 (Value.int .i64 26); refine (next_any w (w.heap.size + 1) l 26 (by decide) _ HS.out).mono ?_; go_loud (rintro e w1 ⟨r, rfl, r0, r1, G1, hz1, l1, S1⟩; have K1 := Lib.hid (keep_grown K0.out G1 (by simp)); simp only [World.size_alloc] at hz1; have hr25 : r ≤ 25 := (by omega); have hen := enc_small r0 hr25))
  obtain ⟨R, rfl⟩ : ∃ R : Nat, r = (R : Int) := ⟨r.toNat, by omega⟩
  have hnm := cpuName_ok ⟨R, by omega⟩
  generalize hN : (({ data := #[99, 112, 117, 45] } : ByteArray) ++ Utf8.encode (97 + (R : Int))) = nm at *
  have hnm2 : nameB nm = true ∧ nm.size ≤ 20 := by rw [← hN]; exact hnm
  clear hN hnm r0 r1 hen
  have C0 : cpuAt w (w1.alloc (.cells #[.string nm, .slice none 0 0, .slice none 0 0, .slice none 0 0, .slice none 0 0] 25)) nm (.slice none 0 0) [] := by
    refine ⟨?_, box_alloc K1.out, ownArr_nil _ _ _ _ _, (fun p hp => by cases hp), l1, stream_alloc S1 _⟩
    have := heap_alloc_new w1 (.cells #[.string nm, .slice none 0 0, .slice none 0 0, .slice none 0 0, .slice none 0 0] 25)
    rw [hz1] at this
    exact this
  have hsz0 : w.heap.size + 3 ≤ (w1.alloc (.cells #[.string nm, .slice none 0 0, .slice none 0 0, .slice none 0 0, .slice none 0 0] 25)).heap.size := by simp; omega
  generalize hw2 : w1.alloc (.cells #[.string nm, .slice none 0 0, .slice none 0 0, .slice none 0 0, .slice none 0 0] 25) = w2 at *
  clear hw2 HS K0 K1 S1 G1 hz1
  obtain ⟨_, _, _, _, ls0, S0⟩ := id C0
  go_wp2_with (go_at_call 62; refine (next_any w (w.heap.size + 1) ls0 8 (by decide) _ S0).mono ?_; rintro e w3 ⟨r, rfl, r0, r1, G1, hz1, l1, S1⟩; have hr7 : r ≤ 7 := (by omega); have C1 := cpuAt_grown C0 G1 S1)
  obtain ⟨M, rfl⟩ : ∃ M : Nat, r = (M : Int) := ⟨r.toNat, by omega⟩
  have hM : M ≤ 7 := by omega
  have hsz3 : w.heap.size + 3 ≤ w3.heap.size := by omega
  clear r0 r1 hr7 G1 hz1 S1 S0 C0 hsz0 l1
  go_loopw [5, 22] (fun at_ i wr => ∃ (k : Nat) (A : Int) (vI : Value) (L : List (In × Value)), k ≤ M + 1 ∧ i = .int .i64 k ∧ at_ = .int .i64 A ∧ 0 ≤ A ∧ A ≤ 30 * k ∧ (L = [] ∨ lastOp (L.map Prod.fst) < A) ∧ L.length = k ∧ goodIns (L.map Prod.fst) ∧ cpuAt w wr nm vI L ∧ w.heap.size + 3 ≤ wr.heap.size) (fun _ i _ => M + 1 - (intOf i).toNat)
  case atStart => exact ⟨0, 0, _, [], Nat.zero_le _, rfl, rfl, Int.le_refl _, by decide, .inl rfl, rfl, ⟨rfl, (fun j x hx => by simp at hx), (fun x hx => by cases hx)⟩, C1, hsz3⟩
  case round =>
    clear C1 hsz3
    obtain ⟨k, A, vI, L, hk, rfl, rfl, hA0, hA1, hord, hLl, hgood, hC, hsz⟩ := hrel
    by_cases hlt : k < M + 1
    · have hk7 : k ≤ 7 := by omega
      obtain ⟨_, _, _, _, ls, S⟩ := id hC
      go_upto_region 9 with (first
        | (go_at_call_of 62 (Value.int .i64 30); refine (next_any w (w.heap.size + 1) ls 30 (by decide) _ S).mono ?_; rintro e w4 ⟨d, rfl, d0, d1, G4, hz4, l4, S4⟩; have hd : d ≤ 29 := (by omega); have C4 := cpuAt_grown hC G4 S4; have hs4 : w.heap.size + 3 ≤ w4.heap.size := (by omega); clear G4 hz4)
        | (go_at_call_of 62 (Value.int .i64 9); refine (next_any w (w.heap.size + 1) l4 9 (by decide) _ S4).mono ?_; rintro e w5 ⟨m, rfl, m0, m1, G5, hz5, l5, S5⟩; have hm : m ≤ 8 := (by omega); have C5 := cpuAt_grown C4 G5 S5; have hs5 : w.heap.size + 3 ≤ w5.heap.size := (by omega); clear G5 hz5))
      obtain ⟨mn, rfl⟩ : ∃ mn : Nat, m = (mn : Int) := ⟨m.toNat, by omega⟩
      go_cut [8] from 32 to 35 (fun p wx => p = .int .i64 (operand mn) ∧ wx = w5.alloc (.cells #[.int .i64 0, .int .i64 1, .int .i64 1, .int .i64 1, .int .i64 2, .int .i64 2, .int .i64 2, .int .i64 1, .int .i64 1] 3))
      case first =>
        clear S S4 C4 hC hgood hord
        rcases (by omega : mn = 0 ∨ mn = 1 ∨ mn = 2 ∨ mn = 3 ∨ mn = 4 ∨ mn = 5 ∨ mn = 6 ∨ mn = 7 ∨ mn = 8) with rfl | rfl | rfl | rfl | rfl | rfl | rfl | rfl | rfl
        all_goals
          go_wp2_with fail
          go_meet
          case rel => exact ⟨rfl, rfl⟩
      case rest =>
        obtain ⟨rfl, hwc⟩ := hcut
        have C6 := cpuAt_alloc C5 (.cells #[.int .i64 0, .int .i64 1, .int .i64 1, .int .i64 1, .int .i64 2, .int .i64 2, .int .i64 2, .int .i64 1, .int .i64 1] 3)
        rw [← hwc] at C6
        have hs6 : w.heap.size + 3 ≤ wc.heap.size := by rw [hwc]; simp; omega
        clear hwc S S4 S5 C4 C5 hC hs4 hs5 hsz
        have hop : ∃ on : Nat, operand (mn : Int) = (on : Int) ∧ on ≤ 2 := by
          rcases (by omega : mn = 0 ∨ mn = 1 ∨ mn = 2 ∨ mn = 3 ∨ mn = 4 ∨ mn = 5 ∨ mn = 6 ∨ mn = 7 ∨ mn = 8) with rfl | rfl | rfl | rfl | rfl | rfl | rfl | rfl | rfl
          all_goals first | exact ⟨0, rfl, by decide⟩ | exact ⟨1, rfl, by decide⟩ | exact ⟨2, rfl, by decide⟩
        obtain ⟨on, hon, hon2⟩ := hop
        rw [hon]
        have hen := enc_small (r := (k : Int)) (by omega) (by omega)
        have hw1 : IntKind.i64.wrap (97 + (k : Int)) = 97 + (k : Int) := wrap_small _ (by omega) (by omega)
        have hw2 : IntKind.i32.wrap (97 + (k : Int)) = 97 + (k : Int) := by simp [IntKind.wrap, IntKind.bits, IntKind.signed]; omega
        have hw3 : IntKind.i64.wrap (A + (1 + d) - 1) = A + (1 + d) - 1 := wrap_small _ (by omega) (by omega)
        have hen3 : ¬ 9223372036854775807 < 3 + (Utf8.encode (97 + (k : Int))).size := by omega
        obtain ⟨_, _, _, _, ls6, S6⟩ := id C6
        obtain ⟨va, vn, vcap, rfl⟩ : ∃ a n c, vI = .slice a n c := by
          obtain ⟨a, c, e, _, _⟩ := isArr_form (ownArr_isArr C6.2.2.1)
          exact ⟨_, _, _, e⟩
        have z1 := cell_of_row wc (w.heap.size + 2) 1 _ _ (0, 0) C6.1
        have CC := Lib.hid C6
        have HG := Lib.hid hgood
        have HO := Lib.hid hord
        have HL := Lib.hid hLl
        clear hgood hord hLl C6
        go_wp2_with fail
        go_region_law (first
          | (go_simp; go_at_call 63; refine (cycles_made w (w.heap.size + 1) ls6 on hon2 _ (by first | exact S6 | exact stream_drew S6) (by first | omega | (show w.heap.size + 1 < wc.heap.size; omega))).mono ?_; rintro e w6 ⟨u, cs, rfl, hu', hok, hcl5, G6', l6', S6'⟩; have hu : freshArr wc.heap.size w6 u cs := hu'; have G6 : wc.grownBy w6 (some (w.heap.size + 1)) := (by first | exact G6' | exact grown_trans (grown_drew _ _) G6'); have C7 := cpuAt_grown CC.out G6 S6'; have hq := arrQ_of (lo := w.heap.size + 3) (q := (Value.slice va vn vcap).ownBlock) hu hs6 (fun b hb e => by have := (own_ltA CC.out.2.2.1 b e.symm).2; omega); obtain ⟨ua, ucap, hue, _, _⟩ := isArr_form (freshArr_isArr hu); subst hue; have z2 := cell_of_row w6 (w.heap.size + 2) 1 _ _ (0, 0) C7.1; have hl6 : w.heap.size + 2 < w6.heap.size := (Array.getElem?_eq_some_iff.1 C7.1).1)
          | (refine step_append_instr rfl _ _ rfl rfl (cpuAt_alloc C7 _).2.2.1 _ (⟨A + (1 + d) - 1, inName k, mn, cs⟩, .slice ua cs.length ucap) rfl ⟨_, _, _, rfl⟩ (heap_alloc_new _ _) (by have := HL.out; omega) (by simp; omega) ?_; intro b bcap w7 hown7 hgr7 hat7 hlt7; have k7 := keep_grown (cpuAt_alloc C7 _).1 hgr7 (by intro e; have := (own_ltA C7.2.2.1 _ e.symm).1; omega); have z7 := cell_of_row w7 (w.heap.size + 2) 1 _ _ (0, 0) k7; have f7 := frozenB k7 1))
        all_goals
          have HR := Lib.hid (cpu_more (x := ⟨A + (1 + d) - 1, inName k, mn, cs⟩) C7 hq hown7 hgr7 hat7)
          have hLk : (L.map Prod.fst).length = k := by simp [HL.out]
          have hor2 : L.map Prod.fst = [] ∨ lastOp (L.map Prod.fst) < A + (1 + d) - 1 := by
            rcases HO.out with h | h
            · exact .inl (by rw [h]; rfl)
            · exact .inr (by omega)
          have HX := Lib.hid (good_more HG.out (x := ⟨A + (1 + d) - 1, inName k, mn, cs⟩) (by omega) (by rw [hLk]) ⟨by show 0 ≤ A + (1 + d) - 1; omega, by show A + (1 + d) - 1 ≤ 255; omega⟩ hor2 ⟨by show (0 : Int) ≤ mn; omega, by show (mn : Int) ≤ 8; omega⟩ (by rw [hon]; exact hok) hcl5)
          have hs7 : w.heap.size + 3 ≤ w7.heap.size := Nat.le_trans (by simp; omega) hgr7.size
          clear hown7 hgr7 hat7 k7 z7 f7 z2 hq hu' hu C7 hok
          go_wp2_with fail
          go_roundw
          case rel =>
            refine ⟨k + 1, A + (1 + d), _, _, by omega, by go_num, rfl, by omega, by omega, .inr ?_, by simp [HL.out], by rw [List.map_append]; exact HX.out, HR.out, by simp; omega⟩
            rw [List.map_append]
            show lastOp (_ ++ [_]) < _
            rw [lastOp_snoc]
            show A + (1 + d) - 1 < A + (1 + d)
            omega
          case measure => simp [intOf]; omega
    · obtain rfl : k = M + 1 := by omega
      obtain ⟨va, vn, vcap, rfl⟩ : ∃ a n c, vI = .slice a n c := by
        obtain ⟨a, c, e, _, _⟩ := isArr_form (ownArr_isArr hC.2.2.1)
        exact ⟨_, _, _, e⟩
      have HC := Lib.hid hC
      obtain ⟨_, _, _, _, ls, S⟩ := hC
      have HG := Lib.hid hgood
      have HL := Lib.hid hLl
      have hg1 : w.heap.size + 1 < wr.heap.size := by omega
      clear hgood hord hLl hA0 hA1
      go_upto_region 13 with (first
        | (go_at_call 63; refine (cycles_made w (w.heap.size + 1) ls 0 (by decide) wr S hg1).mono ?_; rintro e w4 ⟨u4, r4, rfl, hu4, ho4, hc4, G4, l4, S4⟩; have D4 := cpuAt_grown HC.out G4 S4; have A4 := arrQ_of (lo := w.heap.size + 3) (q := none) hu4 hsz (fun b _ => by simp); obtain ⟨ua4, up4, hue4, _, _⟩ := isArr_form (freshArr_isArr hu4); subst hue4; have hg4 : w.heap.size + 1 < w4.heap.size := Nat.lt_of_lt_of_le hg1 G4.size; have hs4 : w.heap.size + 3 ≤ w4.heap.size := Nat.le_trans hsz G4.size; clear hu4 S)
        | (go_at_call 63; refine (cycles_made w (w.heap.size + 1) l4 0 (by decide) w4 S4 hg4).mono ?_; rintro e w5 ⟨u5, r5, rfl, hu5, ho5, hc5, G5, l5, S5⟩; have D5 := cpuAt_grown D4 G5 S5; have A5 := arrQ_of (lo := w.heap.size + 3) (q := none) hu5 hs4 (fun b _ => by simp); have A45 := arrQ_grown A4 G5 (fun b hb _ => by simp; omega); obtain ⟨ua5, up5, hue5, _, _⟩ := isArr_form (freshArr_isArr hu5); subst hue5; have hg5 : w.heap.size + 1 < w5.heap.size := Nat.lt_of_lt_of_le hg4 G5.size; have hs5 : w.heap.size + 3 ≤ w5.heap.size := Nat.le_trans hs4 G5.size; clear hu5 S4)
        | (go_at_call 63; refine (cycles_made w (w.heap.size + 1) l5 0 (by decide) w5 S5 hg5).mono ?_; rintro e w6 ⟨u6, r6, rfl, hu6, ho6, hc6, G6, l6, S6⟩; have D6 := cpuAt_grown D5 G6 S6; have A6 := arrQ_of (lo := w.heap.size + 3) (q := none) hu6 hs5 (fun b _ => by simp); have A56 := arrQ_grown A5 G6 (fun b hb _ => by simp; omega); have A46 := arrQ_grown A45 G6 (fun b hb _ => by simp; omega); obtain ⟨ua6, up6, hue6, _, _⟩ := isArr_form (freshArr_isArr hu6); subst hue6; clear hu6; have kB := D6.1; have p2 := cell_of_row w6 (w.heap.size + 2) 2 _ _ (0, 0) kB; have p3 := cell_of_row w6 (w.heap.size + 2) 3 _ _ (0, 0) kB; have p4 := cell_of_row w6 (w.heap.size + 2) 4 _ _ (0, 0) kB; have f2 := frozenB kB 2; have f3 := frozenB kB 3; have f4 := frozenB kB 4))
      have hW : ∀ (x y z : Value) {v : Value} {l : List Cy} {q : Option Nat}, arrQ (w.heap.size + 3) q w6 v l → arrQ (w.heap.size + 3) q (((w6.setCell ⟨w.heap.size + 2, 2, none⟩ x).setCell ⟨w.heap.size + 2, 3, none⟩ y).setCell ⟨w.heap.size + 2, 4, none⟩ z) v l :=
        fun x y z v l q ha => arrQ_cell (arrQ_cell (arrQ_cell ha (by omega) _ _) (by omega) _ _) (by omega) _ _
      obtain ⟨W8, hW8⟩ : ∃ W8, W8 = ((w6.setCell ⟨w.heap.size + 2, 2, none⟩ (.slice ua4 r4.length up4)).setCell ⟨w.heap.size + 2, 3, none⟩ (.slice ua5 r5.length up5)).setCell ⟨w.heap.size + 2, 4, none⟩ (.slice ua6 r6.length up6) := ⟨_, rfl⟩
      have B4 := hW (.slice ua4 r4.length up4) (.slice ua5 r5.length up5) (.slice ua6 r6.length up6) A46
      have B5 := hW (.slice ua4 r4.length up4) (.slice ua5 r5.length up5) (.slice ua6 r6.length up6) A56
      have B6 := hW (.slice ua4 r4.length up4) (.slice ua5 r5.length up5) (.slice ua6 r6.length up6) A6
      have BI := fun p hp => hW (.slice ua4 r4.length up4) (.slice ua5 r5.length up5) (.slice ua6 r6.length up6) (D6.2.2.2.1 p hp)
      have OI := own_cell (own_cell (own_cell D6.2.2.1 (k := w.heap.size + 2) (by omega) 2 (.slice ua4 r4.length up4)) (k := w.heap.size + 2) (by omega) 3 (.slice ua5 r5.length up5)) (k := w.heap.size + 2) (by omega) 4 (.slice ua6 r6.length up6)
      have K8 := box5_set D6.1 (.slice ua4 r4.length up4) (.slice ua5 r5.length up5) (.slice ua6 r6.length up6)
      have hBel6 : Below w.heap.size w w6 := D6.2.2.2.2.choose_spec.2.1
      have R8 : (((w6.setCell ⟨w.heap.size + 2, 2, none⟩ (.slice ua4 r4.length up4)).setCell ⟨w.heap.size + 2, 3, none⟩ (.slice ua5 r5.length up5)).setCell ⟨w.heap.size + 2, 4, none⟩ (.slice ua6 r6.length up6)).heap[w.heap.size]? = some (.cells #[.string ⟨#[]⟩, .slice none 0 0, .slice none 0 0, .slice none 0 0, .slice none 0 0] 25 (0, 0)) := by
        rw [Below.heap_setCell _ ⟨w.heap.size + 2, 4, none⟩ _ w.heap.size (by show w.heap.size ≠ w.heap.size + 2; omega), Below.heap_setCell _ ⟨w.heap.size + 2, 3, none⟩ _ w.heap.size (by show w.heap.size ≠ w.heap.size + 2; omega), Below.heap_setCell _ ⟨w.heap.size + 2, 2, none⟩ _ w.heap.size (by show w.heap.size ≠ w.heap.size + 2; omega)]
        exact D6.2.1
      have hB8 : Below w.heap.size w (((w6.setCell ⟨w.heap.size + 2, 2, none⟩ (.slice ua4 r4.length up4)).setCell ⟨w.heap.size + 2, 3, none⟩ (.slice ua5 r5.length up5)).setCell ⟨w.heap.size + 2, 4, none⟩ (.slice ua6 r6.length up6)) :=
        ((hBel6.setCell (by show w.heap.size ≤ w.heap.size + 2; omega) _).setCell (by show w.heap.size ≤ w.heap.size + 2; omega) _).setCell (by show w.heap.size ≤ w.heap.size + 2; omega) _
      rw [← hW8] at B4 B5 B6 BI OI K8 R8 hB8
      have q0 := cell_of_row W8 (w.heap.size + 2) 0 _ _ (0, 0) K8
      have q1 := cell_of_row W8 (w.heap.size + 2) 1 _ _ (0, 0) K8
      have q2 := cell_of_row W8 (w.heap.size + 2) 2 _ _ (0, 0) K8
      have q3 := cell_of_row W8 (w.heap.size + 2) 3 _ _ (0, 0) K8
      have q4 := cell_of_row W8 (w.heap.size + 2) 4 _ _ (0, 0) K8
      have s0 := cell_of_row W8 w.heap.size 0 _ _ (0, 0) R8
      have s1 := cell_of_row W8 w.heap.size 1 _ _ (0, 0) R8
      have s2 := cell_of_row W8 w.heap.size 2 _ _ (0, 0) R8
      have s3 := cell_of_row W8 w.heap.size 3 _ _ (0, 0) R8
      have s4 := cell_of_row W8 w.heap.size 4 _ _ (0, 0) R8
      have z0 := frozenB R8 0
      have z1 := frozenB R8 1
      have z2 := frozenB R8 2
      have z3 := frozenB R8 3
      have z4 := frozenB R8 4
      have HB4 := Lib.hid B4
      have HB5 := Lib.hid B5
      have HB6 := Lib.hid B6
      have HBI := Lib.hid BI
      have HOI := Lib.hid OI
      rw [show ((w6.setCell ⟨w.heap.size + 1 + 1, 2, none⟩ (.slice ua4 r4.length up4)).setCell ⟨w.heap.size + 1 + 1, 3, none⟩ (.slice ua5 r5.length up5)).setCell ⟨w.heap.size + 1 + 1, 4, none⟩ (.slice ua6 r6.length up6) = W8 from hW8.symm]
      clear hW8 B4 B5 B6 BI OI A4 A5 A6 A45 A46 A56 D4 D5 D6 S5 S6 G4 G5 G6 K8 R8 hW p2 p3 p4 f2 f3 f4 kB HC
      go_wp2_with fail
      refine bodyPost_ret (v := .agg #[_, _, _, _, _]) (by simp [results, Try.results28, go_sem, s0, s1, s2, s3, s4]; first | exact ⟨rfl, rfl, rfl, rfl, rfl⟩ | rfl) rfl ?_
      have hT : ∀ {v : Value} {l : List Cy} {q : Option Nat}, arrQ (w.heap.size + 3) q W8 v l → ∀ a b c d e, arrQ (w.heap.size + 3) q (((((W8.setCell ⟨w.heap.size, 0, none⟩ a).setCell ⟨w.heap.size, 1, none⟩ b).setCell ⟨w.heap.size, 2, none⟩ c).setCell ⟨w.heap.size, 3, none⟩ d).setCell ⟨w.heap.size, 4, none⟩ e) v l :=
        fun {v l q} ha a b c d e => arrQ_cell (arrQ_cell (arrQ_cell (arrQ_cell (arrQ_cell ha (by omega) _ _) (by omega) _ _) (by omega) _ _) (by omega) _ _) (by omega) _ _
      have hO := fun a b c d e => own_cell (own_cell (own_cell (own_cell (own_cell HOI.out (k := w.heap.size) (by omega) 0 a) (k := w.heap.size) (by omega) 1 b) (k := w.heap.size) (by omega) 2 c) (k := w.heap.size) (by omega) 3 d) (k := w.heap.size) (by omega) 4 e
      have hlen : (L.map Prod.fst).length = M + 1 := by rw [List.length_map]; exact HL.out
      refine ⟨⟨nm, L.map Prod.fst, r4, r5, r6⟩, _, _, _, _, rfl, ⟨fin_instrs (hO _ _ _ _ _) (fun p hp => hT (HBI.out p hp) _ _ _ _ _) (fun x hx => (HG.out.2.2 x hx).1), arrQ_isArr (hT HB4.out _ _ _ _ _), arrQ_isArr (hT HB5.out _ _ _ _ _), arrQ_isArr (hT HB6.out _ _ _ _ _), by show nm.size ≤ _; have := hnm2.2; omega⟩,
        cpuE_zero hnm2.1 (by show (L.map Prod.fst).length ≤ 256; omega) HG.out.1 ⟨ho4, hc4⟩ ⟨ho5, hc5⟩ ⟨ho6, hc6⟩, by show 1 ≤ (L.map Prod.fst).length; omega, by show (L.map Prod.fst).length ≤ 8; omega, fun x hx => (HG.out.2.2 x hx).2, ?_, fun k x hk => ⟨fin_instrs (own_cell (hO _ _ _ _ _) (k := k) (by omega) 0 x) (fun p hp => arrQ_cell (hT (HBI.out p hp) _ _ _ _ _) (by omega) _ _) (fun x hx => (HG.out.2.2 x hx).1),
        arrQ_isArr (arrQ_cell (hT HB4.out _ _ _ _ _) (by omega) _ _), arrQ_isArr (arrQ_cell (hT HB5.out _ _ _ _ _) (by omega) _ _), arrQ_isArr (arrQ_cell (hT HB6.out _ _ _ _ _) (by omega) _ _), by show nm.size ≤ _; have := hnm2.2; omega⟩, HG.out⟩
      exact ((((hB8.setCell (Nat.le_refl _) _).setCell (Nat.le_refl _) _).setCell (Nat.le_refl _) _).setCell (Nat.le_refl _) _).setCell (Nat.le_refl _) _
end Go.Proofs.Ytdaaaaacknpbhaa
