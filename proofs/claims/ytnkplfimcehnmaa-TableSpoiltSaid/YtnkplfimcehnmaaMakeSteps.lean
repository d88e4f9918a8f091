/- The maker of cycles: the state while steps are appended to the cycles of a slice. -/
import Derived.Test.YtnkplfimcehnmaaMakeArr
import Derived.Deep.AppendLies
namespace Go.Proofs.Ytnkplfimcehnmaa
open Go.RowKit

theorem heap_set {W : World} {b j : Nat} {c : Array Value} {t : TypeId} {fz : Nat × Nat} (h : W.heap[b]? = some (.cells c t fz)) (v : Value) : (W.setCell ⟨b, j, none⟩ v).heap[b]? = some (.cells (c.setIfInBounds j v) t fz) := by
  show (W.setCell ⟨b, j, none⟩ v).heap[b]? = _
  unfold World.setCell
  rw [Array.getElem?_modify, if_pos rfl, h]
  rfl
def cellsAt (wr : World) (bu j : Nat) (c : Cy) (v : Value) : Prop :=
  wr.cell? ⟨bu, j * 4, none⟩ = some (.int .i64 c.bus) ∧ wr.cell? ⟨bu, j * 4 + 1, none⟩ = some (.int .i64 c.place) ∧ wr.cell? ⟨bu, j * 4 + 2, none⟩ = some (.int .i64 c.reg) ∧ wr.cell? ⟨bu, j * 4 + 3, none⟩ = some v
theorem cellsAt_block {a b : World} {bu j : Nat} {c : Cy} {v : Value} (h : cellsAt a bu j c v) (hb : b.heap[bu]? = a.heap[bu]?) : cellsAt b bu j c v := by
  have f : ∀ k, b.cell? ⟨bu, k, none⟩ = a.cell? ⟨bu, k, none⟩ := fun k => by simp only [World.cell?, hb]
  unfold cellsAt
  rw [f, f, f, f]
  exact h
/-- A slice of steps that lies from lo on, in another block than q (or is empty). -/
def sepB (lo : Nat) (q : Option Nat) (v : Value) (l : List St) : Prop := l = [] ∨ ∃ b off n cap, v = .slice (some ⟨b, off, none⟩) n cap ∧ lo ≤ b ∧ some b ≠ q
theorem steps_grown {w w' : World} {v : Value} {l : List St} {row : Option Nat} {lo : Nat} (h : isArr 4 stepR w v l) (hg : w.grownBy w' row) (hne : sepB lo row v l) : isArr 4 stepR w' v l := by
  rcases h with h | ⟨b, off, cap, rfl, h1, h2, h3, h4⟩
  · exact .inl h
  · rcases hne with rfl | ⟨b', off', n', cap', e, _, hne⟩
    · exact .inl ⟨_, _, rfl, rfl⟩
    · cases e
      refine .inr ⟨b, off, cap, rfl, Nat.lt_of_lt_of_le h1 hg.size, h2, h3, fun i y hy => ?_⟩
      obtain ⟨cs, c1, c2, c3⟩ := h4 i y hy
      refine ⟨cs, c1, fun k hk => ?_, c3⟩
      rw [World.cell?_of_block (hg.block b h1 hne)]
      exact c2 k hk
theorem sepB_low {lo g : Nat} {q : Option Nat} {v : Value} {l : List St} (h : sepB lo q v l) (hg : g < lo) : sepB lo (some g) v l := by
  rcases h with h | ⟨b, off, n, cap, e, hb, _⟩
  · exact .inl h
  · exact .inr ⟨b, off, n, cap, e, hb, fun e => by cases e; omega⟩

/-- The first i of the cycles in block bu have got their steps, the others none. -/
def madeArr (wr : World) (lo bu : Nat) (cs : List Cy) (i : Nat) : Prop :=
  (∃ c t, wr.heap[bu]? = some (.cells c t (0, 0))) ∧ ∀ j c, cs[j]? = some c → ∃ v, cellsAt wr bu j c v ∧ isArr 4 stepR wr v c.steps ∧ sepB lo (some bu) v c.steps ∧ (i ≤ j → v = .slice none 0 0 ∧ c.steps = [])
/-- .. and cycle i is getting its steps: the slice vi. -/
def innerArr (wr : World) (lo bu : Nat) (cs : List Cy) (i : Nat) (c : Cy) (vi : Value) : Prop :=
  (∃ c t, wr.heap[bu]? = some (.cells c t (0, 0))) ∧ (cs[i]? = some c ∧ cellsAt wr bu i c vi ∧ ownArr 4 (stepR wr) lo 81 wr vi c.steps ∧ vi.ownBlock ≠ some bu) ∧
  ∀ j c, j ≠ i → cs[j]? = some c → ∃ v, cellsAt wr bu j c v ∧ isArr 4 stepR wr v c.steps ∧ sepB lo (some bu) v c.steps ∧ sepB lo vi.ownBlock v c.steps ∧ (i < j → v = .slice none 0 0 ∧ c.steps = [])

theorem inner_start {wr : World} {lo bu : Nat} {cs : List Cy} {i : Nat} (h : madeArr wr lo bu cs i) {c : Cy} (hc : cs[i]? = some c) : c.steps = [] ∧ innerArr wr lo bu cs i c (.slice none 0 0) := by
  obtain ⟨h1, h2⟩ := h
  obtain ⟨v, k1, k2, k3, k4⟩ := h2 i c hc
  obtain ⟨rfl, e⟩ := k4 (Nat.le_refl _)
  refine ⟨e, h1, ⟨hc, k1, ?_, by simp [Value.ownBlock]⟩, fun j c' hj hc' => ?_⟩
  · rw [e]; exact ownArr_nil _ _ _ _ _
  · obtain ⟨v, m1, m2, m3, m4⟩ := h2 j c' hc'
    refine ⟨v, m1, m2, m3, ?_, fun hlt => m4 (by omega)⟩
    rcases m3 with e | ⟨b, off, n, cap, e, hb, _⟩
    · exact .inl e
    · exact .inr ⟨b, off, n, cap, e, hb, by simp [Value.ownBlock]⟩
theorem inner_end {wr : World} {lo bu : Nat} {cs : List Cy} {i : Nat} {c : Cy} {vi : Value} (h : innerArr wr lo bu cs i c vi) : madeArr wr lo bu cs (i + 1) := by
  obtain ⟨h1, ⟨hc, k1, k2, k3⟩, h2⟩ := h
  refine ⟨h1, fun j c' hc' => ?_⟩
  by_cases e : j = i
  · subst e
    rw [hc] at hc'
    cases hc'
    refine ⟨vi, k1, ownArr_isArr k2, ?_, fun h => by omega⟩
    obtain ⟨f, _, hown, _⟩ := k2
    rcases hown.2 with ⟨_, hn⟩ | ⟨b, cap, cur, e, hB, _⟩
    · exact .inl (List.eq_nil_of_length_eq_zero hn)
    · exact .inr ⟨b, 0, _, cap, e, hB, fun e' => k3 (by rw [e]; exact e')⟩
  · obtain ⟨v, m1, m2, m3, _, m5⟩ := h2 j c' e hc'
    exact ⟨v, m1, m2, m3, fun h => m5 (by omega)⟩
/-- Where another block than these changes. -/
theorem inner_grown {wr w' : World} {lo bu g : Nat} {cs : List Cy} {i : Nat} {c : Cy} {vi : Value} (h : innerArr wr lo bu cs i c vi) (hg : wr.grownBy w' (some g)) (hl : g < lo) (hb : lo ≤ bu) : innerArr w' lo bu cs i c vi := by
  obtain ⟨⟨cc, t, h1⟩, ⟨hc, k1, k2, k3⟩, h2⟩ := h
  have hblk : w'.heap[bu]? = wr.heap[bu]? := hg.block bu (Array.getElem?_eq_some_iff.1 h1).1 (by intro e; cases e; omega)
  refine ⟨⟨cc, t, hblk.trans h1⟩, ⟨hc, cellsAt_block k1 hblk, ownArr_kept k2 hg (ownArr_off k2 hl), k3⟩, fun j c' hj hc' => ?_⟩
  obtain ⟨v, m1, m2, m3, m4, m5⟩ := h2 j c' hj hc'
  exact ⟨v, cellsAt_block m1 hblk, steps_grown m2 hg (sepB_low m3 hl), m3, m4, m5⟩
theorem inner_none {wr w' : World} {lo bu : Nat} {cs : List Cy} {i : Nat} {c : Cy} {vi : Value} (h : innerArr wr lo bu cs i c vi) (hg : wr.grownBy w' none) : innerArr w' lo bu cs i c vi := by
  obtain ⟨⟨cc, t, h1⟩, ⟨hc, k1, k2, k3⟩, h2⟩ := h
  have hblk : w'.heap[bu]? = wr.heap[bu]? := hg.block bu (Array.getElem?_eq_some_iff.1 h1).1 (by simp)
  refine ⟨⟨cc, t, hblk.trans h1⟩, ⟨hc, cellsAt_block k1 hblk, ownArr_kept k2 hg ?_, k3⟩, fun j c' hj hc' => ?_⟩
  · cases vi.ownBlock <;> simp
  · obtain ⟨v, m1, m2, m3, m4, m5⟩ := h2 j c' hj hc'
    refine ⟨v, cellsAt_block m1 hblk, steps_grown (lo := lo) m2 hg ?_, m3, m4, m5⟩
    rcases m3 with e | ⟨b, off, n, cap, e, hb, _⟩
    · exact .inl e
    · exact .inr ⟨b, off, n, cap, e, hb, by simp⟩
/-- A step is appended, and the new slice stored. -/
theorem inner_push {wr w' : World} {lo bu : Nat} {cs : List Cy} {i : Nat} {c : Cy} {vi v' : Value} {s : St} (h : innerArr wr lo bu cs i c vi) (ho : ownArr 4 (stepR wr) lo 81 w' v' (c.steps ++ [s])) (hg : wr.grownBy w' vi.ownBlock) (hnew : v'.ownBlock = vi.ownBlock ∨ ∃ b, v'.ownBlock = some b ∧ wr.heap.size ≤ b) :
    innerArr (w'.setCell ⟨bu, i * 4 + 3, none⟩ v') lo bu (cs.set i ⟨c.bus, c.place, c.reg, c.steps ++ [s]⟩) i ⟨c.bus, c.place, c.reg, c.steps ++ [s]⟩ v' := by
  obtain ⟨⟨cc, t, h1⟩, ⟨hc, ⟨k0, k1, k2, k3⟩, ko, kb⟩, h2⟩ := h
  have hlt := (Array.getElem?_eq_some_iff.1 h1).1
  have hblk : w'.heap[bu]? = wr.heap[bu]? := hg.block bu hlt (fun e => kb e.symm)
  have hi := (List.getElem?_eq_some_iff.1 hc).1
  have hf : ∀ k, w'.cell? ⟨bu, k, none⟩ = wr.cell? ⟨bu, k, none⟩ := fun k => by simp only [World.cell?, hblk]
  have hs : ∀ k u, k ≠ i * 4 + 3 → wr.cell? ⟨bu, k, none⟩ = some u → (w'.setCell ⟨bu, i * 4 + 3, none⟩ v').cell? ⟨bu, k, none⟩ = some u := fun k u hk hu => by
    rw [World.cell?_setCell_other _ _ _ _ (by intro e; cases e; exact hk rfl), hf]; exact hu
  have hv' : v'.ownBlock ≠ some bu := by
    rcases hnew with e | ⟨b, e, hb⟩
    · rw [e]; exact kb
    · rw [e]; intro e'; cases e'; omega
  refine ⟨⟨_, t, heap_set (hblk.trans h1) v'⟩, ⟨by rw [List.getElem?_set_self hi], ⟨hs _ _ (by omega) k0, hs _ _ (by omega) k1, hs _ _ (by omega) k2, World.cell?_setCell_same _ _ _ ((hf _).trans k3)⟩, ownArr_kept ho (grown_cell _ _ _ _) (.inr hv'), hv'⟩, fun j c' hj hc' => ?_⟩
  rw [List.getElem?_set_ne (fun e => hj e.symm)] at hc'
  obtain ⟨v, ⟨m0, m1, m2, m3⟩, n1, n2, n3, n4⟩ := h2 j c' hj hc'
  have hvlt : v.ownBlock = none ∨ ∃ b, v.ownBlock = some b ∧ (c'.steps = [] ∨ b < wr.heap.size) := by
    rcases n1 with ⟨a, cap, rfl, e⟩ | ⟨b, off, cap, rfl, hb, _⟩
    · cases a with
      | none => exact .inl rfl
      | some a => exact .inr ⟨_, rfl, .inl e⟩
    · exact .inr ⟨b, rfl, .inr hb⟩
  refine ⟨v, ⟨hs _ _ (by omega) m0, hs _ _ (by omega) m1, hs _ _ (by omega) m2, hs _ _ (by omega) m3⟩, steps_grown (steps_grown n1 hg n3) (grown_cell _ _ _ _) n2, n2, ?_, n4⟩
  rcases n3 with e | ⟨b, off, n, cap, e, hb, hne⟩
  · exact .inl e
  · rcases n1 with ⟨_, _, _, e0⟩ | ⟨b', off', cap', e', hb', _⟩
    · exact .inl e0
    · rw [e] at e'
      cases e'
      refine .inr ⟨b, off, _, cap, e, hb, ?_⟩
      rcases hnew with e2 | ⟨b2, e2, hb2⟩
      · rw [e2]; exact hne
      · rw [e2]; intro e3; cases e3; omega
theorem made_grown {wr w' : World} {lo bu g : Nat} {cs : List Cy} {i : Nat} (h : madeArr wr lo bu cs i) (hg : wr.grownBy w' (some g)) (hl : g < lo) (hb : lo ≤ bu) : madeArr w' lo bu cs i := by
  obtain ⟨⟨cc, t, h1⟩, h2⟩ := h
  have hblk : w'.heap[bu]? = wr.heap[bu]? := hg.block bu (Array.getElem?_eq_some_iff.1 h1).1 (by intro e; cases e; omega)
  refine ⟨⟨cc, t, hblk.trans h1⟩, fun j c' hc' => ?_⟩
  obtain ⟨v, m1, m2, m3, m4⟩ := h2 j c' hc'
  exact ⟨v, cellsAt_block m1 hblk, steps_grown m2 hg (sepB_low m3 hl), m3, m4⟩
theorem made_of {w0 w : World} {g : Nat} {wr : World} {v : Value} {cs : List Cy} (h : making w0 w g wr v cs) : (v = .slice none 0 0 ∧ cs = []) ∨ ∃ bu cap, v = .slice (some ⟨bu, 0, none⟩) cs.length cap ∧ cs.length ≤ cap ∧ cap ≤ 9223372036854775807 ∧ w.heap.size ≤ bu ∧ madeArr wr w.heap.size bu cs 0 := by
  obtain ⟨ho, _, _⟩ := h
  have harr := ownArr_isArr ho
  obtain ⟨f, _, hown, _⟩ := ho
  rcases hown.2 with ⟨rfl, hn⟩ | ⟨g, cap, cur, rfl, hB, hg, hn, hc, _, _⟩
  · exact .inl ⟨rfl, List.eq_nil_of_length_eq_zero hn⟩
  · refine .inr ⟨g, cap, rfl, hn, by simpa [maxLen] using hc, hB, ⟨⟨cur, _, hg⟩, fun i x hx => ?_⟩⟩
    rcases harr with ⟨a', cap', e', rfl⟩ | ⟨b, off, cap', e', _, _, _, h4⟩
    · cases hx
    · cases e'
      obtain ⟨cs, _, hcs, rfl, hu⟩ := h4 i x hx
      obtain ⟨k0, k1, k2, k3⟩ := four_cells hcs
      rw [Nat.zero_add] at k0 k1 k2 k3
      exact ⟨_, ⟨k0, k1, k2, k3⟩, .inl ⟨_, _, rfl, hu⟩, .inl hu, fun _ => ⟨rfl, hu⟩⟩
theorem made_fresh {wr : World} {lo bu cap : Nat} {cs : List Cy} {i : Nat} (h : madeArr wr lo bu cs i) (h1 : cs.length ≤ cap) (h2 : cap ≤ 9223372036854775807) (hb : lo ≤ bu) : freshArr lo wr (.slice (some ⟨bu, 0, none⟩) cs.length cap) cs := by
  obtain ⟨⟨cc, t, hg⟩, h3⟩ := h
  refine ⟨.inr ⟨bu, 0, cap, rfl, (Array.getElem?_eq_some_iff.1 hg).1, h1, h2, fun i x hx => ?_⟩, .inr ⟨bu, 0, _, cap, rfl, hb⟩⟩
  obtain ⟨v, ⟨k0, k1, k2, k3⟩, h4, h5, _⟩ := h3 i x hx
  refine ⟨[.int .i64 x.bus, .int .i64 x.place, .int .i64 x.reg, v], rfl, fun j hj => ?_, v, rfl, h4, ?_⟩
  · rw [Nat.zero_add]
    match j, hj with
    | 0, _ => exact k0
    | 1, _ => exact k1
    | 2, _ => exact k2
    | 3, _ => exact k3
  · rcases h5 with e | ⟨b, off, n, cap, e, hb, _⟩
    · exact .inl e
    · exact .inr ⟨b, off, n, cap, e, hb⟩

/-- Valid cycles with at most two steps each, of which n read at PC. -/
def okCy (n : Nat) (cs : List Cy) : Prop := (∀ c ∈ cs, cycleE c = 0 ∧ c.steps.length ≤ 2) ∧ reads cs = n
theorem stepsE_snoc (l : List St) (s : St) (h : stepsE l = 0) (hs : stepE s = 0) : stepsE (l ++ [s]) = 0 := by
  induction l with
  | nil => simp [stepsE, hs]
  | cons x l ih =>
    rw [List.cons_append, stepsE_cons]
    rw [stepsE_cons] at h
    by_cases hx : stepE x = 0
    · rw [if_pos hx] at h ⊢; exact ih h
    · rw [if_neg hx] at h; exact absurd h hx
theorem cycleE_push (c : Cy) (s : St) (h : cycleE c = 0) (hl : c.steps.length ≤ 5) (hs : stepE s = 0) : cycleE ⟨c.bus, c.place, c.reg, c.steps ++ [s]⟩ = 0 := by
  unfold cycleE at h ⊢
  dsimp only
  by_cases g1 : c.bus ≠ 0 ∧ c.bus ≠ 1 ∧ c.bus ≠ 2
  · rw [if_pos g1] at h; cases h
  rw [if_neg g1] at h ⊢
  by_cases g2 : c.bus = 0 ∧ (c.place ≠ 0 ∨ c.reg ≠ 0)
  · rw [if_pos g2] at h; cases h
  rw [if_neg g2] at h ⊢
  by_cases g3 : c.place < 0 ∨ 11 < c.place ∨ nar c.reg = false
  · rw [if_pos g3] at h; cases h
  rw [if_neg g3] at h ⊢
  rw [if_neg (by omega)] at h
  rw [if_neg (by rw [List.length_append]; simp; omega)]
  exact stepsE_snoc _ _ h hs
theorem ok_push {n : Nat} {cs : List Cy} {i : Nat} {c : Cy} {s : St} (h : okCy n cs) (hc : cs[i]? = some c) (hl : c.steps.length ≤ 1) (hs : stepE s = 0) : okCy n (cs.set i ⟨c.bus, c.place, c.reg, c.steps ++ [s]⟩) := by
  have hi := (List.getElem?_eq_some_iff.1 hc).1
  refine ⟨fun x hx => ?_, ?_⟩
  · obtain ⟨j, hj⟩ := List.getElem?_of_mem hx
    by_cases e : j = i
    · subst e
      rw [List.getElem?_set_self hi] at hj
      cases hj
      exact ⟨cycleE_push c s (h.1 c (List.mem_of_getElem? hc)).1 (by omega) hs, by simp; omega⟩
    · rw [List.getElem?_set_ne (fun e' => e e'.symm)] at hj
      exact h.1 x (List.mem_of_getElem? hj)
  · have e : ∀ l : List Cy, reads l = ((l.map fun c => (c.bus == 1 && c.place == 0)).count true : Nat) := fun l => by
      unfold reads
      rw [List.count, List.countP_map]
      congr 2
      funext c
      simp
    rw [e, List.map_set, ← h.2, e]
    congr 2
    apply List.ext_getElem?
    intro j
    by_cases ej : j = i
    · subst ej
      rw [List.getElem?_set_self (by simpa using hi), List.getElem?_map, hc]; rfl
    · rw [List.getElem?_set_ne (fun e' => ej e'.symm)]
theorem one_step_at (wr : World) (s : St) (q : Nat) (e : wr.heap.size = q) (R : World) : isArr 4 (fun _ => stepR R) (wr.alloc (.cells #[.int .i64 s.d, .int .i64 s.t, .int .i64 s.f, .int .i64 s.n] 81)) (.slice (some ⟨q, 0, none⟩) 1 1) [s] := by
  subst e
  have h := heap_alloc_new wr (.cells #[.int .i64 s.d, .int .i64 s.t, .int .i64 s.f, .int .i64 s.n] 81)
  refine .inr ⟨wr.heap.size, 0, 1, rfl, (Array.getElem?_eq_some_iff.1 h).1, Nat.le_refl _, by decide, fun i x hx => ?_⟩
  match i, hx with
  | 0, hx =>
    cases hx
    refine ⟨[.int .i64 s.d, .int .i64 s.t, .int .i64 s.f, .int .i64 s.n], rfl, fun j hj => ?_, rfl⟩
    rw [Nat.zero_mul, Nat.add_zero, Nat.zero_add, cell_of_row _ _ j _ _ _ h]
    match j, hj with
    | 0, _ => rfl
    | 1, _ => rfl
    | 2, _ => rfl
    | 3, _ => rfl
theorem ownArr_snoc {α : Type} {k : Nat} {R : List Value → α → Prop} {lo : Nat} {e : TypeId} {w' : World} {v' : Value} {l : List α} {s : α} {f : Nat → List Value} (hf : ∀ i, i < l.length → (f i).length = k) (hR : ∀ i x, l[i]? = some x → R (f i) x) {news : List Value} (hn : news.length = k) (hs : R news s)
    (ho : w'.ownsRow lo e k v' (l.length + 1) (flat f l.length ++ news)) : ownArr k R lo e w' v' (l ++ [s]) := by
  refine ⟨joinF l.length f (fun _ => news), fun i hi => ?_, ?_, fun i x hx => ?_⟩
  · unfold joinF
    split
    · exact hf i (by assumption)
    · exact hn
  · rw [List.length_append, List.length_singleton, flat_join]
    exact ho
  · unfold joinF
    split
    · rw [List.getElem?_append_left (by assumption)] at hx
      exact hR i x hx
    · rw [List.getElem?_append_right (by omega)] at hx
      have h0 : i - l.length = 0 := by
        have := (List.getElem?_eq_some_iff.1 hx).1
        simpa using this
      rw [h0] at hx
      cases hx
      exact hs
theorem step_append_step {w : World} {ops : Array Oper} {o : Oper} {a : Act} {K : Act → World → Prop} {Q : Exit → Act → World → Prop} {E : Prop} (hgd : o.guard = none) (s x : Operand)
    (ho : o.op = .call { callee := .builtin .append, args := #[s, x], argTypes := #[72, 72] }) {R : World} {lo : Nat} {v : Value} {l : List St} (hs : a.eval s = v) (hown : ownArr 4 (stepR R) lo 81 w v l)
    (B : Nat) (st : St) (hx : a.eval x = .slice (some ⟨B, 0, none⟩) 1 1) (hB : w.heap[B]? = some (.cells #[.int .i64 st.d, .int .i64 st.t, .int .i64 st.f, .int .i64 st.n] 81 (0, 0))) (hl : l.length ≤ 100) (hlo : lo ≤ w.heap.size)
    (h : ∀ b cap w', ownArr 4 (stepR R) lo 81 w' (.slice (some ⟨b, 0, none⟩) (l.length + 1) cap) (l ++ [st]) → w.grownBy w' v.ownBlock → (v.ownBlock = some b ∨ b = w.heap.size) → b < w'.heap.size → K (a.put o.dst (.slice (some ⟨b, 0, none⟩) (l.length + 1) cap)) w') :
    if Region.wanted o (yielded ops a.tmps) = true then Oper.wp Try.prog o a w K Q else E := by
  obtain ⟨i, i1, i2, i3, i4⟩ := infoSs
  obtain ⟨f, hf, hrow, hR⟩ := hown
  exact step_append_lies w hgd s x 72 ho lo 81 i _ 4 32 Try.underlying72 i1 i2 i3 i4 rfl (by decide) v l.length _ hs hrow ⟨B, 0, none⟩ 1 1 [.int .i64 st.d, .int .i64 st.t, .int .i64 st.f, .int .i64 st.n] hx rfl
    (World.news_of_block hB) (by intro u hu; simp only [List.mem_cons, List.not_mem_nil, or_false] at hu; rcases hu with rfl | rfl | rfl | rfl <;> rfl) (by decide) (by simp only [maxLen]; omega) (by omega) hlo _ rfl
    (fun b cap w' h1 h2 h3 h4 => h b cap w' (ownArr_snoc hf hR rfl rfl h1) h2 h3 h4)
theorem grown_drew (w : World) (r : Option Nat) : w.grownBy w.drew r := ⟨rfl, rfl, rfl, Nat.le_refl _, fun _ _ _ => rfl⟩
theorem stream_drew {w0 w : World} {g : Nat} {l : List Int} (h : stream w0 w g l) : stream w0 w.drew g l := by
  obtain ⟨h1, h2, h3, v, h4, h5⟩ := h
  exact ⟨h1, h2.drew, h3, v, h4, h5⟩
/-- A round of the innermost loop: everything that has changed. -/
theorem inner_round {w0 w wr w2 w3 : World} {g lo bu b cap : Nat} {cs : List Cy} {i : Nat} {c : Cy} {vi : Value} {s : St} {ls : List Int} {o : Obj} (hlo : lo = w.heap.size) (hI : innerArr wr lo bu cs i c vi) (hl : g < lo) (hb : lo ≤ bu) (hG : w.grownBy wr (some g)) (G2 : wr.grownBy w2 (some g)) (S2 : stream w0 w2 g ls)
    (ho : ownArr 4 (stepR wr) lo 81 w3 (.slice (some ⟨b, 0, none⟩) (c.steps.length + 1) cap) (c.steps ++ [s])) (hg : (w2.alloc o).grownBy w3 vi.ownBlock) (hnew : vi.ownBlock = some b ∨ b = (w2.alloc o).heap.size) :
    innerArr (w3.setCell ⟨bu, i * 4 + 3, none⟩ (.slice (some ⟨b, 0, none⟩) (c.steps.length + 1) cap)) lo bu (cs.set i ⟨c.bus, c.place, c.reg, c.steps ++ [s]⟩) i ⟨c.bus, c.place, c.reg, c.steps ++ [s]⟩ (.slice (some ⟨b, 0, none⟩) (c.steps.length + 1) cap) ∧
      w.grownBy (w3.setCell ⟨bu, i * 4 + 3, none⟩ (.slice (some ⟨b, 0, none⟩) (c.steps.length + 1) cap)) (some g) ∧ stream w0 (w3.setCell ⟨bu, i * 4 + 3, none⟩ (.slice (some ⟨b, 0, none⟩) (c.steps.length + 1) cap)) g ls := by
  subst hlo
  have I2 := inner_none (inner_grown hI G2 hl hb) (World.grownBy_alloc w2 o none)
  have hb3 := own_grown I2.2.1.2.2.1 hg (Nat.le_trans (Nat.le_trans hG.size G2.size) (by simp))
  refine ⟨inner_push I2 ho hg ?_, grown_set (grown_below (grown_trans (grown_trans hG G2) (World.grownBy_alloc _ _ _)) hb3) hb _, stream_set (stream_below (stream_alloc S2 o) hl hb3) (by omega) _⟩
  rcases hnew with e | e
  · exact .inl e.symm
  · exact .inr ⟨b, rfl, by omega⟩
theorem inner_kept {wr w3 : World} {lo bu : Nat} {cs : List Cy} {i : Nat} {c : Cy} {vi : Value} (h : innerArr wr lo bu cs i c vi) (hg : wr.grownBy w3 vi.ownBlock) : w3.cell? ⟨bu, i * 4 + 3, none⟩ = some vi ∧ w3.frozen? ⟨bu, i * 4 + 3, none⟩ = false := by
  obtain ⟨⟨cc, t, h1⟩, ⟨_, ⟨_, _, _, k3⟩, _, kb⟩, _⟩ := h
  have hblk : w3.heap[bu]? = wr.heap[bu]? := hg.block bu (Array.getElem?_eq_some_iff.1 h1).1 (fun e => kb e.symm)
  exact ⟨by simp only [World.cell?, hblk] at k3 ⊢; exact k3, by simp [World.frozen?, hblk, h1]⟩
end Go.Proofs.Ytnkplfimcehnmaa
