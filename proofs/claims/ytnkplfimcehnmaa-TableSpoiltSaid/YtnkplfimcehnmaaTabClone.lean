/- Package table's Copy: slices of cycles and steps cloned, an instruction in new memory. -/
import Derived.Test.YtnkplfimcehnmaaTabAll
import Derived.Test.YtnkplfimcehnmaaTabInstr2
import Derived.Deep.RegionHeld
namespace Go.Proofs.Ytnkplfimcehnmaa
open Go.RowKit

theorem cycle_one {w : World} : ∀ cs x, cycleR w cs x → ∀ u ∈ cs, u.oneCell' = true := by
  rintro cs x ⟨v, rfl, hv⟩ u hu
  obtain ⟨a, cap, rfl, _, _⟩ := isArr_form hv
  simp only [List.mem_cons, List.not_mem_nil, or_false] at hu
  rcases hu with rfl | rfl | rfl | rfl <;> rfl
theorem step_one {w : World} : ∀ cs x, stepR w cs x → ∀ u ∈ cs, u.oneCell' = true := by
  rintro cs x rfl u hu
  simp only [List.mem_cons, List.not_mem_nil, or_false] at hu
  rcases hu with rfl | rfl | rfl | rfl <;> rfl
theorem infoC : (Try.prog.info? 74).map (fun i => (i.zero, i.size, i.bytes)) = some (some (.agg #[.int .i64 0, .int .i64 0, .int .i64 0, .slice none 0 0]), 4, 48) := by kernel_rfl
theorem infoCs : ∃ i, Try.prog.info? 74 = some i ∧ i.zero = some (.agg #[.int .i64 0, .int .i64 0, .int .i64 0, .slice none 0 0]) ∧ i.size = 4 ∧ i.bytes = 48 := by
  obtain ⟨i, a, b, c, d⟩ := info_parts infoC
  exact ⟨i, a, b, c, d⟩
theorem infoS : (Try.prog.info? 81).map (fun i => (i.zero, i.size, i.bytes)) = some (some (.agg #[.int .i64 0, .int .i64 0, .int .i64 0, .int .i64 0]), 4, 32) := by kernel_rfl
theorem infoSs : ∃ i, Try.prog.info? 81 = some i ∧ i.zero = some (.agg #[.int .i64 0, .int .i64 0, .int .i64 0, .int .i64 0]) ∧ i.size = 4 ∧ i.bytes = 32 := by
  obtain ⟨i, a, b, c, d⟩ := info_parts infoS
  exact ⟨i, a, b, c, d⟩

theorem clone_cycles {R : List Value → Cy → Prop} (hone : ∀ cs x, R cs x → ∀ u ∈ cs, u.oneCell' = true) (v : Value) (l : List Cy) (w : World) (h : isArr 4 (fun _ => R) w v l) (hl : l.length * 48 ≤ 140737488355328) :
    Calls Try.prog 51 #[v] w fun e w' => ∃ u, e = .returned u ∧ ownArr 4 R w.heap.size 74 w' u l ∧ Below w.heap.size w w' := by
  have hn := @Lib.run_eql_slice_nil Try.prog
  obtain ⟨a, cap, rfl, _, _⟩ := isArr_form h
  cases a with
  | none =>
    have hl0 : l = [] := by
      rcases h with ⟨_, _, _, h⟩ | ⟨b, off, cap, h, _⟩
      · exact h
      · cases h
    subst hl0
    go_enter Try.func51, Try.ntmps51
    go_wp2
    go_ret
    exact ⟨_, rfl, ownArr_nil _ _ _ _ _, Below.refl _ _⟩
  | some a =>
    have ho := ownArr_made 4 R w.heap.size 74 w (Nat.le_refl _)
    have hr := isArr_fix (R := fun _ => R) h ((Below.refl w.heap.size w).alloc (Nat.le_refl _) (.cells #[] 74)) (Nat.le_refl _)
    obtain ⟨i, i1, i2, i3, i4⟩ := infoCs
    clear h
    go_enter Try.func51, Try.ntmps51
    go_wp2_with (at_builtin; refine wpList_append_arr rfl _ _ 24 rfl 74 4 48 i _ Try.underlying24 i1 i2 i3 i4 rfl (by decide) hone w.heap.size _ _ rfl rfl [] l ho hr ?c1 ?c2 ?c3 ?_)
    case c1 => simp only [List.length_nil, maxLen]; omega
    case c2 => simp only [List.length_nil]; omega
    case c3 => simp
    intro v' w1 hown1 hbel1
    have hb1 := ((Below.refl w.heap.size w).alloc (Nat.le_refl _) (.cells #[] 74)).trans hbel1
    clear hbel1
    go_wp2
    go_ret
    exact ⟨_, rfl, hown1, hb1⟩

theorem clone_steps {R : List Value → St → Prop} (hone : ∀ cs x, R cs x → ∀ u ∈ cs, u.oneCell' = true) (v : Value) (l : List St) (w : World) (h : isArr 4 (fun _ => R) w v l) (hl : l.length * 32 ≤ 140737488355328) :
    Calls Try.prog 52 #[v] w fun e w' => ∃ u, e = .returned u ∧ ownArr 4 R w.heap.size 81 w' u l ∧ Below w.heap.size w w' := by
  have hn := @Lib.run_eql_slice_nil Try.prog
  obtain ⟨a, cap, rfl, _, _⟩ := isArr_form h
  cases a with
  | none =>
    have hl0 : l = [] := by
      rcases h with ⟨_, _, _, h⟩ | ⟨b, off, cap, h, _⟩
      · exact h
      · cases h
    subst hl0
    go_enter Try.func52, Try.ntmps52
    go_wp2
    go_ret
    exact ⟨_, rfl, ownArr_nil _ _ _ _ _, Below.refl _ _⟩
  | some a =>
    have ho := ownArr_made 4 R w.heap.size 81 w (Nat.le_refl _)
    have hr := isArr_fix (R := fun _ => R) h ((Below.refl w.heap.size w).alloc (Nat.le_refl _) (.cells #[] 81)) (Nat.le_refl _)
    obtain ⟨i, i1, i2, i3, i4⟩ := infoSs
    clear h
    go_enter Try.func52, Try.ntmps52
    go_wp2_with (at_builtin; refine wpList_append_arr rfl _ _ 72 rfl 81 4 32 i _ Try.underlying72 i1 i2 i3 i4 rfl (by decide) hone w.heap.size _ _ rfl rfl [] l ho hr ?c1 ?c2 ?c3 ?_)
    case c1 => simp only [List.length_nil, maxLen]; omega
    case c2 => simp only [List.length_nil]; omega
    case c3 => simp
    intro v' w1 hown1 hbel1
    have hb1 := ((Below.refl w.heap.size w).alloc (Nat.le_refl _) (.cells #[] 81)).trans hbel1
    clear hbel1
    go_wp2
    go_ret
    exact ⟨_, rfl, hown1, hb1⟩


/-- The slice of steps does not lie in block g, nor in the boxes from lo to hi (or is empty). -/
def apart4 (lo hi g : Nat) (v : Value) (l : List St) : Prop := l = [] ∨ ∃ b off n cap, v = .slice (some ⟨b, off, none⟩) n cap ∧ b ≠ g ∧ (b < lo ∨ hi ≤ b)
theorem steps_set {w : World} {v : Value} {l : List St} {lo hi g q : Nat} (h : isArr 4 stepR w v l) (ha : apart4 lo hi g v l) (hq : q = g ∨ (lo ≤ q ∧ q < hi)) (j : Nat) (x : Value) : isArr 4 stepR (w.setCell ⟨q, j, none⟩ x) v l := by
  rcases h with h | ⟨b, off, cap, rfl, h1, h2, h3, h4⟩
  · exact .inl h
  · rcases ha with rfl | ⟨b', off', n', cap', e, hne, hlo⟩
    · exact .inl ⟨_, _, rfl, rfl⟩
    · cases e
      refine .inr ⟨b, off, cap, rfl, by simpa using h1, h2, h3, fun i y hy => ?_⟩
      obtain ⟨cs, c1, c2, c3⟩ := h4 i y hy
      refine ⟨cs, c1, fun k hk => ?_, c3⟩
      rw [World.cell?_setCell_far _ _ _ _ (by show q ≠ b; omega)]
      exact c2 k hk

/-- Block g holds the cycles; the steps of none of them lie in it, nor in the boxes from lo to hi. -/
def copyArr (w : World) (lo hi g : Nat) (l : List Cy) : Prop :=
  (∃ c t, w.heap[g]? = some (.cells c t (0, 0))) ∧ ∀ i c, l[i]? = some c → ∃ v, (w.cell? ⟨g, i * 4, none⟩ = some (.int .i64 c.bus) ∧ w.cell? ⟨g, i * 4 + 1, none⟩ = some (.int .i64 c.place) ∧ w.cell? ⟨g, i * 4 + 2, none⟩ = some (.int .i64 c.reg) ∧ w.cell? ⟨g, i * 4 + 3, none⟩ = some v) ∧
    isArr 4 stepR w v c.steps ∧ apart4 lo hi g v c.steps
theorem copyArr_lt {w : World} {lo hi g : Nat} {l : List Cy} (h : copyArr w lo hi g l) : g < w.heap.size := by
  obtain ⟨⟨c, t, hg⟩, _⟩ := h
  exact (Array.getElem?_eq_some_iff.1 hg).1
theorem copyArr_below {w w' : World} {lo hi g : Nat} {l : List Cy} (h : copyArr w lo hi g l) {B : Nat} (hb : Below B w w') (hB : w.heap.size ≤ B) : copyArr w' lo hi g l := by
  have hlt := copyArr_lt h
  obtain ⟨⟨c, t, hg⟩, h2⟩ := h
  refine ⟨⟨c, t, keep_below hg hb hB⟩, fun i x hx => ?_⟩
  obtain ⟨v, ⟨k0, k1, k2, k3⟩, h3, h4⟩ := h2 i x hx
  have f : ∀ j u, w.cell? ⟨g, j, none⟩ = some u → w'.cell? ⟨g, j, none⟩ = some u := fun j u hu => by
    rw [hb.cell (p := ⟨g, j, none⟩) (Nat.lt_of_lt_of_le hlt hB)]; exact hu
  exact ⟨v, ⟨f _ _ k0, f _ _ k1, f _ _ k2, f _ _ k3⟩, isArr_below step_keeps h3 hb hB, h4⟩
theorem copyArr_set {w : World} {lo hi g : Nat} {l : List Cy} (h : copyArr w lo hi g l) {k : Nat} {c : Cy} (hc : l[k]? = some c) {v : Value} (hv : isArr 4 stepR w v c.steps) (ha : apart4 lo hi g v c.steps) : copyArr (w.setCell ⟨g, k * 4 + 3, none⟩ v) lo hi g l := by
  obtain ⟨⟨cc, t, hg⟩, h2⟩ := h
  refine ⟨⟨cc.setIfInBounds (k * 4 + 3) v, t, ?_⟩, fun i x hx => ?_⟩
  · show (w.setCell ⟨g, k * 4 + 3, none⟩ v).heap[g]? = _
    unfold World.setCell
    rw [Array.getElem?_modify, if_pos rfl, hg]
    rfl
  · obtain ⟨u, ⟨k0, k1, k2, k3⟩, h3, h4⟩ := h2 i x hx
    have f : ∀ j y, j ≠ k * 4 + 3 → w.cell? ⟨g, j, none⟩ = some y → (w.setCell ⟨g, k * 4 + 3, none⟩ v).cell? ⟨g, j, none⟩ = some y := fun j y hj hy => by
      rw [World.cell?_setCell_other _ _ _ _ (by intro e; cases e; exact hj rfl)]; exact hy
    by_cases e : i = k
    · subst e
      rw [hc] at hx
      cases hx
      exact ⟨v, ⟨f _ _ (by omega) k0, f _ _ (by omega) k1, f _ _ (by omega) k2, World.cell?_setCell_same _ _ _ k3⟩, steps_set hv ha (.inl rfl) _ _, ha⟩
    · exact ⟨u, ⟨f _ _ (by omega) k0, f _ _ (by omega) k1, f _ _ (by omega) k2, f _ _ (by omega) k3⟩, steps_set h3 h4 (.inl rfl) _ _, h4⟩
theorem copyArr_out {w : World} {lo hi g : Nat} {l : List Cy} (h : copyArr w lo hi g l) (hg : hi ≤ g) {q : Nat} (h1 : lo ≤ q) (h2 : q < hi) (j : Nat) (x : Value) : copyArr (w.setCell ⟨q, j, none⟩ x) lo hi g l := by
  obtain ⟨⟨cc, t, hk⟩, h3⟩ := h
  refine ⟨⟨cc, t, ?_⟩, fun i y hy => ?_⟩
  · rw [Below.heap_setCell w ⟨q, j, none⟩ x g (by show g ≠ q; omega)]; exact hk
  · obtain ⟨v, ⟨k0, k1, k2, k3⟩, h4, h5⟩ := h3 i y hy
    have f : ∀ j' u, w.cell? ⟨g, j', none⟩ = some u → (w.setCell ⟨q, j, none⟩ x).cell? ⟨g, j', none⟩ = some u := fun j' u hu => by
      rw [World.cell?_setCell_far _ _ _ _ (by show q ≠ g; omega)]; exact hu
    exact ⟨v, ⟨f _ _ k0, f _ _ k1, f _ _ k2, f _ _ k3⟩, steps_set h4 h5 (.inr ⟨h1, h2⟩) _ _, h5⟩
theorem copyArr_isArr {w : World} {lo hi g cap : Nat} {l : List Cy} (h : copyArr w lo hi g l) (h1 : l.length ≤ cap) (h2 : cap ≤ 9223372036854775807) : isArr 4 cycleR w (.slice (some ⟨g, 0, none⟩) l.length cap) l := by
  have hlt := copyArr_lt h
  obtain ⟨_, h3⟩ := h
  refine .inr ⟨g, 0, cap, rfl, hlt, h1, h2, fun i x hx => ?_⟩
  obtain ⟨v, ⟨k0, k1, k2, k3⟩, h4, _⟩ := h3 i x hx
  refine ⟨[.int .i64 x.bus, .int .i64 x.place, .int .i64 x.reg, v], rfl, fun j hj => ?_, v, rfl, h4⟩
  rw [Nat.zero_add]
  match j, hj with
  | 0, _ => exact k0
  | 1, _ => exact k1
  | 2, _ => exact k2
  | 3, _ => exact k3
theorem copyArr_frozen {w : World} {lo hi g : Nat} {l : List Cy} (h : copyArr w lo hi g l) (j : Nat) : w.frozen? ⟨g, j, none⟩ = false := by
  obtain ⟨⟨c, t, hg⟩, _⟩ := h
  simp [World.frozen?, hg]
/-- What slices.Clone made of cycles. -/
theorem copyArr_of {w00 w0 w : World} {v : Value} {l : List Cy} {e : TypeId} (h : ownArr 4 (cycleR w00) w0.heap.size e w v l) (hb : Below w00.heap.size w00 w) (h00 : w00.heap.size ≤ w0.heap.size) :
    (v = .slice none 0 0 ∧ l = []) ∨ ∃ g cap, v = .slice (some ⟨g, 0, none⟩) l.length cap ∧ l.length ≤ cap ∧ cap ≤ 9223372036854775807 ∧ w0.heap.size ≤ g ∧ copyArr w w00.heap.size w0.heap.size g l := by
  have harr := ownArr_isArr h
  obtain ⟨f, _, hown, _⟩ := h
  rcases hown.2 with ⟨rfl, hn⟩ | ⟨g, cap, cur, rfl, hB, hg, hn, hc, _, _⟩
  · exact .inl ⟨rfl, List.eq_nil_of_length_eq_zero hn⟩
  · refine .inr ⟨g, cap, rfl, hn, by simpa [maxLen] using hc, hB, ⟨⟨cur, _, hg⟩, fun i x hx => ?_⟩⟩
    rcases harr with ⟨a', cap', e', rfl⟩ | ⟨b, off, cap', e', _, _, _, h4⟩
    · cases hx
    · cases e'
      obtain ⟨cs, _, hcs, u, rfl, hu⟩ := h4 i x hx
      obtain ⟨k0, k1, k2, k3⟩ := four_cells hcs
      rw [Nat.zero_add] at k0 k1 k2 k3
      refine ⟨u, ⟨k0, k1, k2, k3⟩, isArr_below step_keeps hu hb (Nat.le_refl _), ?_⟩
      rcases hu with ⟨a, c, rfl, he⟩ | ⟨b, off, c, rfl, hlt, _⟩
      · exact .inl he
      · exact .inr ⟨b, off, _, c, rfl, by omega, .inl hlt⟩
theorem apart_of {R : List Value → St → Prop} {B lo hi g : Nat} {w : World} {v : Value} {l : List St} {e : TypeId} (h : ownArr 4 R B e w v l) (hg : g < B) (hh : hi ≤ B) : apart4 lo hi g v l := by
  obtain ⟨f, _, hown, _⟩ := h
  rcases hown.2 with ⟨rfl, hn⟩ | ⟨g', cap, cur, rfl, hB, _, _, _, _, _⟩
  · exact .inl (List.eq_nil_of_length_eq_zero hn)
  · exact .inr ⟨g', 0, _, cap, rfl, by omega, .inr (by omega)⟩
end Go.Proofs.Ytnkplfimcehnmaa
