/- The walk of the law TableSames. -/
import Derived.Test.YtcenflbadhjlhaaTabAll
import Derived.Test.YtcenflbadhjlhaaTabChecks
namespace Go.Proofs.Ytcenflbadhjlhaa
open Go.RowKit

theorem allOf_iff (a b : Cp) : allOf a = allOf b ↔ a = b := by
  obtain ⟨n, l, r, i, m⟩ := a
  obtain ⟨n', l', r', i', m'⟩ := b
  constructor
  · intro h
    have h2 := List.append_inj_right' h rfl
    have h1 := List.append_inj_left' h rfl
    simp only [threeOf, List.cons.injEq, In.mk.injEq, true_and, and_true] at h2
    obtain ⟨⟨e1, e2⟩, e3, e4⟩ := h2
    have h1' : l = l' := h1
    subst e1; subst e2; subst e3; subst e4; subst h1'; rfl
  · intro h; rw [h]

theorem two_boxes {w : World} {g g' : Nat} {t : TypeId} {x0 x1 x2 x3 x4 y0 y1 y2 y3 y4 : Value} {w' : World} (h : w.heap[g]? = some (.cells #[x0, x1, x2, x3, x4] t (0, 0))) (h' : w.heap[g']? = some (.cells #[y0, y1, y2, y3, y4] t (0, 0))) (hb : Below w.heap.size w w') :
    w'.cell? ⟨g, 0, none⟩ = some x0 ∧ w'.cell? ⟨g, 1, none⟩ = some x1 ∧ w'.cell? ⟨g, 2, none⟩ = some x2 ∧ w'.cell? ⟨g, 3, none⟩ = some x3 ∧ w'.cell? ⟨g, 4, none⟩ = some x4 ∧
    w'.cell? ⟨g', 0, none⟩ = some y0 ∧ w'.cell? ⟨g', 1, none⟩ = some y1 ∧ w'.cell? ⟨g', 2, none⟩ = some y2 ∧ w'.cell? ⟨g', 3, none⟩ = some y3 ∧ w'.cell? ⟨g', 4, none⟩ = some y4 ∧ Below w.heap.size w w' := by
  have k := keep_below h hb (Nat.le_refl _)
  have k' := keep_below h' hb (Nat.le_refl _)
  exact ⟨cell_of_row w' _ 0 _ t (0, 0) k, cell_of_row w' _ 1 _ t (0, 0) k, cell_of_row w' _ 2 _ t (0, 0) k, cell_of_row w' _ 3 _ t (0, 0) k, cell_of_row w' _ 4 _ t (0, 0) k,
    cell_of_row w' _ 0 _ t (0, 0) k', cell_of_row w' _ 1 _ t (0, 0) k', cell_of_row w' _ 2 _ t (0, 0) k', cell_of_row w' _ 3 _ t (0, 0) k', cell_of_row w' _ 4 _ t (0, 0) k', hb⟩
theorem pick11 {a b c d e a' b' c' d' e' : Prop} {w0 wp : World} (h : a ∧ b ∧ c ∧ d ∧ e ∧ a' ∧ b' ∧ c' ∧ d' ∧ e' ∧ Below w0.heap.size w0 wp) : Below w0.heap.size w0 wp := h.2.2.2.2.2.2.2.2.2.2

theorem tableSames_walk (a b : Cp) (p0 p1 p2 p3 q0 q1 q2 q3 : Value) (w : World) (h : cpuArg w p0 p1 p2 p3 a) (g : cpuArg w q0 q1 q2 q3 b) (hl : a.instrs.length * 56 ≤ 140737488355328) (hm : b.instrs.length * 56 ≤ 140737488355328) :
    Calls Try.prog 5 #[.agg #[.string a.name, p0, p1, p2, p3], .agg #[.string b.name, q0, q1, q2, q3]] w fun e w' => e = .returned (.bool true) ∧ Below w.heap.size w w' := by
  obtain ⟨R, hR⟩ : ∃ R, decide (a = b) = R := ⟨_, rfl⟩
  have hR' : decide (allOf a = allOf b) = R := by rw [← hR]; exact decide_eq_decide.2 (allOf_iff a b)
  have hbb := below_two w (.cells #[.string a.name, p0, p1, p2, p3] 25) (.cells #[.string b.name, q0, q1, q2, q3] 25)
  have kA := box_alloc (p := .cells #[.string b.name, q0, q1, q2, q3] 25) (heap_alloc_new w (.cells #[.string a.name, p0, p1, p2, p3] 25))
  have kB := heap_alloc_new (w.alloc (.cells #[.string a.name, p0, p1, p2, p3] 25)) (.cells #[.string b.name, q0, q1, q2, q3] 25)
  rw [World.size_alloc] at kB
  have KA := Lib.hid kA
  have KB := Lib.hid kB
  clear kA kB
  go_enter Try.func5, Try.ntmps5
  go_wp2_with (go_at_call 8; refine (tables_law _).mono ?_; rintro e w1 ⟨rfl, hb1⟩)
  have hA := hbb.trans (hb1.mono hbb.size)
  have LA := Lib.hid (keep_below KA.out hb1 (Nat.le_refl _))
  have LB := Lib.hid (keep_below KB.out hb1 (Nat.le_refl _))
  have h1 := cpuArg_below h hA (Nat.le_refl _)
  have g1 := cpuArg_below g hA (Nat.le_refl _)
  have hB1 : Below w1.heap.size w1 w1 := Below.refl _ _
  clear KA KB
  go_region_held3? (fun w' => w'.cell? ⟨w.heap.size, 0, none⟩ = some (.string a.name) ∧ w'.cell? ⟨w.heap.size, 1, none⟩ = some p0 ∧ w'.cell? ⟨w.heap.size, 2, none⟩ = some p1 ∧ w'.cell? ⟨w.heap.size, 3, none⟩ = some p2 ∧ w'.cell? ⟨w.heap.size, 4, none⟩ = some p3 ∧
      w'.cell? ⟨w.heap.size + 1, 0, none⟩ = some (.string b.name) ∧ w'.cell? ⟨w.heap.size + 1, 1, none⟩ = some q0 ∧ w'.cell? ⟨w.heap.size + 1, 2, none⟩ = some q1 ∧ w'.cell? ⟨w.heap.size + 1, 3, none⟩ = some q2 ∧ w'.cell? ⟨w.heap.size + 1, 4, none⟩ = some q3 ∧ Below w1.heap.size w1 w')
    (first | exact two_boxes LA.out LB.out (by assumption) | exact two_boxes LA.out LB.out (Below.drew (by assumption)))
    (first
      | (go_at_call 23; have hP := pick11 (w0 := w1) (by assumption); refine (same_any a b _ _ _ _ _ _ _ _ _ (cpuArg_below h1 hP (Nat.le_refl _)) (cpuArg_below g1 hP (Nat.le_refl _))).mono ?_; rintro e w2 ⟨rfl, hb2⟩; rw [hR]; have B2 : Below w1.heap.size w1 w2 := below_next hP hb2)
      | (go_at_call_of 21 (Value.agg #[.string a.name, p0, p1, p2, p3]); have hP := pick11 (w0 := w1) (by assumption); refine (all_law a _ _ _ _ _ (cpuArg_below h1 hP (Nat.le_refl _)) hl).mono ?_; rintro e w3 ⟨u, rfl, hu, hb3⟩; have B3 : Below w1.heap.size w1 w3 := below_next hP hb3)
      | (go_at_call_of 21 (Value.agg #[.string b.name, q0, q1, q2, q3]); have hP := pick11 (w0 := w1) (by assumption); refine (all_law b _ _ _ _ _ (cpuArg_below g1 hP (Nat.le_refl _)) hm).mono ?_; rintro e w4 ⟨v, rfl, hv, hb4⟩; have B4 : Below w1.heap.size w1 w4 := below_next hP hb4; have hu4 := isArr_below ins_keeps hu hb4 (Nat.le_refl _))
      | (go_at_call 24; have hP := pick11 (w0 := w1) (by assumption); refine (equalFunc_instrs _ _ (allOf a) (allOf b) _ hu4 hv).mono ?_; rintro e w5 ⟨rfl, hb5⟩; rw [hR']; have B5 : Below w1.heap.size w1 w5 := below_next hP hb5))
  all_goals
    go_wp2_with fail
    go_ret
    exact ⟨rfl, hA.trans (B5.mono hA.size)⟩
end Go.Proofs.Ytcenflbadhjlhaa
