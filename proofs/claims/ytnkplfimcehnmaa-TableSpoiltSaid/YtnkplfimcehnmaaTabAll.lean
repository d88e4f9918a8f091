/- The list that the law TableSames compares: slices.Clone of instructions, and the append of three more. -/
import Derived.Test.YtnkplfimcehnmaaTabSame2
import Derived.Test.YtnkplfimcehnmaaArrOwn
import Derived.Lib.SliceRun
import Derived.Deep.RegionHeld3
import Derived.Deep.RegionLaw
namespace Go.Proofs.Ytnkplfimcehnmaa
open Go.RowKit

theorem ins_one {w : World} : ∀ cs x, insR w cs x → ∀ u ∈ cs, u.oneCell' = true := by
  rintro cs x ⟨v, rfl, hv, _⟩ u hu
  obtain ⟨a, cap, rfl, _, _⟩ := isArr_form hv
  simp only [List.mem_cons, List.not_mem_nil, or_false] at hu
  rcases hu with rfl | rfl | rfl | rfl <;> rfl
theorem infoN : (Try.prog.info? 34).map (fun i => (i.zero, i.size, i.bytes)) = some (some (.agg #[.int .i64 0, .string ByteArray.empty, .int .i64 0, .slice none 0 0]), 4, 56) := by kernel_rfl
theorem infoNs : ∃ i, Try.prog.info? 34 = some i ∧ i.zero = some (.agg #[.int .i64 0, .string ByteArray.empty, .int .i64 0, .slice none 0 0]) ∧ i.size = 4 ∧ i.bytes = 56 := by
  obtain ⟨i, a, b, c, d⟩ := info_parts infoN
  exact ⟨i, a, b, c, d⟩

theorem clone_instrs {R : List Value → In → Prop} (hone : ∀ cs x, R cs x → ∀ u ∈ cs, u.oneCell' = true) (v : Value) (l : List In) (w : World) (h : isArr 4 (fun _ => R) w v l) (hl : l.length * 56 ≤ 140737488355328) :
    Calls Try.prog 13 #[v] w fun e w' => ∃ u, e = .returned u ∧ ownArr 4 R w.heap.size 34 w' u l ∧ Below w.heap.size w w' := by
  have hn := @Lib.run_eql_slice_nil Try.prog
  obtain ⟨a, cap, rfl, _, _⟩ := isArr_form h
  cases a with
  | none =>
    have hl0 : l = [] := by
      rcases h with ⟨_, _, _, h⟩ | ⟨b, off, cap, h, _⟩
      · exact h
      · cases h
    subst hl0
    go_enter Try.func13, Try.ntmps13
    go_wp2
    go_ret
    exact ⟨_, rfl, ownArr_nil _ _ _ _ _, Below.refl _ _⟩
  | some a =>
    have ho := ownArr_made 4 R w.heap.size 34 w (Nat.le_refl _)
    have hr := isArr_fix (R := fun _ => R) h ((Below.refl w.heap.size w).alloc (Nat.le_refl _) (.cells #[] 34)) (Nat.le_refl _)
    obtain ⟨i, i1, i2, i3, i4⟩ := infoNs
    clear h
    go_enter Try.func13, Try.ntmps13
    go_wp2_with (at_builtin; refine wpList_append_arr rfl _ _ 23 rfl 34 4 56 i _ Try.underlying23 i1 i2 i3 i4 rfl (by decide) hone w.heap.size _ _ rfl rfl [] l ho hr ?c1 ?c2 ?c3 ?_)
    case c1 => simp only [List.length_nil, maxLen]; omega
    case c2 => simp only [List.length_nil]; omega
    case c3 => simp
    intro v' w1 hown1 hbel1
    have hb1 := ((Below.refl w.heap.size w).alloc (Nat.le_refl _) (.cells #[] 34)).trans hbel1
    clear hbel1
    go_wp2
    go_ret
    exact ⟨_, rfl, hown1, hb1⟩

def threeOf (c : Cp) : List In := [⟨0, c.name, 0, c.res⟩, ⟨0, ⟨#[]⟩, 0, c.irq⟩, ⟨0, ⟨#[]⟩, 0, c.nmi⟩]
def allOf (c : Cp) : List In := c.instrs ++ threeOf c

theorem three_new {w wx : World} {g : Nat} {s1 s2 s3 : Value} {c : Cp} (h : wx.heap[g]? = some (.cells #[.int .i64 0, .string c.name, .int .i64 0, s1, .int .i64 0, .string ⟨#[]⟩, .int .i64 0, s2, .int .i64 0, .string ⟨#[]⟩, .int .i64 0, s3] 34 (0, 0)))
    (g1 : isArr 4 cycleR w s1 c.res) (g2 : isArr 4 cycleR w s2 c.irq) (g3 : isArr 4 cycleR w s3 c.nmi) (g4 : c.name.size ≤ 9223372036854775807) :
    isArr 4 (fun _ => insR w) wx (.slice (some ⟨g, 0, none⟩) 3 3) (threeOf c) := by
  have hc : ∀ j, wx.cell? ⟨g, j, none⟩ = _ := fun j => cell_of_row wx g j _ 34 (0, 0) h
  refine .inr ⟨g, 0, 3, rfl, (Array.getElem?_eq_some_iff.1 h).1, Nat.le_refl _, by decide, fun i x hx => ?_⟩
  match i, hx with
  | 0, hx => cases hx; exact ⟨[.int .i64 0, .string c.name, .int .i64 0, s1], rfl, (fun j hj => by rw [hc]; match j, hj with | 0, _ => rfl | 1, _ => rfl | 2, _ => rfl | 3, _ => rfl), s1, rfl, g1, g4, rfl⟩
  | 1, hx => cases hx; exact ⟨[.int .i64 0, .string ⟨#[]⟩, .int .i64 0, s2], rfl, (fun j hj => by rw [hc]; match j, hj with | 0, _ => rfl | 1, _ => rfl | 2, _ => rfl | 3, _ => rfl), s2, rfl, g2, Nat.zero_le _, rfl⟩
  | 2, hx => cases hx; exact ⟨[.int .i64 0, .string ⟨#[]⟩, .int .i64 0, s3], rfl, (fun j hj => by rw [hc]; match j, hj with | 0, _ => rfl | 1, _ => rfl | 2, _ => rfl | 3, _ => rfl), s3, rfl, g3, Nat.zero_le _, rfl⟩

theorem all_law (c : Cp) (v0 v1 v2 v3 : Value) (w : World) (h : cpuArg w v0 v1 v2 v3 c) (hl : c.instrs.length * 56 ≤ 140737488355328) :
    Calls Try.prog 26 #[.agg #[.string c.name, v0, v1, v2, v3]] w fun e w' => ∃ u, e = .returned u ∧ isArr 4 insR w' u (allOf c) ∧ Below w.heap.size w w' := by
  obtain ⟨w0, hw0⟩ : ∃ w0, w0 = w.alloc (.cells #[.string c.name, v0, v1, v2, v3] 26) := ⟨_, rfl⟩
  have hA : Below w.heap.size w w0 := by rw [hw0]; exact (Below.refl _ w).alloc (Nat.le_refl _) _
  have hB0 : Below w0.heap.size w0 w0 := Below.refl _ _
  have h0 : isArr 4 (fun _ => insR w) w0 v0 c.instrs := isArr_fix h.1 (by rw [hw0]; exact (Below.refl _ w).alloc (Nat.le_refl _) _) (Nat.le_refl _)
  obtain ⟨i, i1, i2, i3, i4⟩ := infoNs
  obtain ⟨h, g1, g2, g3, g4⟩ := h
  obtain ⟨s0, p0, rfl, _, _⟩ := isArr_form h
  obtain ⟨s1, p1, rfl, _, _⟩ := isArr_form g1
  obtain ⟨s2, p2, rfl, _, _⟩ := isArr_form g2
  obtain ⟨s3, p3, rfl, _, _⟩ := isArr_form g3
  go_enter Try.func26, Try.ntmps26
  go_wp2_with fail
  rw [← hw0]
  have Hw0 := Lib.hid hw0
  clear hw0
  go_region_held3 (fun w' => w'.cell? ⟨w.heap.size, 0, none⟩ = some (.string c.name) ∧ w'.cell? ⟨w.heap.size, 1, none⟩ = some (.slice s0 c.instrs.length p0) ∧ w'.cell? ⟨w.heap.size, 2, none⟩ = some (.slice s1 c.res.length p1) ∧ w'.cell? ⟨w.heap.size, 3, none⟩ = some (.slice s2 c.irq.length p2) ∧ w'.cell? ⟨w.heap.size, 4, none⟩ = some (.slice s3 c.nmi.length p3) ∧ Below w0.heap.size w0 w')
    (first | exact box_keep Hw0.out (by assumption) | exact box_keep Hw0.out (Below.drew (by assumption)) | exact box_keep Hw0.out (below_put (by assumption) _) | exact box_keep Hw0.out (below_put (pick6 (by assumption)) _))
    (first
      | (go_at_call 13; have hP := pick6 (w0 := w0) (by assumption); refine (clone_instrs ins_one _ c.instrs _ (isArr_fix (R := fun _ => insR w) h0 hP (Nat.le_refl _)) hl).mono ?_; rintro e w1 ⟨u, rfl, hu, hb1⟩; have B1 : Below w0.heap.size w0 w1 := below_next hP hb1; have hu1 : ownArr 4 (insR w) w0.heap.size 34 w1 u c.instrs := ownArr_mono hu hP.size; clear hu)
      | (refine step_append_arr (α := In) (R := insR w) rfl _ _ 23 rfl 34 4 56 i _ Try.underlying23 i1 i2 i3 i4 rfl (by decide) ins_one w0.heap.size _ _ rfl rfl c.instrs (threeOf c) ?own ?arr ?c1 ?c2 ?c3 ?_; (case own => first | assumption | exact ownArr_below (by assumption) ((Below.refl _ _).alloc (Nat.le_refl _) _) (Nat.le_refl _)); (case arr => first | exact three_new (heap_alloc_new _ _) g1 g2 g3 g4 | exact three_new (keep_alloc_drew (by assumption)) g1 g2 g3 g4); (case c1 => simp only [threeOf, List.length_cons, List.length_nil, maxLen]; omega); (case c2 => simp only [threeOf, List.length_cons, List.length_nil]; omega); (case c3 => have hP := pick6 (w0 := w0) (by assumption); exact hP.size); intro v' w2 hown2 hb2; have hP := pick6 (w0 := w0) (by assumption); have B2 : Below w0.heap.size w0 w2 := hP.trans hb2))
  all_goals
    go_wp2_with fail
    go_ret
    have hZ := hA.trans (B2.mono hA.size)
    exact ⟨_, rfl, isArr_loose ins_keeps (ownArr_isArr hown2) hZ (Nat.le_refl _), hZ⟩
end Go.Proofs.Ytnkplfimcehnmaa
