/- The walk of the law TableFinds. -/
import Derived.Test.YtnkplfimcehnmaaTabBack
import Derived.Test.YtnkplfimcehnmaaTabChecks
namespace Go.Proofs.Ytnkplfimcehnmaa
open Go.RowKit Go.Shelf

attribute [local go_sem] Oper.semAt_some

theorem wid_or (r : Int) : wid r = (r == 7 || r == 8) := rfl

/-- The last of the handed elements that p holds of; its cells. -/
def pickE {w0 : World} {l : List In} (p : In → Bool) (pre : List (Elem w0 l)) : Option (Elem w0 l) := pre.foldl (fun acc q => if p q.x = true then some q else acc) none
theorem pickE_snoc {w0 : World} {l : List In} (p : In → Bool) (pre : List (Elem w0 l)) (q : Elem w0 l) : pickE p (pre ++ [q]) = if p q.x = true then some q else pickE p pre := by simp [pickE]
def cellsE {w0 : World} {l : List In} : Option (Elem w0 l) → Array Value
  | none => #[.int .i64 0, .string ⟨#[]⟩, .int .i64 0, .slice none 0 0]
  | some q => #[.int .i64 q.x.op, .string q.x.name, .int .i64 q.x.mode, q.v]
theorem cellsE_four {w0 : World} {l : List In} (o : Option (Elem w0 l)) : ∃ a b c d, cellsE o = #[a, b, c, d] := by cases o <;> exact ⟨_, _, _, _, rfl⟩
/-- Between two rounds: the four boxes that the loop writes. -/
def loopI (s : Nat) (W0 : World) (w0 : World) (l : List In) (p p' : In → Bool) (pre : List (Elem w0 l)) (W : World) : Prop :=
  (W.heap[s]? = some (.cells (cellsE (pickE p pre)) 34 (0, 0)) ∧ W.heap[s + 1]? = some (.cells (cellsE (pickE p' pre)) 34 (0, 0)) ∧
    W.heap[s + 2]? = some (.cells #[.bool (pickE p pre).isSome] 4 (0, 0)) ∧ W.heap[s + 3]? = some (.cells #[.bool (pickE p' pre).isSome] 4 (0, 0))) ∧ Below s W0 W
theorem heap_own {B b : Nat} {W W' : World} {row : Option Nat} {c : Array Value} {t : TypeId} {fz : Nat × Nat} (h : W.heap[b]? = some (.cells c t fz)) (hg : W.grownBy W' row) (hr : ∀ r, row = some r → B ≤ r ∧ ∃ o : Obj, W.heap[r]? = some o ∧ o.isCells = false) : W'.heap[b]? = some (.cells c t fz) := by
  rw [hg.block b (Array.getElem?_eq_some_iff.1 h).1 (by
    intro e
    obtain ⟨_, o, ho, hc⟩ := hr b e.symm
    rw [h] at ho
    cases ho
    cases hc)]
  exact h
theorem loopI_own (s : Nat) (W0 w0 : World) (l : List In) (p p' : In → Bool) {B : Nat} (hs : s ≤ W0.heap.size) (hB : s ≤ B) : OwnFrom B (loopI s W0 w0 l p p') :=
  OwnFrom.and (fun _ _ _ _ ⟨h1, h2, h3, h4⟩ hg hr => ⟨heap_own h1 hg hr, heap_own h2 hg hr, heap_own h3 hg hr, heap_own h4 hg hr⟩) (ownFrom_below hs hB)
theorem loopI_alloc {s : Nat} {W0 w0 : World} {l : List In} {p p' : In → Bool} {pre : List (Elem w0 l)} {W : World} (h : loopI s W0 w0 l p p' pre W) (hs : s ≤ W0.heap.size) (o : Obj) : loopI s W0 w0 l p p' pre (W.alloc o) := by
  obtain ⟨⟨h1, h2, h3, h4⟩, h5⟩ := h
  exact ⟨⟨box_alloc h1, box_alloc h2, box_alloc h3, box_alloc h4⟩, h5.alloc (Nat.le_trans hs h5.size) o⟩

theorem pick_rev {w0 : World} {l : List In} (p : In → Bool) : ∀ (ys : List (Elem w0 l)) (acc : Option (Elem w0 l)), (ys.foldl (fun acc q => if p q.x = true then some q else acc) acc).map (·.x) = (ys.map (·.x)).foldl (fun acc x => if p x = true then some x else acc) (acc.map (·.x))
  | [], acc => rfl
  | q :: ys, acc => by
    simp only [List.foldl_cons, List.map_cons]
    rw [pick_rev p ys]
    by_cases h : p q.x = true <;> simp [h]
theorem find_fold (p : In → Bool) (l : List In) : l.reverse.foldl (fun acc x => if p x = true then some x else acc) none = l.find? p := by
  induction l with
  | nil => rfl
  | cons x l ih =>
    rw [List.reverse_cons, List.foldl_append, ih, List.find?_cons]
    by_cases h : p x = true <;> simp [h]
theorem pick_found {w0 : World} {l : List In} (p : In → Bool) {ys : List (Elem w0 l)} (h : ys.map (·.x) = l.reverse) :
    (pickE p ys).isSome = isIn p l ∧ ∃ v, cellsE (pickE p ys) = #[.int .i64 (foundIn p l).op, .string (foundIn p l).name, .int .i64 (foundIn p l).mode, v] ∧ isArr 4 cycleR w0 v (foundIn p l).cycles := by
  have e : (pickE p ys).map (·.x) = l.find? p := by
    unfold pickE
    rw [pick_rev, h]
    exact find_fold p l
  unfold isIn foundIn
  rw [← e]
  cases hp : pickE p ys with
  | none => exact ⟨rfl, _, rfl, .inl ⟨_, _, rfl, rfl⟩⟩
  | some q => exact ⟨rfl, q.v, rfl, q.hv⟩
theorem found_sized {p : In → Bool} {l : List In} (hz : ∀ x ∈ l, sizedIn x) : sizedIn (foundIn p l) := by
  unfold foundIn
  cases h : l.find? p with
  | none => exact ⟨by decide, fun c hc => by cases hc⟩
  | some x => exact hz x (List.mem_of_find?_eq_some h)

theorem pick7 {a b c d e f : Prop} {w0 wp : World} (h : a ∧ b ∧ c ∧ d ∧ e ∧ f ∧ Below w0.heap.size w0 wp) : Below w0.heap.size w0 wp := h.2.2.2.2.2.2

/-- An element is picked: its cells into the box g, true into the box h. -/
abbrev putE (W : World) (g h : Nat) (x0 x1 x2 x3 : Value) : World :=
  ((((W.setCell ⟨g, 0, none⟩ x0).setCell ⟨g, 1, none⟩ x1).setCell ⟨g, 2, none⟩ x2).setCell ⟨g, 3, none⟩ x3).setCell ⟨h, 0, none⟩ (.bool true)
theorem set_heap {W : World} {b j : Nat} {c : Array Value} {t : TypeId} {fz : Nat × Nat} (h : W.heap[b]? = some (.cells c t fz)) (v : Value) : (W.setCell ⟨b, j, none⟩ v).heap[b]? = some (.cells (c.setIfInBounds j v) t fz) := by
  show (W.setCell ⟨b, j, none⟩ v).heap[b]? = _
  unfold World.setCell
  rw [Array.getElem?_modify, if_pos rfl, h]
  rfl
theorem set_far {W : World} {b j k : Nat} (h : k ≠ b) (v : Value) : (W.setCell ⟨b, j, none⟩ v).heap[k]? = W.heap[k]? := Below.heap_setCell W ⟨b, j, none⟩ v k (by show k ≠ b; exact h)
theorem put_g {W : World} {g h : Nat} {a b c d : Value} {t : TypeId} {fz : Nat × Nat} (hg : W.heap[g]? = some (.cells #[a, b, c, d] t fz)) (hne : g ≠ h) (x0 x1 x2 x3 : Value) : (putE W g h x0 x1 x2 x3).heap[g]? = some (.cells #[x0, x1, x2, x3] t fz) := by
  rw [set_far hne, set_heap (set_heap (set_heap (set_heap hg x0) x1) x2) x3]
  rfl
theorem put_h {W : World} {g h : Nat} {a : Value} {t : TypeId} {fz : Nat × Nat} (hh : W.heap[h]? = some (.cells #[a] t fz)) (hne : h ≠ g) (x0 x1 x2 x3 : Value) : (putE W g h x0 x1 x2 x3).heap[h]? = some (.cells #[.bool true] t fz) := by
  rw [set_heap (by rw [set_far hne, set_far hne, set_far hne, set_far hne]; exact hh)]
  rfl
theorem put_far {W : World} {g h k : Nat} (h1 : k ≠ g) (h2 : k ≠ h) (x0 x1 x2 x3 : Value) : (putE W g h x0 x1 x2 x3).heap[k]? = W.heap[k]? := by
  rw [set_far h2, set_far h1, set_far h1, set_far h1, set_far h1]
theorem put_keeps (B : Nat) (W : World) (g h : Nat) (x0 x1 x2 x3 : Value) : KeepsFrom B W (putE W g h x0 x1 x2 x3) :=
  (((((KeepsOthers.setCell _ _ _).trans (KeepsOthers.setCell _ _ _)).trans (KeepsOthers.setCell _ _ _)).trans (KeepsOthers.setCell _ _ _)).trans (KeepsOthers.setCell _ _ _)).from B
theorem put_below {B : Nat} {W : World} {g h : Nat} (h1 : B ≤ g) (h2 : B ≤ h) (x0 x1 x2 x3 : Value) : Below B W (putE W g h x0 x1 x2 x3) :=
  (((((Below.refl B W).setCell h1 _).setCell h1 _).setCell h1 _).setCell h1 _).setCell h2 _
theorem put_keepB {n₀ Bs : Nat} {W : World} {g h : Nat} (h1 : n₀ ≤ g) (h2 : n₀ ≤ h) (h3 : Bs ≠ g) (h4 : Bs ≠ h) (x0 x1 x2 x3 : Value) : keepB n₀ Bs W (putE W g h x0 x1 x2 x3) := by
  refine ⟨put_below h1 h2 _ _ _ _, ?_⟩
  have e := put_far (W := W) h3 h4 x0 x1 x2 x3
  simp only [World.cell?, e]

section
variable {s : Nat} {W0 w0 W : World} {l : List In} {p p' : In → Bool} {pre : List (Elem w0 l)} {q : Elem w0 l}
theorem loop00 (h : loopI s W0 w0 l p p' pre W) (h1 : p q.x = false) (h2 : p' q.x = false) : loopI s W0 w0 l p p' (pre ++ [q]) W := by
  unfold loopI
  rw [pickE_snoc, pickE_snoc, h1, h2]
  exact h
theorem loop10 (h : loopI s W0 w0 l p p' pre W) (h1 : p q.x = true) (h2 : p' q.x = false) : loopI s W0 w0 l p p' (pre ++ [q]) (putE W s (s + 2) (.int .i64 q.x.op) (.string q.x.name) (.int .i64 q.x.mode) q.v) := by
  obtain ⟨⟨i1, i2, i3, i4⟩, hB⟩ := h
  obtain ⟨_, _, _, _, e⟩ := cellsE_four (pickE p pre)
  rw [e] at i1
  unfold loopI
  rw [pickE_snoc, pickE_snoc, h1, h2]
  exact ⟨⟨put_g i1 (by omega) _ _ _ _, by rw [put_far (by omega) (by omega)]; exact i2, put_h i3 (by omega) _ _ _ _, by rw [put_far (by omega) (by omega)]; exact i4⟩, hB.trans (put_below (Nat.le_refl _) (by omega) _ _ _ _)⟩
theorem loop01 (h : loopI s W0 w0 l p p' pre W) (h1 : p q.x = false) (h2 : p' q.x = true) : loopI s W0 w0 l p p' (pre ++ [q]) (putE W (s + 1) (s + 3) (.int .i64 q.x.op) (.string q.x.name) (.int .i64 q.x.mode) q.v) := by
  obtain ⟨⟨i1, i2, i3, i4⟩, hB⟩ := h
  obtain ⟨_, _, _, _, e⟩ := cellsE_four (pickE p' pre)
  rw [e] at i2
  unfold loopI
  rw [pickE_snoc, pickE_snoc, h1, h2]
  exact ⟨⟨by rw [put_far (by omega) (by omega)]; exact i1, put_g i2 (by omega) _ _ _ _, by rw [put_far (by omega) (by omega)]; exact i3, put_h i4 (by omega) _ _ _ _⟩, hB.trans (put_below (by omega) (by omega) _ _ _ _)⟩
theorem loop11 (h : loopI s W0 w0 l p p' pre W) (h1 : p q.x = true) (h2 : p' q.x = true) : loopI s W0 w0 l p p' (pre ++ [q]) (putE (putE W s (s + 2) (.int .i64 q.x.op) (.string q.x.name) (.int .i64 q.x.mode) q.v) (s + 1) (s + 3) (.int .i64 q.x.op) (.string q.x.name) (.int .i64 q.x.mode) q.v) := by
  obtain ⟨⟨i1, i2, i3, i4⟩, hB⟩ := h
  obtain ⟨_, _, _, _, e⟩ := cellsE_four (pickE p pre)
  obtain ⟨_, _, _, _, e'⟩ := cellsE_four (pickE p' pre)
  rw [e] at i1
  rw [e'] at i2
  unfold loopI
  rw [pickE_snoc, pickE_snoc, h1, h2]
  refine ⟨⟨?_, ?_, ?_, ?_⟩, (hB.trans (put_below (Nat.le_refl _) (by omega) _ _ _ _)).trans (put_below (by omega) (by omega) _ _ _ _)⟩
  · rw [put_far (by omega) (by omega)]; exact put_g i1 (by omega) _ _ _ _
  · exact put_g (by rw [put_far (by omega) (by omega)]; exact i2) (by omega) _ _ _ _
  · rw [put_far (by omega) (by omega)]; exact put_h i3 (by omega) _ _ _ _
  · exact put_h (by rw [put_far (by omega) (by omega)]; exact i4) (by omega) _ _ _ _
end

theorem keepB_alloc {n₀ Bs : Nat} {W : World} (hn : n₀ ≤ W.heap.size) (hB : Bs < W.heap.size) (o : Obj) : keepB n₀ Bs W (W.alloc o) := by
  refine ⟨(Below.refl _ _).alloc hn o, ?_⟩
  have e : (W.alloc o).heap[Bs]? = W.heap[Bs]? := by
    show (W.heap.push o)[Bs]? = _
    rw [Array.getElem?_push_lt hB, Array.getElem?_eq_getElem hB]
  simp only [World.cell?, e]

/-- The box of the mode, and all that is laid behind it. -/
theorem mode_keep {w0 w' : World} {g : Nat} {t : TypeId} {x : Value} (h : w0.heap[g]? = some (.cells #[x] t (0, 0))) (hb : Below w0.heap.size w0 w') : w'.cell? ⟨g, 0, none⟩ = some x ∧ Below w0.heap.size w0 w' :=
  ⟨cell_of_row w' g 0 _ _ (0, 0) (keep_below h hb (Nat.le_refl _)), hb⟩

theorem box4 {w : World} {o p q r : Obj} {w1 : World} (e : w1 = (((w.alloc o).alloc p).alloc q).alloc r) :
    w1.heap[w.heap.size]? = some o ∧ w1.heap[w.heap.size + 1]? = some p ∧ w1.heap[w.heap.size + 2]? = some q ∧ w1.heap[w.heap.size + 3]? = some r ∧ Below w.heap.size w w1 ∧ w1.heap.size = w.heap.size + 4 := by
  subst e
  have k0 := heap_alloc_new w o
  have k1 := heap_alloc_new (w.alloc o) p
  have k2 := heap_alloc_new ((w.alloc o).alloc p) q
  have k3 := heap_alloc_new (((w.alloc o).alloc p).alloc q) r
  simp only [World.size_alloc] at k1 k2 k3
  exact ⟨box_alloc (box_alloc (box_alloc k0)), box_alloc (box_alloc k1), box_alloc k2, k3, ((below_two w o p).alloc (by simp; omega) q).alloc (by simp; omega) r, by simp⟩

set_option maxRecDepth 100000 in
set_option maxHeartbeats 4000000 in
theorem tableFinds_walk (c : Cp) (op : Int) (name : ByteArray) (mode reg : Int) (v0 v1 v2 v3 : Value) (w : World) (h : cpuArg w v0 v1 v2 v3 c) (hz : ∀ x ∈ c.instrs, sizedIn x) :
    Calls Try.prog 5 #[.agg #[.string c.name, v0, v1, v2, v3], .int .i64 op, .string name, .int .i64 mode, .int .i64 reg] w fun e w' => e = .returned (.bool true) ∧ Below w.heap.size w w' := by
  obtain ⟨w4, hw4⟩ : ∃ w4, w4 = (((w.alloc (.cells #[.string c.name, v0, v1, v2, v3] 26)).alloc (.cells #[.int .i64 op] 3)).alloc (.cells #[.string name] 9)).alloc (.cells #[.int .i64 mode] 3) := ⟨_, rfl⟩
  obtain ⟨kc, ko, kn, km, hA, _⟩ := box4 hw4
  have KM := Lib.hid km
  have HW4 := Lib.hid hw4
  have hw := wid_or reg
  refine (callsIn_wide (n := 6)).1 ?_
  refine callsIn_of_wp_marks Try.func5 rfl trivial ?_ rfl
  simp only [Try.ntmps5, List.size_toArray, List.length_cons, List.length_nil, Nat.reduceAdd, Nat.reduceSub, Array.replicate_succ, Array.replicate_zero, List.push_toArray, List.append_toArray, List.nil_append, List.cons_append]
  refine wpIn_wide.2 ?_
  have KC := Lib.hid kc
  have KO := Lib.hid ko
  have KN := Lib.hid kn
  clear kc ko kn km hw4
  have hreg : (reg == 7) = true ∨ ((reg == 7) = false ∧ (reg == 8) = true) ∨ ((reg == 7) = false ∧ (reg == 8) = false) := by
    cases reg == 7 <;> cases reg == 8 <;> simp
  go_upto_region 1 with fail
  rw [← HW4.out]
  have m0 := (mode_keep KM.out (Below.refl _ _)).1
  go_cut [40] from 21 to 40 (fun p wx => p = .bool false ∧ Below w4.heap.size w4 wx)
  case first =>
    rcases hreg with e7 | ⟨e7, e8⟩ | ⟨e7, e8⟩
    all_goals (first | rw [e7, e8] at hw | rw [e7, Bool.true_or] at hw)
    case' inl =>
      first | go_region_law (first
          | (go_simp; go_at_call 15; refine (tables_law _).mono ?_; rintro e w1 ⟨rfl, hb1⟩; have B1 : Below w4.heap.size w4 w1 := below_next (by first | exact Below.refl _ _ | exact (Below.refl _ _).drew) hb1; have m1 := (mode_keep KM.out B1).1)
          | (go_simp; go_at_call 14; refine (size_is _ _).mono ?_; rintro e w' ⟨rfl, rfl⟩)
          | (go_simp; go_at_call 19; refine (operand_any _ _).mono ?_; rintro e w2 ⟨rfl, hb2⟩; have B2 : Below w4.heap.size w4 w2 := below_next (by first | exact B1 | exact B1.drew) hb2; have m2 := (mode_keep KM.out B2).1)
          | (go_simp; go_at_call 20; refine (wideT_any _ _).mono ?_; rintro e w' ⟨rfl, rfl⟩; rw [hw])) | fail
    case' inr.inl | inr.inr =>
      go_region_held3 (fun w' => w'.cell? ⟨w.heap.size + 3, 0, none⟩ = some (.int .i64 mode) ∧ Below w4.heap.size w4 w')
        (first | exact mode_keep KM.out (by assumption) | exact mode_keep KM.out (Below.refl _ _) | exact mode_keep KM.out (Below.drew (Below.refl _ _)) | exact mode_keep KM.out (Below.drew (by assumption)))
        (first
          | (go_at_call 15; have hP := And.right (b := Below w4.heap.size w4 _) (by assumption); refine (tables_law _).mono ?_; rintro e w1 ⟨rfl, hb1⟩; have B1 : Below w4.heap.size w4 w1 := below_next hP hb1)
          | (go_at_call 14; refine (size_is _ _).mono ?_; rintro e w' ⟨rfl, rfl⟩)
          | (go_at_call 19; have hP := And.right (b := Below w4.heap.size w4 _) (by assumption); refine (operand_any _ _).mono ?_; rintro e w2 ⟨rfl, hb2⟩; have B2 : Below w4.heap.size w4 w2 := below_next hP hb2)
          | (go_at_call 20; refine (wideT_any _ _).mono ?_; rintro e w' ⟨rfl, rfl⟩; rw [hw]))
    all_goals
      go_wp2_with fail
      go_meet
      case rel => exact ⟨rfl, by first | exact B2 | exact B2.drew | exact And.right (b := Below w4.heap.size w4 _) (by assumption)⟩
  case rest =>
    obtain ⟨rfl, hB⟩ := hcut
    have kc := keep_below KC.out hB (Nat.le_refl _)
    have ko := keep_below KO.out hB (Nat.le_refl _)
    have kn := keep_below KN.out hB (Nat.le_refl _)
    have km := keep_below KM.out hB (Nat.le_refl _)
    have hwc := hA.trans (hB.mono hA.size)
    have h' := cpuArg_below h hwc (Nat.le_refl _)
    clear hw hreg HW4 KM KC KO KN hA hB h
    obtain ⟨h0, h1, h2, h3, _⟩ := h'
    have H0 := Lib.hid h0
    have H1 := Lib.hid h1
    have H2 := Lib.hid h2
    have H3 := Lib.hid h3
    obtain ⟨a0, p0, rfl, _, _⟩ := isArr_form h0
    obtain ⟨a1, p1, rfl, _, _⟩ := isArr_form h1
    obtain ⟨a2, p2, rfl, _, _⟩ := isArr_form h2
    obtain ⟨a3, p3, rfl, _, _⟩ := isArr_form h3
    clear h0 h1 h2 h3
    have hlt : w.heap.size + 3 < wc.heap.size := (Array.getElem?_eq_some_iff.1 km).1
    go_upto_region 5 with fail
    obtain ⟨W0, hW0⟩ : ∃ W0, W0 = (((wc.alloc (.cells #[.int .i64 0, .string ⟨#[]⟩, .int .i64 0, .slice none 0 0] 34)).alloc (.cells #[.int .i64 0, .string ⟨#[]⟩, .int .i64 0, .slice none 0 0] 34)).alloc (.cells #[.bool false] 4)).alloc (.cells #[.bool false] 4) := ⟨_, rfl⟩
    rw [← hW0]
    obtain ⟨kb, kd, ki, kh, hb0, hsz0⟩ := box4 hW0
    clear hW0
    have kc0 := keep_below kc hb0 (Nat.le_refl _)
    have ko0 := keep_below ko hb0 (Nat.le_refl _)
    have kn0 := keep_below kn hb0 (Nat.le_refl _)
    have km0 := keep_below km hb0 (Nat.le_refl _)
    have dc := cell_of_row W0 w.heap.size 1 _ _ (0, 0) kc0
    generalize hs : wc.heap.size = s at *
    go_wp2_with (go_at_call 21; refine (back_any _ _ _ _).mono ?_; rintro e w' ⟨rfl, rfl⟩)
    refine (wpIn_wide (n := 6)).1 ?_
    have hs0 : s ≤ W0.heap.size := by omega
    obtain ⟨WB, hWB⟩ : ∃ WB, WB = W0.alloc (.cells #[.slice a0 c.instrs.length p0] 23) := ⟨_, rfl⟩
    have hbB : Below s W0 WB := by rw [hWB]; exact (Below.refl _ _).alloc hs0 _
    have kB : WB.heap[s + 4]? = some (.cells #[.slice a0 c.instrs.length p0] 23 (0, 0)) := by rw [hWB, ← hsz0]; exact heap_alloc_new W0 _
    have hszB : WB.heap.size = s + 5 := by rw [hWB, World.size_alloc, hsz0]
    have hI0 : loopI s WB wc c.instrs (opIs op) (namedIs name mode) [] WB :=
      ⟨by rw [hWB]; exact ⟨box_alloc kb, box_alloc kd, box_alloc ki, box_alloc kh⟩, Below.refl _ _⟩
    have hcB := cell_of_row WB (s + 4) 0 _ _ (0, 0) kB
    rw [← hWB]
    refine wpIn_rangeFunc_ownH (F := Fence.wide) rfl (by omega) (gf := 44) (lb := #[.pointer (some ⟨s + 4, 0, none⟩)]) rfl trivial (enters_of Try.func44 (by kernel_rfl) rfl)
      (back_stops Fence.wide 5 trivial rfl (by omega) (s + 4) _ wc WB c.instrs H0.out (by rw [hs]; exact hb0.trans hbB) (by omega) hcB) keepB_t (keepB_b (by omega) (by omega)) (Below.refl _ _) (fun _ => rfl)
      (loopI s WB wc c.instrs (opIs op) (namedIs name mode)) (fun _ _ _ => False) (loopI_own s WB wc c.instrs _ _ (by omega) (by omega)) (fun _ _ _ _ _ h _ _ => h) hI0
      (fun q a' W => ∃ Bx, s + 5 ≤ Bx ∧ W.heap[Bx]? = some (.cells #[.int .i64 q.x.op, .string q.x.name, .int .i64 q.x.mode, q.v] 34 (0, 0)) ∧ a' = { tmps := #[.agg #[.string c.name, .slice a0 c.instrs.length p0, .slice a1 c.res.length p1, .slice a2 c.irq.length p2, .slice a3 c.nmi.length p3], .int .i64 op, .string name, .int .i64 mode, .int .i64 reg, .pointer (some ⟨w.heap.size, 0, none⟩), .pointer (some ⟨w.heap.size + 1, 0, none⟩), .pointer (some ⟨w.heap.size + 1 + 1, 0, none⟩), .pointer (some ⟨w.heap.size + 1 + 1 + 1, 0, none⟩), undef, .bool false, .pointer (some ⟨s, 0, none⟩), .pointer (some ⟨s + 1, 0, none⟩), .pointer (some ⟨s + 1 + 1, 0, none⟩), .pointer (some ⟨s + 1 + 1 + 1, 0, none⟩), undef, .pointer (some ⟨Bx, 0, none⟩), undef, undef, undef, undef, u21, u22, u23, u24, u25, u26, u27, u28, u29, u30, u31, u32, u33, u34, u35, u36, u37, u38, u39, .bool false, .pointer (some ⟨w.heap.size, 1, none⟩), .slice a0 c.instrs.length p0, .func (.func 44) #[] #[.pointer (some ⟨s + 4, 0, none⟩)], .int .i64 (q.i : Int), .agg #[.int .i64 q.x.op, .string q.x.name, .int .i64 q.x.mode, q.v], undef, undef, undef, undef, undef, undef, undef, undef, undef, undef, undef, undef, undef, undef, undef, undef, undef, undef, undef, undef, undef, undef, undef, undef, undef, undef, undef, undef, undef, undef, undef, undef, undef, undef, undef, undef, undef, undef, undef, undef, undef, undef, undef, undef, undef, undef, undef, undef, undef, undef, undef, undef, undef], defers := [] })
      (fun q a' => fun _ W W' row ⟨Bx, h1, h2, h3⟩ hg hr => ⟨Bx, h1, heap_own h2 hg hr, h3⟩) ?assign ?body ?done ?stop
    case assign =>
      rintro lp pre ⟨qi, qx, qv, hqx, hqv⟩ W K hI hK
      obtain ⟨ta, tcap, rfl, _, _⟩ := isArr_form hqv
      have hBW := hI.2
      have hsz := hBW.size
      simp only [encE]
      gi_wp2
      exact hK _ _ ((KeepsOthers.alloc _ _).from _) (keepB_alloc (by omega) (by omega) _) (loopI_alloc hI (by omega) _) ⟨W.heap.size, by omega, heap_alloc_new W _, rfl⟩
    case body =>
      rintro lp pre ⟨qi, qx, qv, hqx, hqv⟩ a' W hl ⟨r, hr⟩ hI ⟨Bx, hBx, hbox, rfl⟩ hlt
      have HI := Lib.hid hI
      obtain ⟨⟨i1, i2, i3, i4⟩, hBW⟩ := hI
      have HQ := Lib.hid hqv
      obtain ⟨ta, tcap, rfl, _, _⟩ := isArr_form hqv
      obtain ⟨x0, x1, x2, x3, ex⟩ := cellsE_four (pickE (opIs op) pre)
      obtain ⟨y0, y1, y2, y3, ey⟩ := cellsE_four (pickE (namedIs name mode) pre)
      rw [ex] at i1
      rw [ey] at i2
      dsimp only at hbox ⊢
      obtain ⟨m0, m1, m2, m3⟩ := cells4 hbox
      have f1 := frozenB i1 0
      have f2 := frozenB i1 1
      have f3 := frozenB i1 2
      have f4 := frozenB i1 3
      have f5 := frozenB i3 0
      have g1 := frozenB i2 0
      have g2 := frozenB i2 1
      have g3 := frozenB i2 2
      have g4 := frozenB i2 3
      have g5 := frozenB i4 0
      obtain ⟨z0, z1, z2, z3⟩ := cells4 i1
      obtain ⟨z4, z5, z6, z7⟩ := cells4 i2
      have z8 := cell_of_row W (s + 2) 0 _ _ (0, 0) i3
      have z9 := cell_of_row W (s + 3) 0 _ _ (0, 0) i4
      have hsz := hBW.size
      have n1 : s ≠ Bx := by omega
      have n2 : s + 1 ≠ Bx := by omega
      have n3 : s + 1 + 1 ≠ Bx := by omega
      have n4 : s + 1 + 1 + 1 ≠ Bx := by omega
      have dop : W.cell? ⟨w.heap.size + 1, 0, none⟩ = some (.int .i64 op) := by
        rw [hBW.cell (p := ⟨w.heap.size + 1, 0, none⟩) (by show w.heap.size + 1 < s; omega), hbB.cell (p := ⟨w.heap.size + 1, 0, none⟩) (by show w.heap.size + 1 < s; omega)]
        exact cell_of_row W0 _ 0 _ _ (0, 0) ko0
      have dnm : W.cell? ⟨w.heap.size + 1 + 1, 0, none⟩ = some (.string name) := by
        rw [hBW.cell (p := ⟨w.heap.size + 1 + 1, 0, none⟩) (by show w.heap.size + 1 + 1 < s; omega), hbB.cell (p := ⟨w.heap.size + 1 + 1, 0, none⟩) (by show w.heap.size + 1 + 1 < s; omega)]
        exact cell_of_row W0 _ 0 _ _ (0, 0) kn0
      have dmd : W.cell? ⟨w.heap.size + 1 + 1 + 1, 0, none⟩ = some (.int .i64 mode) := by
        rw [hBW.cell (p := ⟨w.heap.size + 1 + 1 + 1, 0, none⟩) (by show w.heap.size + 1 + 1 + 1 < s; omega), hbB.cell (p := ⟨w.heap.size + 1 + 1 + 1, 0, none⟩) (by show w.heap.size + 1 + 1 + 1 < s; omega)]
        exact cell_of_row W0 _ 0 _ _ (0, 0) km0
      have hcs : (name = qx.name ∧ mode = qx.mode) ∨ (name = qx.name ∧ mode ≠ qx.mode) ∨ name ≠ qx.name := by
        by_cases h1 : name = qx.name <;> by_cases h2 : mode = qx.mode <;> simp [h1, h2]
      obtain ⟨N, hN⟩ : ∃ N, namedIs name mode qx = N := ⟨_, rfl⟩
      have HN := Lib.hid hN
      cases eo : (qx.op == op)
      all_goals
        have ho : opIs op qx = _ := eo
        rcases hcs with ⟨e1, e2⟩ | ⟨e1, e2⟩ | e1
      all_goals
        first
          | (have hn : N = true := by rw [← hN]; simp [namedIs, e1, e2]
             rw [e1] at dnm
             rw [e2] at dmd
             clear hN)
          | (have hn : N = false := by rw [← hN]; simp [namedIs, e1, e2]
             have tm : (qx.mode == mode) = false := by simp; exact fun h => e2 h.symm
             rw [e1] at dnm
             clear hN)
          | (have hn : N = false := by rw [← hN]; simp [namedIs, e1]
             have tn : (qx.name.toList == name.toList) = false := bytes_ne (fun h => e1 h.symm)
             clear hN)
        subst hn
        clear e1
        try clear e2
        gi_wp2
      · exact ⟨put_keeps _ _ _ _ _ _ _ _, put_keepB (by omega) (by omega) (by omega) (by omega) _ _ _ _, loop01 HI.out ho HN.out⟩
      · exact ⟨KeepsFrom.refl _ _, keepB_refl _ _ _, loop00 HI.out ho HN.out⟩
      · exact ⟨KeepsFrom.refl _ _, keepB_refl _ _ _, loop00 HI.out ho HN.out⟩
      · exact ⟨(put_keeps _ _ _ _ _ _ _ _).trans (put_keeps _ _ _ _ _ _ _ _), keepB_t (put_keepB (by omega) (by omega) (by omega) (by omega) _ _ _ _) (put_keepB (by omega) (by omega) (by omega) (by omega) _ _ _ _), loop11 HI.out ho HN.out⟩
      · exact ⟨put_keeps _ _ _ _ _ _ _ _, put_keepB (by omega) (by omega) (by omega) (by omega) _ _ _ _, loop10 HI.out ho HN.out⟩
      · exact ⟨put_keeps _ _ _ _ _ _ _ _, put_keepB (by omega) (by omega) (by omega) (by omega) _ _ _ _, loop10 HI.out ho HN.out⟩
    case done =>
      rintro D ys W hD hS hI hK
      obtain ⟨⟨i1, i2, i3, i4⟩, hBW⟩ := hI
      obtain ⟨e1, y, e2, hy⟩ := pick_found (opIs op) hS
      obtain ⟨e3, z, e4, hz'⟩ := pick_found (namedIs name mode) hS
      have hzy := found_sized (p := opIs op) hz
      rw [e2] at i1
      rw [e4] at i2
      rw [e1] at i3
      rw [e3] at i4
      clear e1 e2 e3 e4 hS
      have hsz := hBW.size
      have hwD : w.heap.size ≤ D := by omega
      have hWc : Below s wc W := hb0.trans (hbB.trans hBW)
      have hWw : Below w.heap.size w W := hwc.trans (hWc.mono (by omega))
      have hss : wc.heap.size ≤ s := Nat.le_of_eq hs
      have qc := keep_below kc hWc hss
      have qo := keep_below ko hWc hss
      have qn := keep_below kn hWc hss
      have qm := keep_below km hWc hss
      have hcpu : cpuArg W (.slice a0 c.instrs.length p0) (.slice a1 c.res.length p1) (.slice a2 c.irq.length p2) (.slice a3 c.nmi.length p3) c :=
        cpuArg_below ⟨H0.out, H1.out, H2.out, H3.out, by assumption⟩ hWc hss
      have hyW := isArr_below cycle_keeps hy hWc hss
      have hzW := isArr_below cycle_keeps hz' hWc hss
      have HF := Lib.hid (findT_any c op _ _ _ _ W hcpu hz)
      have HN := Lib.hid (fun (W1 : World) (hb : Below W.heap.size W W1) => namedT_any c name mode _ _ _ _ W1 (cpuArg_below hcpu hb (Nat.le_refl _)) hz)
      unfold gives at HF HN
      generalize isIn (opIs op) c.instrs = FY at *
      generalize isIn (namedIs name mode) c.instrs = FZ at *
      generalize foundIn (opIs op) c.instrs = Y at *
      generalize foundIn (namedIs name mode) c.instrs = Z at *
      obtain ⟨yop, yn, ym, ycy⟩ := Y
      obtain ⟨zop, zn, zm, zcy⟩ := Z
      dsimp only at *
      have dc0 := cell_of_row W w.heap.size 0 _ _ (0, 0) qc
      have dc1 := cell_of_row W w.heap.size 1 _ _ (0, 0) qc
      have dc2 := cell_of_row W w.heap.size 2 _ _ (0, 0) qc
      have dc3 := cell_of_row W w.heap.size 3 _ _ (0, 0) qc
      have dc4 := cell_of_row W w.heap.size 4 _ _ (0, 0) qc
      have do0 := cell_of_row W _ 0 _ _ (0, 0) qo
      clear hb0 hbB kB hszB hI0 hcB hWB kb kd ki kh kc0 ko0 kn0 km0 dc kc ko kn km H0 H1 H2 H3 hz hy hz'
      go_upto_region 12 with (go_at_call 22; refine HF.out.mono ?_; rintro e w5 ⟨u, rfl, hu, hb5⟩; obtain ⟨ua, ucap, hue, _, _⟩ := isArr_form (freshArr_isArr hu); subst hue)
      obtain ⟨W1, hW1⟩ : ∃ W1, W1 = w5.alloc (.cells #[.int .i64 yop, .string yn, .int .i64 ym, .slice ua ycy.length ucap] 34) := ⟨_, rfl⟩
      rw [← hW1]
      have hz5 := hb5.size
      have b51 : Below w5.heap.size w5 W1 := by rw [hW1]; exact (Below.refl _ _).alloc (Nat.le_refl _) _
      have hW1B : Below W.heap.size W W1 := hb5.trans (b51.mono hz5)
      have r1 : W1.heap[w5.heap.size]? = some (.cells #[.int .i64 yop, .string yn, .int .i64 ym, .slice ua ycy.length ucap] 34 (0, 0)) := by rw [hW1]; exact heap_alloc_new w5 _
      have hu1 := isArr_below cycle_keeps (freshArr_isArr hu) b51 (Nat.le_refl _)
      clear hW1 hu dc0 dc1 dc2 dc3 dc4 do0 HF
      have qc1 := keep_below qc hW1B (Nat.le_refl _)
      have qn1 := keep_below qn hW1B (Nat.le_refl _)
      have qm1 := keep_below qm hW1B (Nat.le_refl _)
      have dc0 := cell_of_row W1 w.heap.size 0 _ _ (0, 0) qc1
      have dc1 := cell_of_row W1 w.heap.size 1 _ _ (0, 0) qc1
      have dc2 := cell_of_row W1 w.heap.size 2 _ _ (0, 0) qc1
      have dc3 := cell_of_row W1 w.heap.size 3 _ _ (0, 0) qc1
      have dc4 := cell_of_row W1 w.heap.size 4 _ _ (0, 0) qc1
      have dn0 := cell_of_row W1 _ 0 _ _ (0, 0) qn1
      have dm0 := cell_of_row W1 _ 0 _ _ (0, 0) qm1
      go_upto_region 13 with (go_at_call 23; refine (HN.out W1 hW1B).mono ?_; rintro e w6 ⟨v, rfl, hv, hb6⟩; obtain ⟨va, vcap, hve, _, _⟩ := isArr_form (freshArr_isArr hv); subst hve)
      obtain ⟨W2, hW2⟩ : ∃ W2, W2 = w6.alloc (.cells #[.int .i64 zop, .string zn, .int .i64 zm, .slice va zcy.length vcap] 34) := ⟨_, rfl⟩
      rw [← hW2]
      have hz6 := hb6.size
      have b62 : Below w6.heap.size w6 W2 := by rw [hW2]; exact (Below.refl _ _).alloc (Nat.le_refl _) _
      have b12 : Below W1.heap.size W1 W2 := hb6.trans (b62.mono hz6)
      have hW2B : Below W.heap.size W W2 := hW1B.trans (b12.mono hW1B.size)
      have r2 : W2.heap[w6.heap.size]? = some (.cells #[.int .i64 zop, .string zn, .int .i64 zm, .slice va zcy.length vcap] 34 (0, 0)) := by rw [hW2]; exact heap_alloc_new w6 _
      have hv2 := isArr_below cycle_keeps (freshArr_isArr hv) b62 (Nat.le_refl _)
      have hu2 := isArr_below cycle_keeps hu1 b12 (Nat.le_refl _)
      have hy2 := isArr_below cycle_keeps hyW hW2B (Nat.le_refl _)
      have hz2 := isArr_below cycle_keeps hzW hW2B (Nat.le_refl _)
      have r1' := keep_below r1 b12 (Nat.le_refl _)
      have i1' := keep_below i1 hW2B (Nat.le_refl _)
      have i2' := keep_below i2 hW2B (Nat.le_refl _)
      have i3' := keep_below i3 hW2B (Nat.le_refl _)
      have i4' := keep_below i4 hW2B (Nat.le_refl _)
      have KE := Lib.hid (fun (w' : World) (hb : Below W2.heap.size W2 w') => And.intro (cells4 (keep_below r1' hb (Nat.le_refl _))) (And.intro (cells4 (keep_below r2 hb (Nat.le_refl _))) (And.intro (cells4 (keep_below i1' hb (Nat.le_refl _))) (And.intro (cells4 (keep_below i2' hb (Nat.le_refl _))) (And.intro (cell_of_row w' (s + 2) 0 _ _ (0, 0) (keep_below i3' hb (Nat.le_refl _))) (And.intro (cell_of_row w' (s + 3) 0 _ _ (0, 0) (keep_below i4' hb (Nat.le_refl _))) hb))))))
      obtain ⟨ya, ycap, hye, _, _⟩ := isArr_form hy2
      obtain ⟨za, zcap, hze, _, _⟩ := isArr_form hz2
      subst hye
      subst hze
      have HU := Lib.hid hu2
      have HV := Lib.hid hv2
      have HY := Lib.hid hy2
      have HZ := Lib.hid hz2
      have HS := Lib.hid hzy
      clear hW2 hv hu1 hu2 hv2 hy2 hz2 hyW hzW r1 r1' r2 i1 i2 i3 i4 i1' i2' i3' i4' dc0 dc1 dc2 dc3 dc4 dn0 dm0 qc1 qn1 qm1 HN hzy
      have tFY : (FY == FY) = true := by simp
      have tFZ : (FZ == FZ) = true := by simp
      first | go_region_held3 (fun w' => (w'.cell? ⟨w5.heap.size, 0, none⟩ = some (.int .i64 yop) ∧ w'.cell? ⟨w5.heap.size, 1, none⟩ = some (.string yn) ∧ w'.cell? ⟨w5.heap.size, 2, none⟩ = some (.int .i64 ym) ∧ w'.cell? ⟨w5.heap.size, 3, none⟩ = some (.slice ua ycy.length ucap)) ∧ (w'.cell? ⟨w6.heap.size, 0, none⟩ = some (.int .i64 zop) ∧ w'.cell? ⟨w6.heap.size, 1, none⟩ = some (.string zn) ∧ w'.cell? ⟨w6.heap.size, 2, none⟩ = some (.int .i64 zm) ∧ w'.cell? ⟨w6.heap.size, 3, none⟩ = some (.slice va zcy.length vcap)) ∧ (w'.cell? ⟨s, 0, none⟩ = some (.int .i64 yop) ∧ w'.cell? ⟨s, 1, none⟩ = some (.string yn) ∧ w'.cell? ⟨s, 2, none⟩ = some (.int .i64 ym) ∧ w'.cell? ⟨s, 3, none⟩ = some (.slice ya ycy.length ycap)) ∧ (w'.cell? ⟨s + 1, 0, none⟩ = some (.int .i64 zop) ∧ w'.cell? ⟨s + 1, 1, none⟩ = some (.string zn) ∧ w'.cell? ⟨s + 1, 2, none⟩ = some (.int .i64 zm) ∧ w'.cell? ⟨s + 1, 3, none⟩ = some (.slice za zcy.length zcap)) ∧ w'.cell? ⟨s + 1 + 1, 0, none⟩ = some (.bool FY) ∧ w'.cell? ⟨s + 1 + 1 + 1, 0, none⟩ = some (.bool FZ) ∧ Below W2.heap.size W2 w')
        (first | exact KE.out _ (by assumption) | exact KE.out _ (Below.refl _ _) | exact KE.out _ (Below.drew (Below.refl _ _)) | exact KE.out _ (Below.drew (by assumption)))
        (first
          | (go_at_call 24; have hP := pick7 (w0 := W2) (by assumption); with_reducible refine (same_instr (.slice ua ycy.length ucap) (.slice ya ycy.length ycap) yop ym yop ym yn yn ycy ycy _ (isArr_below cycle_keeps HU.out hP (Nat.le_refl _)) (isArr_below cycle_keeps HY.out hP (Nat.le_refl _))).mono ?_; rintro e x1 ⟨rfl, hx1⟩; rw [decide_eq_true rfl]; have X1 : Below W2.heap.size W2 x1 := below_next hP hx1)
          | (go_at_call 24; have hP := pick7 (w0 := W2) (by assumption); with_reducible refine (same_instr (.slice va zcy.length vcap) (.slice za zcy.length zcap) zop zm zop zm zn zn zcy zcy _ (isArr_below cycle_keeps HV.out hP (Nat.le_refl _)) (isArr_below cycle_keeps HZ.out hP (Nat.le_refl _))).mono ?_; rintro e x2 ⟨rfl, hx2⟩; rw [decide_eq_true rfl]; have X2 : Below W2.heap.size W2 x2 := below_next hP hx2)
          | (go_at_call 25; have hP := pick7 (w0 := W2) (by assumption); refine (copy_any ⟨yop, yn, ym, ycy⟩ _ _ (isArr_below cycle_keeps HY.out hP (Nat.le_refl _)) HS.out.1 HS.out.2).mono ?_; rintro e x3 ⟨u3, rfl, hu3, hx3⟩; obtain ⟨ta, tcap, hte, _, _⟩ := isArr_form (freshArr_isArr hu3); subst hte; have hu4 := freshArr_isArr hu3; have X3 : Below W2.heap.size W2 x3 := below_next hP hx3)
          | (go_at_call 24; have hP := pick7 (w0 := W2) (by assumption); with_reducible refine (same_instr (.slice ta ycy.length tcap) (.slice ya ycy.length ycap) yop ym yop ym yn yn ycy ycy _ (by first | exact hu4 | exact isArr_below cycle_keeps hu4 (Below.refl _ _).drew (Nat.le_refl _)) (isArr_below cycle_keeps HY.out hP (Nat.le_refl _))).mono ?_; rintro e x4 ⟨rfl, hx4⟩; rw [decide_eq_true rfl]; have X4 : Below W2.heap.size W2 x4 := below_next hP hx4)) | fail
      all_goals
        have hBz := pick7 (w0 := W2) (by assumption)
        have hWz := hW2B.trans (hBz.mono hW2B.size)
        have hKz := keep_below hK hWz (Nat.le_refl _)
        go_wp2_with fail
        refine ⟨by simp, .inl ⟨_, _, rfl, run_takeDeferred hKz, ?_⟩⟩
        exact ⟨_, results_tmp rfl _ _ _, rfl, (hWw.trans (hWz.mono hWw.size)).trans (belowK_b (w := w) (Nat.le_refl _) _ D _ _ hwD hKz rfl rfl)⟩
    case stop =>
      rintro D c' pre W _ _ h _
      exact h.elim
end Go.Proofs.Ytnkplfimcehnmaa
