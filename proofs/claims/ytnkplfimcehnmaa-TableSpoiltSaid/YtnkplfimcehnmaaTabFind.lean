/- Contracts of package table's Find and Named. -/
import Derived.Test.YtnkplfimcehnmaaTabCopy
import Derived.Test.YtnkplfimcehnmaaTabOurs
namespace Go.Proofs.Ytnkplfimcehnmaa
open Go.RowKit

def zeroIn : In := ⟨0, ⟨#[]⟩, 0, []⟩
/-- What an instruction holds lies within what one append may ask for. -/
def sizedIn (x : In) : Prop := x.cycles.length * 48 ≤ 140737488355328 ∧ ∀ c ∈ x.cycles, c.steps.length * 32 ≤ 140737488355328
def foundIn (p : In → Bool) (l : List In) : In := (l.find? p).getD zeroIn
def isIn (p : In → Bool) (l : List In) : Bool := (l.find? p).isSome
theorem find_idx {p : In → Bool} {l : List In} {x : In} (h : l[l.findIdx p]? = some x) : foundIn p l = x ∧ isIn p l = true ∧ idxI p l = (l.findIdx p : Int) := by
  have e : l.find? p = some x := by rw [List.find?_eq_getElem?_findIdx]; exact h
  refine ⟨by unfold foundIn; rw [e]; rfl, by unfold isIn; rw [e]; rfl, ?_⟩
  unfold idxI; rw [if_pos (List.getElem?_eq_some_iff.1 h).1]
theorem find_none {p : In → Bool} {l : List In} (h : ¬ l.findIdx p < l.length) : foundIn p l = zeroIn ∧ isIn p l = false ∧ idxI p l = -1 := by
  have e : l.find? p = none := by rw [List.find?_eq_getElem?_findIdx]; exact List.getElem?_eq_none (by omega)
  refine ⟨by unfold foundIn; rw [e]; rfl, by unfold isIn; rw [e]; rfl, ?_⟩
  unfold idxI; rw [if_neg h]

/-- What a search hands back: an instruction in new memory, and whether there is one. -/
def gives (w : World) (p : In → Bool) (l : List In) (e : Ending) (w' : World) : Prop :=
  ∃ u, e = .returned (.tuple #[.agg #[.int .i64 (foundIn p l).op, .string (foundIn p l).name, .int .i64 (foundIn p l).mode, u], .bool (isIn p l)]) ∧ freshArr w.heap.size w' u (foundIn p l).cycles ∧ Below w.heap.size w w'

set_option maxRecDepth 100000 in
set_option maxHeartbeats 2000000 in
theorem find_at (fn : Nat) (caps : Array Value) (p : In → Bool) (v : Value) (l : List In) (w : World) (h : isArr 4 insR w v l) (hz : ∀ x ∈ l, sizedIn x) (hE : Enters Try.prog fn)
    (hc : ∀ (x : In) (cv : Value) (w' : World), Below w.heap.size w w' → isArr 4 cycleR w' cv x.cycles → Calls Try.prog fn (#[.agg #[.int .i64 x.op, .string x.name, .int .i64 x.mode, cv]] ++ caps) w' fun e w'' => e = .returned (.bool (p x)) ∧ Below w'.heap.size w' w'') :
    Calls Try.prog 45 #[v, .func (.func fn) #[] caps] w (gives w p l) := by
  have hA : Below w.heap.size w (w.alloc (.cells #[.int .i64 0, .string ⟨#[]⟩, .int .i64 0, .slice none 0 0] 34)) := (Below.refl _ w).alloc (Nat.le_refl _) _
  have kA := heap_alloc_new w (.cells #[.int .i64 0, .string ⟨#[]⟩, .int .i64 0, .slice none 0 0] 34)
  have HI := Lib.hid (indexFunc_at fn caps p v l _ (isArr_below ins_keeps h hA (Nat.le_refl _)) hE (fun x cv w' hb hcy => hc x cv w' (hA.trans (hb.mono hA.size)) hcy))
  have KA := Lib.hid kA
  obtain ⟨a, cap, rfl, _, hform⟩ := isArr_form h
  clear hc hE h kA
  by_cases hlt : l.findIdx p < l.length
  · obtain ⟨x, hx, _⟩ := drop_at hlt
    obtain ⟨f1, f2, f3⟩ := find_idx hx
    have hsz := hz x (List.mem_of_getElem? hx)
    unfold gives
    rw [f1, f2]
    rw [f3] at HI
    obtain ⟨b, off, rfl, hb, hcap, hcap2, cs, _, hcs, cv, rfl, hcy, _⟩ := hform _ x hx
    obtain ⟨c0, c1, c2, c3⟩ := four_cells hcs
    generalize l.findIdx p = k at *
    have HCY := Lib.hid hcy
    have HB := Lib.hid (fun (w' : World) (hbb : Below w.heap.size w w') => five_keep c0 c1 c2 c3 c3 hbb)
    obtain ⟨ca, ccap, rfl, _, _⟩ := isArr_form hcy
    obtain ⟨op, xn, xm, cyc⟩ := x
    dsimp only at c0 c1 c2 c3 hsz HCY HB ⊢
    clear hcs hx hform hz f1 f2 f3 hcy
    go_enter Try.func45, Try.ntmps45
    go_wp2_with (first
      | (go_at_call 55; refine HI.out.mono ?_; rintro e w1 ⟨rfl, hb1⟩; have B1 := hA.trans (hb1.mono hA.size); obtain ⟨m0, m1, m2, m3, _, _⟩ := HB.out _ B1; have k1 := keep_below KA.out hb1 (Nat.le_refl _))
      | (go_at_call 25; refine (copy_any ⟨op, xn, xm, cyc⟩ _ _ (isArr_below cycle_keeps HCY.out B1 (Nat.le_refl _)) hsz.1 hsz.2).mono ?_; rintro e w2 ⟨u, rfl, hu, hb2⟩; have k2 := keep_below k1 hb2 (Nat.le_refl _); obtain ⟨d0, d1, d2, d3⟩ := cells4 k2; have q0 := frozenB k2 0; have q1 := frozenB k2 1; have q2 := frozenB k2 2; have q3 := frozenB k2 3; obtain ⟨ua, ucap, rfl, _, _⟩ := isArr_form (freshArr_isArr hu)))
    refine bodyPost_ret (v := .tuple #[.agg #[_, _, _, _], _]) (by simp [results, Try.results45, go_sem, d0, d1, d2, d3]; first | exact ⟨⟨rfl, rfl, rfl, rfl⟩, rfl⟩ | rfl) rfl ?_
    have hq : w.heap.size < w1.heap.size := Nat.lt_of_lt_of_le (by simp) hb1.size
    refine ⟨_, rfl, freshArr_mono (freshArr_set (freshArr_set (freshArr_set (freshArr_set hu hq _ _) hq _ _) hq _ _) hq _ _) (by omega), ?_⟩
    have hB2 := B1.trans (hb2.mono B1.size)
    exact (((hB2.setCell (Nat.le_refl _) _).setCell (Nat.le_refl _) _).setCell (Nat.le_refl _) _).setCell (Nat.le_refl _) _
  · obtain ⟨f1, f2, f3⟩ := find_none hlt
    unfold gives
    rw [f1, f2]
    rw [f3] at HI
    clear hform hz f1 f2 f3
    go_enter Try.func45, Try.ntmps45
    go_wp2_with (first
      | (go_at_call 55; refine HI.out.mono ?_; rintro e w1 ⟨rfl, hb1⟩; have B1 := hA.trans (hb1.mono hA.size); have k1 := keep_below KA.out hb1 (Nat.le_refl _); obtain ⟨d0, d1, d2, d3⟩ := cells4 k1; have q0 := frozenB k1 0; have q1 := frozenB k1 1; have q2 := frozenB k1 2; have q3 := frozenB k1 3))
    refine bodyPost_ret (v := .tuple #[.agg #[_, _, _, _], _]) (by simp [results, Try.results45, go_sem, d0, d1, d2, d3]; first | exact ⟨⟨rfl, rfl, rfl, rfl⟩, rfl⟩ | rfl) rfl ?_
    refine ⟨_, rfl, freshArr_nil _ _ _ _, ?_⟩
    exact (((B1.setCell (Nat.le_refl _) _).setCell (Nat.le_refl _) _).setCell (Nat.le_refl _) _).setCell (Nat.le_refl _) _

def opIs (op : Int) (x : In) : Bool := x.op == op
theorem find1_at (g : Nat) (op : Int) (x : In) (cv : Value) (w : World) (hm : w.heap[g]? = some (.cells #[.int .i64 op] 3 (0, 0))) (hcy : isArr 4 cycleR w cv x.cycles) :
    Calls Try.prog 46 #[.agg #[.int .i64 x.op, .string x.name, .int .i64 x.mode, cv], .pointer (some ⟨g, 0, none⟩)] w fun e w' => e = .returned (.bool (opIs op x)) ∧ Below w.heap.size w w' := by
  obtain ⟨xo, xn, xm, cyc⟩ := x
  dsimp only at hcy ⊢
  have km := cell_of_row w g 0 _ _ (0, 0) hm
  have lm : g < w.heap.size := (Array.getElem?_eq_some_iff.1 hm).1
  obtain ⟨ca, ccap, rfl, _, _⟩ := isArr_form hcy
  clear hm hcy
  go_enter Try.func46, Try.ntmps46
  go_wp2_with fail
  go_ret
  exact ⟨rfl, (Below.refl _ _).alloc (Nat.le_refl _) _⟩

theorem box3 {w : World} {o p q : Obj} {w' : World} (hb : Below (((w.alloc o).alloc p).alloc q).heap.size (((w.alloc o).alloc p).alloc q) w') :
    w'.heap[w.heap.size]? = some o ∧ w'.heap[w.heap.size + 1]? = some p ∧ w'.heap[w.heap.size + 2]? = some q ∧ Below w.heap.size w w' := by
  have k0 := heap_alloc_new w o
  have k1 := heap_alloc_new (w.alloc o) p
  have k2 := heap_alloc_new ((w.alloc o).alloc p) q
  simp only [World.size_alloc] at k1 k2
  have hA : Below w.heap.size w (((w.alloc o).alloc p).alloc q) := (below_two w o p).alloc (by simp; omega) q
  exact ⟨keep_below (box_alloc (box_alloc k0)) hb (Nat.le_refl _), keep_below (box_alloc k1) hb (Nat.le_refl _), keep_below k2 hb (Nat.le_refl _), hA.trans (hb.mono hA.size)⟩

/-- The four cells of a box of the caller's, set when a search has come back. -/
theorem fresh_box {lo lo' : Nat} {w : World} {v : Value} {l : List Cy} (h : freshArr lo w v l) {q : Nat} (hq : q < lo) (hl : lo' ≤ lo) (x0 x1 x2 x3 : Value) :
    freshArr lo' ((((w.setCell ⟨q, 0, none⟩ x0).setCell ⟨q, 1, none⟩ x1).setCell ⟨q, 2, none⟩ x2).setCell ⟨q, 3, none⟩ x3) v l :=
  freshArr_mono (freshArr_set (freshArr_set (freshArr_set (freshArr_set h hq _ _) hq _ _) hq _ _) hq _ _) hl
theorem below_box {B : Nat} {a w : World} (h : Below B a w) {q : Nat} (hq : B ≤ q) (x0 x1 x2 x3 : Value) :
    Below B a ((((w.setCell ⟨q, 0, none⟩ x0).setCell ⟨q, 1, none⟩ x1).setCell ⟨q, 2, none⟩ x2).setCell ⟨q, 3, none⟩ x3) :=
  (((h.setCell hq _).setCell hq _).setCell hq _).setCell hq _

theorem find_here (c : Cp) (op : Int) (v0 : Value) (w : World) (h : isArr 4 insR w v0 c.instrs) (hz : ∀ x ∈ c.instrs, sizedIn x) (o q : Obj) :
    Calls Try.prog 45 #[v0, .func (.func 46) #[] #[.pointer (some ⟨w.heap.size + 1, 0, none⟩)]] (((w.alloc o).alloc (.cells #[.int .i64 op] 3)).alloc q) fun e w' =>
      ∃ u, e = .returned (.tuple #[.agg #[.int .i64 (foundIn (opIs op) c.instrs).op, .string (foundIn (opIs op) c.instrs).name, .int .i64 (foundIn (opIs op) c.instrs).mode, u], .bool (isIn (opIs op) c.instrs)]) ∧
        freshArr (w.heap.size + 3) w' u (foundIn (opIs op) c.instrs).cycles ∧ Below w.heap.size w w' ∧ w'.heap[w.heap.size + 2]? = some q := by
  obtain ⟨_, _, _, hA⟩ := box3 (w := w) (o := o) (p := .cells #[.int .i64 op] 3) (q := q) (Below.refl _ _)
  refine (find_at 46 #[.pointer (some ⟨w.heap.size + 1, 0, none⟩)] (opIs op) v0 c.instrs _ (isArr_below ins_keeps h hA (Nat.le_refl _)) hz (enters_of Try.func46 (by kernel_rfl) rfl) (fun x cv w' hb hcy => ?_)).mono ?_
  · obtain ⟨_, k1, _, _⟩ := box3 hb
    exact find1_at (w.heap.size + 1) op x cv w' k1 hcy
  · rintro e w' ⟨u, he, hu, hb⟩
    obtain ⟨_, _, k2, hB⟩ := box3 hb
    refine ⟨u, he, ?_, hB, k2⟩
    simpa using hu

set_option maxRecDepth 100000 in
set_option maxHeartbeats 1000000 in
theorem findT_any (c : Cp) (op : Int) (v0 v1 v2 v3 : Value) (w : World) (h : cpuArg w v0 v1 v2 v3 c) (hz : ∀ x ∈ c.instrs, sizedIn x) :
    Calls Try.prog 22 #[.agg #[.string c.name, v0, v1, v2, v3], .int .i64 op] w (gives w (opIs op) c.instrs) := by
  have hmf := mkFunc
  obtain ⟨h0, h1, h2, h3, _⟩ := h
  have HF := Lib.hid (find_here c op v0 w h0 hz)
  obtain ⟨a0, p0, rfl, _, _⟩ := isArr_form h0
  obtain ⟨a1, p1, rfl, _, _⟩ := isArr_form h1
  obtain ⟨a2, p2, rfl, _, _⟩ := isArr_form h2
  obtain ⟨a3, p3, rfl, _, _⟩ := isArr_form h3
  clear h0 h1 h2 h3 hz
  unfold gives
  generalize isIn (opIs op) c.instrs = F at *
  generalize foundIn (opIs op) c.instrs = y at *
  go_enter Try.func22, Try.ntmps22
  go_wp2_with (go_at_call 45; refine (HF.out _ _).mono ?_; rintro e w2 ⟨u, rfl, hu, B2, k2⟩; obtain ⟨d0, d1, d2, d3⟩ := cells4 k2; have q0 := frozenB k2 0; have q1 := frozenB k2 1; have q2 := frozenB k2 2; have q3 := frozenB k2 3; obtain ⟨ua, ucap, rfl, _, _⟩ := isArr_form (freshArr_isArr hu))
  refine bodyPost_ret (v := .tuple #[.agg #[_, _, _, _], _]) (by simp [results, Try.results22, go_sem, d0, d1, d2, d3]; first | exact ⟨⟨rfl, rfl, rfl, rfl⟩, rfl⟩ | rfl) rfl ?_
  exact ⟨_, rfl, fresh_box hu (by omega) (by omega) _ _ _ _, below_box B2 (by omega) _ _ _ _⟩

theorem box4d {w : World} {o q p r : Obj} {w1 : World} (e : (((w.alloc o).alloc q).drew.alloc p).alloc r = w1) :
    w1.heap[w.heap.size]? = some o ∧ w1.heap[w.heap.size + 1]? = some q ∧ w1.heap[w.heap.size + 2]? = some p ∧ w1.heap[w.heap.size + 3]? = some r ∧ Below w.heap.size w w1 ∧ w1.heap.size = w.heap.size + 4 := by
  subst e
  have e2 : ((w.alloc o).alloc q).drew.heap.size = w.heap.size + 2 := by show ((w.alloc o).alloc q).heap.size = _; simp
  have k1 := heap_alloc_new (w.alloc o) q
  rw [World.size_alloc] at k1
  have k1' : ((w.alloc o).alloc q).drew.heap[w.heap.size + 1]? = some q := k1
  have k2 := heap_alloc_new ((w.alloc o).alloc q).drew p
  rw [e2] at k2
  have e3 : (((w.alloc o).alloc q).drew.alloc p).heap.size = w.heap.size + 3 := by rw [World.size_alloc, e2]
  have k3 := heap_alloc_new (((w.alloc o).alloc q).drew.alloc p) r
  rw [e3] at k3
  have hA : Below w.heap.size w (((w.alloc o).alloc q).drew) := (below_two w o q).drew
  have k0 : ((w.alloc o).alloc q).drew.heap[w.heap.size]? = some o := box_alloc (heap_alloc_new w o)
  exact ⟨box_alloc (box_alloc k0), box_alloc (box_alloc k1'), box_alloc k2, k3, (hA.alloc (by rw [e2]; omega) p).alloc (by rw [e3]; omega) r, by rw [World.size_alloc, e3]⟩

/-- Instructions with a name and a mode. -/
def namedIs (name : ByteArray) (mode : Int) (x : In) : Bool := decide (name = x.name) && decide (mode = x.mode)
theorem named_here (c : Cp) (name : ByteArray) (mode : Int) (v0 : Value) (w w1 : World) (h : isArr 4 insR w v0 c.instrs) (hz : ∀ x ∈ c.instrs, sizedIn x) (o q : Obj)
    (e : (((w.alloc o).alloc q).drew.alloc (.cells #[.string name] 9)).alloc (.cells #[.int .i64 mode] 3) = w1) :
    Calls Try.prog 45 #[v0, .func (.func 65) #[] #[.pointer (some ⟨w.heap.size + 3, 0, none⟩), .pointer (some ⟨w.heap.size + 2, 0, none⟩)]] w1 fun e w' =>
      ∃ u, e = .returned (.tuple #[.agg #[.int .i64 (foundIn (namedIs name mode) c.instrs).op, .string (foundIn (namedIs name mode) c.instrs).name, .int .i64 (foundIn (namedIs name mode) c.instrs).mode, u], .bool (isIn (namedIs name mode) c.instrs)]) ∧
        freshArr (w.heap.size + 4) w' u (foundIn (namedIs name mode) c.instrs).cycles ∧ Below w.heap.size w w' ∧ w'.heap[w.heap.size + 1]? = some q := by
  obtain ⟨_, k1, k2, k3, hA, hsz⟩ := box4d e
  refine (find_at 65 #[.pointer (some ⟨w.heap.size + 3, 0, none⟩), .pointer (some ⟨w.heap.size + 2, 0, none⟩)] (namedIs name mode) v0 c.instrs _ (isArr_below ins_keeps h hA (Nat.le_refl _)) hz (enters_of Try.func65 (by kernel_rfl) rfl) (fun x cv w' hb hcy => ?_)).mono ?_
  · exact called_at (w.heap.size + 3) (w.heap.size + 2) name mode x cv w' (keep_below k3 hb (Nat.le_refl _)) (keep_below k2 hb (Nat.le_refl _)) hcy
  · rintro e w' ⟨u, he, hu, hb⟩
    rw [hsz] at hu
    exact ⟨u, he, hu, hA.trans (hb.mono hA.size), keep_below k1 hb (Nat.le_refl _)⟩

set_option maxRecDepth 100000 in
set_option maxHeartbeats 1000000 in
theorem namedT_any (c : Cp) (name : ByteArray) (mode : Int) (v0 v1 v2 v3 : Value) (w : World) (h : cpuArg w v0 v1 v2 v3 c) (hz : ∀ x ∈ c.instrs, sizedIn x) :
    Calls Try.prog 23 #[.agg #[.string c.name, v0, v1, v2, v3], .string name, .int .i64 mode] w (gives w (namedIs name mode) c.instrs) := by
  obtain ⟨h0, h1, h2, h3, _⟩ := h
  obtain ⟨a0, p0, rfl, _, _⟩ := isArr_form h0
  obtain ⟨a1, p1, rfl, _, _⟩ := isArr_form h1
  obtain ⟨a2, p2, rfl, _, _⟩ := isArr_form h2
  obtain ⟨a3, p3, rfl, _, _⟩ := isArr_form h3
  have HF := Lib.hid (fun w1 o q => named_here c name mode _ w w1 h0 hz o q)
  clear h0 h1 h2 h3 hz
  unfold gives
  generalize isIn (namedIs name mode) c.instrs = F at *
  generalize foundIn (namedIs name mode) c.instrs = y at *
  go_enter Try.func23, Try.ntmps23
  go_wp2_with fail
  go_region_law (first
    | (go_simp; go_at_call 47; refine (called_mk _ _ _).mono ?_; rintro e w1 ⟨rfl, hw1⟩; have b1 := cell_of_row w1 w.heap.size 1 _ _ (0, 0) (box4d hw1).1)
    | (go_simp; go_at_call 45; refine (HF.out _ _ _ hw1).mono ?_; rintro e w2 ⟨u, rfl, hu, B2, k2⟩; clear hw1; obtain ⟨d0, d1, d2, d3⟩ := cells4 k2; have q0 := frozenB k2 0; have q1 := frozenB k2 1; have q2 := frozenB k2 2; have q3 := frozenB k2 3; obtain ⟨ua, ucap, rfl, _, _⟩ := isArr_form (freshArr_isArr hu)))
  all_goals
    go_wp2_with fail
    refine bodyPost_ret (v := .tuple #[.agg #[_, _, _, _], _]) (by simp [results, Try.results23, go_sem, d0, d1, d2, d3]; first | exact ⟨⟨rfl, rfl, rfl, rfl⟩, rfl⟩ | rfl) rfl ?_
    exact ⟨_, rfl, fresh_box hu (by omega) (by omega) _ _ _ _, below_box B2 (by omega) _ _ _ _⟩
end Go.Proofs.Ytnkplfimcehnmaa
