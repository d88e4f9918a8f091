/- A part of the proof of ChipTicks: Row, LinT. -/
import Derived.Test.YtakaebjojgeehaaGreatChipTicksK01
import Derived.Test.YtakaebjojgeehaaGreatChipTicksK02
import Derived.Test.YtakaebjojgeehaaGreatChipTicksK03
import Derived.Below
import Derived.BigQuiet
import Derived.Deep.Draws
import Derived.Deep.MidRow
import Derived.Deep.OwnRows
import Derived.Deep.QuietTactic
import Derived.Deep.WholeRow
import Derived.Lib.Hide
import Derived.OrdersHeld
import Derived.OwnWalk
import Derived.RowKit3
import Derived.StillTactics
import Derived.StillTail
import Derived.WalkKit
namespace Go.Proofs.YtakaebjojgeehaaGreat
open Go.RowKit
/-- The block g is the row cs, of the call's own. -/
def rowB (w : World) (g : Nat) (t : TypeId) (cs : Array Value) : Prop := w.heap[g]? = some (.cells cs t (0, 0))
section
variable {w : World} {g : Nat} {t : TypeId} {cs : Array Value}
theorem rowB_cell (h : rowB w g t cs) (k : Nat) {v : Value} (hk : cs[k]? = some v) : w.cell? ⟨g, k, none⟩ = some v := by
  rw [cell_of_row w g k _ t (0, 0) h, hk]
theorem rowB_free (h : rowB w g t cs) (k : Nat) : w.frozen? ⟨g, k, none⟩ = false := frozen_of_row w g k _ t h
theorem rowB_lt (h : rowB w g t cs) : g < w.heap.size := (Array.getElem?_eq_some_iff.1 h).1
theorem rowB_set (h : rowB w g t cs) (k : Nat) (v : Value) : rowB (w.setCell ⟨g, k, none⟩ v) g t (cs.setIfInBounds k v) := by
  unfold rowB; rw [heap_setCell_same w g k _ t _ h]
theorem rowB_eq {cs' : Array Value} (h : rowB w g t cs) (e : cs = cs') : rowB w g t cs' := e ▸ h
theorem rowB_alloc (h : rowB w g t cs) (o : Obj) : rowB (w.alloc o) g t cs := by
  have hlt := rowB_lt h
  unfold rowB at *
  rw [← h]
  show (w.heap.push o)[g]? = _
  rw [Array.getElem?_push_lt hlt, Array.getElem?_eq_getElem hlt]
theorem rowB_new (w : World) (t : TypeId) (cs : Array Value) : rowB (w.alloc (.cells cs t)) w.heap.size t cs := heap_alloc_last w _
theorem rowB_other (h : rowB w g t cs) (a : Addr) (v : Value) (hg : a.block ≠ g) : rowB (w.setCell a v) g t cs := by
  unfold rowB; rw [heap_setCell_other w a g v (fun e => hg e.symm)]; exact h
theorem rowB_below {B : Nat} {w' : World} (h : rowB w g t cs) (hb : Below B w w') (hg : g < B) : rowB w' g t cs := by
  unfold rowB at *; rw [← h]; exact hb.block g hg
theorem rowB_row (h : rowB w g t cs) (cs' : Array Value) : rowB (w.setRow g cs') g t cs' := setRow_heap w g _ cs' t (0, 0) h
theorem rowB_row_other {k : Nat} (h : rowB w k t cs) (c : Array Value) (hg : g ≠ k) : rowB (w.setRow g c) k t cs := by
  unfold rowB at *
  rw [← h]
  simp only [World.setRow, Array.getElem?_modify]
  rw [if_neg hg]
/-- The cells cs from k on, replaced by vs. -/
def putsA (cs : Array Value) : Nat → List Value → Array Value
  | _, [] => cs
  | k, v :: r => putsA (cs.setIfInBounds k v) (k + 1) r
theorem rowB_puts {w : World} {cs : Array Value} (h : rowB w g t cs) (k : Nat) (vs : List Value) : rowB (w.setCells g k vs) g t (putsA cs k vs) := by
  induction vs generalizing w cs k with
  | nil => exact h
  | cons v r ih => exact ih (rowB_set h k v) (k + 1)
theorem rowB_puts_other {w : World} (h : rowB w g t cs) {b : Nat} (hb : b ≠ g) (k : Nat) (vs : List Value) : rowB (w.setCells b k vs) g t cs := by
  induction vs generalizing w k with
  | nil => exact h
  | cons v r ih => exact ih (rowB_other h _ _ hb) (k + 1)
theorem below_puts {B : Nat} {a w : World} (h : Below B a w) {b : Nat} (hb : B ≤ b) (k : Nat) (vs : List Value) : Below B a (w.setCells b k vs) := by
  induction vs generalizing w k with
  | nil => exact h
  | cons v r ih => exact ih (h.setCell (p := ⟨b, k, none⟩) hb v) (k + 1)
theorem size_row (w : World) (b : Nat) (c : Array Value) : (w.setRow b c).heap.size = w.heap.size := by simp [World.setRow]
/-- Blocks made one behind the other. -/
theorem boxes1 (w : World) (o : Obj) : (w.alloc o).heap[w.heap.size]? = some o ∧ Below w.heap.size w (w.alloc o) ∧ (w.alloc o).heap.size = w.heap.size + 1 :=
  ⟨heap_alloc_last w o, (Below.refl _ w).alloc (Nat.le_refl _) o, by simp⟩
theorem keepO {w : World} {g : Nat} {o : Obj} (h : w.heap[g]? = some o) (p : Obj) : (w.alloc p).heap[g]? = some o := by
  have hlt := (Array.getElem?_eq_some_iff.1 h).1
  rw [← h]
  show (w.heap.push p)[g]? = _
  rw [Array.getElem?_push_lt hlt, Array.getElem?_eq_getElem hlt]
theorem boxes2 (w : World) (o p : Obj) : ((w.alloc o).alloc p).heap[w.heap.size]? = some o ∧ ((w.alloc o).alloc p).heap[w.heap.size + 1]? = some p ∧ Below w.heap.size w ((w.alloc o).alloc p) ∧ ((w.alloc o).alloc p).heap.size = w.heap.size + 2 := by
  obtain ⟨h1, h2, h3⟩ := boxes1 w o
  obtain ⟨k1, k2, k3⟩ := boxes1 (w.alloc o) p
  rw [h3] at k1 k3
  exact ⟨keepO h1 p, k1, h2.alloc (by omega) p, k3⟩
theorem boxes3 (w : World) (o p q : Obj) : (((w.alloc o).alloc p).alloc q).heap[w.heap.size]? = some o ∧ (((w.alloc o).alloc p).alloc q).heap[w.heap.size + 1]? = some p ∧ (((w.alloc o).alloc p).alloc q).heap[w.heap.size + 2]? = some q ∧ Below w.heap.size w (((w.alloc o).alloc p).alloc q) ∧ (((w.alloc o).alloc p).alloc q).heap.size = w.heap.size + 3 := by
  obtain ⟨h1, h2, h3, h4⟩ := boxes2 w o p
  obtain ⟨k1, k2, k3⟩ := boxes1 ((w.alloc o).alloc p) q
  rw [h4] at k1 k3
  exact ⟨keepO h1 q, keepO h2 q, k1, h3.alloc (by omega) q, k3⟩
theorem boxes4 (w : World) (o p q r : Obj) : ((((w.alloc o).alloc p).alloc q).alloc r).heap[w.heap.size]? = some o ∧ ((((w.alloc o).alloc p).alloc q).alloc r).heap[w.heap.size + 1]? = some p ∧ ((((w.alloc o).alloc p).alloc q).alloc r).heap[w.heap.size + 2]? = some q ∧ ((((w.alloc o).alloc p).alloc q).alloc r).heap[w.heap.size + 3]? = some r ∧ Below w.heap.size w ((((w.alloc o).alloc p).alloc q).alloc r) ∧ ((((w.alloc o).alloc p).alloc q).alloc r).heap.size = w.heap.size + 4 := by
  obtain ⟨h1, h2, h3, h4, h5⟩ := boxes3 w o p q
  obtain ⟨k1, k2, k3⟩ := boxes1 (((w.alloc o).alloc p).alloc q) r
  rw [h5] at k1 k3
  exact ⟨keepO h1 r, keepO h2 r, keepO h3 r, k1, h4.alloc (by omega) r, k3⟩
end
/-- A struct or an array of n cells, as a type of this program. -/
def isAg (P : Program) (ty : TypeId) (n : Nat) : Prop := (∃ d, P.underlying ty = some d ∧ d.isRow = true) ∧ (P.info? ty).map (·.size) = some n
section
variable {P : Program} {ops : Array Oper} {rest : List Oper} {o : Oper} {a : Act} {w : World} {Q : Exit → Act → World → Prop}
/-- A whole row is loaded, or stored. -/
theorem wpList_loadR (hgd : o.guard = none) (ty : TypeId) (x : Operand) (ho : o.op = .load ty x)
    (g : Nat) (hx : a.eval x = .pointer (some ⟨g, 0, none⟩)) (t : TypeId) (cs : Array Value) (hg : rowB w g t cs) (h9 : isAg P ty cs.size)
    (h : wpList P ops Q rest (a.put o.dst (.agg cs)) w) : wpList P ops Q (o :: rest) a w := by
  obtain ⟨⟨d, hu, hd⟩, hi⟩ := h9
  exact wpList_load_row hgd ty x ho g hx t cs (0, 0) d hg hu (by cases d <;> simp_all) hi h
theorem wpList_loadRg (hgd : Region.wanted o (yielded ops a.tmps) = true) (ty : TypeId) (x : Operand) (ho : o.op = .load ty x)
    (g : Nat) (hx : a.eval x = .pointer (some ⟨g, 0, none⟩)) (t : TypeId) (cs : Array Value) (hg : rowB w g t cs) (h9 : isAg P ty cs.size)
    (h : wpList P ops Q rest (a.put o.dst (.agg cs)) w) : wpList P ops Q (o :: rest) a w := by
  obtain ⟨⟨d, hu, hd⟩, hi⟩ := h9
  refine wpList_step fun K hK => ?_
  simp only [hgd, if_true]
  exact wp_load_row ty x ho g hx t cs (0, 0) d hg hu (by cases d <;> simp_all) hi (hK _ _ h)
theorem wpList_storeR (hgd : o.guard = none) (ty : TypeId) (x y : Operand) (ho : o.op = .store ty x y)
    (g : Nat) (hx : a.eval x = .pointer (some ⟨g, 0, none⟩)) (cs : Array Value) (hy : a.eval y = .agg cs) (h1 : cs.all (·.oneCell') = true) (t : TypeId) (c0 : Array Value) (hs : c0.size = cs.size) (hg : rowB w g t c0) (h9 : isAg P ty cs.size)
    (h : wpList P ops Q rest (a.put o.dst undef) (w.setRow g cs)) : wpList P ops Q (o :: rest) a w := by
  obtain ⟨⟨d, hu, hd⟩, hi⟩ := h9
  exact wpList_store_row hgd ty x y ho g cs hx hy t c0 hg hi hs h1 h
/-- The head of a row is loaded, or stored. -/
theorem wpList_loadH (hgd : o.guard = none) (ty : TypeId) (x : Operand) (ho : o.op = .load ty x)
    (g : Nat) (hx : a.eval x = .pointer (some ⟨g, 0, none⟩)) (cs : Array Value) (t : TypeId) (ds : Array Value) (hg : rowB w g t ds) (hp : ∀ (j : Nat) (v : Value), cs[j]? = some v → ds[j]? = some v) (h9 : isAg P ty cs.size)
    (h : wpList P ops Q rest (a.put o.dst (.agg cs)) w) : wpList P ops Q (o :: rest) a w := by
  obtain ⟨⟨d, hu, hd⟩, hi⟩ := h9
  refine wpList_load_mid hgd ty x ho g 0 hx cs.toList d (fun j v hv => ?_) hu hd (by simpa using hi) (by simpa using h)
  rw [Nat.zero_add]
  exact rowB_cell hg j (hp j v (by simpa using hv))
end
/-- A function's results, structs in variables. -/
theorem resultsR {P : Program} {fn : Func} {p : Tmp} {ty : TypeId} (h : fn.results = #[.cell p ty])
    (g : Nat) (tmps : Array Value) (hp : tmps.getD p undef = .pointer (some ⟨g, 0, none⟩)) {w : World} {t : TypeId} {cs : Array Value} (hb : rowB w g t cs) (h9 : isAg P ty cs.size) :
    (results fn tmps).run P w = .ok (.agg cs) w := by
  obtain ⟨⟨d, hu, hd⟩, hi⟩ := h9
  exact results_cell_row h tmps w g t cs (0, 0) _ hp hb hu (by cases d <;> simp_all) hi
/-- A whole row is loaded, in whatever world holds it. -/
theorem exec_rowR {P : Program} {o : Oper} {a : Act} {w : World} (ty : TypeId) (x : Operand) (ho : o.op = .load ty x)
    (g : Nat) (hx : a.eval x = .pointer (some ⟨g, 0, none⟩)) (t : TypeId) (cs : Array Value) (hg : rowB w g t cs) (h9 : isAg P ty cs.size) : (execOp a.eval o).run P w = .ok (.value (.agg cs)) w := by
  obtain ⟨⟨d, hu, hd⟩, hi⟩ := h9
  unfold execOp
  simp only [ho, hx, Instr.loadAt, Instr.sureAddr, Sem.run_bind, Sem.run_pure, Result.andThen_ok, run_loadVar_row w g t ty cs (0, 0) _ hg hu (by cases d <;> simp_all) hi]
end Go.Proofs.YtakaebjojgeehaaGreat
namespace Go.Proofs.YtakaebjojgeehaaGreat
open Go
/-- The orders: 'rd', what yields in every world that meets S; 'one', 'two', 'three', the operations that may come up, S behind each; 'mix', the rest in one order. -/
inductive Tr where
  | mix (st : List (Nat × Nat))
  | rd (i : Nat) (t : Tr)
  | one (i : Nat) (t : Tr)
  | two (i : Nat) (t : Tr) (j : Nat) (u : Tr)
  | three (i : Nat) (t : Tr) (j : Nat) (u : Tr) (k : Nat) (v : Tr)
/-- .. with the operations themselves. -/
inductive TrO where
  | mix (st : List (Oper × Nat))
  | rd (o : Oper) (t : TrO)
  | one (o : Oper) (t : TrO)
  | two (o : Oper) (t : TrO) (p : Oper) (u : TrO)
  | three (o : Oper) (t : TrO) (p : Oper) (u : TrO) (q : Oper) (v : TrO)
def Tr.put (l : List Oper) : Tr → TrO
  | .mix st => .mix (st.map fun x => (opOf l x.1, x.2))
  | .rd i t => .rd (opOf l i) (t.put l)
  | .one i t => .one (opOf l i) (t.put l)
  | .two i t j u => .two (opOf l i) (t.put l) (opOf l j) (u.put l)
  | .three i t j u k v => .three (opOf l i) (t.put l) (opOf l j) (u.put l) (opOf l k) (v.put l)
def Tr.len : Tr → Nat
  | .mix st => st.length
  | .rd _ t => t.len + 1
  | .one _ t => t.len + 1
  | .two _ t _ _ => t.len + 1
  | .three _ t _ _ _ _ => t.len + 1
section
variable {P : Program} {ops : Array Oper} {Q : Exit → Act → World → Prop} {md : Region.Mode} {S : World → Prop} {R N : Nat → Bool}
def wpTr (P : Program) (ops : Array Oper) (Q : Exit → Act → World → Prop) (S : World → Prop) : TrO → Act → World → Prop
  | .mix st, a, w => wpMix P ops Q S st a w
  | .rd o t, a, w => S w ∧ ∃ v, YieldsC P ops S o v a ∧ wpTr P ops Q S t (a.put o.dst v) w
  | .one o t, a, w => wpList P ops (Exit.then (fun a' w' => S w' ∧ wpTr P ops Q S t a' w') Q) [o] a w
  | .two o t p u, a, w => wpList P ops (Exit.then (fun a' w' => S w' ∧ wpTr P ops Q S t a' w') Q) [o] a w ∧ wpList P ops (Exit.then (fun a' w' => S w' ∧ wpTr P ops Q S u a' w') Q) [p] a w
  | .three o t p u q v, a, w => wpList P ops (Exit.then (fun a' w' => S w' ∧ wpTr P ops Q S t a' w') Q) [o] a w ∧ wpList P ops (Exit.then (fun a' w' => S w' ∧ wpTr P ops Q S u a' w') Q) [p] a w ∧ wpList P ops (Exit.then (fun a' w' => S w' ∧ wpTr P ops Q S v a' w') Q) [q] a w
def trB (md : Region.Mode) (ops : Array Oper) (R N : Nat → Bool) : Tr → Array Bool → Bool
  | .mix st, listed => mixB md ops R N st listed
  | .rd i t, listed => (Region.ready md ops listed).contains i && Region.free md ops listed i && R i && blkB md ops (aheadB md ops i) listed i && okB ops (aheadB md ops i) (fun j => R j || N j) listed && trB md ops R N t (listed.setIfInBounds i true)
  | .one i t, listed => decide (Region.ready md ops listed = [i]) && !R i && trB md ops R N t (listed.setIfInBounds i true)
  | .two i t j u, listed => decide (Region.ready md ops listed = [i, j]) && !R i && !R j && decide (u.len = t.len) && trB md ops R N t (listed.setIfInBounds i true) && trB md ops R N u (listed.setIfInBounds j true)
  | .three i t j u k v, listed => decide (Region.ready md ops listed = [i, j, k]) && !R i && !R j && !R k && decide (u.len = t.len) && decide (v.len = t.len) && trB md ops R N t (listed.setIfInBounds i true) && trB md ops R N u (listed.setIfInBounds j true) && trB md ops R N v (listed.setIfInBounds k true)
theorem X_tr {l : List Oper} (hs : Region.noSelect l.toArray = true) (hQ : ∀ c a w d v, Q (.panic c) (a.put d v) w → Q (.panic c) a w) :
    ∀ (t : Tr) (listed : Array Bool) (a : Act) (w : World), listed.size = l.toArray.size → trB md l.toArray R N t listed = true → wpTr P l.toArray Q S (t.put l) a w → wpAnyX P md l.toArray Q S R N t.len listed a w
  | .mix st, listed, a, w, hz, hB, h => X_mix hs hQ st listed a w hz hB h
  | .rd i t, listed, a, w, hz, hB, h => by
    simp only [trB, Bool.and_eq_true] at hB
    obtain ⟨⟨⟨⟨⟨hr, hf⟩, hR⟩, hK⟩, hO⟩, hB⟩ := hB
    have hz' : (listed.setIfInBounds i true).size = l.toArray.size := by simpa using hz
    have ho := opOf_some hr
    have hri : i ∈ Region.ready md l.toArray listed := by simpa using hr
    obtain ⟨hS, v, hy, h⟩ := h
    exact X_takeH ho (Region.noSelect_spec hs) hR _ (fun c a w => hQ c a w _ _) _ listed a w (blk_of_B hK) (ok_of_B hz hO) (Region.free_spec ho hf) hri hy hS (X_tr hs hQ t _ _ w hz' hB h)
  | .one i t, listed, a, w, hz, hB, h => by
    simp only [trB, Bool.and_eq_true, decide_eq_true_eq, Bool.not_eq_true'] at hB
    obtain ⟨⟨hr, hR⟩, hB⟩ := hB
    have hz' : (listed.setIfInBounds i true).size = l.toArray.size := by simpa using hz
    refine ⟨fun h1 => (by rw [hr] at h1; cases h1), fun q hq => ?_⟩
    rw [hr] at hq
    obtain rfl : q = i := by simpa using hq
    refine ⟨fun h1 => (by rw [hR] at h1; cases h1), fun _ => ?_⟩
    have ho : l.toArray[q]? = some (opOf l q) := opOf_some (md := md) (listed := listed) (by rw [hr]; simp)
    exact wpOp_mono (fun a' w' h' => ⟨fun _ => h'.1, X_tr hs hQ t _ a' w' hz' hB h'.2⟩) (wpOp_of_list ho h)
  | .two i t j u, listed, a, w, hz, hB, h => by
    simp only [trB, Bool.and_eq_true, decide_eq_true_eq, Bool.not_eq_true'] at hB
    obtain ⟨⟨⟨⟨⟨hr, hR⟩, hR2⟩, hl⟩, hB⟩, hB2⟩ := hB
    have hz' : (listed.setIfInBounds i true).size = l.toArray.size := by simpa using hz
    have hz2 : (listed.setIfInBounds j true).size = l.toArray.size := by simpa using hz
    refine ⟨fun h1 => (by rw [hr] at h1; cases h1), fun q hq => ?_⟩
    rw [hr] at hq
    rcases (by simpa using hq : q = i ∨ q = j) with rfl | rfl
    · refine ⟨fun h1 => (by rw [hR] at h1; cases h1), fun _ => ?_⟩
      have ho : l.toArray[q]? = some (opOf l q) := opOf_some (md := md) (listed := listed) (by rw [hr]; simp)
      exact wpOp_mono (fun a' w' h' => ⟨fun _ => h'.1, X_tr hs hQ t _ a' w' hz' hB h'.2⟩) (wpOp_of_list ho h.1)
    · refine ⟨fun h1 => (by rw [hR2] at h1; cases h1), fun _ => ?_⟩
      have ho : l.toArray[q]? = some (opOf l q) := opOf_some (md := md) (listed := listed) (by rw [hr]; simp)
      exact wpOp_mono (fun a' w' h' => ⟨fun _ => h'.1, hl ▸ X_tr hs hQ u _ a' w' hz2 hB2 h'.2⟩) (wpOp_of_list ho h.2)
  | .three i t j u k v, listed, a, w, hz, hB, h => by
    simp only [trB, Bool.and_eq_true, decide_eq_true_eq, Bool.not_eq_true'] at hB
    obtain ⟨⟨⟨⟨⟨⟨⟨⟨hr, hR⟩, hR2⟩, hR3⟩, hl⟩, hl3⟩, hB⟩, hB2⟩, hB3⟩ := hB
    have hz' : (listed.setIfInBounds i true).size = l.toArray.size := by simpa using hz
    have hz2 : (listed.setIfInBounds j true).size = l.toArray.size := by simpa using hz
    have hz3 : (listed.setIfInBounds k true).size = l.toArray.size := by simpa using hz
    refine ⟨fun h1 => (by rw [hr] at h1; cases h1), fun q hq => ?_⟩
    rw [hr] at hq
    rcases (by simpa using hq : q = i ∨ q = j ∨ q = k) with rfl | rfl | rfl
    · refine ⟨fun h1 => (by rw [hR] at h1; cases h1), fun _ => ?_⟩
      have ho : l.toArray[q]? = some (opOf l q) := opOf_some (md := md) (listed := listed) (by rw [hr]; simp)
      exact wpOp_mono (fun a' w' h' => ⟨fun _ => h'.1, X_tr hs hQ t _ a' w' hz' hB h'.2⟩) (wpOp_of_list ho h.1)
    · refine ⟨fun h1 => (by rw [hR2] at h1; cases h1), fun _ => ?_⟩
      have ho : l.toArray[q]? = some (opOf l q) := opOf_some (md := md) (listed := listed) (by rw [hr]; simp)
      exact wpOp_mono (fun a' w' h' => ⟨fun _ => h'.1, hl ▸ X_tr hs hQ u _ a' w' hz2 hB2 h'.2⟩) (wpOp_of_list ho h.2.1)
    · refine ⟨fun h1 => (by rw [hR3] at h1; cases h1), fun _ => ?_⟩
      have ho : l.toArray[q]? = some (opOf l q) := opOf_some (md := md) (listed := listed) (by rw [hr]; simp)
      exact wpOp_mono (fun a' w' h' => ⟨fun _ => h'.1, hl3 ▸ X_tr hs hQ v _ a' w' hz3 hB3 h'.2⟩) (wpOp_of_list ho h.2.2)
/-- A region that draws, by the tree of its orders; rs: what leaves the world as it is. -/
theorem wp_region_tree {id : Nat} {a : Act} {w : World} {l : List Oper} (S : World → Prop) (rs : List Nat) (t : Tr) (hm : P.follows .mixedOrders = true)
    (hB : (Region.noSelect l.toArray && decide (t.len = l.length) && trB .any l.toArray (fun j => rs.contains j) (fun j => !rs.contains j) t (Array.replicate l.length false)) = true)
    (hQ : ∀ c a w t v, Q (.panic c) (a.put (some t) v) w → Q (.panic c) a w)
    (h : wpTr P l.toArray Q S (t.put l) a { w with drawn := w.drawn + 1 }) :
    (Code.region id l.toArray true).wp P Q a w := by
  simp only [Bool.and_eq_true, decide_eq_true_eq] at hB
  obtain ⟨⟨hs, hl⟩, hB⟩ := hB
  refine wp_region_any hm ?_
  have hQ' : ∀ c a w d v, Q (.panic c) (a.put d v) w → Q (.panic c) a w := fun c a w d v hh => by
    cases d with
    | none => exact hh
    | some t => exact hQ c a w t v hh
  have := wpAny_of_X _ _ _ _ (X_tr (Q := Q) hs hQ' t _ a _ (by simp) hB h)
  rw [hl] at this
  simpa using this
/-- .. with the operations behind which S holds named. -/
theorem wp_region_treeN {id : Nat} {a : Act} {w : World} {l : List Oper} (S : World → Prop) (rs ns : List Nat) (t : Tr) (hm : P.follows .mixedOrders = true)
    (hB : (Region.noSelect l.toArray && decide (t.len = l.length) && trB .any l.toArray (fun j => rs.contains j) (fun j => ns.contains j) t (Array.replicate l.length false)) = true)
    (hQ : ∀ c a w t v, Q (.panic c) (a.put (some t) v) w → Q (.panic c) a w)
    (h : wpTr P l.toArray Q S (t.put l) a { w with drawn := w.drawn + 1 }) :
    (Code.region id l.toArray true).wp P Q a w := by
  simp only [Bool.and_eq_true, decide_eq_true_eq] at hB
  obtain ⟨⟨hs, hl⟩, hB⟩ := hB
  refine wp_region_any hm ?_
  have hQ' : ∀ c a w d v, Q (.panic c) (a.put d v) w → Q (.panic c) a w := fun c a w d v hh => by
    cases d with
    | none => exact hh
    | some t => exact hQ c a w t v hh
  have := wpAny_of_X _ _ _ _ (X_tr (Q := Q) hs hQ' t _ a _ (by simp) hB h)
  rw [hl] at this
  simpa using this
theorem wpTr_held {a : Act} {w : World} {o : Oper} {t : TrO} (v : Value) (hw : Region.wanted o (yielded ops a.tmps) = true) (hS : S w) (hy : ∀ w', S w' → (execOp a.eval o).run P w' = .ok (.value v) w')
    (h : wpTr P ops Q S t (a.put o.dst v) w) : wpTr P ops Q S (.rd o t) a w := ⟨hS, v, .inl ⟨hw, fun w' hw' => .inl (hy w' hw')⟩, h⟩
theorem wpTr_one {a : Act} {w : World} {o : Oper} {t : TrO} (h : wpList P ops (Exit.then (fun a' w' => S w' ∧ wpTr P ops Q S t a' w') Q) [o] a w) : wpTr P ops Q S (.one o t) a w := h
theorem wpTr_two {a : Act} {w : World} {o p : Oper} {t u : TrO} (h : wpList P ops (Exit.then (fun a' w' => S w' ∧ wpTr P ops Q S t a' w') Q) [o] a w) (g : wpList P ops (Exit.then (fun a' w' => S w' ∧ wpTr P ops Q S u a' w') Q) [p] a w) : wpTr P ops Q S (.two o t p u) a w := ⟨h, g⟩
theorem wpTr_mix {a : Act} {w : World} {st : List (Oper × Nat)} (h : wpMix P ops Q S st a w) : wpTr P ops Q S (.mix st) a w := h
end
end Go.Proofs.YtakaebjojgeehaaGreat
