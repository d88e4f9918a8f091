/- A part of the proof of ChipBanks: Row. -/
import Derived.Test.YtakaebjojgeehaaChipBanksK01
import Derived.Test.YtakaebjojgeehaaChipBanksK03
import Derived.Below
import Derived.BigQuiet
import Derived.Deep.Draws
import Derived.Deep.MidRow
import Derived.Deep.OwnRows
import Derived.Deep.QuietTactic
import Derived.Deep.WholeRow
import Derived.Lib.Hide
import Derived.OwnWalk
import Derived.RowKit3
import Derived.WalkKit
namespace Go.Proofs.Ytakaebjojgeehaa
open Go.RowKit
/-- The block g is the row cs, of the call's own. -/
def rowB (w : World) (g : Nat) (t : TypeId) (cs : Array Value) : Prop := w.heap[g]? = some (.cells cs t (0, 0))
section
variable {w : World} {g : Nat} {t : TypeId} {cs : Array Value}
theorem rowB_cell (h : rowB w g t cs) (k : Nat) {v : Value} (hk : cs[k]? = some v) : w.cell? ⟨g, k, none⟩ = some v := by
  rw [cell_of_row w g k _ t (0, 0) h, hk]
theorem rowB_free (h : rowB w g t cs) (k : Nat) : w.frozen? ⟨g, k, none⟩ = false := frozen_of_row w g k _ t h
theorem rowB_lt (h : rowB w g t cs) : g < w.heap.size := (Array.getElem?_eq_some_iff.1 h).1
theorem rowB_set (h : rowB w g t cs) (k : Nat) (v : Value) : rowB (w.setCell ⟨g, k, none⟩ v) g t (cs.setIfInBounds k v) := by
  unfold rowB; rw [heap_setCell_same w g k _ t _ h]
theorem rowB_eq {cs' : Array Value} (h : rowB w g t cs) (e : cs = cs') : rowB w g t cs' := e ▸ h
theorem rowB_alloc (h : rowB w g t cs) (o : Obj) : rowB (w.alloc o) g t cs := by
  have hlt := rowB_lt h
  unfold rowB at *
  rw [← h]
  show (w.heap.push o)[g]? = _
  rw [Array.getElem?_push_lt hlt, Array.getElem?_eq_getElem hlt]
theorem rowB_new (w : World) (t : TypeId) (cs : Array Value) : rowB (w.alloc (.cells cs t)) w.heap.size t cs := heap_alloc_last w _
theorem rowB_other (h : rowB w g t cs) (a : Addr) (v : Value) (hg : a.block ≠ g) : rowB (w.setCell a v) g t cs := by
  unfold rowB; rw [heap_setCell_other w a g v (fun e => hg e.symm)]; exact h
theorem rowB_below {B : Nat} {w' : World} (h : rowB w g t cs) (hb : Below B w w') (hg : g < B) : rowB w' g t cs := by
  unfold rowB at *; rw [← h]; exact hb.block g hg
theorem rowB_row (h : rowB w g t cs) (cs' : Array Value) : rowB (w.setRow g cs') g t cs' := setRow_heap w g _ cs' t (0, 0) h
theorem rowB_row_other {k : Nat} (h : rowB w k t cs) (c : Array Value) (hg : g ≠ k) : rowB (w.setRow g c) k t cs := by
  unfold rowB at *
  rw [← h]
  simp only [World.setRow, Array.getElem?_modify]
  rw [if_neg hg]
/-- The cells cs from k on, replaced by vs. -/
def putsA (cs : Array Value) : Nat → List Value → Array Value
  | _, [] => cs
  | k, v :: r => putsA (cs.setIfInBounds k v) (k + 1) r
theorem rowB_puts {w : World} {cs : Array Value} (h : rowB w g t cs) (k : Nat) (vs : List Value) : rowB (w.setCells g k vs) g t (putsA cs k vs) := by
  induction vs generalizing w cs k with
  | nil => exact h
  | cons v r ih => exact ih (rowB_set h k v) (k + 1)
theorem rowB_puts_other {w : World} (h : rowB w g t cs) {b : Nat} (hb : b ≠ g) (k : Nat) (vs : List Value) : rowB (w.setCells b k vs) g t cs := by
  induction vs generalizing w k with
  | nil => exact h
  | cons v r ih => exact ih (rowB_other h _ _ hb) (k + 1)
theorem below_puts {B : Nat} {a w : World} (h : Below B a w) {b : Nat} (hb : B ≤ b) (k : Nat) (vs : List Value) : Below B a (w.setCells b k vs) := by
  induction vs generalizing w k with
  | nil => exact h
  | cons v r ih => exact ih (h.setCell (p := ⟨b, k, none⟩) hb v) (k + 1)
theorem size_row (w : World) (b : Nat) (c : Array Value) : (w.setRow b c).heap.size = w.heap.size := by simp [World.setRow]
/-- Blocks made one behind the other. -/
theorem boxes1 (w : World) (o : Obj) : (w.alloc o).heap[w.heap.size]? = some o ∧ Below w.heap.size w (w.alloc o) ∧ (w.alloc o).heap.size = w.heap.size + 1 :=
  ⟨heap_alloc_last w o, (Below.refl _ w).alloc (Nat.le_refl _) o, by simp⟩
theorem keepO {w : World} {g : Nat} {o : Obj} (h : w.heap[g]? = some o) (p : Obj) : (w.alloc p).heap[g]? = some o := by
  have hlt := (Array.getElem?_eq_some_iff.1 h).1
  rw [← h]
  show (w.heap.push p)[g]? = _
  rw [Array.getElem?_push_lt hlt, Array.getElem?_eq_getElem hlt]
theorem boxes2 (w : World) (o p : Obj) : ((w.alloc o).alloc p).heap[w.heap.size]? = some o ∧ ((w.alloc o).alloc p).heap[w.heap.size + 1]? = some p ∧ Below w.heap.size w ((w.alloc o).alloc p) ∧ ((w.alloc o).alloc p).heap.size = w.heap.size + 2 := by
  obtain ⟨h1, h2, h3⟩ := boxes1 w o
  obtain ⟨k1, k2, k3⟩ := boxes1 (w.alloc o) p
  rw [h3] at k1 k3
  exact ⟨keepO h1 p, k1, h2.alloc (by omega) p, k3⟩
theorem boxes3 (w : World) (o p q : Obj) : (((w.alloc o).alloc p).alloc q).heap[w.heap.size]? = some o ∧ (((w.alloc o).alloc p).alloc q).heap[w.heap.size + 1]? = some p ∧ (((w.alloc o).alloc p).alloc q).heap[w.heap.size + 2]? = some q ∧ Below w.heap.size w (((w.alloc o).alloc p).alloc q) ∧ (((w.alloc o).alloc p).alloc q).heap.size = w.heap.size + 3 := by
  obtain ⟨h1, h2, h3, h4⟩ := boxes2 w o p
  obtain ⟨k1, k2, k3⟩ := boxes1 ((w.alloc o).alloc p) q
  rw [h4] at k1 k3
  exact ⟨keepO h1 q, keepO h2 q, k1, h3.alloc (by omega) q, k3⟩
end
/-- A struct or an array of n cells, as a type of this program. -/
def isAg (P : Program) (ty : TypeId) (n : Nat) : Prop := (∃ d, P.underlying ty = some d ∧ d.isRow = true) ∧ (P.info? ty).map (·.size) = some n
section
variable {P : Program} {ops : Array Oper} {rest : List Oper} {o : Oper} {a : Act} {w : World} {Q : Exit → Act → World → Prop}
/-- A whole row is loaded, or stored. -/
theorem wpList_loadR (hgd : o.guard = none) (ty : TypeId) (x : Operand) (ho : o.op = .load ty x)
    (g : Nat) (hx : a.eval x = .pointer (some ⟨g, 0, none⟩)) (t : TypeId) (cs : Array Value) (hg : rowB w g t cs) (h9 : isAg P ty cs.size)
    (h : wpList P ops Q rest (a.put o.dst (.agg cs)) w) : wpList P ops Q (o :: rest) a w := by
  obtain ⟨⟨d, hu, hd⟩, hi⟩ := h9
  exact wpList_load_row hgd ty x ho g hx t cs (0, 0) d hg hu (by cases d <;> simp_all) hi h
theorem wpList_loadRg (hgd : Region.wanted o (yielded ops a.tmps) = true) (ty : TypeId) (x : Operand) (ho : o.op = .load ty x)
    (g : Nat) (hx : a.eval x = .pointer (some ⟨g, 0, none⟩)) (t : TypeId) (cs : Array Value) (hg : rowB w g t cs) (h9 : isAg P ty cs.size)
    (h : wpList P ops Q rest (a.put o.dst (.agg cs)) w) : wpList P ops Q (o :: rest) a w := by
  obtain ⟨⟨d, hu, hd⟩, hi⟩ := h9
  refine wpList_step fun K hK => ?_
  simp only [hgd, if_true]
  exact wp_load_row ty x ho g hx t cs (0, 0) d hg hu (by cases d <;> simp_all) hi (hK _ _ h)
theorem wpList_storeR (hgd : o.guard = none) (ty : TypeId) (x y : Operand) (ho : o.op = .store ty x y)
    (g : Nat) (hx : a.eval x = .pointer (some ⟨g, 0, none⟩)) (cs : Array Value) (hy : a.eval y = .agg cs) (h1 : cs.all (·.oneCell') = true) (t : TypeId) (c0 : Array Value) (hs : c0.size = cs.size) (hg : rowB w g t c0) (h9 : isAg P ty cs.size)
    (h : wpList P ops Q rest (a.put o.dst undef) (w.setRow g cs)) : wpList P ops Q (o :: rest) a w := by
  obtain ⟨⟨d, hu, hd⟩, hi⟩ := h9
  exact wpList_store_row hgd ty x y ho g cs hx hy t c0 hg hi hs h1 h
/-- The head of a row is loaded, or stored. -/
theorem wpList_loadH (hgd : o.guard = none) (ty : TypeId) (x : Operand) (ho : o.op = .load ty x)
    (g : Nat) (hx : a.eval x = .pointer (some ⟨g, 0, none⟩)) (cs : Array Value) (t : TypeId) (ds : Array Value) (hg : rowB w g t ds) (hp : ∀ (j : Nat) (v : Value), cs[j]? = some v → ds[j]? = some v) (h9 : isAg P ty cs.size)
    (h : wpList P ops Q rest (a.put o.dst (.agg cs)) w) : wpList P ops Q (o :: rest) a w := by
  obtain ⟨⟨d, hu, hd⟩, hi⟩ := h9
  refine wpList_load_mid hgd ty x ho g 0 hx cs.toList d (fun j v hv => ?_) hu hd (by simpa using hi) (by simpa using h)
  rw [Nat.zero_add]
  exact rowB_cell hg j (hp j v (by simpa using hv))
end
/-- A function's results, structs in variables. -/
theorem resultsR {P : Program} {fn : Func} {p : Tmp} {ty : TypeId} (h : fn.results = #[.cell p ty])
    (g : Nat) (tmps : Array Value) (hp : tmps.getD p undef = .pointer (some ⟨g, 0, none⟩)) {w : World} {t : TypeId} {cs : Array Value} (hb : rowB w g t cs) (h9 : isAg P ty cs.size) :
    (results fn tmps).run P w = .ok (.agg cs) w := by
  obtain ⟨⟨d, hu, hd⟩, hi⟩ := h9
  exact results_cell_row h tmps w g t cs (0, 0) _ hp hb hu (by cases d <;> simp_all) hi
/-- A whole row is loaded, in whatever world holds it. -/
theorem exec_rowR {P : Program} {o : Oper} {a : Act} {w : World} (ty : TypeId) (x : Operand) (ho : o.op = .load ty x)
    (g : Nat) (hx : a.eval x = .pointer (some ⟨g, 0, none⟩)) (t : TypeId) (cs : Array Value) (hg : rowB w g t cs) (h9 : isAg P ty cs.size) : (execOp a.eval o).run P w = .ok (.value (.agg cs)) w := by
  obtain ⟨⟨d, hu, hd⟩, hi⟩ := h9
  unfold execOp
  simp only [ho, hx, Instr.loadAt, Instr.sureAddr, Sem.run_bind, Sem.run_pure, Result.andThen_ok, run_loadVar_row w g t ty cs (0, 0) _ hg hu (by cases d <;> simp_all) hi]
end Go.Proofs.Ytakaebjojgeehaa
