/- The nine registers of a processor: as values, as blocks that a call makes. No function is named here. -/
import Derived.Test.YtmjddoboogccoaaRegMath
import Derived.Below
import Derived.BigQuiet
import Derived.Deep.Draws
import Derived.Deep.OwnRows
import Derived.Deep.QuietTactic
import Derived.Deep.WholeRow
import Derived.Lib.Hide
import Derived.OwnWalk
import Derived.RowKit3
import Derived.WalkKit
namespace Go.Proofs.Ytmjddoboogccoaa
open Go.RowKit

/-- The cells of the registers. -/
def arr9 (f : Nat → Int) : Array Value := #[.int .i64 (f 0), .int .i64 (f 1), .int .i64 (f 2), .int .i64 (f 3), .int .i64 (f 4), .int .i64 (f 5), .int .i64 (f 6), .int .i64 (f 7), .int .i64 (f 8)]
theorem nine {k : Nat} (h : k < 9) : k = 0 ∨ k = 1 ∨ k = 2 ∨ k = 3 ∨ k = 4 ∨ k = 5 ∨ k = 6 ∨ k = 7 ∨ k = 8 := by omega
theorem arr9_get (f : Nat → Int) (k : Nat) (h : k < 9) : (arr9 f)[k]? = some (.int .i64 (f k)) := by
  rcases nine h with rfl | rfl | rfl | rfl | rfl | rfl | rfl | rfl | rfl <;> rfl
theorem arr9_size (f : Nat → Int) : (arr9 f).size = 9 := rfl
theorem arr9_congr {f g : Nat → Int} (h : ∀ k, k < 9 → f k = g k) : arr9 f = arr9 g := by
  unfold arr9
  rw [h 0 (by decide), h 1 (by decide), h 2 (by decide), h 3 (by decide), h 4 (by decide), h 5 (by decide), h 6 (by decide), h 7 (by decide), h 8 (by decide)]
theorem arr9_set (f : Nat → Int) (k : Nat) (x : Int) (h : k < 9) : (arr9 f).setIfInBounds k (.int .i64 x) = arr9 (setR f k x) := by
  rcases nine h with rfl | rfl | rfl | rfl | rfl | rfl | rfl | rfl | rfl <;> simp [arr9, setR]
theorem arr9_one (f : Nat → Int) : (arr9 f).all (·.oneCell') = true := by simp [arr9, Value.oneCell']

/-- The block g is the registers f, of the call's own. -/
def regB (w : World) (g : Nat) (t : TypeId) (f : Nat → Int) : Prop := w.heap[g]? = some (.cells (arr9 f) t (0, 0))
section
variable {w : World} {g : Nat} {t : TypeId} {f : Nat → Int}
theorem regB_cell (h : regB w g t f) (k : Nat) (hk : k < 9) : w.cell? ⟨g, k, none⟩ = some (.int .i64 (f k)) := by
  rw [cell_of_row w g k _ t (0, 0) h, arr9_get f k hk]
theorem regB_free (h : regB w g t f) (k : Nat) : w.frozen? ⟨g, k, none⟩ = false := frozen_of_row w g k _ t h
theorem regB_lt (h : regB w g t f) : g < w.heap.size := (Array.getElem?_eq_some_iff.1 h).1
theorem regB_set (h : regB w g t f) (k : Nat) (x : Int) (hk : k < 9) : regB (w.setCell ⟨g, k, none⟩ (.int .i64 x)) g t (setR f k x) := by
  unfold regB; rw [heap_setCell_same w g k _ t _ h, arr9_set f k x hk]
theorem regB_eq {f' : Nat → Int} (h : regB w g t f) (e : ∀ j, j < 9 → f j = f' j) : regB w g t f' := by
  unfold regB at *; rw [h, arr9_congr e]
theorem regB_alloc (h : regB w g t f) (o : Obj) : regB (w.alloc o) g t f := by
  have hlt := regB_lt h
  unfold regB at *
  rw [← h]
  show (w.heap.push o)[g]? = _
  rw [Array.getElem?_push_lt hlt, Array.getElem?_eq_getElem hlt]
theorem regB_new (w : World) (t : TypeId) (f : Nat → Int) : regB (w.alloc (.cells (arr9 f) t)) w.heap.size t f := heap_alloc_last w _
theorem regB_other (h : regB w g t f) (a : Addr) (v : Value) (hg : a.block ≠ g) : regB (w.setCell a v) g t f := by
  unfold regB; rw [heap_setCell_other w a g v (fun e => hg e.symm)]; exact h
theorem regB_below {B : Nat} {w' : World} (h : regB w g t f) (hb : Below B w w') (hg : g < B) : regB w' g t f := by
  unfold regB at *; rw [← h]; exact hb.block g hg
theorem regB_drewN (h : regB w g t f) (n : Nat) : regB (w.drewN n) g t f := by
  unfold regB at *
  induction n with
  | zero => exact h
  | succ k ih => exact ih
theorem regB_row (h : regB w g t f) (f' : Nat → Int) : regB (w.setRow g (arr9 f')) g t f' := setRow_heap w g _ (arr9 f') t (0, 0) h
theorem regB_row_other {k : Nat} (h : regB w k t f) (c : Array Value) (hg : g ≠ k) : regB (w.setRow g c) k t f := by
  unfold regB at *
  rw [← h]
  simp only [World.setRow, Array.getElem?_modify]
  rw [if_neg hg]
theorem regB_cells (h : regB w g t f) :
    w.cell? ⟨g, 0, none⟩ = some (.int .i64 (f 0)) ∧ w.cell? ⟨g, 1, none⟩ = some (.int .i64 (f 1)) ∧ w.cell? ⟨g, 2, none⟩ = some (.int .i64 (f 2)) ∧ w.cell? ⟨g, 3, none⟩ = some (.int .i64 (f 3)) ∧
    w.cell? ⟨g, 4, none⟩ = some (.int .i64 (f 4)) ∧ w.cell? ⟨g, 5, none⟩ = some (.int .i64 (f 5)) ∧ w.cell? ⟨g, 6, none⟩ = some (.int .i64 (f 6)) ∧ w.cell? ⟨g, 7, none⟩ = some (.int .i64 (f 7)) ∧ w.cell? ⟨g, 8, none⟩ = some (.int .i64 (f 8)) :=
  ⟨regB_cell h 0 (by decide), regB_cell h 1 (by decide), regB_cell h 2 (by decide), regB_cell h 3 (by decide), regB_cell h 4 (by decide), regB_cell h 5 (by decide), regB_cell h 6 (by decide), regB_cell h 7 (by decide), regB_cell h 8 (by decide)⟩
end
theorem below_rowR {B g : Nat} {a w : World} (h : Below B a w) (c : Array Value) (hg : B ≤ g) : Below B a (w.setRow g c) := by
  refine h.trans ⟨rfl, rfl, rfl, by simp [World.setRow], fun k hk => ?_⟩
  simp only [World.setRow, Array.getElem?_modify]
  rw [if_neg (by omega)]

/-- An array of nine numbers, as a type of this program. -/
def is9 (P : Program) (ty : TypeId) : Prop := (∃ e, P.underlying ty = some (.array 9 e)) ∧ (P.info? ty).map (·.size) = some 9
/-- All of the registers are loaded, or stored. -/
theorem wpList_load9 {P : Program} {ops : Array Oper} {rest : List Oper} {o : Oper} {a : Act} {w : World} {Q : Exit → Act → World → Prop} (hgd : o.guard = none) (ty : TypeId) (x : Operand) (ho : o.op = .load ty x)
    (g : Nat) (hx : a.eval x = .pointer (some ⟨g, 0, none⟩)) (t : TypeId) (f : Nat → Int) (hg : regB w g t f) (h9 : is9 P ty)
    (h : wpList P ops Q rest (a.put o.dst (.agg (arr9 f))) w) : wpList P ops Q (o :: rest) a w := by
  obtain ⟨⟨e, hu⟩, hi⟩ := h9
  exact wpList_load_row hgd ty x ho g hx t (arr9 f) (0, 0) _ hg hu rfl hi h
theorem wpList_load9g {P : Program} {ops : Array Oper} {rest : List Oper} {o : Oper} {a : Act} {w : World} {Q : Exit → Act → World → Prop} (hgd : Region.wanted o (yielded ops a.tmps) = true) (ty : TypeId) (x : Operand) (ho : o.op = .load ty x)
    (g : Nat) (hx : a.eval x = .pointer (some ⟨g, 0, none⟩)) (t : TypeId) (f : Nat → Int) (hg : regB w g t f) (h9 : is9 P ty)
    (h : wpList P ops Q rest (a.put o.dst (.agg (arr9 f))) w) : wpList P ops Q (o :: rest) a w := by
  obtain ⟨⟨e, hu⟩, hi⟩ := h9
  refine wpList_step fun K hK => ?_
  simp only [hgd, if_true]
  exact wp_load_row ty x ho g hx t (arr9 f) (0, 0) _ hg hu rfl hi (hK _ _ h)
theorem wpList_store9 {P : Program} {ops : Array Oper} {rest : List Oper} {o : Oper} {a : Act} {w : World} {Q : Exit → Act → World → Prop} (hgd : o.guard = none) (ty : TypeId) (x y : Operand) (ho : o.op = .store ty x y)
    (g : Nat) (hx : a.eval x = .pointer (some ⟨g, 0, none⟩)) (f : Nat → Int) (hy : a.eval y = .agg (arr9 f)) (t : TypeId) (f0 : Nat → Int) (hg : regB w g t f0) (h9 : is9 P ty)
    (h : wpList P ops Q rest (a.put o.dst undef) (w.setRow g (arr9 f))) : wpList P ops Q (o :: rest) a w := by
  obtain ⟨⟨e, hu⟩, hi⟩ := h9
  exact wpList_store_row hgd ty x y ho g (arr9 f) hx hy t (arr9 f0) hg hi rfl (arr9_one f) h
/-- A function's one result, the registers in a variable. -/
theorem results9 {P : Program} {fn : Func} {p : Tmp} {ty : TypeId} (h : fn.results = #[.cell p ty]) (h9 : is9 P ty)
    (g : Nat) (tmps : Array Value) (hp : tmps.getD p undef = .pointer (some ⟨g, 0, none⟩)) {w : World} {t : TypeId} {f : Nat → Int} (hb : regB w g t f) :
    (results fn tmps).run P w = .ok (.agg (arr9 f)) w := by
  obtain ⟨⟨e, hu⟩, hi⟩ := h9
  exact results_cell_row h tmps w g t (arr9 f) (0, 0) _ hp hb hu rfl hi
theorem results9b {P : Program} {fn : Func} {p q : Tmp} {ty : TypeId} (h : fn.results = #[.cell p ty, .tmp q]) (h9 : is9 P ty)
    (g : Nat) (tmps : Array Value) (hp : tmps.getD p undef = .pointer (some ⟨g, 0, none⟩)) {w : World} {t : TypeId} {f : Nat → Int} (hb : regB w g t f) (b : Value) (hq : tmps.getD q undef = b) :
    (results fn tmps).run P w = .ok (.tuple #[.agg (arr9 f), b]) w := by
  obtain ⟨⟨e, hu⟩, hi⟩ := h9
  have hl := run_loadVar_row (P := P) w g t ty (arr9 f) (0, 0) _ hb hu rfl hi
  rw [Array.getD_eq_getD_getElem?] at hp hq
  simp only [results, h]
  simp [hp, hq, asAddr, hl]
end Go.Proofs.Ytmjddoboogccoaa
