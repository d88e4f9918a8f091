/- Arrays of eight numbers: as values, as blocks that a call makes, as elements of a slice that came in. No function is named here. -/
import Derived.Test.YtgiociijhpimoaaRefArgs
import Derived.Test.YtgiociijhpimoaaBitLists
import Derived.Deep.WholeRow
namespace Go.Proofs.Ytgiociijhpimoaa
open Go.RowKit

/-- The cells of an array of eight. -/
def arr8 (f : Nat → Int) : Array Value := #[.int .i64 (f 0), .int .i64 (f 1), .int .i64 (f 2), .int .i64 (f 3), .int .i64 (f 4), .int .i64 (f 5), .int .i64 (f 6), .int .i64 (f 7)]
theorem arr8_get (f : Nat → Int) (k : Nat) (h : k < 8) : (arr8 f)[k]? = some (.int .i64 (f k)) := by
  rcases (by omega : k = 0 ∨ k = 1 ∨ k = 2 ∨ k = 3 ∨ k = 4 ∨ k = 5 ∨ k = 6 ∨ k = 7) with rfl | rfl | rfl | rfl | rfl | rfl | rfl | rfl <;> rfl
theorem arr8_size (f : Nat → Int) : (arr8 f).size = 8 := rfl
theorem arr8_congr {f g : Nat → Int} (h : ∀ k, k < 8 → f k = g k) : arr8 f = arr8 g := by
  unfold arr8
  rw [h 0 (by decide), h 1 (by decide), h 2 (by decide), h 3 (by decide), h 4 (by decide), h 5 (by decide), h 6 (by decide), h 7 (by decide)]
theorem arr8_set (f : Nat → Int) (k : Nat) (x : Int) (h : k < 8) : (arr8 f).setIfInBounds k (.int .i64 x) = arr8 (fun j => if j = k then x else f j) := by
  rcases (by omega : k = 0 ∨ k = 1 ∨ k = 2 ∨ k = 3 ∨ k = 4 ∨ k = 5 ∨ k = 6 ∨ k = 7) with rfl | rfl | rfl | rfl | rfl | rfl | rfl | rfl <;> simp [arr8]

/-- The block g is an array of eight numbers of the call's own. -/
def blk8 (w : World) (g : Nat) (t : TypeId) (f : Nat → Int) : Prop := w.heap[g]? = some (.cells (arr8 f) t (0, 0))
theorem blk8_cell {w : World} {g : Nat} {t : TypeId} {f : Nat → Int} (h : blk8 w g t f) (k : Nat) (hk : k < 8) : w.cell? ⟨g, k, none⟩ = some (.int .i64 (f k)) := by
  rw [cell_of_row w g k _ t (0, 0) h, arr8_get f k hk]
theorem blk8_free {w : World} {g : Nat} {t : TypeId} {f : Nat → Int} (h : blk8 w g t f) (k : Nat) : w.frozen? ⟨g, k, none⟩ = false := by
  have h' : w.heap[g]? = some (.cells (arr8 f) t (0, 0)) := h
  simp [World.frozen?, h']
theorem blk8_lt {w : World} {g : Nat} {t : TypeId} {f : Nat → Int} (h : blk8 w g t f) : g < w.heap.size := (Array.getElem?_eq_some_iff.1 h).1
theorem blk8_set {w : World} {g : Nat} {t : TypeId} {f : Nat → Int} (h : blk8 w g t f) (k : Nat) (x : Int) (hk : k < 8) : blk8 (w.setCell ⟨g, k, none⟩ (.int .i64 x)) g t (fun j => if j = k then x else f j) := by
  have h' : w.heap[g]? = some (.cells (arr8 f) t (0, 0)) := h
  unfold blk8
  simp only [World.setCell, Array.getElem?_modify, if_true, h', Option.map_some, Option.isSome_none, Bool.false_eq_true, if_false]
  rw [arr8_set f k x hk]
theorem blk8_eq {w : World} {g : Nat} {t : TypeId} {f f' : Nat → Int} (h : blk8 w g t f) (e : ∀ j, j < 8 → f j = f' j) : blk8 w g t f' := by
  unfold blk8 at *; rw [h, arr8_congr e]
theorem blk8_alloc {w : World} {g : Nat} {t : TypeId} {f : Nat → Int} (h : blk8 w g t f) (o : Obj) : blk8 (w.alloc o) g t f := by
  have hlt := blk8_lt h
  unfold blk8 at *
  rw [← h]
  show (w.heap.push o)[g]? = _
  rw [Array.getElem?_push_lt hlt, Array.getElem?_eq_getElem hlt]
theorem blk8_new (w : World) (t : TypeId) (f : Nat → Int) : blk8 (w.alloc (.cells (arr8 f) t)) w.heap.size t f := heap_alloc_last w _
theorem blk8_other {w : World} {g : Nat} {t : TypeId} {f : Nat → Int} (h : blk8 w g t f) (a : Addr) (v : Value) (hg : a.block ≠ g) : blk8 (w.setCell a v) g t f := by
  unfold blk8 at *
  rw [← h]
  simp only [World.setCell, Array.getElem?_modify]
  rw [if_neg hg]
theorem blk8_below {w w' : World} {B g : Nat} {t : TypeId} {f : Nat → Int} (h : blk8 w g t f) (hb : Below B w w') (hg : g < B) : blk8 w' g t f := by
  unfold blk8 at *
  rw [← h]
  exact hb.block g hg

theorem run_index8 {P : Program} (t e : TypeId) (f : Nat → Int) (k : Nat) (h : P.underlying t = some (.array 8 e)) (hs : ∀ w, Sem.run P (sizeOf e) w = .ok 1 w) (ha : ∀ w, Sem.run P (isAgg e) w = .ok false w) (hk : k < 8) (w : World) :
    (Instr.index t (.agg (arr8 f)) (.int .i64 k)).run P w = .ok (.int .i64 (f k)) w := by
  have hn : (0 ≤ (k : Int) ∧ (k : Int) < (8 : Int)) := by omega
  simp [Instr.index, run_underlying h, asIntOf, hn, go_sem, hs, ha, hk, arr8_get f k hk]
theorem blk8_row {w : World} {g : Nat} {t : TypeId} {f0 : Nat → Int} (h : blk8 w g t f0) (f : Nat → Int) : blk8 (w.setRow g (arr8 f)) g t f := setRow_heap w g _ (arr8 f) t (0, 0) h
theorem blk8_row_other {w : World} {g k : Nat} {t : TypeId} {f : Nat → Int} (h : blk8 w k t f) (c : Array Value) (hg : g ≠ k) : blk8 (w.setRow g c) k t f := by
  unfold blk8 at *
  rw [← h]
  simp only [World.setRow, Array.getElem?_modify]
  rw [if_neg hg]
theorem below_row {B g : Nat} (w : World) (c : Array Value) (h : B ≤ g) : Below B w (w.setRow g c) := by
  refine ⟨rfl, rfl, rfl, by simp [World.setRow], fun k hk => ?_⟩
  simp only [World.setRow, Array.getElem?_modify]
  rw [if_neg (by omega)]
theorem arr8_one (f : Nat → Int) : (arr8 f).all (·.oneCell') = true := by simp [arr8, Value.oneCell']
theorem blk8_cells {w : World} {g : Nat} {t : TypeId} {f : Nat → Int} (h : blk8 w g t f) :
    w.cell? ⟨g, 0, none⟩ = some (.int .i64 (f 0)) ∧ w.cell? ⟨g, 1, none⟩ = some (.int .i64 (f 1)) ∧ w.cell? ⟨g, 2, none⟩ = some (.int .i64 (f 2)) ∧ w.cell? ⟨g, 3, none⟩ = some (.int .i64 (f 3)) ∧
    w.cell? ⟨g, 4, none⟩ = some (.int .i64 (f 4)) ∧ w.cell? ⟨g, 5, none⟩ = some (.int .i64 (f 5)) ∧ w.cell? ⟨g, 6, none⟩ = some (.int .i64 (f 6)) ∧ w.cell? ⟨g, 7, none⟩ = some (.int .i64 (f 7)) :=
  ⟨blk8_cell h 0 (by decide), blk8_cell h 1 (by decide), blk8_cell h 2 (by decide), blk8_cell h 3 (by decide), blk8_cell h 4 (by decide), blk8_cell h 5 (by decide), blk8_cell h 6 (by decide), blk8_cell h 7 (by decide)⟩
theorem blk8_frees {w : World} {g : Nat} {t : TypeId} {f : Nat → Int} (h : blk8 w g t f) :
    w.frozen? ⟨g, 0, none⟩ = false ∧ w.frozen? ⟨g, 1, none⟩ = false ∧ w.frozen? ⟨g, 2, none⟩ = false ∧ w.frozen? ⟨g, 3, none⟩ = false ∧
    w.frozen? ⟨g, 4, none⟩ = false ∧ w.frozen? ⟨g, 5, none⟩ = false ∧ w.frozen? ⟨g, 6, none⟩ = false ∧ w.frozen? ⟨g, 7, none⟩ = false :=
  ⟨blk8_free h 0, blk8_free h 1, blk8_free h 2, blk8_free h 3, blk8_free h 4, blk8_free h 5, blk8_free h 6, blk8_free h 7⟩
/-- All eight cells, one after the other. -/
def put8 (w : World) (g : Nat) (f : Nat → Int) : World :=
  ((((((((w.setCell ⟨g, 0, none⟩ (.int .i64 (f 0))).setCell ⟨g, 1, none⟩ (.int .i64 (f 1))).setCell ⟨g, 2, none⟩ (.int .i64 (f 2))).setCell ⟨g, 3, none⟩ (.int .i64 (f 3))).setCell ⟨g, 4, none⟩ (.int .i64 (f 4))).setCell ⟨g, 5, none⟩ (.int .i64 (f 5))).setCell ⟨g, 6, none⟩ (.int .i64 (f 6))).setCell ⟨g, 7, none⟩ (.int .i64 (f 7)))
theorem blk8_put {w : World} {g : Nat} {t : TypeId} {f0 : Nat → Int} (h : blk8 w g t f0) (f : Nat → Int) : blk8 (put8 w g f) g t f :=
  blk8_eq (blk8_set (blk8_set (blk8_set (blk8_set (blk8_set (blk8_set (blk8_set (blk8_set h 0 (f 0) (by decide)) 1 (f 1) (by decide)) 2 (f 2) (by decide)) 3 (f 3) (by decide)) 4 (f 4) (by decide)) 5 (f 5) (by decide)) 6 (f 6) (by decide)) 7 (f 7) (by decide)) (fun j hj => by
    rcases (by omega : j = 0 ∨ j = 1 ∨ j = 2 ∨ j = 3 ∨ j = 4 ∨ j = 5 ∨ j = 6 ∨ j = 7) with rfl | rfl | rfl | rfl | rfl | rfl | rfl | rfl <;> rfl)
theorem below_put {B g : Nat} {a w : World} (h : Below B a w) (hg : B ≤ g) (f : Nat → Int) : Below B a (put8 w g f) :=
  (((((((h.setCell (p := ⟨g, 0, none⟩) hg _).setCell (p := ⟨g, 1, none⟩) hg _).setCell (p := ⟨g, 2, none⟩) hg _).setCell (p := ⟨g, 3, none⟩) hg _).setCell (p := ⟨g, 4, none⟩) hg _).setCell (p := ⟨g, 5, none⟩) hg _).setCell (p := ⟨g, 6, none⟩) hg _).setCell (p := ⟨g, 7, none⟩) hg _
/-- A function's one result, an array in a variable. -/
theorem results8 {P : Program} {fn : Func} {p : Tmp} {ty e : TypeId} (h : fn.results = #[.cell p ty]) (hu : P.underlying ty = some (.array 8 e)) (hi : (P.info? ty).map (·.size) = some 8)
    (g : Nat) (tmps : Array Value) (hp : tmps.getD p undef = .pointer (some ⟨g, 0, none⟩)) {w : World} {t : TypeId} {f : Nat → Int} (hb : blk8 w g t f) :
    (results fn tmps).run P w = .ok (.agg (arr8 f)) w := by
  have hl := run_loadVar_row (P := P) w g t ty (arr8 f) (0, 0) _ hb hu rfl hi
  rw [Array.getD_eq_getD_getElem?] at hp
  simp only [results, h]
  simp [hp, asAddr, hl]

/-- A slice of n arrays of eight numbers. -/
def isGrid (w : World) (v : Value) (n : Nat) (F : Nat → Nat → Int) : Prop :=
  (∃ a cap, v = .slice a 0 cap ∧ n = 0) ∨
  ∃ b off cap, v = .slice (some ⟨b, off, none⟩) n cap ∧ b < w.heap.size ∧ n ≤ cap ∧ cap ≤ 9223372036854775807 ∧ ∀ i, i < n → ∀ j, j < 8 → w.cell? ⟨b, off + i * 8 + j, none⟩ = some (.int .i64 (F i j))
theorem isGrid_below {B n : Nat} {w w' : World} {v : Value} {F : Nat → Nat → Int} (h : isGrid w v n F) (hb : Below B w w') (hB : w.heap.size ≤ B) : isGrid w' v n F := by
  rcases h with h | ⟨b, off, cap, rfl, h1, h2, h3, h4⟩
  · exact .inl h
  · refine .inr ⟨b, off, cap, rfl, Nat.lt_of_lt_of_le h1 hb.size, h2, h3, fun i hi j hj => ?_⟩
    rw [hb.cell (p := ⟨b, off + i * 8 + j, none⟩) (by show b < B; omega)]; exact h4 i hi j hj
theorem isGrid_alloc {n : Nat} {w : World} {v : Value} {F : Nat → Nat → Int} (h : isGrid w v n F) (o : Obj) : isGrid (w.alloc o) v n F := isGrid_below h ((Below.refl _ _).alloc (Nat.le_refl _) o) (Nat.le_refl _)
/-- What stands in place j of the first k arrays. -/
def col (F : Nat → Nat → Int) (k : Nat) (j : Nat) : List Int := (List.range k).map fun i => F i j
theorem col_succ (F : Nat → Nat → Int) (k j : Nat) : col F (k + 1) j = col F k j ++ [F k j] := by simp [col, List.range_succ]
theorem col_len (F : Nat → Nat → Int) (k j : Nat) : (col F k j).length = k := by simp [col]
end Go.Proofs.Ytgiociijhpimoaa
