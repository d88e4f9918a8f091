/- States of drives, in rows of their own. -/
import Derived.Test.YtmjddoboogccoaaChecked
import Derived.Test.YtmjddoboogccoaaDevB
import Derived.Test.YtmjddoboogccoaaDrvMath
import Derived.Below
import Derived.BigQuiet
import Derived.ChangeMaps5
import Derived.Deep.DeepCutAuto
import Derived.Deep.Draws
import Derived.Deep.MidRow
import Derived.Deep.OwnRows
import Derived.Deep.QuietTactic
import Derived.Deep.RegionHeld3
import Derived.Deep.RegionWith
import Derived.Deep.Slices
import Derived.Deep.WholeRow
import Derived.Laws.CopyOwn
import Derived.Lib.Hide
import Derived.Lib.SmallJoins
import Derived.OpenShut
import Derived.OrdersHeld
import Derived.OwnWalk
import Derived.RowKit3
import Derived.StillTactics
import Derived.StillTail
import Derived.StillTailTactics
import Derived.WalkKit
namespace Go.Proofs.Ytmjddoboogccoaa
open Go.RowKit
set_option maxRecDepth 100000

/-- Bytes that a call has made: none, or a row of their own. -/
def bytO (lo : Nat) (w : World) (a : Option Addr) (m : List Int) (g : Nat) : Prop := (m = [] ∧ a = none) ∨ ∃ q, a = some ⟨q, 0, none⟩ ∧ lo ≤ q ∧ q ≠ g ∧ rowB w q 5 (byts m)
theorem bytO.below {lo g : Nat} {w w' : World} {a : Option Addr} {m : List Int} (h : bytO lo w a m g) (hb : Below w.heap.size w w') : bytO lo w' a m g := by
  rcases h with h | ⟨q, e, h1, h2, h3⟩
  · exact .inl h
  · exact .inr ⟨q, e, h1, h2, rowB_below h3 hb (rowB_lt h3)⟩
theorem bytO.row {lo g B : Nat} {w : World} {a : Option Addr} {m : List Int} (h : bytO lo w a m g) (hB : B < lo) (c : Array Value) : bytO lo (w.setRow B c) a m g := by
  rcases h with h | ⟨q, e, h1, h2, h3⟩
  · exact .inl h
  · exact .inr ⟨q, e, h1, h2, rowB_row_other h3 _ (by omega)⟩
theorem bytO.other {lo g : Nat} {w : World} {a : Option Addr} {m : List Int} (h : bytO lo w a m g) (p : Addr) (v : Value) (hp : p.block < lo ∨ p.block = g) : bytO lo (w.setCell p v) a m g := by
  rcases h with h | ⟨q, e, h1, h2, h3⟩
  · exact .inl h
  · exact .inr ⟨q, e, h1, h2, rowB_other h3 _ _ (by omega)⟩
theorem bytO.alloc {lo g : Nat} {w : World} {a : Option Addr} {m : List Int} (h : bytO lo w a m g) (o : Obj) : bytO lo (w.alloc o) a m g := by
  rcases h with h | ⟨q, e, h1, h2, h3⟩
  · exact .inl h
  · exact .inr ⟨q, e, h1, h2, rowB_alloc h3 _⟩
theorem bytO.mono {lo hi g : Nat} {w : World} {a : Option Addr} {m : List Int} (h : bytO lo w a m g) (hl : hi ≤ lo) : bytO hi w a m g := by
  rcases h with h | ⟨q, e, h1, h2, h3⟩
  · exact .inl h
  · exact .inr ⟨q, e, Nat.le_trans hl h1, h2, h3⟩
theorem bytO.arg {lo g : Nat} {w : World} {a : Option Addr} {m : List Int} (h : bytO lo w a m g) (hm : m.length ≤ 9223372036854775807) : isByt w (.slice a m.length m.length) m := by
  rcases h with ⟨rfl, rfl⟩ | ⟨q, rfl, _, _, h3⟩
  · exact .inl ⟨_, _, rfl, rfl⟩
  · exact bytB_arg h3 hm
/-- A state of a drive in rows of its own. -/
def devD (lo : Nat) (w : World) (v : Value) (s : Dr) : Prop :=
  ∃ g a, v = .agg #[.slice (some ⟨g, 0, none⟩) 10 10, .slice a s.m.length s.m.length] ∧ lo ≤ g ∧ rowB w g 3 (nums s.ns) ∧ bytO lo w a s.m g
theorem devD.below {lo : Nat} {w w' : World} {v : Value} {s : Dr} (h : devD lo w v s) (hb : Below w.heap.size w w') : devD lo w' v s := by
  obtain ⟨g, a, e, h1, h2, h3⟩ := h
  exact ⟨g, a, e, h1, rowB_below h2 hb (rowB_lt h2), h3.below hb⟩
theorem devD.arg {lo : Nat} {w : World} {v : Value} {s : Dr} (h : devD lo w v s) (hm : s.m.length ≤ 9223372036854775807) : ∃ vx vm, v = .agg #[vx, vm] ∧ isArg w vx s.ns ∧ isByt w vm s.m := by
  obtain ⟨g, a, rfl, _, hr, hq⟩ := h
  exact ⟨_, _, rfl, numB_arg (l := s.ns) hr (by show 10 ≤ _; decide), hq.arg hm⟩
theorem devD.lo0 {lo : Nat} {w : World} {v : Value} {s : Dr} (h : devD lo w v s) : devD 0 w v s := by
  obtain ⟨g, a, e, _, h2, h3⟩ := h
  exact ⟨g, a, e, Nat.zero_le _, h2, h3.mono (Nat.zero_le _)⟩
/-- The numbers' row, cell by cell. -/
theorem nums_ten (k t c e n l d r o b : Int) : nums [k, t, c, e, n, l, d, r, o, b] = #[.int .i64 k, .int .i64 t, .int .i64 c, .int .i64 e, .int .i64 n, .int .i64 l, .int .i64 d, .int .i64 r, .int .i64 o, .int .i64 b] := rfl
theorem drCells {w : World} {g : Nat} {ty : TypeId} {k t c e n l d r o b : Int} (h : rowB w g ty (nums [k, t, c, e, n, l, d, r, o, b])) :
    (w.cell? ⟨g, 0, none⟩ = some (.int .i64 k) ∧ w.cell? ⟨g, 1, none⟩ = some (.int .i64 t) ∧ w.cell? ⟨g, 2, none⟩ = some (.int .i64 c) ∧ w.cell? ⟨g, 3, none⟩ = some (.int .i64 e) ∧ w.cell? ⟨g, 4, none⟩ = some (.int .i64 n) ∧ w.cell? ⟨g, 5, none⟩ = some (.int .i64 l) ∧ w.cell? ⟨g, 6, none⟩ = some (.int .i64 d) ∧ w.cell? ⟨g, 7, none⟩ = some (.int .i64 r) ∧ w.cell? ⟨g, 8, none⟩ = some (.int .i64 o) ∧ w.cell? ⟨g, 9, none⟩ = some (.int .i64 b)) ∧
    (w.frozen? ⟨g, 0, none⟩ = false ∧ w.frozen? ⟨g, 1, none⟩ = false ∧ w.frozen? ⟨g, 2, none⟩ = false ∧ w.frozen? ⟨g, 3, none⟩ = false ∧ w.frozen? ⟨g, 4, none⟩ = false ∧ w.frozen? ⟨g, 5, none⟩ = false ∧ w.frozen? ⟨g, 6, none⟩ = false ∧ w.frozen? ⟨g, 7, none⟩ = false ∧ w.frozen? ⟨g, 8, none⟩ = false ∧ w.frozen? ⟨g, 9, none⟩ = false) :=
  ⟨⟨rowB_cell h 0 rfl, rowB_cell h 1 rfl, rowB_cell h 2 rfl, rowB_cell h 3 rfl, rowB_cell h 4 rfl, rowB_cell h 5 rfl, rowB_cell h 6 rfl, rowB_cell h 7 rfl, rowB_cell h 8 rfl, rowB_cell h 9 rfl⟩,
    ⟨rowB_free h 0, rowB_free h 1, rowB_free h 2, rowB_free h 3, rowB_free h 4, rowB_free h 5, rowB_free h 6, rowB_free h 7, rowB_free h 8, rowB_free h 9⟩⟩
theorem splice_take (B : Nat) (lb : List Int) (h : B ≤ lb.length) : (splice ((List.replicate B (0 : Int)).map (Value.int .u8)) 0 ((lb.take B).map (Value.int .u8))).toArray = byts (lb.take B) := by
  rw [splice_pad]
  congr 1
  refine List.ext_getElem? fun i => ?_
  unfold pad
  rw [List.getElem?_map, List.getElem?_take]
  by_cases hi : i < B
  · rw [List.getElem?_range hi, if_pos hi, Option.map_some, List.getD_eq_getElem?_getD, List.getElem?_eq_getElem (show i < lb.length by omega)]
    rfl
  · rw [List.getElem?_eq_none (by simpa using hi), if_neg hi]; rfl
end Go.Proofs.Ytmjddoboogccoaa
