/- A part of the proof of ChipBanks: DrvOwn. -/
import Derived.Test.YtakaebjojgeehaaChipBanksK01
import Derived.Test.YtakaebjojgeehaaChipBanksK02
import Derived.Test.YtakaebjojgeehaaChipBanksK03
import Derived.Test.YtakaebjojgeehaaChipBanksK04
import Derived.Test.YtakaebjojgeehaaChipBanksK05
import Derived.Test.YtakaebjojgeehaaChipBanksK06
import Derived.Test.YtakaebjojgeehaaChipBanksK15
import Derived.Test.YtakaebjojgeehaaChipBanksK17
import Derived.Test.YtakaebjojgeehaaChipBanksK19
import Derived.Test.YtakaebjojgeehaaChipBanksK20
import Derived.Test.YtakaebjojgeehaaChipBanksK21
import Derived.Test.YtakaebjojgeehaaChipBanksK22
import Derived.Test.YtakaebjojgeehaaChipBanksK23
import Derived.Below
import Derived.BigQuiet
import Derived.ChangeMaps5
import Derived.Deep.AppendSrc
import Derived.Deep.DeepAppendWide
import Derived.Deep.DeepCutAuto
import Derived.Deep.Draws
import Derived.Deep.MidRow
import Derived.Deep.OwnRows
import Derived.Deep.QuietTactic
import Derived.Deep.RegionHeld3
import Derived.Deep.RegionWith
import Derived.Deep.Slices
import Derived.Deep.WholeRow
import Derived.Laws.CopyOwn
import Derived.Laws.OwnMore
import Derived.Lib.Hide
import Derived.Lib.SmallJoins
import Derived.Maps.AppendAt
import Derived.OpenShut
import Derived.OrdersHeld
import Derived.OwnWalk
import Derived.RowKit3
import Derived.StillTactics
import Derived.StillTail
import Derived.StillTailTactics
import Derived.Test.YtakaebjojgeehaaChecked
import Derived.WalkKit
namespace Go.Proofs.Ytakaebjojgeehaa
open Go.RowKit
set_option maxRecDepth 100000
/-- The slice v of bytes belongs to the call (its block has a number from B on) and holds the list. -/
def own8 (B : Nat) (w : World) (v : Value) (l : List Int) : Prop := w.ownsRow B 5 1 v l.length (l.map (Value.int .u8))
/-- A byte as an element of a slice. -/
def isU8 (cs : List Value) (x : Int) : Prop := cs = [.int .u8 x]
theorem own8_of {B : Nat} {w : World} {v : Value} {l : List Int} (h : ownArr 1 isU8 B 5 w v l) : own8 B w v l := by
  obtain ⟨f, hf, ho, hR⟩ := h
  have e : flat f l.length = l.map (Value.int .u8) := by
    refine List.ext_getElem? fun i => ?_
    by_cases hi : i < l.length
    · have := flat_get (k := 1) hf hi (show 0 < 1 by decide)
      rw [Nat.mul_one, Nat.add_zero] at this
      rw [this, hR i l[i] (List.getElem?_eq_getElem hi), List.getElem?_map, List.getElem?_eq_getElem hi]
      rfl
    · rw [List.getElem?_eq_none (by rw [flat_length hf]; omega), List.getElem?_eq_none (by rw [List.length_map]; omega)]
  unfold own8
  rw [← e]
  exact ho
theorem byt_arr {w : World} {v : Value} {l : List Int} (h : isByt w v l) : isArr 1 (fun _ => isU8) w v l := by
  rcases h with h | ⟨b, off, cap, rfl, h1, h2, h3, h4⟩
  · exact .inl h
  · refine .inr ⟨b, off, cap, rfl, h1, h2, h3, fun i x hx => ⟨[.int .u8 x], rfl, fun j hj => ?_, rfl⟩⟩
    obtain rfl : j = 0 := by omega
    have hi := (List.getElem?_eq_some_iff.1 hx).1
    rw [Nat.mul_one, Nat.add_zero, h4 i hi, List.getD_eq_getElem?_getD, hx]
    rfl
theorem own8_mono {B B' : Nat} {w : World} {v : Value} {l : List Int} (h : own8 B w v l) (hB : B' ≤ B) : own8 B' w v l := by
  have h2 := h.2
  refine ⟨h.1, ?_⟩
  rcases h2 with hn | ⟨g, cap, cur, hv, hB2, r⟩
  · exact .inl hn
  · exact .inr ⟨g, cap, cur, hv, Nat.le_trans hB hB2, r⟩
theorem own8_byt {B : Nat} {w : World} {v : Value} {l : List Int} (h : own8 B w v l) : isByt w v l := by
  rcases h.2 with ⟨rfl, h2⟩ | ⟨g, cap, cur, rfl, hb, hg, hn, hc, hs, ht⟩
  · exact .inl ⟨_, _, rfl, List.eq_nil_of_length_eq_zero h2⟩
  · refine .inr ⟨g, 0, cap, rfl, (Array.getElem?_eq_some_iff.1 hg).1, hn, by simpa [maxLen] using hc, fun j hj => ?_⟩
    have e : (l.map (Value.int .u8))[j]? = some (.int .u8 (l.getD j 0)) := by
      rw [List.getElem?_map, List.getD_eq_getElem?_getD, List.getElem?_eq_getElem hj]; rfl
    have := World.ownsRow.cells (g := g) h rfl j _ e
    have ha : (⟨g, 0, none⟩ : Addr).add j = ⟨g, 0 + j, none⟩ := by unfold Addr.add; split <;> simp_all
    rw [← ha]; exact this
theorem own8_lt {B : Nat} {w : World} {v : Value} {l : List Int} (h : own8 B w v l) : ∀ k, v.ownBlock = some k → B ≤ k ∧ k < w.heap.size := World.ownsRow.lt h
theorem own8_below {B C : Nat} {w w' : World} {v : Value} {l : List Int} (h : own8 B w v l) (hb : Below C w w') (hC : w.heap.size ≤ C) : own8 B w' v l := by
  have h2 := h.2
  refine ⟨h.1, ?_⟩
  rcases h2 with hn | ⟨g, cap, cur, hv, hB, hg, r⟩
  · exact .inl hn
  · refine .inr ⟨g, cap, cur, hv, hB, ?_, r⟩
    rw [hb.block g (Nat.lt_of_lt_of_le (Array.getElem?_eq_some_iff.1 hg).1 hC)]; exact hg
theorem own8_set {B : Nat} {w : World} {v : Value} {l : List Int} (h : own8 B w v l) (i : Nat) (hi : i < l.length) :
    ∃ g cap, v = .slice (some ⟨g, 0, none⟩) l.length cap ∧ B ≤ g ∧ g < w.heap.size ∧ w.cell? ⟨g, i, none⟩ = some (.int .u8 (l.getD i 0)) ∧ w.frozen? ⟨g, i, none⟩ = false ∧
      ∀ x : Int, own8 B (w.setCell ⟨g, i, none⟩ (.int .u8 x)) v (l.set i x) := by
  have h0 := h
  rcases h.2 with ⟨rfl, h2⟩ | ⟨g, cap, cur, rfl, hb, hg, hn, hc, hs, ht⟩
  · omega
  · unfold own8 at h0
    refine ⟨g, cap, rfl, hb, (Array.getElem?_eq_some_iff.1 hg).1, ?_, World.ownsRow.frozenAt h0 _, fun x => ?_⟩
    · rw [World.ownsRow.cellAt h0 i (by omega), List.getElem?_map, List.getD_eq_getElem?_getD, List.getElem?_eq_getElem hi]; rfl
    · obtain ⟨h1, h2⟩ := World.ownsRow.stored h0 i (.int .u8 x)
      unfold own8
      rw [List.length_set, List.map_set]
      exact h1
theorem setCell_grown (w : World) (a : Addr) (v : Value) : w.grownBy (w.setCell a v) (some a.block) :=
  ⟨rfl, rfl, rfl, by simp, fun k _ hk => heap_setCell_other w a k v (fun e => hk (by simp [e]))⟩
/-- The cells of a state. -/
def Dr.cs (s : Dr) (u : Value) : Array Value := #[.int .i64 s.k, .int .i64 s.t, .int .i64 s.c, .int .i64 s.e, .int .i64 s.n, .int .i64 s.l, .int .i64 s.d, .int .i64 s.r, .int .i64 s.o, .int .i64 s.b, u]
theorem agDr : isAg Try.prog 75 11 := ⟨⟨_, Try.underlying75, rfl⟩, by kernel_rfl⟩
theorem Dr.cs_one {s : Dr} {u : Value} (h : u.oneCell' = true) : (s.cs u).all (·.oneCell') = true := by
  cases u <;> simp_all [Dr.cs, Value.oneCell']
theorem Dr.one {k t c e n l d r o b : Int} {u : Value} (h : u.oneCell' = true) : (#[.int .i64 k, .int .i64 t, .int .i64 c, .int .i64 e, .int .i64 n, .int .i64 l, .int .i64 d, .int .i64 r, .int .i64 o, .int .i64 b, u] : Array Value).all (·.oneCell') = true := by
  have := Dr.cs_one (s := ⟨k, t, c, e, n, l, d, r, o, b, []⟩) h
  exact this
theorem elCells {w : World} {y : Nat} {ty : TypeId} {k t c e n l d r o b m : Value} (h : rowB w y ty #[k, t, c, e, n, l, d, r, o, b, m]) :
    (w.cell? ⟨y, 0, none⟩ = some k ∧ w.cell? ⟨y, 1, none⟩ = some t ∧ w.cell? ⟨y, 2, none⟩ = some c ∧ w.cell? ⟨y, 3, none⟩ = some e ∧ w.cell? ⟨y, 4, none⟩ = some n ∧ w.cell? ⟨y, 5, none⟩ = some l ∧ w.cell? ⟨y, 6, none⟩ = some d ∧ w.cell? ⟨y, 7, none⟩ = some r ∧ w.cell? ⟨y, 8, none⟩ = some o ∧ w.cell? ⟨y, 9, none⟩ = some b ∧ w.cell? ⟨y, 10, none⟩ = some m) ∧
    (w.frozen? ⟨y, 0, none⟩ = false ∧ w.frozen? ⟨y, 1, none⟩ = false ∧ w.frozen? ⟨y, 2, none⟩ = false ∧ w.frozen? ⟨y, 3, none⟩ = false ∧ w.frozen? ⟨y, 4, none⟩ = false ∧ w.frozen? ⟨y, 5, none⟩ = false ∧ w.frozen? ⟨y, 6, none⟩ = false ∧ w.frozen? ⟨y, 7, none⟩ = false ∧ w.frozen? ⟨y, 8, none⟩ = false ∧ w.frozen? ⟨y, 9, none⟩ = false ∧ w.frozen? ⟨y, 10, none⟩ = false) :=
  ⟨⟨rowB_cell h 0 rfl, rowB_cell h 1 rfl, rowB_cell h 2 rfl, rowB_cell h 3 rfl, rowB_cell h 4 rfl, rowB_cell h 5 rfl, rowB_cell h 6 rfl, rowB_cell h 7 rfl, rowB_cell h 8 rfl, rowB_cell h 9 rfl, rowB_cell h 10 rfl⟩,
    ⟨rowB_free h 0, rowB_free h 1, rowB_free h 2, rowB_free h 3, rowB_free h 4, rowB_free h 5, rowB_free h 6, rowB_free h 7, rowB_free h 8, rowB_free h 9, rowB_free h 10⟩⟩
/-- The state s stands in the box y; its bytes belong to the call. -/
structure stD (lo : Nat) (w : World) (y : Nat) (s : Dr) (u : Value) : Prop where
  row : rowB w y 75 (s.cs u)
  own : own8 lo w u s.m
  ne : ∀ g, u.ownBlock = some g → g ≠ y
  lo : lo ≤ y
theorem stD.lt {lo : Nat} {w : World} {y : Nat} {s : Dr} {u : Value} (h : stD lo w y s u) : y < w.heap.size := rowB_lt h.row
theorem stD.put {lo : Nat} {w : World} {y : Nat} {s t : Dr} {u : Value} (h : stD lo w y s u) (i : Nat) (v : Value) (ht : (s.cs u).setIfInBounds i v = t.cs u) (hm : t.m = s.m) : stD lo (w.setCell ⟨y, i, none⟩ v) y t u := by
  refine ⟨?_, ?_, h.ne, h.lo⟩
  · have := rowB_set h.row i v
    rw [ht] at this
    exact this
  · rw [hm]
    refine World.ownsRow.kept h.own (setCell_grown w _ v) ?_
    cases e : u.ownBlock with
    | none => exact .inl rfl
    | some g => exact .inr (fun he => h.ne g e (by cases he; rfl))
theorem stD.below {lo : Nat} {w w' : World} {y : Nat} {s : Dr} {u : Value} (h : stD lo w y s u) (hb : Below w.heap.size w w') : stD lo w' y s u :=
  ⟨rowB_below h.row hb h.lt, own8_below h.own hb (Nat.le_refl _), h.ne, h.lo⟩
theorem stD.alloc {lo : Nat} {w : World} {y : Nat} {s : Dr} {u : Value} (h : stD lo w y s u) (o : Obj) : stD lo (w.alloc o) y s u :=
  ⟨rowB_alloc h.row o, World.ownsRow.alloc h.own o, h.ne, h.lo⟩
theorem stD.drew {lo : Nat} {w : World} {y : Nat} {s : Dr} {u : Value} (h : stD lo w y s u) : stD lo w.drew y s u := ⟨h.row, h.own, h.ne, h.lo⟩
theorem stD.byte {lo : Nat} {w : World} {y : Nat} {s : Dr} {u : Value} (h : stD lo w y s u) (i : Nat) (hi : i < s.m.length) :
    ∃ g cap, u = .slice (some ⟨g, 0, none⟩) s.m.length cap ∧ lo ≤ g ∧ w.cell? ⟨g, i, none⟩ = some (.int .u8 (s.m.getD i 0)) ∧ w.frozen? ⟨g, i, none⟩ = false ∧
      ∀ x : Int, stD lo (w.setCell ⟨g, i, none⟩ (.int .u8 x)) y { s with m := s.m.set i x } u := by
  obtain ⟨g, cap, hu, h1, h2, h3, h4, h5⟩ := own8_set h.own i hi
  exact ⟨g, cap, hu, h1, h3, h4, fun x => ⟨rowB_other h.row ⟨g, i, none⟩ _ (h.ne g (by rw [hu]; rfl)), h5 x, h.ne, h.lo⟩⟩
theorem stD.slice {lo : Nat} {w : World} {y : Nat} {s : Dr} {u : Value} (h : stD lo w y s u) : ∃ a cap, u = .slice a s.m.length cap := by
  obtain ⟨a, cap, e, _⟩ := isByt_form (own8_byt h.own)
  exact ⟨a, cap, e⟩
end Go.Proofs.Ytakaebjojgeehaa
