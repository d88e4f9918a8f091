/- The walk of the statement BitFields: it returns true for all numbers. -/
import Derived.Test.YtgiociijhpimoaaRefDecs
import Derived.Laws.CopyOwn
import Derived.Deep.DeepCutAuto
import Derived.Deep.RegionLaw
namespace Go.Proofs.Ytgiociijhpimoaa
open Go.RowKit

/-- A slice that the call owns and that is not empty: its block whole. -/
theorem own_open {B : Nat} {w : World} {v : Value} {l : List Int} (h : own B w v l) (hl : 0 < l.length) :
    ∃ g cap Y, v = .slice (some ⟨g, 0, none⟩) l.length cap ∧ B ≤ g ∧ g < w.heap.size ∧ w.heap[g]? = some (.cells (l.map (Value.int .i64) ++ Y).toArray 3 (0, 0)) ∧ cap = l.length + Y.length ∧ cap ≤ 9223372036854775807 := by
  rcases h.2 with ⟨rfl, h2⟩ | ⟨g, cap, cur, rfl, hb, hg, hn, hc, hs, ht⟩
  · omega
  · have ht' : cur.toList.take l.length = l.map (Value.int .i64) := by simpa using ht
    have e : l.map (Value.int .i64) ++ cur.toList.drop l.length = cur.toList := by rw [← ht', List.take_append_drop]
    refine ⟨g, cap, cur.toList.drop l.length, rfl, hb, (Array.getElem?_eq_some_iff.1 hg).1, ?_, ?_, by simpa [maxLen] using hc⟩
    · rw [e, Array.toArray_toList]; exact hg
    · have := Array.length_toList (xs := cur)
      rw [List.length_drop]; omega

theorem row_of_heap {w : World} {g cap : Nat} {l : List Int} {Y : List Value} (hg : w.heap[g]? = some (.cells (l.map (Value.int .i64) ++ Y).toArray 3 (0, 0)))
    (hc : l.length ≤ cap) (hm : cap ≤ 9223372036854775807) : isRow w (.slice (some ⟨g, 0, none⟩) l.length cap) l := by
  refine .inr ⟨g, 0, cap, rfl, (Array.getElem?_eq_some_iff.1 hg).1, hc, hm, fun j hj => ?_⟩
  rw [Nat.zero_add, cell_of_row w g j _ 3 (0, 0) hg]
  rw [List.getElem?_toArray, List.getElem?_append_left (by simpa using hj), List.getElem?_map, List.getD_eq_getElem?_getD, List.getElem?_eq_getElem hj]
  rfl

theorem splice_append {α : Type} (L Y : List α) (off : Nat) (cs : List α) (h : off + cs.length ≤ L.length) : splice (L ++ Y) off cs = splice L off cs ++ Y := by
  unfold splice
  rw [List.take_append_of_le_length (by omega), List.drop_append_of_le_length (by omega), List.append_assoc, List.append_assoc]
theorem splice_map {α β : Type} (f : α → β) (L : List α) (off : Nat) (cs : List α) : splice (L.map f) off (cs.map f) = (splice L off cs).map f := by
  unfold splice
  rw [List.map_append, List.map_append, List.map_take, List.map_drop, List.length_map]

theorem of2_append (l m : List Int) : of2 (l ++ m) = of2 l + 2 ^ l.length * of2 m := by
  induction l with
  | nil => simp [of2]
  | cons x l ih =>
    simp only [List.cons_append, of2, ih, List.length_cons]
    rw [p2_succ, Int.mul_assoc]
    omega
theorem digits_take (n : Int) (k c : Nat) (h : c ≤ k) : (digits n k).take c = digits n c := by
  have := digits_sub n k 0 c (by omega)
  simpa using this
theorem digits_drop (n : Int) (k a : Nat) (h : a ≤ k) : (digits n k).drop a = digits (n / 2 ^ a) (k - a) := by
  have := digits_sub n k a (k - a) (by omega)
  rw [List.take_of_length_le (by rw [List.length_drop, digits_len]; exact Nat.le_refl _)] at this
  exact this
theorem splice_bits {l m : List Int} (h : areBits l) (g : areBits m) (off : Nat) : areBits (splice l off m) := fun x hx => by
  unfold splice at hx
  rcases List.mem_append.1 hx with hx | hx
  · exact h x (List.mem_of_mem_take hx)
  · rcases List.mem_append.1 hx with hx | hx
    · exact g x hx
    · exact h x (List.mem_of_mem_drop hx)
theorem of2_splice (n : Int) (a s : Nat) (v : Int) (h : a + s ≤ 62) : of2 (splice (digits n 62) a (digits v s)) = putN n a s v := by
  unfold splice putN
  rw [digits_len, digits_take n 62 a (by omega), digits_drop n 62 (a + s) h, of2_append, of2_append, digits_len, digits_len, of2_digits, of2_digits, of2_digits]
  have e := lo_div n (a + s) (62 - (a + s))
  rw [show a + s + (62 - (a + s)) = 62 from by omega] at e
  rw [e, p2_add]
  generalize lo (n / (2 ^ a * 2 ^ s)) (62 - (a + s)) = H
  rw [Int.mul_add, Int.mul_comm (lo v s), Int.mul_comm H, Int.mul_assoc]
  omega
theorem splice_len (n v : Int) (a s : Nat) (h : a + s ≤ 62) : (splice (digits n 62) a (digits v s)).length = 62 := by
  rw [length_splice _ _ _ (by rw [digits_len, digits_len]; exact h), digits_len]

theorem own_form {B : Nat} {w : World} {v : Value} {l : List Int} (h : own B w v l) :
    ∃ sp sCap, v = .slice sp l.length sCap ∧ (0 < l.length → ∃ ad, sp = some ad ∧ ∀ j u, (l.map (Value.int .i64))[j]? = some u → w.cell? (ad.add j) = some u) := by
  have h0 := h
  rcases h.2 with ⟨rfl, h2⟩ | ⟨g, cap, cur, rfl, hb, hg, hn, hc, hs, ht⟩
  · exact ⟨none, 0, by rw [h2], fun hp => by omega⟩
  · exact ⟨_, _, rfl, fun _ => ⟨_, rfl, World.ownsRow.cells (g := g) h0 rfl⟩⟩
theorem digits2_src (n : Int) (k : Nat) (hk : k ≤ 62) (w : World) :
    Calls Try.prog 20 #[.int .i64 n, .int .i64 k] w fun e w' => ∃ sp sCap, e = .returned (.slice sp k sCap) ∧
      (0 < k → ∃ ad, sp = some ad ∧ ∀ j u, ((digits n k).map (Value.int .i64))[j]? = some u → w'.cell? (ad.add j) = some u) ∧ Below w.heap.size w w' :=
  (digits2_any n k w).mono fun _ _ ⟨v, he, ho, hb⟩ => by
    obtain ⟨sp, sCap, hv, h⟩ := own_form ho
    rw [wd_of k hk, digits_len] at hv h
    exact ⟨sp, sCap, by rw [he, hv], h, hb⟩

/-- The step at hand is a copy. -/
theorem at_copy {P : Program} {ops : Array Oper} {dst : Option Tmp} {d s : Operand} {ts : Array TypeId} {ty : TypeId} {pos : String} {after : Array Edge} {gd : Option (Nat × Bool)}
    {a : Act} {w : World} {K : Act → World → Prop} {Q : Exit → Act → World → Prop} {E : Prop}
    (h : if Region.wanted { dst := dst, op := Op.call { callee := Callee.builtin Builtin.copy, args := #[d, s], argTypes := ts }, type := ty, pos := pos, after := after, guard := gd } (yielded ops a.tmps) = true
      then Oper.wp P { dst := dst, op := Op.call { callee := Callee.builtin Builtin.copy, args := #[d, s], argTypes := ts }, type := ty, pos := pos, after := after, guard := gd } a w K Q else E) :
    if Region.wanted { dst := dst, op := Op.call { callee := Callee.builtin Builtin.copy, args := #[d, s], argTypes := ts }, type := ty, pos := pos, after := after, guard := gd } (yielded ops a.tmps) = true
      then Oper.wp P { dst := dst, op := Op.call { callee := Callee.builtin Builtin.copy, args := #[d, s], argTypes := ts }, type := ty, pos := pos, after := after, guard := gd } a w K Q else E := h

end Go.Proofs.Ytgiociijhpimoaa
