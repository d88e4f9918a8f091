/- The walk of the statement BitFields: it returns true for all numbers. -/
import Derived.Test.YtciedmpmjhnnpaaRefDecs
import Derived.Laws.CopyOwn
import Derived.Deep.DeepCutAuto
import Derived.Deep.RegionLaw
namespace Go.Proofs.Ytciedmpmjhnnpaa
open Go.RowKit

/-- A slice that the call owns and that is not empty: its block whole. -/
theorem own_open {B : Nat} {w : World} {v : Value} {l : List Int} (h : own B w v l) (hl : 0 < l.length) :
    ∃ g cap Y, v = .slice (some ⟨g, 0, none⟩) l.length cap ∧ B ≤ g ∧ g < w.heap.size ∧ w.heap[g]? = some (.cells (l.map (Value.int .i64) ++ Y).toArray 3 (0, 0)) ∧ cap = l.length + Y.length ∧ cap ≤ 9223372036854775807 := by
  rcases h.2 with ⟨rfl, h2⟩ | ⟨g, cap, cur, rfl, hb, hg, hn, hc, hs, ht⟩
  · omega
  · have ht' : cur.toList.take l.length = l.map (Value.int .i64) := by simpa using ht
    have e : l.map (Value.int .i64) ++ cur.toList.drop l.length = cur.toList := by rw [← ht', List.take_append_drop]
    refine ⟨g, cap, cur.toList.drop l.length, rfl, hb, (Array.getElem?_eq_some_iff.1 hg).1, ?_, ?_, by simpa [maxLen] using hc⟩
    · rw [e, Array.toArray_toList]; exact hg
    · have := Array.length_toList (xs := cur)
      rw [List.length_drop]; omega

theorem row_of_heap {w : World} {g cap : Nat} {l : List Int} {Y : List Value} (hg : w.heap[g]? = some (.cells (l.map (Value.int .i64) ++ Y).toArray 3 (0, 0)))
    (hc : l.length ≤ cap) (hm : cap ≤ 9223372036854775807) : isRow w (.slice (some ⟨g, 0, none⟩) l.length cap) l := by
  refine .inr ⟨g, 0, cap, rfl, (Array.getElem?_eq_some_iff.1 hg).1, hc, hm, fun j hj => ?_⟩
  rw [Nat.zero_add, cell_of_row w g j _ 3 (0, 0) hg]
  rw [List.getElem?_toArray, List.getElem?_append_left (by simpa using hj), List.getElem?_map, List.getD_eq_getElem?_getD, List.getElem?_eq_getElem hj]
  rfl

theorem splice_append {α : Type} (L Y : List α) (off : Nat) (cs : List α) (h : off + cs.length ≤ L.length) : splice (L ++ Y) off cs = splice L off cs ++ Y := by
  unfold splice
  rw [List.take_append_of_le_length (by omega), List.drop_append_of_le_length (by omega), List.append_assoc, List.append_assoc]
theorem splice_map {α β : Type} (f : α → β) (L : List α) (off : Nat) (cs : List α) : splice (L.map f) off (cs.map f) = (splice L off cs).map f := by
  unfold splice
  rw [List.map_append, List.map_append, List.map_take, List.map_drop, List.length_map]

theorem of2_append (l m : List Int) : of2 (l ++ m) = of2 l + 2 ^ l.length * of2 m := by
  induction l with
  | nil => simp [of2]
  | cons x l ih =>
    simp only [List.cons_append, of2, ih, List.length_cons]
    rw [p2_succ, Int.mul_assoc]
    omega
theorem digits_take (n : Int) (k c : Nat) (h : c ≤ k) : (digits n k).take c = digits n c := by
  have := digits_sub n k 0 c (by omega)
  simpa using this
theorem digits_drop (n : Int) (k a : Nat) (h : a ≤ k) : (digits n k).drop a = digits (n / 2 ^ a) (k - a) := by
  have := digits_sub n k a (k - a) (by omega)
  rw [List.take_of_length_le (by rw [List.length_drop, digits_len]; exact Nat.le_refl _)] at this
  exact this
theorem splice_bits {l m : List Int} (h : areBits l) (g : areBits m) (off : Nat) : areBits (splice l off m) := fun x hx => by
  unfold splice at hx
  rcases List.mem_append.1 hx with hx | hx
  · exact h x (List.mem_of_mem_take hx)
  · rcases List.mem_append.1 hx with hx | hx
    · exact g x hx
    · exact h x (List.mem_of_mem_drop hx)
theorem of2_splice (n : Int) (a s : Nat) (v : Int) (h : a + s ≤ 62) : of2 (splice (digits n 62) a (digits v s)) = putN n a s v := by
  unfold splice putN
  rw [digits_len, digits_take n 62 a (by omega), digits_drop n 62 (a + s) h, of2_append, of2_append, digits_len, digits_len, of2_digits, of2_digits, of2_digits]
  have e := lo_div n (a + s) (62 - (a + s))
  rw [show a + s + (62 - (a + s)) = 62 from by omega] at e
  rw [e, p2_add]
  generalize lo (n / (2 ^ a * 2 ^ s)) (62 - (a + s)) = H
  rw [Int.mul_add, Int.mul_comm (lo v s), Int.mul_comm H, Int.mul_assoc]
  omega
theorem splice_len (n v : Int) (a s : Nat) (h : a + s ≤ 62) : (splice (digits n 62) a (digits v s)).length = 62 := by
  rw [length_splice _ _ _ (by rw [digits_len, digits_len]; exact h), digits_len]

theorem own_form {B : Nat} {w : World} {v : Value} {l : List Int} (h : own B w v l) :
    ∃ sp sCap, v = .slice sp l.length sCap ∧ (0 < l.length → ∃ ad, sp = some ad ∧ ∀ j u, (l.map (Value.int .i64))[j]? = some u → w.cell? (ad.add j) = some u) := by
  have h0 := h
  rcases h.2 with ⟨rfl, h2⟩ | ⟨g, cap, cur, rfl, hb, hg, hn, hc, hs, ht⟩
  · exact ⟨none, 0, by rw [h2], fun hp => by omega⟩
  · exact ⟨_, _, rfl, fun _ => ⟨_, rfl, World.ownsRow.cells (g := g) h0 rfl⟩⟩
theorem digits2_src (n : Int) (k : Nat) (hk : k ≤ 62) (w : World) :
    Calls Try.prog 13 #[.int .i64 n, .int .i64 k] w fun e w' => ∃ sp sCap, e = .returned (.slice sp k sCap) ∧
      (0 < k → ∃ ad, sp = some ad ∧ ∀ j u, ((digits n k).map (Value.int .i64))[j]? = some u → w'.cell? (ad.add j) = some u) ∧ Below w.heap.size w w' :=
  (digits2_any n k w).mono fun _ _ ⟨v, he, ho, hb⟩ => by
    obtain ⟨sp, sCap, hv, h⟩ := own_form ho
    rw [wd_of k hk, digits_len] at hv h
    exact ⟨sp, sCap, by rw [he, hv], h, hb⟩

/-- The step at hand is a copy. -/
theorem at_copy {P : Program} {ops : Array Oper} {dst : Option Tmp} {d s : Operand} {ts : Array TypeId} {ty : TypeId} {pos : String} {after : Array Edge} {gd : Option (Nat × Bool)}
    {a : Act} {w : World} {K : Act → World → Prop} {Q : Exit → Act → World → Prop} {E : Prop}
    (h : if Region.wanted { dst := dst, op := Op.call { callee := Callee.builtin Builtin.copy, args := #[d, s], argTypes := ts }, type := ty, pos := pos, after := after, guard := gd } (yielded ops a.tmps) = true
      then Oper.wp P { dst := dst, op := Op.call { callee := Callee.builtin Builtin.copy, args := #[d, s], argTypes := ts }, type := ty, pos := pos, after := after, guard := gd } a w K Q else E) :
    if Region.wanted { dst := dst, op := Op.call { callee := Callee.builtin Builtin.copy, args := #[d, s], argTypes := ts }, type := ty, pos := pos, after := after, guard := gd } (yielded ops a.tmps) = true
      then Oper.wp P { dst := dst, op := Op.call { callee := Callee.builtin Builtin.copy, args := #[d, s], argTypes := ts }, type := ty, pos := pos, after := after, guard := gd } a w K Q else E := h

set_option maxHeartbeats 2000000 in
theorem bitFields_walk (n a s v : Int) (w : World) :
    Calls Try.prog 6 #[.int .i64 n, .int .i64 a, .int .i64 s, .int .i64 v] w fun e w' => e = .returned (.bool true) ∧ Below w.heap.size w w' := by
  have e62 : wd 62 = 62 := rfl
  have hA := wd_le a
  have hS := fz_le a s
  go_enter Try.func6, Try.ntmps6
  go_upto_region 4 with (first
      | (go_at_call 12; refine (bits_law _).mono ?_; rintro e w1 ⟨rfl, hq⟩)
      | (go_at_call 13; refine (digits2_any _ _ _).mono ?_; rintro e w2 ⟨r, rfl, hown, hbel⟩))
  rw [e62] at hown
  obtain ⟨g, cap, Y, rfl, hBg, hgs, hg, hcap, hcap2⟩ := own_open hown (by rw [digits_len]; decide)
  rw [digits_len] at hcap ⊢
  have Hg := Lib.hid hg
  clear hown hg
  have hcap0 : 62 ≤ cap := by omega
  have Hcap := Lib.hid hcap
  clear hcap
  go_cut [10] (fun f wx => f = .int .i64 (wd a : Nat) ∧ wx = w2)
  case first =>
    go_wp2
    all_goals
      go_meet
      case rel => exact ⟨by unfold wd; congr 1; omega, rfl⟩
  case rest =>
    obtain ⟨rfl, hw2⟩ := hcut
    subst hw2
    go_upto_region 5 with fail
    go_cut [11] (fun f wx => f = .int .i64 ((wd a : Nat) + (fz a s : Nat)) ∧ wx = wc)
    case first =>
      go_wp2
      all_goals
        go_meet
        case rel => exact ⟨by unfold fz; congr 1; omega, rfl⟩
    case rest =>
      obtain ⟨rfl, hw2⟩ := hcut
      subst hw2
      have ho := of2_digits (n / 2 ^ wd a) (fz a s)
      by_cases hca : cap = wd a
      · subst hca
        have hz : fz a s = 0 := by omega
        have hs2 : isRow wc (.slice (some ⟨g, 0, none⟩) (fz a s) 0) (digits (n / 2 ^ wd a) (fz a s)) := by
          rw [hz]
          exact .inr ⟨g, 0, 0, rfl, hgs, Nat.le_refl _, by decide, fun j hj => by cases hj⟩
        clear hz
        go_upto_region 9 with (first
          | (go_at_call 17; refine (of2_any _ _ _ hs2 (digits_bits _ _) (by rw [digits_len]; omega)).mono ?_; rintro e w' ⟨rfl, rfl⟩)
          | (go_at_call 28; refine (get_any _ _ _ _).mono ?_; rintro e w' ⟨rfl, rfl⟩))
        have q0 : (0 : Int) ≤ ((wd a : Nat) : Int) + ((fz a s : Nat) : Int) := by omega
        have q1 : ((wd a : Nat) : Int) + ((fz a s : Nat) : Int) ≤ ((wd a : Nat) : Int) := by omega
        have q2 : (((wd a : Nat) : Int) + ((fz a s : Nat) : Int)).toNat = wd a + fz a s := by omega
        have q3 : IntKind.i64.wrap (((wd a : Nat) : Int) + ((fz a s : Nat) : Int) - ((wd a : Nat) : Int)) = ((fz a s : Nat) : Int) := by rw [IntWalk.i64_in _ (by omega)]; omega
        go_cut [] (fun wx => wx.heap[g]? = some (.cells ((splice (digits n 62) (wd a) (digits v (fz a s))).map (Value.int .i64) ++ Y).toArray 3 (0, 0)) ∧ Below w1.heap.size w1 wx ∧ g < wx.heap.size)
        case first =>
          go_region_law (first
            | ((with_reducible refine at_copy ?_); refine step_copy_splice rfl (.tmp 41) (.tmp 46) 25 25 rfl 3 Try.underlying25 (by kernel_rfl) _ _ _ _ _ _ rfl rfl g (wd a) ((digits n 62).map (Value.int .i64) ++ Y) 3 ?hg ((digits v (fz a s)).map (Value.int .i64)) ?hn ?hpos ?hfit ?h1 w1.heap.size w1 ?hb hBg ?_; (case hg => exact (hbel3.block g hgs).trans Hg.out); (case hn => rw [List.length_map, digits_len]; exact (Nat.min_self _).symm); (case hpos => exact fun hp => by rw [List.length_map, digits_len] at hp; omega); (case hfit => simp only [List.length_append, List.length_map, digits_len]; omega); (case h1 => exact ints_oneCell .i64 _); (case hb => exact hbel.drew.trans (hbel3.mono hbel.size)); intro w4 hg4 hb4)
            | (go_simp; go_at_call 13; refine (digits2_src _ _ (by omega) _).mono ?_; rintro e w3 ⟨sp, sCap, rfl, hsrc, hbel3⟩; dsimp only))
          all_goals
            go_wp2_with fail
            go_meet
            case rel =>
              have e := hg4.out
              rw [splice_append _ _ _ _ (by simp only [List.length_map, digits_len]; omega), splice_map] at e
              exact ⟨e, hb4, (Array.getElem?_eq_some_iff.1 e).1⟩
        case rest =>
          obtain ⟨hg5, hb5, hgs5⟩ := hcut
          have hl5 := splice_len n v (wd a) (fz a s) (by omega)
          have hr5 := row_of_heap (cap := wd a) hg5 (by rw [hl5]; exact hcap0) hcap2
          rw [hl5] at hr5
          have hp5 := of2_splice n (wd a) (fz a s) v (by omega)
          have Hl5 := Lib.hid hl5
          have hbits := splice_bits (digits_bits n 62) (digits_bits v (fz a s)) (wd a)
          clear hl5 hg5
          go_wp2_with (first
            | (go_at_call 17; refine (of2_any _ _ _ hr5 hbits (by rw [Hl5.out]; decide)).mono ?_; rintro e w' ⟨rfl, rfl⟩)
            | (go_at_call 29; refine (put_any _ _ _ _ _).mono ?_; rintro e w' ⟨rfl, rfl⟩))
          go_ret
          exact ⟨rfl, (hq.below _).trans (hq.size ▸ hb5)⟩
      · have hs1 : isRow wc (.slice (some ⟨g, wd a, none⟩) (fz a s) (cap - wd a)) (digits (n / 2 ^ wd a) (fz a s)) := by
          have h := isRow_sub (w := wc) (b := g) (off := 0) (cap := cap) (l := digits n 62) (wd a) (fz a s) hgs (by rw [digits_len]; exact hcap0) hcap2 (fun j hj => by
            rw [Nat.zero_add, cell_of_row wc g j _ 3 (0, 0) Hg.out, List.getElem?_toArray, List.getElem?_append_left (by simpa using hj), List.getElem?_map, List.getD_eq_getElem?_getD, List.getElem?_eq_getElem hj]
            rfl) (by rw [digits_len]; exact hS)
          rw [digits_sub n 62 _ _ hS, Nat.zero_add] at h
          exact h
        go_upto_region 9 with (first
          | (go_at_call 17; refine (of2_any _ _ _ hs1 (digits_bits _ _) (by rw [digits_len]; omega)).mono ?_; rintro e w' ⟨rfl, rfl⟩)
          | (go_at_call 28; refine (get_any _ _ _ _).mono ?_; rintro e w' ⟨rfl, rfl⟩))
        have q0 : (0 : Int) ≤ ((wd a : Nat) : Int) + ((fz a s : Nat) : Int) := by omega
        have q1 : ((wd a : Nat) : Int) + ((fz a s : Nat) : Int) ≤ ((cap : Nat) : Int) := by omega
        have q2 : (((wd a : Nat) : Int) + ((fz a s : Nat) : Int)).toNat = wd a + fz a s := by omega
        have q3 : IntKind.i64.wrap (((wd a : Nat) : Int) + ((fz a s : Nat) : Int) - ((wd a : Nat) : Int)) = ((fz a s : Nat) : Int) := by rw [IntWalk.i64_in _ (by omega)]; omega
        go_cut [] (fun wx => wx.heap[g]? = some (.cells ((splice (digits n 62) (wd a) (digits v (fz a s))).map (Value.int .i64) ++ Y).toArray 3 (0, 0)) ∧ Below w1.heap.size w1 wx ∧ g < wx.heap.size)
        case first =>
          go_region_law (first
            | ((with_reducible refine at_copy ?_); refine step_copy_splice rfl (.tmp 41) (.tmp 46) 25 25 rfl 3 Try.underlying25 (by kernel_rfl) _ _ _ _ _ _ rfl rfl g (wd a) ((digits n 62).map (Value.int .i64) ++ Y) 3 ?hg ((digits v (fz a s)).map (Value.int .i64)) ?hn ?hpos ?hfit ?h1 w1.heap.size w1 ?hb hBg ?_; (case hg => exact (hbel3.block g hgs).trans Hg.out); (case hn => rw [List.length_map, digits_len]; exact (Nat.min_self _).symm); (case hpos => exact fun hp => ⟨rfl, hsrc (by rw [List.length_map, digits_len] at hp; exact hp)⟩); (case hfit => simp only [List.length_append, List.length_map, digits_len]; omega); (case h1 => exact ints_oneCell .i64 _); (case hb => exact hbel.drew.trans (hbel3.mono hbel.size)); intro w4 hg4 hb4)
            | (go_simp; go_at_call 13; refine (digits2_src _ _ (by omega) _).mono ?_; rintro e w3 ⟨sp, sCap, rfl, hsrc, hbel3⟩; dsimp only))
          all_goals
            go_wp2_with fail
            go_meet
            case rel =>
              have e := hg4.out
              rw [splice_append _ _ _ _ (by simp only [List.length_map, digits_len]; omega), splice_map] at e
              exact ⟨e, hb4, (Array.getElem?_eq_some_iff.1 e).1⟩
        case rest =>
          obtain ⟨hg5, hb5, hgs5⟩ := hcut
          have hl5 := splice_len n v (wd a) (fz a s) (by omega)
          have hr5 := row_of_heap (cap := cap) hg5 (by rw [hl5]; exact hcap0) hcap2
          rw [hl5] at hr5
          have hp5 := of2_splice n (wd a) (fz a s) v (by omega)
          have Hl5 := Lib.hid hl5
          have hbits := splice_bits (digits_bits n 62) (digits_bits v (fz a s)) (wd a)
          clear hl5 hg5
          go_wp2_with (first
            | (go_at_call 17; refine (of2_any _ _ _ hr5 hbits (by rw [Hl5.out]; decide)).mono ?_; rintro e w' ⟨rfl, rfl⟩)
            | (go_at_call 29; refine (put_any _ _ _ _ _).mono ?_; rintro e w' ⟨rfl, rfl⟩))
          go_ret
          exact ⟨rfl, (hq.below _).trans (hq.size ▸ hb5)⟩
end Go.Proofs.Ytciedmpmjhnnpaa
