/- Plain facts on the binary digits of a number as a list, the lowest one first. No program is named here. -/
import Derived.Test.YtmjddoboogccoaaBitMath
import Derived.WalkKit
namespace Go.Proofs.Ytmjddoboogccoaa
open Go.RowKit

def bitOf (n : Int) (i : Nat) : Int := n / 2 ^ i % 2
def digits (n : Int) (k : Nat) : List Int := (List.range k).map (bitOf n)
def of2 : List Int → Int
  | [] => 0
  | x :: l => x + 2 * of2 l
def isBit (x : Int) : Prop := 0 ≤ x ∧ x ≤ 1
def areBits (l : List Int) : Prop := ∀ x, x ∈ l → isBit x
def sumL : List Int → Int
  | [] => 0
  | x :: l => x + sumL l

theorem bitOf_bit (n : Int) (i : Nat) : isBit (bitOf n i) := by unfold bitOf isBit; omega
theorem digits_len (n : Int) (k : Nat) : (digits n k).length = k := by unfold digits; simp
theorem digits_bits (n : Int) (k : Nat) : areBits (digits n k) := by
  intro x hx
  unfold digits at hx
  obtain ⟨i, _, rfl⟩ := List.mem_map.1 hx
  exact bitOf_bit n i
theorem digits_zero (n : Int) : digits n 0 = [] := rfl
theorem digits_snoc (n : Int) (k : Nat) : digits n (k + 1) = digits n k ++ [bitOf n k] := by
  unfold digits; rw [List.range_succ, List.map_append]; rfl
theorem bitOf_zero (n : Int) : bitOf n 0 = n % 2 := by unfold bitOf; simp
theorem div_p2 (n : Int) (i : Nat) : n / 2 / 2 ^ i = n / 2 ^ (i + 1) := by
  rw [Int.ediv_ediv_of_nonneg (by decide), Int.pow_succ, Int.mul_comm]
theorem bitOf_half (n : Int) (i : Nat) : bitOf (n / 2) i = bitOf n (i + 1) := by unfold bitOf; rw [div_p2]
theorem digits_cons (n : Int) (k : Nat) : digits n (k + 1) = n % 2 :: digits (n / 2) k := by
  unfold digits
  rw [List.range_succ_eq_map, List.map_cons, List.map_map, bitOf_zero]
  congr 1
  refine List.map_congr_left fun i _ => ?_
  exact (bitOf_half n i).symm

theorem of2_bd {l : List Int} (h : areBits l) : 0 ≤ of2 l ∧ of2 l < 2 ^ l.length := by
  induction l with
  | nil => exact ⟨by decide, by decide⟩
  | cons x l ih =>
    have h1 := ih (fun y hy => h y (List.mem_cons_of_mem _ hy))
    have h2 := h x List.mem_cons_self
    unfold isBit at h2
    simp only [of2, List.length_cons]
    rw [p2_succ]
    omega
theorem of2_digits (n : Int) (k : Nat) : of2 (digits n k) = lo n k := by
  induction k generalizing n with
  | zero => simp [digits, of2, lo, Int.emod_one]
  | succ k ih =>
    rw [digits_cons, of2, ih]
    unfold lo
    rw [p2_succ]
    have h := Int.emod_def n (2 * 2 ^ k)
    have h2 := Int.emod_def (n / 2) (2 ^ k)
    have h3 : n / (2 * 2 ^ k) = n / 2 / 2 ^ k := (Int.ediv_ediv_of_nonneg (by decide)).symm
    rw [h, h2, h3, Int.mul_assoc]
    generalize 2 ^ k * (n / 2 / 2 ^ k) = X
    omega
theorem of2_snoc (l : List Int) (x : Int) : of2 (l ++ [x]) = of2 l + x * 2 ^ l.length := by
  induction l with
  | nil => simp [of2]
  | cons y l ih =>
    simp only [List.cons_append, of2, ih, List.length_cons]
    rw [p2_succ, Int.mul_left_comm x 2]
    omega
theorem digits_of2 {l : List Int} (h : areBits l) : digits (of2 l) l.length = l := by
  induction l with
  | nil => rfl
  | cons x l ih =>
    have h1 := ih (fun y hy => h y (List.mem_cons_of_mem _ hy))
    have h2 := h x List.mem_cons_self
    unfold isBit at h2
    rw [List.length_cons, digits_cons]
    simp only [of2]
    have e1 : (x + 2 * of2 l) % 2 = x := by omega
    have e2 : (x + 2 * of2 l) / 2 = of2 l := by omega
    rw [e1, e2, h1]
theorem digits_nought (k : Nat) : digits 0 k = List.replicate k 0 := by
  induction k with
  | zero => rfl
  | succ k ih => rw [digits_cons, List.replicate_succ]; simp [ih]
theorem digits_of2_more {l : List Int} (h : areBits l) (k : Nat) : digits (of2 l) (l.length + k) = l ++ List.replicate k 0 := by
  induction l with
  | nil => simp [of2, digits_nought]
  | cons x l ih =>
    have h1 := ih (fun y hy => h y (List.mem_cons_of_mem _ hy))
    have h2 := h x List.mem_cons_self
    unfold isBit at h2
    rw [List.length_cons, show l.length + 1 + k = (l.length + k) + 1 from by omega, digits_cons]
    simp only [of2]
    have e1 : (x + 2 * of2 l) % 2 = x := by omega
    have e2 : (x + 2 * of2 l) / 2 = of2 l := by omega
    rw [e1, e2, h1]; rfl
theorem sumL_append (l m : List Int) : sumL (l ++ m) = sumL l + sumL m := by
  induction l with
  | nil => simp [sumL]
  | cons x l ih => simp only [List.cons_append, sumL, ih]; omega
theorem sumL_reverse (l : List Int) : sumL l.reverse = sumL l := by
  induction l with
  | nil => rfl
  | cons x l ih => rw [List.reverse_cons, sumL_append, ih]; simp only [sumL]; omega
theorem sumL_noughts (k : Nat) : sumL (List.replicate k 0) = 0 := by
  induction k with
  | zero => rfl
  | succ k ih => rw [List.replicate_succ, sumL, ih]; rfl
theorem sumL_bd {l : List Int} (h : areBits l) : 0 ≤ sumL l ∧ sumL l ≤ l.length := by
  induction l with
  | nil => exact ⟨by decide, by decide⟩
  | cons x l ih =>
    have h1 := ih (fun y hy => h y (List.mem_cons_of_mem _ hy))
    have h2 := h x List.mem_cons_self
    unfold isBit at h2
    simp only [sumL, List.length_cons]
    omega

/-- How many of the lowest 62 bits are 1. -/
def cnt (n : Int) : Int := sumL (digits n 62)
theorem cnt_of2 {l : List Int} (h : areBits l) (hl : l.length ≤ 62) : cnt (of2 l) = sumL l := by
  have e : 62 = l.length + (62 - l.length) := by omega
  unfold cnt
  rw [e, digits_of2_more h, sumL_append, sumL_noughts]
  omega

/-- A number with its bits in the opposite order. -/
def rv (n : Int) (k : Nat) : Int := of2 (digits n k).reverse
theorem rev_bits {l : List Int} (h : areBits l) : areBits l.reverse := fun x hx => h x (List.mem_reverse.1 hx)
theorem rv_zero (n : Int) : rv n 0 = 0 := rfl
theorem rv_succ (n : Int) (k : Nat) : rv n (k + 1) = bitOf n k + 2 * rv n k := by
  unfold rv; rw [digits_snoc, List.reverse_append]; rfl
theorem rv_bd (n : Int) (k : Nat) : 0 ≤ rv n k ∧ rv n k < 2 ^ k := by
  have := of2_bd (rev_bits (digits_bits n k))
  rw [List.length_reverse, digits_len] at this
  exact this
theorem rv_rv (n : Int) (k : Nat) : rv (rv n k) k = lo n k := by
  have h := digits_of2 (rev_bits (digits_bits n k))
  rw [List.length_reverse, digits_len] at h
  show of2 (digits (of2 (digits n k).reverse) k).reverse = lo n k
  rw [h, List.reverse_reverse, of2_digits]
theorem cnt_rv (n : Int) (k : Nat) (h : k ≤ 62) : cnt (rv n k) = cnt (lo n k) := by
  unfold rv
  rw [cnt_of2 (rev_bits (digits_bits n k)) (by rw [List.length_reverse, digits_len]; exact h), sumL_reverse, ← of2_digits, cnt_of2 (digits_bits n k) (by rw [digits_len]; exact h)]

/-! The lowest 1 struck. -/
theorem nat_and_half (a b : Nat) : (a &&& b) / 2 = a / 2 &&& b / 2 := by
  have := Nat.shiftRight_and_distrib (a := a) (b := b) (i := 1)
  simpa [Nat.shiftRight_eq_div_pow] using this
theorem nat_and_mod (a b : Nat) : (a &&& b) % 2 = (a % 2) &&& (b % 2) := by
  have := Nat.and_mod_two_pow (a := a) (b := b) (n := 1)
  simpa using this
theorem strike_sum (k r : Nat) (h0 : 0 < r) (h1 : r < 2 ^ k) : sumL (digits ((r &&& (r - 1) : Nat) : Int) k) + 1 = sumL (digits (r : Int) k) := by
  induction k generalizing r with
  | zero => simp at h1; omega
  | succ k ih =>
    rw [digits_cons, digits_cons]
    simp only [sumL]
    have e1 : (((r &&& (r - 1) : Nat) : Int) / 2) = (((r &&& (r - 1)) / 2 : Nat) : Int) := by simp
    have e2 : ((r : Int) / 2) = ((r / 2 : Nat) : Int) := by simp
    have e3 : (((r &&& (r - 1) : Nat) : Int) % 2) = (((r &&& (r - 1)) % 2 : Nat) : Int) := by simp
    have e4 : ((r : Int) % 2) = ((r % 2 : Nat) : Int) := by simp
    rw [e1, e2, e3, e4, nat_and_half, nat_and_mod]
    have hp : 2 ^ (k + 1) = 2 * 2 ^ k := by rw [Nat.pow_succ, Nat.mul_comm]
    rcases Nat.mod_two_eq_zero_or_one r with h | h
    · have h2 : (r - 1) / 2 = r / 2 - 1 := by omega
      have h3 : (r - 1) % 2 = 1 := by omega
      rw [h, h2, h3]
      have := ih (r / 2) (by omega) (by omega)
      have hz : (0 &&& 1 : Nat) = 0 := rfl
      rw [hz]
      omega
    · have h2 : (r - 1) / 2 = r / 2 := by omega
      have h3 : (r - 1) % 2 = 0 := by omega
      rw [h, h2, h3, Nat.and_self]
      have hz : (1 &&& 0 : Nat) = 0 := rfl
      rw [hz]
      omega
theorem strike_lt (r : Nat) (h0 : 0 < r) : (r &&& (r - 1)) < r := Nat.lt_of_le_of_lt Nat.and_le_right (by omega)
theorem and_nat (a b : Nat) (ha : a < 9223372036854775808) (hb : b < 9223372036854775808) : bits .and .i64 (a : Int) (b : Int) = ((a &&& b : Nat) : Int) := by
  show IntKind.i64.wrap ((BitVec.ofInt 64 (a : Int) &&& BitVec.ofInt 64 (b : Int)).toNat : Int) = _
  rw [BitVec.toNat_and, nat_ofInt _ (by omega), nat_ofInt _ (by omega)]
  have : a &&& b ≤ a := Nat.and_le_left
  exact IntWalk.i64_in _ ⟨by omega, by omega⟩

/-! The number whose two's complement the lowest bits are. -/
def sg (n : Int) (k : Nat) : Int := if 2 * lo n k < 2 ^ k then lo n k else lo n k - 2 ^ k
theorem sg_eq (n : Int) (k : Nat) (h : k ≤ 62) : wrap64 (n * 2 ^ (64 - k)) / 2 ^ (64 - k) = sg n k := by
  have hm : (18446744073709551616 : Int) = 2 ^ k * 2 ^ (64 - k) := by
    rw [← p2_add, show k + (64 - k) = 64 from by omega]; rfl
  have hn : n * 2 ^ (64 - k) = 18446744073709551616 * (n / 2 ^ k) + lo n k * 2 ^ (64 - k) := by
    rw [hm]
    have := Int.mul_ediv_add_emod n (2 ^ k)
    unfold lo
    generalize n / 2 ^ k = q at *
    generalize n % 2 ^ k = r at *
    rw [← this, Int.add_mul, Int.mul_assoc, Int.mul_assoc, Int.mul_comm q]
  have h0 := lo_nonneg n k
  have h1 := lo_lt n k
  have hp := p2_pos (64 - k)
  have hx0 : 0 ≤ lo n k * 2 ^ (64 - k) := Int.mul_nonneg h0 (Int.le_of_lt hp)
  unfold sg
  split
  · rename_i hs
    have hx1 : 2 * (lo n k * 2 ^ (64 - k)) < 18446744073709551616 := by
      rw [hm, ← Int.mul_assoc]
      exact Int.mul_lt_mul_of_pos_right hs hp
    have hw : wrap64 (n * 2 ^ (64 - k)) = lo n k * 2 ^ (64 - k) := by
      rw [hn]; generalize lo n k * 2 ^ (64 - k) = X at *; unfold wrap64; omega
    rw [hw, Int.mul_ediv_cancel _ (Int.ne_of_gt hp)]
  · rename_i hs
    have hx1 : 18446744073709551616 ≤ 2 * (lo n k * 2 ^ (64 - k)) := by
      rw [hm, ← Int.mul_assoc]
      exact Int.mul_le_mul_of_nonneg_right (by omega) (Int.le_of_lt hp)
    have hx2 : lo n k * 2 ^ (64 - k) < 18446744073709551616 := by
      rw [hm]; exact Int.mul_lt_mul_of_pos_right h1 hp
    have hw : wrap64 (n * 2 ^ (64 - k)) = (lo n k - 2 ^ k) * 2 ^ (64 - k) := by
      rw [hn, Int.sub_mul, ← hm]; generalize lo n k * 2 ^ (64 - k) = X at *; unfold wrap64; omega
    rw [hw, Int.mul_ediv_cancel _ (Int.ne_of_gt hp)]
theorem lo_sg (n : Int) (k : Nat) : lo (sg n k) k = lo n k := by
  unfold sg
  split
  · exact lo_lo n k
  · unfold lo
    have : n % 2 ^ k - 2 ^ k = n % 2 ^ k + 2 ^ k * (-1) := by rw [Int.mul_comm]; omega
    rw [this, Int.add_mul_emod_self_left]
    exact Int.emod_emod_of_dvd _ (Int.dvd_refl _)

theorem of2_drop (l : List Int) (q : Nat) (h : q < l.length) : of2 (l.drop q) = l.getD q 0 + 2 * of2 (l.drop (q + 1)) := by
  rw [List.drop_eq_getElem_cons h, List.getD_eq_getElem?_getD, List.getElem?_eq_getElem h]; rfl
theorem drop_bits {l : List Int} (h : areBits l) (q : Nat) : areBits (l.drop q) := fun x hx => h x (List.mem_of_mem_drop hx)
theorem take_bits {l : List Int} (h : areBits l) (q : Nat) : areBits (l.take q) := fun x hx => h x (List.mem_of_mem_take hx)
theorem getD_bit {l : List Int} (h : areBits l) (q : Nat) (hq : q < l.length) : isBit (l.getD q 0) := by
  rw [List.getD_eq_getElem?_getD, List.getElem?_eq_getElem hq]; exact h _ (List.getElem_mem hq)
theorem of2_bd62 {l : List Int} (h : areBits l) (hl : l.length ≤ 62) : 0 ≤ of2 l ∧ of2 l ≤ 4611686018427387903 := by
  have h1 := of2_bd h
  have h2 := p2_62 l.length hl
  omega
theorem of2_drop_bd {l : List Int} (h : areBits l) (hl : l.length ≤ 62) (q : Nat) (hq : q < l.length) : 0 ≤ of2 (l.drop (q + 1)) ∧ of2 (l.drop (q + 1)) ≤ 2305843009213693951 := by
  have h1 := of2_bd (drop_bits h (q + 1))
  have h2 : (2 : Int) ^ (l.drop (q + 1)).length ≤ 2 ^ 61 := p2_le (by rw [List.length_drop]; omega)
  have e : (2 : Int) ^ 61 = 2305843009213693952 := by decide
  omega

theorem digits_get (n : Int) (k i : Nat) (h : i < (digits n k).length) : (digits n k)[i] = bitOf n i := by
  have e : (digits n k)[i]? = some (bitOf n i) := by
    have hk : i < k := by rw [digits_len] at h; exact h
    unfold digits; rw [List.getElem?_map, List.getElem?_range hk]; rfl
  rw [List.getElem?_eq_getElem h] at e
  exact Option.some.inj e
theorem bitOf_div (n : Int) (a i : Nat) : bitOf (n / 2 ^ a) i = bitOf n (a + i) := by
  unfold bitOf; rw [Int.ediv_ediv_of_nonneg (Int.le_of_lt (p2_pos a)), ← p2_add]
theorem digits_sub (n : Int) (k a c : Nat) (h : a + c ≤ k) : ((digits n k).drop a).take c = digits (n / 2 ^ a) c := by
  refine List.ext_getElem (by rw [List.length_take, List.length_drop, digits_len, digits_len]; omega) fun i h1 h2 => ?_
  rw [List.getElem_take, List.getElem_drop, digits_get, digits_get, bitOf_div]
end Go.Proofs.Ytmjddoboogccoaa
