/- The registers of a processor and its flags: plain facts. No program is named here. -/
import Derived.Test.YtmjddoboogccoaaBitMath
import Derived.Lib.Hide
import Derived.WalkKit
namespace Go.Proofs.Ytmjddoboogccoaa
open Go.RowKit

def bitsN (k : Nat) : Nat := if k = 7 ∨ k = 8 then 16 else 8
def fitR (f : Nat → Int) (k : Nat) : Int := lo (f k) (bitsN k)
def setR (f : Nat → Int) (k : Nat) (x : Int) (j : Nat) : Int := if j = k then x else f j
/-- The registers are as large as they may be. -/
def fits (f : Nat → Int) : Prop := ∀ k, 0 ≤ f k ∧ f k < 65536 ∧ (k ≠ 7 → k ≠ 8 → f k < 256)
theorem fits_fit (f : Nat → Int) : fits (fitR f) := fun k => by
  unfold fitR bitsN lo
  by_cases h : k = 7 ∨ k = 8
  · rw [if_pos h]; have : (2 : Int) ^ 16 = 65536 := by decide
    rw [this]; omega
  · rw [if_neg h]; have : (2 : Int) ^ 8 = 256 := by decide
    rw [this]; omega
theorem fit_fits {f : Nat → Int} (h : fits f) : fitR f = f := by
  funext k
  have := h k
  unfold fitR bitsN
  by_cases h : k = 7 ∨ k = 8
  · rw [if_pos h]; refine lo_of this.1 ?_
    show f k < 65536; omega
  · rw [if_neg h]; refine lo_of this.1 ?_
    show f k < 256; omega
theorem setR_same (f : Nat → Int) (k : Nat) (x : Int) : setR f k x k = x := by unfold setR; rw [if_pos rfl]
theorem setR_other (f : Nat → Int) (k j : Nat) (x : Int) (h : j ≠ k) : setR f k x j = f j := by unfold setR; rw [if_neg h]
theorem setR_self (f : Nat → Int) (k : Nat) : setR f k (f k) = f := by
  funext j; unfold setR; by_cases h : j = k
  · rw [if_pos h, h]
  · rw [if_neg h]
theorem setR_setR (f : Nat → Int) (k : Nat) (x y : Int) : setR (setR f k x) k y = setR f k y := by
  funext j; unfold setR; by_cases h : j = k
  · rw [if_pos h, if_pos h]
  · rw [if_neg h, if_neg h, if_neg h]
theorem fits_set {f : Nat → Int} (h : fits f) (k : Nat) (x : Int) (h0 : 0 ≤ x) (h1 : x < 256) : fits (setR f k x) := fun j => by
  have := h j
  unfold setR
  by_cases e : j = k
  · rw [if_pos e]; omega
  · rw [if_neg e]; exact this
/-- A byte's value in a register, cut to its size. -/
def lo8 (n : Int) : Int := lo n 8
theorem lo8_eq (n : Int) : lo n 8 = n % 256 := rfl
theorem lo16_eq (n : Int) : lo n 16 = n % 65536 := rfl
theorem lo8_bd (n : Int) : 0 ≤ lo n 8 ∧ lo n 8 < 256 := by rw [lo8_eq]; omega

/-- The flags register with the flags of a byte. -/
def flg (p n : Int) : Int := p - p / 2 % 2 * 2 - p / 128 % 2 * 128 + (if n % 256 = 0 then 2 else 0) + (if 128 ≤ n % 256 then 128 else 0)
/-- .. with a carry. -/
def car (p c : Int) : Int := p - p % 2 + c
theorem flg_bd (p n : Int) (h : 0 ≤ p ∧ p < 256) : 0 ≤ flg p n ∧ flg p n < 256 := by
  unfold flg; split <;> split <;> omega
theorem car_bd (p c : Int) (h : 0 ≤ p ∧ p < 256) (hc : c = 0 ∨ c = 1) : 0 ≤ car p c ∧ car p c < 256 := by
  unfold car; omega
theorem byte_fin {p : Int} (h : 0 ≤ p ∧ p < 256) : ∃ n : Fin 256, p = (n.val : Int) := ⟨⟨p.toNat, by omega⟩, by simp; omega⟩

theorem not130 {p : Int} (h : 0 ≤ p ∧ p < 256) : bits .andNot .i64 p 130 = p - p / 2 % 2 * 2 - p / 128 % 2 * 128 := by
  obtain ⟨n, rfl⟩ := byte_fin h
  exact (by decide +kernel : ∀ n : Fin 256, bits .andNot .i64 (n.val : Int) 130 = (n.val : Int) - (n.val : Int) / 2 % 2 * 2 - (n.val : Int) / 128 % 2 * 128) n
theorem or2 {p : Int} (h : 0 ≤ p ∧ p < 256) : bits .or .i64 (p - p / 2 % 2 * 2 - p / 128 % 2 * 128) 2 = p - p / 2 % 2 * 2 - p / 128 % 2 * 128 + 2 := by
  obtain ⟨n, rfl⟩ := byte_fin h
  exact (by decide +kernel : ∀ n : Fin 256, bits .or .i64 ((n.val : Int) - (n.val : Int) / 2 % 2 * 2 - (n.val : Int) / 128 % 2 * 128) 2 = (n.val : Int) - (n.val : Int) / 2 % 2 * 2 - (n.val : Int) / 128 % 2 * 128 + 2) n
theorem or128 {p : Int} (h : 0 ≤ p ∧ p < 256) : bits .or .i64 (p - p / 2 % 2 * 2 - p / 128 % 2 * 128) 128 = p - p / 2 % 2 * 2 - p / 128 % 2 * 128 + 128 := by
  obtain ⟨n, rfl⟩ := byte_fin h
  exact (by decide +kernel : ∀ n : Fin 256, bits .or .i64 ((n.val : Int) - (n.val : Int) / 2 % 2 * 2 - (n.val : Int) / 128 % 2 * 128) 128 = (n.val : Int) - (n.val : Int) / 2 % 2 * 2 - (n.val : Int) / 128 % 2 * 128 + 128) n
theorem not1 {p : Int} (h : 0 ≤ p ∧ p < 256) : bits .andNot .i64 p 1 = p - p % 2 := by
  obtain ⟨n, rfl⟩ := byte_fin h
  exact (by decide +kernel : ∀ n : Fin 256, bits .andNot .i64 (n.val : Int) 1 = (n.val : Int) - (n.val : Int) % 2) n
theorem orc {p c : Int} (h : 0 ≤ p ∧ p < 256) (hc : c = 0 ∨ c = 1) : bits .or .i64 (p - p % 2) c = p - p % 2 + c := by
  obtain ⟨n, rfl⟩ := byte_fin h
  rcases hc with rfl | rfl
  · exact (by decide +kernel : ∀ n : Fin 256, bits .or .i64 ((n.val : Int) - (n.val : Int) % 2) 0 = (n.val : Int) - (n.val : Int) % 2 + 0) n
  · exact (by decide +kernel : ∀ n : Fin 256, bits .or .i64 ((n.val : Int) - (n.val : Int) % 2) 1 = (n.val : Int) - (n.val : Int) % 2 + 1) n
theorem and128 {p : Int} (h : 0 ≤ p ∧ p < 256) : bits .and .i64 p 128 = (if 128 ≤ p then 128 else 0) := by
  obtain ⟨n, rfl⟩ := byte_fin h
  exact (by decide +kernel : ∀ n : Fin 256, bits .and .i64 (n.val : Int) 128 = (if 128 ≤ (n.val : Int) then 128 else 0)) n
/-- A joint of two bytes is a byte. -/
theorem nat_lt_or {a b : Nat} (ha : a < 256) (hb : b < 256) : a ||| b < 256 := Nat.or_lt_two_pow (n := 8) ha hb
theorem bits_nat (op : BitVec 64 → BitVec 64 → BitVec 64) (r a b : Nat) (e : (op (BitVec.ofInt 64 (a : Int)) (BitVec.ofInt 64 (b : Int))).toNat = r) (hr : r < 256) : IntKind.i64.wrap ((op (BitVec.ofInt 64 (a : Int)) (BitVec.ofInt 64 (b : Int))).toNat : Int) = (r : Int) := by
  rw [e]; exact IntWalk.i64_in _ ⟨by omega, by omega⟩
theorem or_byte {a b : Int} (ha : 0 ≤ a ∧ a < 256) (hb : 0 ≤ b ∧ b < 256) : 0 ≤ bits .or .i64 a b ∧ bits .or .i64 a b < 256 := by
  obtain ⟨x, rfl⟩ := Int.eq_ofNat_of_zero_le ha.1
  obtain ⟨y, rfl⟩ := Int.eq_ofNat_of_zero_le hb.1
  have hlt := nat_lt_or (a := x) (b := y) (by omega) (by omega)
  have e : bits .or .i64 (x : Int) (y : Int) = ((x ||| y : Nat) : Int) := bits_nat (· ||| ·) _ x y (by rw [BitVec.toNat_or, nat_ofInt _ (by omega), nat_ofInt _ (by omega)]) hlt
  rw [e]; omega
theorem and_byte {a b : Int} (ha : 0 ≤ a ∧ a < 256) (hb : 0 ≤ b ∧ b < 256) : 0 ≤ bits .and .i64 a b ∧ bits .and .i64 a b < 256 := by
  obtain ⟨x, rfl⟩ := Int.eq_ofNat_of_zero_le ha.1
  obtain ⟨y, rfl⟩ := Int.eq_ofNat_of_zero_le hb.1
  have hlt : x &&& y < 256 := Nat.and_lt_two_pow (n := 8) x (by omega)
  have e : bits .and .i64 (x : Int) (y : Int) = ((x &&& y : Nat) : Int) := bits_nat (· &&& ·) _ x y (by rw [BitVec.toNat_and, nat_ofInt _ (by omega), nat_ofInt _ (by omega)]) hlt
  rw [e]; omega
theorem xor_byte {a b : Int} (ha : 0 ≤ a ∧ a < 256) (hb : 0 ≤ b ∧ b < 256) : 0 ≤ bits .xor .i64 a b ∧ bits .xor .i64 a b < 256 := by
  obtain ⟨x, rfl⟩ := Int.eq_ofNat_of_zero_le ha.1
  obtain ⟨y, rfl⟩ := Int.eq_ofNat_of_zero_le hb.1
  have hlt : x ^^^ y < 256 := Nat.xor_lt_two_pow (n := 8) (by omega) (by omega)
  have e : bits .xor .i64 (x : Int) (y : Int) = ((x ^^^ y : Nat) : Int) := bits_nat (· ^^^ ·) _ x y (by rw [BitVec.toNat_xor, nat_ofInt _ (by omega), nat_ofInt _ (by omega)]) hlt
  rw [e]; omega
theorem andNot_byte {a b : Int} (ha : 0 ≤ a ∧ a < 256) (hb : 0 ≤ b ∧ b < 256) : 0 ≤ bits .andNot .i64 a b ∧ bits .andNot .i64 a b < 256 := by
  obtain ⟨x, rfl⟩ := Int.eq_ofNat_of_zero_le ha.1
  obtain ⟨y, rfl⟩ := Int.eq_ofNat_of_zero_le hb.1
  have e : (BitVec.ofInt 64 (x : Int) &&& ~~~ BitVec.ofInt 64 (y : Int)).toNat < 256 := by
    rw [BitVec.toNat_and, nat_ofInt _ (by omega)]
    exact Nat.lt_of_le_of_lt Nat.and_le_left (by omega)
  have e2 : bits .andNot .i64 (x : Int) (y : Int) = _ := bits_nat (fun p q => p &&& ~~~ q) _ x y rfl e
  rw [e2]; omega
end Go.Proofs.Ytmjddoboogccoaa
