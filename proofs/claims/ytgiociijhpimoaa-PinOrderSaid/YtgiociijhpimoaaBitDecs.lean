/- Plain facts on decimal digits in groups of four bits. No program is named here. -/
import Derived.Test.YtgiociijhpimoaaBitLists
namespace Go.Proofs.Ytgiociijhpimoaa
open Go.RowKit

/-- How many digits are computed. -/
def md (many : Int) : Nat := (near many 0 15).toNat
theorem md_le (many : Int) : md many ≤ 15 := by unfold md near; omega
theorem near_md (many : Int) : near many 0 15 = (md many : Nat) := by unfold md near; omega

def p10 (k : Nat) : Int := 10 ^ k
theorem p10_succ (k : Nat) : p10 (k + 1) = p10 k * 10 := Int.pow_succ _ _
theorem p10_zero : p10 0 = 1 := rfl
theorem p10_pos (k : Nat) : 0 < p10 k := Int.pow_pos (by decide)
def p16 (k : Nat) : Int := 2 ^ (k * 4)
theorem p16_succ (k : Nat) : p16 (k + 1) = p16 k * 16 := by
  unfold p16; rw [Nat.add_mul, Int.pow_add]; rfl
theorem p16_zero : p16 0 = 1 := rfl
theorem p16_pos (k : Nat) : 0 < p16 k := Int.pow_pos (by decide)
theorem p16_le (k : Nat) (h : k ≤ 15) : p16 k ≤ 1152921504606846976 := by
  have h1 : (2 : Int) ^ (k * 4) ≤ 2 ^ 60 := p2_le (by omega)
  exact h1
theorem p10_le (k : Nat) (h : k ≤ 15) : p10 k ≤ 1000000000000000 := by
  have : (10 : Nat) ^ k ≤ 10 ^ 15 := Nat.pow_le_pow_right (by decide) h
  have h2 := Int.ofNat_le.2 this
  rw [Int.natCast_pow, Int.natCast_pow] at h2
  exact h2

/-- The i-th decimal digit; the i-th group of four bits. -/
def dg (n : Int) (i : Nat) : Int := n / p10 i % 10
def hx (n : Int) (i : Nat) : Int := n / p16 i % 16
theorem dg_bd (n : Int) (i : Nat) : 0 ≤ dg n i ∧ dg n i ≤ 9 := by unfold dg; omega
theorem hx_bd (n : Int) (i : Nat) : 0 ≤ hx n i ∧ hx n i ≤ 15 := by unfold hx; omega
theorem div_p10 (n : Int) (k : Nat) : n / p10 k / 10 = n / p10 (k + 1) := by
  rw [p10_succ, Int.ediv_ediv_of_nonneg (Int.le_of_lt (p10_pos k))]
theorem div_p10_bd (n : Int) (k : Nat) (h : 0 ≤ n) : 0 ≤ n / p10 k ∧ n / p10 k ≤ n := ⟨Int.ediv_nonneg h (Int.le_of_lt (p10_pos k)), Int.ediv_le_self _ h⟩

def dcd (n : Int) : Nat → Int
  | 0 => 0
  | m + 1 => dcd n m + dg n m * p16 m
theorem dcd_bd (n : Int) (m : Nat) : 0 ≤ dcd n m ∧ dcd n m < p16 m := by
  induction m with
  | zero => exact ⟨Int.le_refl 0, by show (0 : Int) < 1; decide⟩
  | succ m ih =>
    have hd := dg_bd n m
    have hp := p16_pos m
    rw [p16_succ]
    simp only [dcd]
    have h1 : 0 ≤ dg n m * p16 m := Int.mul_nonneg hd.1 (by omega)
    have h2 : dg n m * p16 m ≤ 9 * p16 m := Int.mul_le_mul_of_nonneg_right hd.2 (by omega)
    omega

theorem or_dcd (n : Int) (k : Nat) (h : k < 15) : bits .or .i64 (dcd n k) (dg n k * p16 k) = dcd n (k + 1) := by
  have h1 := dcd_bd n k
  have h2 := dcd_bd n (k + 1)
  have h3 := p16_le (k + 1) (by omega)
  simp only [dcd] at h2 ⊢
  rw [or_comm64]
  have := or_join (k * 4) (dg n k) (dcd n k) (dg_bd n k).1 h1.1 h1.2 (by unfold p16 at h2 h3; omega)
  unfold p16
  rw [this]; omega
theorem wrap_dcd (n : Int) (k : Nat) (h : k < 15) : wrap64 (dg n k * p16 k) = dg n k * p16 k := by
  have h1 := dcd_bd n k
  have h2 := dcd_bd n (k + 1)
  have h3 := p16_le (k + 1) (by omega)
  simp only [dcd] at h2
  have hd := dg_bd n k
  have h5 : 0 ≤ dg n k * p16 k := Int.mul_nonneg hd.1 (Int.le_of_lt (p16_pos k))
  exact IntWalk.wrap64_in _ (by omega)

def undec (n : Int) : Nat → Int
  | 0 => 0
  | m + 1 => undec n m + hx n m * p10 m
theorem undec_bd (n : Int) (m : Nat) : 0 ≤ undec n m ∧ undec n m ≤ 2 * p10 m := by
  induction m with
  | zero => exact ⟨Int.le_refl 0, by show (0 : Int) ≤ 2 * 1; decide⟩
  | succ m ih =>
    have hd := hx_bd n m
    have hp := p10_pos m
    rw [p10_succ]
    simp only [undec]
    have h1 : 0 ≤ hx n m * p10 m := Int.mul_nonneg hd.1 (by omega)
    have h2 : hx n m * p10 m ≤ 15 * p10 m := Int.mul_le_mul_of_nonneg_right hd.2 (by omega)
    omega

def numB (n : Int) (m : Nat) : Bool := decide (∀ i, i < m → hx n i ≤ 9)
def numV (n : Int) (m : Nat) : Int := if numB n m = true then undec n m else 0
theorem numB_yes {n : Int} {m : Nat} (h : ∀ i, i < m → hx n i ≤ 9) : numB n m = true := decide_eq_true h
theorem numB_no {n : Int} {m i : Nat} (hi : i < m) (h : 9 < hx n i) : numB n m = false := decide_eq_false fun g => by have := g i hi; omega
theorem numV_yes {n : Int} {m : Nat} (h : numB n m = true) : numV n m = undec n m := by unfold numV; rw [if_pos h]
theorem numV_no {n : Int} {m : Nat} (h : numB n m = false) : numV n m = 0 := by unfold numV; rw [h]; rfl

theorem hx_dcd (n : Int) (m i : Nat) (h : i < m) : hx (dcd n m) i = dg n i := by
  induction m with
  | zero => omega
  | succ m ih =>
    have hb := dcd_bd n m
    have hd := dg_bd n i
    have hp := p16_pos i
    simp only [dcd]
    by_cases hi : i = m
    · subst hi
      unfold hx
      rw [Int.mul_comm, Int.add_mul_ediv_left _ _ (by omega), Int.ediv_eq_zero_of_lt hb.1 hb.2]
      omega
    · rw [← ih (by omega)]
      unfold hx
      have e : p16 m = p16 i * (16 * p16 (m - i - 1)) := by
        unfold p16
        rw [show (16 : Int) = 2 ^ 4 from rfl, ← Int.pow_add, ← Int.pow_add]
        congr 1; omega
      rw [e, Int.mul_left_comm, Int.add_mul_ediv_left _ _ (by omega), Int.mul_left_comm, Int.add_mul_emod_self_left]
theorem undec_dcd (n : Int) (m k : Nat) (h : k ≤ m) : undec (dcd n m) k = n % p10 k := by
  induction k with
  | zero => simp [undec, p10, Int.emod_one]
  | succ k ih =>
    simp only [undec]
    rw [ih (by omega), hx_dcd n m k (by omega), p10_succ]
    unfold dg
    have h1 := Int.emod_def n (p10 k * 10)
    have h2 := Int.emod_def n (p10 k)
    have h3 : n / (p10 k * 10) = n / p10 k / 10 := (Int.ediv_ediv_of_nonneg (Int.le_of_lt (p10_pos k))).symm
    have h4 := Int.emod_def (n / p10 k) 10
    rw [h1, h2, h3, h4, Int.mul_assoc, Int.sub_mul, Int.mul_comm (n / p10 k), Int.mul_comm _ (p10 k)]
    omega
end Go.Proofs.Ytgiociijhpimoaa
