/- A part of the proof of ChipBanks: BitMath. -/
import Derived.WalkKit
namespace Go.Proofs.Ytakaebjojgeehaa
open Go.RowKit
/-- The number of bits that a function computes with. -/
def wd (b : Int) : Nat := (max 0 (min b 62)).toNat
def near (n a b : Int) : Int := max a (min n b)
def lo (n : Int) (k : Nat) : Int := n % 2 ^ k

theorem wd_le (b : Int) : wd b ≤ 62 := by unfold wd; omega
theorem wd_of (k : Nat) (h : k ≤ 62) : wd (k : Int) = k := by unfold wd; omega
theorem near_wd (b : Int) : near b 0 62 = (wd b : Nat) := by unfold near wd; omega

theorem p2_pos (k : Nat) : (0 : Int) < 2 ^ k := Int.pow_pos (by decide)
theorem p2_le {j k : Nat} (h : j ≤ k) : (2 : Int) ^ j ≤ 2 ^ k := by
  have := Nat.pow_le_pow_right (n := 2) (by decide) h
  exact_mod_cast this
theorem p2_62 (k : Nat) (h : k ≤ 62) : (2 : Int) ^ k ≤ 4611686018427387904 := by
  have := p2_le h
  have e : (2 : Int) ^ 62 = 4611686018427387904 := by decide
  omega
theorem p2_add (j k : Nat) : (2 : Int) ^ (j + k) = 2 ^ j * 2 ^ k := Int.pow_add 2 j k
theorem p2_succ (k : Nat) : (2 : Int) ^ (k + 1) = 2 * 2 ^ k := by rw [Int.pow_succ, Int.mul_comm]

theorem lo_nonneg (n : Int) (k : Nat) : 0 ≤ lo n k := Int.emod_nonneg _ (Int.ne_of_gt (p2_pos k))
theorem lo_lt (n : Int) (k : Nat) : lo n k < 2 ^ k := Int.emod_lt_of_pos _ (p2_pos k)
theorem lo_le (n : Int) (k : Nat) (h : k ≤ 62) : lo n k ≤ 4611686018427387903 := by
  have := lo_lt n k; have := p2_62 k h; omega
theorem lo_of {n : Int} {k : Nat} (h0 : 0 ≤ n) (h1 : n < 2 ^ k) : lo n k = n := Int.emod_eq_of_lt h0 h1

theorem wrap_p2 (k : Nat) (h : k ≤ 62) : IntKind.i64.wrap (2 ^ k) = 2 ^ k := by
  have := p2_pos k; have := p2_62 k h
  exact IntWalk.i64_in _ (by omega)

/-- The residue by 2^64 that a number of 64 bits stands for. -/
theorem ofInt_toNat (n : Int) : ((BitVec.ofInt 64 n).toNat : Int) = n % 18446744073709551616 := by
  rw [BitVec.toNat_ofInt]
  have : (0 : Int) ≤ n % ((2 ^ 64 : Nat) : Int) := Int.emod_nonneg _ (by decide)
  rw [Int.toNat_of_nonneg this]
  rfl

/-- A mask of the lowest k bits is the remainder by 2^k, of a negative number too. -/
theorem and_mask (n : Int) (k : Nat) (h : k ≤ 62) : bits .and .i64 n (2 ^ k - 1) = lo n k := by
  have hp := p2_pos k
  have hq := p2_62 k h
  show IntKind.i64.wrap ((BitVec.ofInt 64 n &&& BitVec.ofInt 64 (2 ^ k - 1)).toNat : Int) = _
  have e1 : (BitVec.ofInt 64 (2 ^ k - 1 : Int)).toNat = 2 ^ k - 1 := by
    have : ((BitVec.ofInt 64 (2 ^ k - 1 : Int)).toNat : Int) = ((2 ^ k - 1 : Nat) : Int) := by
      rw [ofInt_toNat, Int.emod_eq_of_lt (by omega) (by omega), Int.natCast_sub (Nat.one_le_two_pow)]
      simp
    exact_mod_cast this
  have e2 : (((BitVec.ofInt 64 n &&& BitVec.ofInt 64 (2 ^ k - 1)).toNat : Nat) : Int) = lo n k := by
    rw [BitVec.toNat_and, e1, Nat.and_two_pow_sub_one_eq_mod, Int.natCast_emod, ofInt_toNat]
    simp only [Int.natCast_pow]
    unfold lo
    refine Int.emod_emod_of_dvd n ?_
    have : (18446744073709551616 : Int) = 2 ^ 64 := by decide
    rw [this]
    refine ⟨2 ^ (64 - k), ?_⟩
    show (2 : Int) ^ 64 = 2 ^ k * 2 ^ (64 - k)
    rw [← p2_add]
    congr 1
    omega
  rw [e2]
  have := lo_nonneg n k; have := lo_le n k h
  exact IntWalk.i64_in _ (by omega)

theorem nat_ofInt (a : Nat) (h : a < 18446744073709551616) : (BitVec.ofInt 64 (a : Int)).toNat = a := by
  rw [BitVec.ofInt_natCast, BitVec.toNat_ofNat]; exact Nat.mod_eq_of_lt (by omega)

/-- A number without a field: what lies below it and what lies above it. -/
theorem andNot_field (x : Int) (at' s : Nat) (h0 : 0 ≤ x) (h1 : x < 4611686018427387904) (hk : at' + s ≤ 62) :
    bits .andNot .i64 x ((2 ^ s - 1) * 2 ^ at') = x / 2 ^ (at' + s) * 2 ^ (at' + s) + lo x at' := by
  obtain ⟨a, rfl⟩ := Int.eq_ofNat_of_zero_le h0
  have ha : a < 4611686018427387904 := Int.ofNat_lt.1 h1
  have hs1 : 1 ≤ 2 ^ s := Nat.one_le_two_pow
  have ht1 : 1 ≤ 2 ^ at' := Nat.one_le_two_pow
  have hm : (((2 : Int) ^ s - 1) * 2 ^ at') = (((2 ^ s - 1) * 2 ^ at' : Nat) : Int) := by
    rw [Int.natCast_mul, Int.natCast_sub hs1, Int.natCast_pow, Int.natCast_pow]; rfl
  have hmn : (2 ^ s - 1) * 2 ^ at' < 18446744073709551616 := by
    have h2 : 2 ^ s * 2 ^ at' ≤ 2 ^ 62 := by rw [← Nat.pow_add]; exact Nat.pow_le_pow_right (by decide) (by omega)
    have h3 : (2 ^ s - 1) * 2 ^ at' ≤ 2 ^ s * 2 ^ at' := Nat.mul_le_mul_right _ (by omega)
    have h4 : (2 : Nat) ^ 62 = 4611686018427387904 := by decide
    omega
  rw [hm]
  show IntKind.i64.wrap ((BitVec.ofInt 64 (a : Int) &&& ~~~ BitVec.ofInt 64 (((2 ^ s - 1) * 2 ^ at' : Nat) : Int)).toNat : Int) = _
  have hle : a / 2 ^ (at' + s) * 2 ^ (at' + s) + a % 2 ^ at' ≤ a := by
    have e1 := Nat.div_add_mod a (2 ^ (at' + s))
    have e2 : a % 2 ^ at' ≤ a % 2 ^ (at' + s) := by
      have : a % 2 ^ at' = (a % 2 ^ (at' + s)) % 2 ^ at' := by
        rw [Nat.mod_mod_of_dvd]; rw [Nat.pow_add]; exact Nat.dvd_mul_right _ _
      rw [this]; exact Nat.mod_le _ _
    have e3 := Nat.mul_comm (a / 2 ^ (at' + s)) (2 ^ (at' + s))
    omega
  have key : (BitVec.ofInt 64 (a : Int) &&& ~~~ BitVec.ofInt 64 (((2 ^ s - 1) * 2 ^ at' : Nat) : Int)).toNat = a / 2 ^ (at' + s) * 2 ^ (at' + s) + a % 2 ^ at' := by
    have hj : a % 2 ^ at' < 2 ^ (at' + s) := Nat.lt_of_lt_of_le (Nat.mod_lt _ (by omega)) (Nat.pow_le_pow_right (by decide) (by omega))
    rw [Nat.mul_comm (a / 2 ^ (at' + s)), Nat.two_pow_add_eq_or_of_lt hj]
    refine Nat.eq_of_testBit_eq fun i => ?_
    rw [BitVec.toNat_and, Nat.testBit_and, nat_ofInt _ (by omega), BitVec.toNat_not, nat_ofInt _ hmn, Nat.testBit_or, Nat.testBit_mod_two_pow]
    have hx : 2 ^ 64 - 1 - (2 ^ s - 1) * 2 ^ at' = 2 ^ 64 - ((2 ^ s - 1) * 2 ^ at' + 1) := by omega
    rw [hx, Nat.testBit_two_pow_sub_succ (by omega)]
    rw [← Nat.shiftLeft_eq, Nat.testBit_shiftLeft, Nat.testBit_two_pow_sub_one, Nat.mul_comm, ← Nat.shiftLeft_eq, Nat.testBit_shiftLeft, ← Nat.shiftRight_eq_div_pow, Nat.testBit_shiftRight]
    by_cases hi : i < 64
    · by_cases c1 : i < at'
      · have c2 : ¬ i ≥ at' := by omega
        have c3 : ¬ i ≥ at' + s := by omega
        simp [hi, c1, c2, c3]
      · have c2 : i ≥ at' := by omega
        by_cases c3 : i ≥ at' + s
        · have c4 : ¬ i - at' < s := by omega
          have c5 : at' + s + (i - (at' + s)) = i := by omega
          simp [hi, c1, c2, c3, c4, c5]
        · have c4 : i - at' < s := by omega
          simp [hi, c1, c2, c3, c4]
    · have c6 : a.testBit i = false := Nat.testBit_lt_two_pow (Nat.lt_of_lt_of_le (by omega : a < 2 ^ 62) (Nat.pow_le_pow_right (by decide) (by omega)))
      have c1 : ¬ i < at' := by omega
      have c3 : i ≥ at' + s := by omega
      have c5 : at' + s + (i - (at' + s)) = i := by omega
      simp [hi, c6, c1, c3, c5]
  rw [key]
  have hl : ((a / 2 ^ (at' + s) * 2 ^ (at' + s) + a % 2 ^ at' : Nat) : Int) < 4611686018427387904 := Int.ofNat_lt.2 (Nat.lt_of_le_of_lt hle ha)
  have h2 := Int.natCast_nonneg (a / 2 ^ (at' + s) * 2 ^ (at' + s) + a % 2 ^ at')
  rw [IntWalk.i64_in _ ⟨by omega, by omega⟩]
  unfold lo
  rw [Int.natCast_add, Int.natCast_mul, Int.natCast_ediv, Int.natCast_emod, Int.natCast_pow, Int.natCast_pow]
  rfl

/-- The number of bits of a field. -/
def fz (at' size : Int) : Nat := (max 0 (min size (62 - (wd at' : Nat)))).toNat
theorem fz_le (at' size : Int) : wd at' + fz at' size ≤ 62 := by have := wd_le at'; unfold fz; omega
theorem near_fz (at' size : Int) : near size 0 (62 - (wd at' : Nat)) = (fz at' size : Nat) := by have := wd_le at'; unfold fz near; omega
theorem lo_ones (s : Nat) : lo (-1) s = 2 ^ s - 1 := by
  unfold lo
  have := p2_pos s
  rw [show (-1 : Int) = (2 ^ s - 1) + 2 ^ s * (-1) from by rw [Int.mul_comm]; omega, Int.add_mul_emod_self_left]
  exact Int.emod_eq_of_lt (by omega) (by omega)
/-- A number with another value in a field. -/
def putN (n : Int) (a s : Nat) (v : Int) : Int := lo n 62 / 2 ^ (a + s) * 2 ^ (a + s) + lo v s * 2 ^ a + lo n a

theorem nat_or3 (a s H V L : Nat) (hL : L < 2 ^ a) (hV : V < 2 ^ s) : (H * 2 ^ (a + s) + L) ||| (V * 2 ^ a) = H * 2 ^ (a + s) + (V * 2 ^ a + L) := by
  have hq : 2 ^ (a + s) = 2 ^ a * 2 ^ s := Nat.pow_add 2 a s
  have hs1 : 1 ≤ 2 ^ s := Nat.one_le_two_pow
  have ha1 : 1 ≤ 2 ^ a := Nat.one_le_two_pow
  have hL2 : L < 2 ^ (a + s) := Nat.lt_of_lt_of_le hL (Nat.pow_le_pow_right (by decide) (by omega))
  have hVL : V * 2 ^ a + L < 2 ^ (a + s) := by
    have h1 : (V + 1) * 2 ^ a ≤ 2 ^ s * 2 ^ a := Nat.mul_le_mul_right _ hV
    rw [Nat.add_mul, Nat.mul_comm (2 ^ s)] at h1
    omega
  rw [Nat.mul_comm H, Nat.mul_comm V, Nat.two_pow_add_eq_or_of_lt hL2, Nat.mul_comm (2 ^ a) V, Nat.two_pow_add_eq_or_of_lt hVL, Nat.mul_comm V, Nat.two_pow_add_eq_or_of_lt hL, Nat.or_assoc, Nat.or_comm L]

theorem putN_nat (n : Int) (a s : Nat) (v : Int) : ∃ H V L : Nat, lo n 62 / 2 ^ (a + s) = H ∧ lo v s = V ∧ lo n a = L ∧ V < 2 ^ s ∧ L < 2 ^ a := by
  have h0 := lo_nonneg n 62
  have hp := p2_pos (a + s)
  have h1 : 0 ≤ lo n 62 / 2 ^ (a + s) := Int.ediv_nonneg h0 (Int.le_of_lt hp)
  have h2 := lo_nonneg v s
  have h3 := lo_nonneg n a
  refine ⟨(lo n 62 / 2 ^ (a + s)).toNat, (lo v s).toNat, (lo n a).toNat, (Int.toNat_of_nonneg h1).symm, (Int.toNat_of_nonneg h2).symm, (Int.toNat_of_nonneg h3).symm, ?_, ?_⟩
  · have h := lo_lt v s; rw [← Int.toNat_of_nonneg h2] at h; exact_mod_cast h
  · have h := lo_lt n a; rw [← Int.toNat_of_nonneg h3] at h; exact_mod_cast h

theorem lo_lo_of_le (n : Int) {j k : Nat} (h : j ≤ k) : lo (lo n k) j = lo n j := by
  unfold lo
  refine Int.emod_emod_of_dvd n ⟨2 ^ (k - j), ?_⟩
  rw [← p2_add]; congr 1; omega

theorem putN_eq (n : Int) (a s : Nat) (v : Int) (H V L : Nat) (hH : lo n 62 / 2 ^ (a + s) = H) (hV : lo v s = V) (hL : lo n a = L) :
    putN n a s v = ((H * 2 ^ (a + s) + (V * 2 ^ a + L) : Nat) : Int) := by
  unfold putN
  rw [hH, hV, hL, Int.natCast_add, Int.natCast_add, Int.natCast_mul, Int.natCast_mul, Int.natCast_pow, Int.natCast_pow, Int.add_assoc]
  rfl

theorem putN_bd (n : Int) (a s : Nat) (v : Int) (h : a + s ≤ 62) : 0 ≤ putN n a s v ∧ putN n a s v < 4611686018427387904 := by
  obtain ⟨H, V, L, hH, hV, hL, hV2, hL2⟩ := putN_nat n a s v
  rw [putN_eq n a s v H V L hH hV hL]
  have hH2 : H < 2 ^ (62 - (a + s)) := by
    have h1 := lo_lt n 62
    have h2 : lo n 62 / 2 ^ (a + s) < 2 ^ (62 - (a + s)) := by
      refine Int.ediv_lt_of_lt_mul (p2_pos _) ?_
      rw [← p2_add, show 62 - (a + s) + (a + s) = 62 from by omega]; exact h1
    rw [hH] at h2; exact_mod_cast h2
  have e1 : 2 ^ (62 - (a + s)) * 2 ^ (a + s) = 2 ^ 62 := by rw [← Nat.pow_add]; congr 1; omega
  have h3 : (H + 1) * 2 ^ (a + s) ≤ 2 ^ (62 - (a + s)) * 2 ^ (a + s) := Nat.mul_le_mul_right _ hH2
  have h4 : (V + 1) * 2 ^ a ≤ 2 ^ s * 2 ^ a := Nat.mul_le_mul_right _ hV2
  rw [Nat.add_mul] at h3 h4
  have e2 : 2 ^ (a + s) = 2 ^ s * 2 ^ a := by rw [Nat.add_comm, Nat.pow_add]
  have e3 : (2 : Nat) ^ 62 = 4611686018427387904 := by decide
  have hf : H * 2 ^ (a + s) + (V * 2 ^ a + L) < 4611686018427387904 := by omega
  exact ⟨Int.natCast_nonneg _, Int.ofNat_lt.2 hf⟩

theorem put_eq (n : Int) (a s : Nat) (v : Int) (h : a + s ≤ 62) :
    bits .or .i64 (bits .andNot .i64 (lo n 62) (wrap64 (lo (-1) s * 2 ^ a))) (wrap64 (lo v s * 2 ^ a)) = putN n a s v := by
  have hp : ∀ x : Int, 0 ≤ x → x < 2 ^ s → 0 ≤ x * 2 ^ a ∧ x * 2 ^ a ≤ 4611686018427387904 := fun x h0 h1 => by
    have h2 : x * 2 ^ a ≤ 2 ^ s * 2 ^ a := Int.mul_le_mul_of_nonneg_right (Int.le_of_lt h1) (Int.le_of_lt (p2_pos a))
    rw [← p2_add] at h2
    have h3 := p2_62 (s + a) (by omega)
    exact ⟨Int.mul_nonneg h0 (Int.le_of_lt (p2_pos a)), by omega⟩
  have b1 := hp (lo (-1) s) (lo_nonneg _ _) (lo_lt _ _)
  have b2 := hp (lo v s) (lo_nonneg _ _) (lo_lt _ _)
  rw [IntWalk.wrap64_in _ (by omega), IntWalk.wrap64_in _ (by omega), lo_ones, andNot_field (lo n 62) a s (lo_nonneg _ _) (by have := lo_le n 62 (by decide); omega) h, lo_lo_of_le n (by omega)]
  have hbd := putN_bd n a s v h
  obtain ⟨H, V, L, hH, hV, hL, hV2, hL2⟩ := putN_nat n a s v
  have e0 := putN_eq n a s v H V L hH hV hL
  rw [e0] at hbd ⊢
  have hb2 := Int.ofNat_lt.1 hbd.2
  rw [hH, hV, hL]
  have c1 : ((H : Int) * 2 ^ (a + s) + (L : Int)) = ((H * 2 ^ (a + s) + L : Nat) : Int) := by rw [Int.natCast_add, Int.natCast_mul, Int.natCast_pow]; rfl
  have c2 : ((V : Int) * 2 ^ a) = ((V * 2 ^ a : Nat) : Int) := by rw [Int.natCast_mul, Int.natCast_pow]; rfl
  rw [c1, c2]
  show IntKind.i64.wrap ((BitVec.ofInt 64 ((H * 2 ^ (a + s) + L : Nat) : Int) ||| BitVec.ofInt 64 ((V * 2 ^ a : Nat) : Int)).toNat : Int) = _
  rw [BitVec.toNat_or, nat_ofInt _ (by omega), nat_ofInt _ (by omega), nat_or3 a s H V L hL2 hV2]
  exact IntWalk.i64_in _ ⟨by omega, by omega⟩

theorem lo_div (n : Int) (j k : Nat) : lo n (j + k) / 2 ^ j = lo (n / 2 ^ j) k := by
  have hp := p2_pos j
  have hk := p2_pos k
  have e := Int.mul_ediv_add_emod n (2 ^ (j + k))
  have h0 := lo_nonneg n (j + k)
  have h1 := lo_lt n (j + k)
  unfold lo at *
  generalize n / 2 ^ (j + k) = q at *
  generalize n % 2 ^ (j + k) = r at *
  rw [← e, p2_add, Int.mul_assoc, Int.add_comm, Int.add_mul_ediv_left _ _ (by omega), Int.add_mul_emod_self_left]
  refine (Int.emod_eq_of_lt (Int.ediv_nonneg h0 (by omega)) ?_).symm
  refine Int.ediv_lt_of_lt_mul hp ?_
  rw [Int.mul_comm, ← p2_add]; exact h1

end Go.Proofs.Ytakaebjojgeehaa
