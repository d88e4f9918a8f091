/- Contracts of package bit's functions Signed, Count and Turn, and of the helpers Below and bits of the statements: what each returns, for all numbers. -/
import Derived.Test.YtciedmpmjhnnpaaBitWalks
import Derived.Test.YtciedmpmjhnnpaaBitLists
namespace Go.Proofs.Ytciedmpmjhnnpaa
open Go.RowKit

theorem signed_any (n b : Int) (w : World) :
    Calls Try.prog 18 #[.int .i64 n, .int .i64 b] w fun e w' => e = .returned (.int .i64 (sg n (wd b))) ∧ w = w' := by
  have hw := wd_le b
  have hc : (64 - ((wd b : Nat) : Int)).toNat = 64 - wd b := by omega
  have e1 := sg_eq n (wd b) hw
  go_enter Try.func18, Try.ntmps18
  go_wp2_with (go_at_call 37; refine (width_any _ _).mono ?_; rintro e w' ⟨rfl, rfl⟩)
  go_ret
  exact ⟨rfl, rfl⟩

theorem or_rv (n : Int) (k : Nat) (h : k < 62) : bits .or .i64 (rv n k * 2) (bitOf n k) = rv n (k + 1) := by
  have h1 := rv_bd n k
  have h2 := p2_62 (k + 1) (by omega)
  rw [p2_succ] at h2
  have h3 := bitOf_bit n k
  unfold isBit at h3
  have h4 := or_join 1 (rv n k) (bitOf n k) h1.1 h3.1 (by omega) (by omega)
  rw [rv_succ]
  simp only [Int.pow_one] at h4
  rw [h4]; omega

theorem turn_any (n b : Int) (w : World) :
    Calls Try.prog 20 #[.int .i64 n, .int .i64 b] w fun e w' => e = .returned (.int .i64 (rv n (wd b))) ∧ w = w' := by
  have hw := wd_le b
  go_enter Try.func20, Try.ntmps20
  go_wp2_with (go_at_call 37; refine (width_any _ _).mono ?_; rintro e w' ⟨rfl, rfl⟩)
  go_loop [5, 9] (fun t i => ∃ k : Nat, k ≤ wd b ∧ i = .int .i64 k ∧ t = .int .i64 (rv n k)) (fun _ i => wd b - (intOf i).toNat)
  case atStart => exact ⟨0, Nat.zero_le _, rfl, rfl⟩
  case round =>
    obtain ⟨k, hk, rfl, rfl⟩ := hrel
    by_cases hlt : k < wd b
    · have h1 := rv_bd n k
      have h2 := p2_62 (k + 1) (by omega)
      rw [p2_succ] at h2
      have h3 : 0 ≤ rv n k ∧ rv n k ≤ 2305843009213693951 := by omega
      clear h1 h2
      have e1 : bits .and .i64 (n / 2 ^ k) 1 = bitOf n k := and_one _
      have e2 := or_rv n k (by omega)
      go_wp2
      go_round
      case rel => exact ⟨k + 1, by omega, by go_num, rfl⟩
      case measure => simp [intOf]; omega
    · have e : k = wd b := by omega
      subst e
      go_wp2
      go_ret
      exact ⟨rfl, rfl⟩

theorem cnt_lo (n : Int) : cnt (lo n 62) = cnt n := by
  unfold cnt; rw [← of2_digits n 62]
  exact congrArg sumL (by have := digits_of2 (digits_bits n 62); rw [digits_len] at this; exact this)
theorem cnt_bd (n : Int) : 0 ≤ cnt n ∧ cnt n ≤ 62 := by
  have := sumL_bd (digits_bits n 62)
  rw [digits_len] at this
  exact this
theorem cnt_strike (r : Nat) (h0 : 0 < r) (h1 : r < 4611686018427387904) : cnt ((r &&& (r - 1) : Nat) : Int) + 1 = cnt (r : Int) := strike_sum 62 r h0 h1
theorem cnt_nought : cnt 0 = 0 := by decide

theorem count_any (n : Int) (w : World) :
    Calls Try.prog 21 #[.int .i64 n] w fun e w' => e = .returned (.int .i64 (cnt n)) ∧ w = w' := by
  have e62 : wd 62 = 62 := rfl
  have h0 := lo_nonneg n 62
  have h1 := lo_le n 62 (by decide)
  have hN : (lo n 62).toNat < 4611686018427387904 ∧ ((lo n 62).toNat : Int) = lo n 62 := by omega
  go_enter Try.func21, Try.ntmps21
  go_wp2_with (go_at_call 16; refine (low_any _ _ _).mono ?_; rintro e w' ⟨rfl, rfl⟩)
  go_loop [3, 4] (fun c i => ∃ (r : Nat) (m : Int), r < 4611686018427387904 ∧ i = .int .i64 r ∧ c = .int .i64 m ∧ 0 ≤ m ∧ m + cnt r = cnt n) (fun _ i => (intOf i).toNat)
  case atStart => exact ⟨(lo n 62).toNat, 0, hN.1, by rw [hN.2], rfl, by omega, by rw [hN.2, cnt_lo]; omega⟩
  case round =>
    obtain ⟨r, m, hr, rfl, rfl, hm0, hm⟩ := hrel
    have hb := cnt_bd n
    have hb2 := cnt_bd r
    have hm1 : m ≤ 62 := by omega
    by_cases hz : r = 0
    · subst hz
      have hf : m = cnt n := by have := cnt_nought; simp only [Int.natCast_zero] at hm; omega
      have Hf := Lib.hid hf
      clear hm hf hb hb2 hN h0 h1
      go_wp2
      go_ret
      exact ⟨ret_int Hf.out, rfl⟩
    · have hs := cnt_strike r (by omega) hr
      have hl := strike_lt r (by omega)
      have e1 : bits .and .i64 (r : Int) ((r : Int) - 1) = ((r &&& (r - 1) : Nat) : Int) := by
        rw [show ((r : Int) - 1) = ((r - 1 : Nat) : Int) from by omega]
        exact and_nat _ _ (by omega) (by omega)
      have Hs := Lib.hid hs
      have Hm := Lib.hid hm
      have hr0 : 0 < r := by omega
      clear hs hm hb hb2 hN h0 h1 hz
      go_wp2
      go_round
      case rel => exact ⟨r &&& (r - 1), m + 1, by omega, rfl, rfl, by omega, by have := Hs.out; have := Hm.out; omega⟩
      case measure => simp [intOf]; omega

theorem below_any (x n : Int) (hx : -9223372036854775808 ≤ x ∧ x ≤ 9223372036854775807) (h : 1 ≤ n ∧ n ≤ 9223372036854775807) (w : World) :
    Calls Try.prog 34 #[.int .i64 x, .int .i64 n] w fun e w' => e = .returned (.int .i64 (x % n)) ∧ w = w' := by
  have hm0 := Int.emod_nonneg x (b := n) (by omega)
  have hm1 := Int.emod_lt_of_pos x (b := n) (by omega)
  go_enter Try.func34, Try.ntmps34
  go_wp2
  · go_ret
    refine ⟨ret_int ?_, rfl⟩
    have hn : x.tmod n < 0 := by assumption
    have hneg : ¬ 0 ≤ x := fun h0 => by rw [Int.tmod_eq_emod_of_nonneg h0] at hn; omega
    have e := Int.tmod_eq_emod (a := x) (b := n)
    have hd : ¬ n ∣ x := fun hd => by rw [Int.tmod_eq_zero_of_dvd hd] at hn; omega
    rw [if_neg (by omega)] at e
    have ha : (n.natAbs : Int) = n := Int.natAbs_of_nonneg (by omega)
    rw [ha] at e
    rw [IntWalk.wrap64_in _ (by omega)]
    omega
  · go_ret
    refine ⟨ret_int ?_, rfl⟩
    have hn : 0 ≤ x.tmod n := by assumption
    have e := Int.tmod_eq_emod (a := x) (b := n)
    split at e
    · omega
    · have ha : (n.natAbs : Int) = n := Int.natAbs_of_nonneg (by omega)
      omega

theorem bits_any (w : World) :
    Calls Try.prog 35 #[] w fun e w' => e = .returned (.bool true) ∧ Qt w w' := by
  have e1 : lo (addS 200 100 0 (wd 8)) (wd 8) = 44 := by decide
  have e2 : addS 200 100 0 (wd 8) / 2 ^ wd 8 = 1 := by decide
  go_enter Try.func35, Try.ntmps35
  go_wp2_with (go_at_call 24; refine (add_any _ _ _ _ _).mono ?_; rintro e w1 ⟨rfl, hq⟩)
  go_ret
  exact ⟨rfl, hq⟩
theorem bits_law (w : World) :
    Calls Try.prog 12 #[] w fun e w' => e = .returned (.bool true) ∧ Qt w w' := by
  have e1 : lo (addS 200 100 0 (wd 8)) (wd 8) = 44 := by decide
  have e2 : addS 200 100 0 (wd 8) / 2 ^ wd 8 = 1 := by decide
  go_enter Try.func12, Try.ntmps12
  go_wp2_with (go_at_call 24; refine (add_any _ _ _ _ _).mono ?_; rintro e w1 ⟨rfl, hq⟩)
  go_ret
  exact ⟨rfl, hq⟩
end Go.Proofs.Ytciedmpmjhnnpaa
