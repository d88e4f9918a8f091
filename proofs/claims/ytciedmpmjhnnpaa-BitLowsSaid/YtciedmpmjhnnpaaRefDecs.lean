/- The walk of the statement BitDigits: it returns true for all numbers. -/
import Derived.Test.YtciedmpmjhnnpaaBitWalksC
import Derived.Test.YtciedmpmjhnnpaaRefWalks
import Derived.Deep.RegionWith
namespace Go.Proofs.Ytciedmpmjhnnpaa
open Go.RowKit

theorem dg_sum_bd (n : Int) (k : Nat) (h : k < 15) : 0 ≤ dg n k * p16 k ∧ dg n k * p16 k ≤ 1152921504606846975 ∧ 0 ≤ dcd n k ∧ dcd n k + dg n k * p16 k ≤ 1152921504606846975 := by
  have h1 := dcd_bd n k
  have h2 := dcd_bd n (k + 1)
  have h3 := p16_le (k + 1) (by omega)
  simp only [dcd] at h2
  have h4 : 0 ≤ dg n k * p16 k := Int.mul_nonneg (dg_bd n k).1 (Int.le_of_lt (p16_pos k))
  omega

theorem decimal_neg (n many : Int) (h : n < 0) (w : World) :
    Calls Try.prog 31 #[.int .i64 n, .int .i64 many] w fun e w' => e = .returned (.tuple #[.int .i64 0, .bool false]) ∧ w = w' := by
  go_enter Try.func31, Try.ntmps31
  go_wp2
  go_ret2
  exact ⟨rfl, rfl⟩

theorem decimal_pos (n many : Int) (h : 0 ≤ n) (hb : n ≤ 9223372036854775807) (w : World) :
    Calls Try.prog 31 #[.int .i64 n, .int .i64 many] w fun e w' => e = .returned (.tuple #[.int .i64 (dcd n (md many)), .bool (n / p10 (md many) == 0)]) ∧ w = w' := by
  have hm := md_le many
  have en := near_md many
  go_enter Try.func31, Try.ntmps31
  go_wp2_with (go_at_call 36; refine (limit_any _ _ _ (by decide) _).mono ?_; rintro e w' ⟨rfl, rfl⟩)
  clear en
  go_loop [0, 6, 7, 13] (fun r d p i => ∃ k : Nat, k ≤ md many ∧ i = .int .i64 k ∧ r = .int .i64 (n / p10 k) ∧ d = .int .i64 (dcd n k) ∧ p = .int .i64 (p16 k)) (fun _ _ _ i => md many - (intOf i).toNat)
  case atStart => exact ⟨0, Nat.zero_le _, rfl, by rw [p10_zero, Int.ediv_one], rfl, rfl⟩
  case round =>
    obtain ⟨k, hk, rfl, rfl, rfl, rfl⟩ := hrel
    have hr := div_p10_bd n k h
    have hr1 : n / p10 k ≤ 9223372036854775807 := by omega
    by_cases hlt : k < md many
    · have e0 : n / p10 k % 10 = dg n k := rfl
      obtain ⟨s0, s1, s2, s3⟩ := dg_sum_bd n k (by omega)
      have hp0 := p16_pos k
      have hp1 : p16 k * 16 ≤ 1152921504606846976 := by rw [← p16_succ]; exact p16_le (k + 1) (by omega)
      go_wp2
      go_round
      case rel => exact ⟨k + 1, by omega, by go_num, by rw [← div_p10], rfl, by rw [p16_succ]⟩
      case measure => simp [intOf]; omega
    · have e : k = md many := by omega
      subst e
      go_wp2
      go_ret2
      exact ⟨rfl, rfl⟩

theorem undecimal_any (n many : Int) (w : World) :
    Calls Try.prog 33 #[.int .i64 n, .int .i64 many] w fun e w' => e = .returned (.tuple #[.int .i64 (numV n (md many)), .bool (numB n (md many))]) ∧ Below w.heap.size w w' := by
  have hm := md_le many
  have en := near_md many
  have e62 : wd 62 = 62 := rfl
  go_enter Try.func33, Try.ntmps33
  go_wp2_with (first
    | (go_at_call 36; refine (limit_any _ _ _ (by decide) _).mono ?_; rintro e w' ⟨rfl, rfl⟩)
    | (go_at_call 13; refine (digits2_any _ _ _).mono ?_; rintro e w1 ⟨v, rfl, hown, hbel⟩))
  clear en
  have hrow := own_row hown
  rw [e62] at hrow
  clear hown e62
  have hlen := digits_len n 62
  rcases hrow with ⟨_, hnil⟩ | ⟨b, off, cap, rfl, h1, h2, h3, hc⟩
  · rw [hnil] at hlen; cases hlen
  rw [hlen] at h2
  rw [hlen]
  go_loop [7, 8, 16] (fun t p i => ∃ j : Nat, j ≤ md many ∧ i = .int .i64 j ∧ t = .int .i64 (undec n j) ∧ p = .int .i64 (p10 j) ∧ ∀ i, i < j → hx n i ≤ 9) (fun _ _ i => md many - (intOf i).toNat)
  case atStart => exact ⟨0, Nat.zero_le _, rfl, rfl, rfl, fun i hi => by omega⟩
  case round =>
    obtain ⟨j, hj, rfl, rfl, rfl, hall⟩ := hrel
    have Hall := Lib.hid hall
    have Hc := Lib.hid hc
    have Hlen := Lib.hid hlen
    clear hall hc hlen
    by_cases hlt : j < md many
    · have h4 : (4 * j + 4 : Nat) ≤ 60 := by omega
      have hs := isRow_sub (l := digits n 62) (4 * j) 4 h1 (by rw [digits_len]; exact h2) h3 Hc.out (by rw [digits_len]; omega)
      rw [digits_sub n 62 (4 * j) 4 (by omega)] at hs
      have ho : of2 (digits (n / 2 ^ (4 * j)) 4) = hx n j := by rw [of2_digits, Nat.mul_comm]; rfl
      have hd := hx_bd n j
      have hu := undec_bd n j
      have hu1 := undec_bd n (j + 1)
      have hp := p10_le (j + 1) (by omega)
      have hp0 := p10_pos j
      have hm0 : 0 ≤ hx n j * p10 j := Int.mul_nonneg hd.1 (by omega)
      rw [p10_succ] at hp hu1
      simp only [undec] at hu1
      have hs2 : hx n j * p10 j ≤ 3000000000000000 ∧ undec n j + hx n j * p10 j ≤ 3000000000000000 := by omega
      clear hu1
      by_cases hbad : 9 < hx n j
      · have hB : numB n (md many) = false := numB_no (i := j) (by omega) hbad
        have hV : 0 = numV n (md many) := (numV_no hB).symm
        have HB := Lib.hid hB
        have HV := Lib.hid hV
        clear hB hV
        go_wp2_with (go_at_call 17; refine (of2_any _ _ _ hs (digits_bits _ _) (by rw [digits_len]; omega)).mono ?_; rintro e w' ⟨rfl, rfl⟩)
        go_ret2
        exact ⟨ret_intb HV.out HB.out.symm, hbel⟩
      · go_wp2_with (go_at_call 17; refine (of2_any _ _ _ hs (digits_bits _ _) (by rw [digits_len]; omega)).mono ?_; rintro e w' ⟨rfl, rfl⟩)
        go_round
        case rel =>
          refine ⟨j + 1, by omega, by go_num, by simp only [undec], by rw [p10_succ], fun i hi => ?_⟩
          by_cases hij : i = j
          · subst hij; omega
          · exact Hall.out i (by omega)
        case measure => simp [intOf]; omega
    · have e : j = md many := by omega
      subst e
      have hB : numB n (md many) = true := numB_yes Hall.out
      have hV : undec n (md many) = numV n (md many) := (numV_yes hB).symm
      have HB := Lib.hid hB
      have HV := Lib.hid hV
      clear hB hV
      go_wp2
      go_ret2
      exact ⟨ret_intb HV.out HB.out.symm, hbel⟩

theorem bitDigits_walk (n many : Int) (hn : -9223372036854775808 ≤ n ∧ n ≤ 9223372036854775807) (w : World) :
    Calls Try.prog 7 #[.int .i64 n, .int .i64 many] w fun e w' => e = .returned (.bool true) ∧ Below w.heap.size w w' := by
  by_cases h : n < 0
  · go_enter Try.func7, Try.ntmps7
    go_wp2_with (first
      | (go_at_call 12; refine (bits_law _).mono ?_; rintro e w1 ⟨rfl, hq⟩)
      | (go_at_call 30; refine (digits_neg _ _ h _).mono ?_; rintro e w' ⟨rfl, rfl⟩)
      | (go_at_call 31; refine (decimal_neg _ _ h _).mono ?_; rintro e w' ⟨rfl, rfl⟩)
      | (go_at_call 32; refine (number_any _ _ _).mono ?_; rintro e w' ⟨rfl, rfl⟩)
      | (go_at_call 33; refine (undecimal_any _ _ _).mono ?_; rintro e w2 ⟨rfl, hb⟩))
    go_ret
    exact ⟨rfl, (hq.below _).trans (hq.size ▸ hb)⟩
  · have h0 : 0 ≤ n := by omega
    go_enter Try.func7, Try.ntmps7
    go_wp2_with (first
      | (go_at_call 12; refine (bits_law _).mono ?_; rintro e w1 ⟨rfl, hq⟩)
      | (go_at_call 30; refine (digits_pos _ _ h0 hn.2 _).mono ?_; rintro e w' ⟨rfl, rfl⟩)
      | (go_at_call 31; refine (decimal_pos _ _ h0 hn.2 _).mono ?_; rintro e w' ⟨rfl, rfl⟩)
      | (go_at_call 32; refine (number_any _ _ _).mono ?_; rintro e w' ⟨rfl, rfl⟩)
      | (go_at_call 33; refine (undecimal_any _ _ _).mono ?_; rintro e w2 ⟨rfl, hb⟩))
    go_ret
    exact ⟨rfl, (hq.below _).trans (hq.size ▸ hb)⟩
end Go.Proofs.Ytciedmpmjhnnpaa
