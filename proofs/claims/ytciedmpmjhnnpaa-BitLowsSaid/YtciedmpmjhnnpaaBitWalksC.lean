/- Contracts of package bit's functions Digits and Number, and of the reference's functions Decimal and limit: what each returns, for all numbers. -/
import Derived.Test.YtciedmpmjhnnpaaBitWalksB
import Derived.Test.YtciedmpmjhnnpaaBitDecs
namespace Go.Proofs.Ytciedmpmjhnnpaa
open Go.RowKit

theorem ret_intb {k : IntKind} {a b : Int} {c d : Bool} (h : a = b) (g : c = d) : Ending.returned (.tuple #[.int k a, .bool c]) = .returned (.tuple #[.int k b, .bool d]) := by rw [h, g]

theorem digits_neg (n many : Int) (h : n < 0) (w : World) :
    Calls Try.prog 30 #[.int .i64 n, .int .i64 many] w fun e w' => e = .returned (.tuple #[.int .i64 0, .bool false]) ∧ w = w' := by
  go_enter Try.func30, Try.ntmps30
  go_wp2
  go_ret2
  exact ⟨rfl, rfl⟩

theorem digits_pos (n many : Int) (h : 0 ≤ n) (hb : n ≤ 9223372036854775807) (w : World) :
    Calls Try.prog 30 #[.int .i64 n, .int .i64 many] w fun e w' => e = .returned (.tuple #[.int .i64 (dcd n (md many)), .bool (n / p10 (md many) == 0)]) ∧ w = w' := by
  have hm := md_le many
  have en := near_md many
  go_enter Try.func30, Try.ntmps30
  go_wp2_with (go_at_call 39; refine (nearest_any _ _ _ _).mono ?_; rintro e w' ⟨rfl, rfl⟩)
  clear en
  go_loop [0, 6, 12] (fun r d i => ∃ k : Nat, k ≤ md many ∧ i = .int .i64 k ∧ r = .int .i64 (n / p10 k) ∧ d = .int .i64 (dcd n k)) (fun _ _ i => md many - (intOf i).toNat)
  case atStart => exact ⟨0, Nat.zero_le _, rfl, by rw [p10_zero, Int.ediv_one], rfl⟩
  case round =>
    obtain ⟨k, hk, rfl, rfl, rfl⟩ := hrel
    have hr := div_p10_bd n k h
    have hr1 : n / p10 k ≤ 9223372036854775807 := by omega
    by_cases hlt : k < md many
    · have e0 : n / p10 k % 10 = dg n k := rfl
      have e1 : (2 : Int) ^ (k * 4) = p16 k := rfl
      have e2 : wrap64 (dg n k * p16 k) = dg n k * p16 k := wrap_dcd n k (by omega)
      have e3 := or_dcd n k (by omega)
      have hk15 : k ≤ 14 := by omega
      go_wp2
      go_round
      case rel => exact ⟨k + 1, by omega, by go_num, by rw [← div_p10], rfl⟩
      case measure => simp [intOf]; omega
    · have e : k = md many := by omega
      subst e
      go_wp2
      go_ret2
      exact ⟨rfl, rfl⟩

theorem get_hx (n : Int) (j : Nat) (h : j ≤ 14) : lo (n / 2 ^ wd ((j : Int) * 4)) (fz ((j : Int) * 4) 4) = hx n j := by
  have e1 : wd ((j : Int) * 4) = j * 4 := by unfold wd; omega
  have e2 : fz ((j : Int) * 4) 4 = 4 := by unfold fz; omega
  rw [e1, e2]; rfl

theorem number_any (n many : Int) (w : World) :
    Calls Try.prog 32 #[.int .i64 n, .int .i64 many] w fun e w' => e = .returned (.tuple #[.int .i64 (numV n (md many)), .bool (numB n (md many))]) ∧ w = w' := by
  have hm := md_le many
  have en := near_md many
  go_enter Try.func32, Try.ntmps32
  go_wp2_with (go_at_call 39; refine (nearest_any _ _ _ _).mono ?_; rintro e w' ⟨rfl, rfl⟩)
  clear en
  go_loop [6, 7] (fun t i => ∃ (j : Nat) (x : Int), j ≤ md many ∧ i = .int .i64 ((j : Int) - 1) ∧ t = .int .i64 x ∧ 0 ≤ x ∧ x * p10 j + undec n j = undec n (md many) ∧ ∀ i, j ≤ i → i < md many → hx n i ≤ 9) (fun _ i => (intOf i + 1).toNat)
  case atStart => exact ⟨md many, 0, Nat.le_refl _, rfl, rfl, by omega, by rw [Int.zero_mul, Int.zero_add], fun i h1 h2 => by omega⟩
  case round =>
    obtain ⟨j, x, hj, rfl, rfl, hx0, hsum, hall⟩ := hrel
    have Hall := Lib.hid hall
    have Hsum := Lib.hid hsum
    have hxb : x ≤ 2000000000000000 := by
      have h1 := undec_bd n (md many)
      have h2 := undec_bd n j
      have h3 := p10_le (md many) hm
      have h4 := p10_pos j
      have h5 : x * 1 ≤ x * p10 j := Int.mul_le_mul_of_nonneg_left (by omega) hx0
      omega
    clear hall hsum
    by_cases hz : j = 0
    · subst hz
      have hB : numB n (md many) = true := numB_yes fun i hi => Hall.out i (Nat.zero_le _) hi
      have hV : x = numV n (md many) := by
        rw [numV_yes hB, ← Hsum.out, p10_zero]; simp [undec]
      have HB := Lib.hid hB
      have HV := Lib.hid hV
      clear hB hV
      go_wp2
      go_ret2
      exact ⟨ret_intb HV.out HB.out.symm, rfl⟩
    · obtain ⟨q, rfl⟩ : ∃ q, j = q + 1 := ⟨j - 1, by omega⟩
      have hd := hx_bd n q
      have eg := get_hx n q (by omega)
      have ec : (((q + 1 : Nat) : Int) - 1) = (q : Int) := by omega
      rw [ec]
      clear ec
      by_cases hbad : 9 < hx n q
      · have hB : numB n (md many) = false := numB_no (i := q) (by omega) hbad
        have hV : 0 = numV n (md many) := (numV_no hB).symm
        have HB := Lib.hid hB
        have HV := Lib.hid hV
        clear hB hV
        go_wp2_with (go_at_call 28; refine (get_any _ _ _ _).mono ?_; rintro e w' ⟨rfl, rfl⟩)
        go_ret2
        exact ⟨ret_intb HV.out HB.out.symm, rfl⟩
      · go_wp2_with (go_at_call 28; refine (get_any _ _ _ _).mono ?_; rintro e w' ⟨rfl, rfl⟩)
        go_round
        case rel =>
          refine ⟨q, x * 10 + hx n q, by omega, rfl, rfl, by omega, ?_, fun i h1 h2 => ?_⟩
          · rw [← Hsum.out, p10_succ]
            simp only [undec]
            rw [Int.add_mul, Int.mul_assoc, Int.mul_comm 10]
            omega
          · by_cases hi : i = q
            · subst hi; omega
            · exact Hall.out i (by omega) h2
        case measure => simp [intOf]
end Go.Proofs.Ytciedmpmjhnnpaa
