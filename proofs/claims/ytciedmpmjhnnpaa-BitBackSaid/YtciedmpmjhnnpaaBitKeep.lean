/- The walks of the statements BitBack, BitTurns and BitPlaces: each returns true for all numbers. -/
import Derived.Test.YtciedmpmjhnnpaaBitWalksB
import Derived.Deep.RegionWith
namespace Go.Proofs.Ytciedmpmjhnnpaa
open Go.RowKit

theorem wd_mod (n m : Int) (h : 1 ≤ m ∧ m ≤ 63) : ((wd (n % m) : Nat) : Int) = n % m := by
  have := Int.emod_nonneg n (b := m) (by omega)
  have := Int.emod_lt_of_pos n (b := m) (by omega)
  unfold wd; omega

theorem back_math (a b : Int) (k : Nat) : lo (subS (lo (addS a b 0 k) k) b 0 k) k = lo a k ∧ addS a b 0 k / 2 ^ k = subC (lo (addS a b 0 k) k) b 0 k := by
  have ha0 := lo_nonneg a k
  have ha1 := lo_lt a k
  have hb0 := lo_nonneg b k
  have hb1 := lo_lt b k
  have hp := p2_pos k
  have hs : addS a b 0 k = lo a k + lo b k := by unfold addS; omega
  rw [hs]
  by_cases h : lo a k + lo b k < 2 ^ k
  · have e1 : lo (lo a k + lo b k) k = lo a k + lo b k := lo_of (by omega) h
    rw [e1]
    have e2 : subS (lo a k + lo b k) b 0 k = lo a k := by unfold subS; rw [e1]; omega
    unfold subC
    rw [e2, if_neg (by omega), lo_lo]
    exact ⟨rfl, Int.ediv_eq_zero_of_lt (by omega) h⟩
  · have e1 : lo (lo a k + lo b k) k = lo a k + lo b k - 2 ^ k := by
      unfold lo at *
      rw [show a % 2 ^ k + b % 2 ^ k = (a % 2 ^ k + b % 2 ^ k - 2 ^ k) + 2 ^ k * 1 from by omega, Int.add_mul_emod_self_left]
      rw [Int.emod_eq_of_lt (by omega) (by omega)]
      omega
    rw [e1]
    have e0 : lo (lo a k + lo b k - 2 ^ k) k = lo a k + lo b k - 2 ^ k := lo_of (by omega) (by omega)
    have e2 : subS (lo a k + lo b k - 2 ^ k) b 0 k = lo a k - 2 ^ k := by unfold subS; rw [e0]; omega
    unfold subC
    rw [e2, if_pos (by omega)]
    refine ⟨?_, ?_⟩
    · have : lo a k - 2 ^ k = lo a k + 2 ^ k * (-1) := by omega
      rw [this]; unfold lo; rw [Int.add_mul_emod_self_left]; exact Int.emod_emod_of_dvd _ (Int.dvd_refl _)
    · rw [show lo a k + lo b k = (lo a k + lo b k - 2 ^ k) + 2 ^ k * 1 from by omega, Int.add_mul_ediv_left _ _ (by omega), Int.ediv_eq_zero_of_lt (by omega) (by omega)]
      rfl

theorem bitBack_walk (a b n : Int) (hn : -9223372036854775808 ≤ n ∧ n ≤ 9223372036854775807) (w : World) :
    Calls Try.prog 8 #[.int .i64 a, .int .i64 b, .int .i64 n] w fun e w' => e = .returned (.bool true) ∧ Grown w w' := by
  obtain ⟨e1, e2⟩ := back_math a b (wd (n % 63))
  have e3 := lo_sg a (wd (n % 63))
  go_enter Try.func8, Try.ntmps8
  go_wp2_with (first
    | (go_at_call 34; refine (below_any _ _ hn (by omega) _).mono ?_; rintro e w' ⟨rfl, rfl⟩)
    | (go_at_call 24; refine (add_any _ _ _ _ _).mono ?_; rintro e w1 ⟨rfl, hq1⟩)
    | (go_at_call 25; refine (sub_any _ _ _ _ _).mono ?_; rintro e w' ⟨rfl, rfl⟩)
    | (go_at_call 16; refine (low_any _ _ _).mono ?_; rintro e w' ⟨rfl, rfl⟩)
    | (go_at_call 18; refine (signed_any _ _ _).mono ?_; rintro e w' ⟨rfl, rfl⟩)
    | (go_at_call 35; refine (bits_any _).mono ?_; rintro e w2 ⟨rfl, hq2⟩))
  go_ret
  exact ⟨rfl, (hq1.trans hq2).grown⟩

theorem turns_math (n c : Int) (k : Nat) : rorS (lo (rolS n c k) k) (rolS n c k / 2 ^ k) k / 2 = lo n k ∧ rorS (lo (rolS n c k) k) (rolS n c k / 2 ^ k) k % 2 = c % 2 := by
  have ha0 := lo_nonneg n k
  have ha1 := lo_lt n k
  have hp := p2_pos k
  have h : rorS (lo (rolS n c k) k) (rolS n c k / 2 ^ k) k = rolS n c k := by
    unfold rorS
    rw [lo_lo]
    have hlt : rolS n c k < 2 * 2 ^ k := by unfold rolS; omega
    have h0 : 0 ≤ rolS n c k := by unfold rolS; omega
    have hd0 : 0 ≤ rolS n c k / 2 ^ k := Int.ediv_nonneg h0 (by omega)
    have hd1 : rolS n c k / 2 ^ k < 2 := Int.ediv_lt_of_lt_mul hp hlt
    have e := Int.mul_ediv_add_emod (rolS n c k) (2 ^ k)
    rw [show rolS n c k / 2 ^ k % 2 = rolS n c k / 2 ^ k from by omega, Int.mul_comm]
    exact e
  rw [h]
  unfold rolS
  omega

theorem bitTurns_walk (n c b : Int) (hb : -9223372036854775808 ≤ b ∧ b ≤ 9223372036854775807) (w : World) :
    Calls Try.prog 9 #[.int .i64 n, .int .i64 c, .int .i64 b] w fun e w' => e = .returned (.bool true) ∧ Grown w w' := by
  obtain ⟨e1, e2⟩ := turns_math n c (wd (b % 63))
  have e3 := rv_rv n (wd (b % 63))
  have e4 := cnt_rv n (wd (b % 63)) (wd_le _)
  have e5 := and_one c
  go_enter Try.func9, Try.ntmps9
  go_wp2_with (first
    | (go_at_call 34; refine (below_any _ _ hb (by omega) _).mono ?_; rintro e w' ⟨rfl, rfl⟩)
    | (go_at_call 26; refine (rol_any _ _ _ _).mono ?_; rintro e w1 ⟨rfl, hq1⟩)
    | (go_at_call 27; refine (ror_any _ _ _ _).mono ?_; rintro e w' ⟨rfl, rfl⟩)
    | (go_at_call 16; refine (low_any _ _ _).mono ?_; rintro e w' ⟨rfl, rfl⟩)
    | (go_at_call 20; refine (turn_any _ _ _).mono ?_; rintro e w' ⟨rfl, rfl⟩)
    | (go_at_call 21; refine (count_any _ _).mono ?_; rintro e w' ⟨rfl, rfl⟩)
    | (go_at_call 35; refine (bits_any _).mono ?_; rintro e w2 ⟨rfl, hq2⟩))
  go_ret
  exact ⟨rfl, (hq1.trans hq2).grown⟩

theorem lo_div (n : Int) (j k : Nat) : lo n (j + k) / 2 ^ j = lo (n / 2 ^ j) k := by
  have hp := p2_pos j
  have hk := p2_pos k
  have e := Int.mul_ediv_add_emod n (2 ^ (j + k))
  have h0 := lo_nonneg n (j + k)
  have h1 := lo_lt n (j + k)
  unfold lo at *
  generalize n / 2 ^ (j + k) = q at *
  generalize n % 2 ^ (j + k) = r at *
  rw [← e, p2_add, Int.mul_assoc, Int.add_comm, Int.add_mul_ediv_left _ _ (by omega), Int.add_mul_emod_self_left]
  refine (Int.emod_eq_of_lt (Int.ediv_nonneg h0 (by omega)) ?_).symm
  refine Int.ediv_lt_of_lt_mul hp ?_
  rw [Int.mul_comm, ← p2_add]; exact h1

theorem place_in (n : Int) (a s : Nat) (v : Int) : lo (putN n a s v / 2 ^ a) s = lo v s := by
  have hp := p2_pos a
  unfold putN
  rw [p2_add, show lo n 62 / (2 ^ a * 2 ^ s) * (2 ^ a * 2 ^ s) + lo v s * 2 ^ a + lo n a = lo n a + 2 ^ a * (lo v s + 2 ^ s * (lo n 62 / (2 ^ a * 2 ^ s))) from by
    generalize lo n 62 / (2 ^ a * 2 ^ s) = H
    rw [Int.mul_add, Int.mul_comm (lo v s), Int.mul_comm H, Int.mul_assoc]; omega]
  rw [Int.add_mul_ediv_left _ _ (by omega), Int.ediv_eq_zero_of_lt (lo_nonneg _ _) (lo_lt _ _), Int.zero_add]
  unfold lo
  rw [Int.add_mul_emod_self_left]
  exact Int.emod_emod_of_dvd _ (Int.dvd_refl _)
theorem place_below (n : Int) (a s : Nat) (v : Int) : lo (putN n a s v) a = lo n a := by
  unfold putN
  rw [p2_add, show lo n 62 / (2 ^ a * 2 ^ s) * (2 ^ a * 2 ^ s) + lo v s * 2 ^ a + lo n a = lo n a + 2 ^ a * (lo v s + 2 ^ s * (lo n 62 / (2 ^ a * 2 ^ s))) from by
    generalize lo n 62 / (2 ^ a * 2 ^ s) = H
    rw [Int.mul_add, Int.mul_comm (lo v s), Int.mul_comm H, Int.mul_assoc]; omega]
  unfold lo
  rw [Int.add_mul_emod_self_left]
  exact Int.emod_emod_of_dvd _ (Int.dvd_refl _)
theorem place_above (n : Int) (a s : Nat) (v : Int) : putN n a s v / 2 ^ (a + s) = lo n 62 / 2 ^ (a + s) := by
  have hp := p2_pos (a + s)
  have h0 := lo_nonneg n a
  have h1 := lo_lt n a
  have v0 := lo_nonneg v s
  have v1 := lo_lt v s
  have hpa := p2_pos a
  have hv : (lo v s + 1) * 2 ^ a ≤ 2 ^ s * 2 ^ a := Int.mul_le_mul_of_nonneg_right (by omega) (by omega)
  rw [← p2_add, Nat.add_comm, Int.add_mul] at hv
  have hv0 : 0 ≤ lo v s * 2 ^ a := Int.mul_nonneg v0 (by omega)
  unfold putN
  generalize lo n 62 / 2 ^ (a + s) = H
  rw [show H * 2 ^ (a + s) + lo v s * 2 ^ a + lo n a = (lo v s * 2 ^ a + lo n a) + 2 ^ (a + s) * H from by rw [Int.mul_comm H]; omega]
  rw [Int.add_mul_ediv_left _ _ (by omega), Int.ediv_eq_zero_of_lt (by omega) (by omega), Int.zero_add]
theorem place_above' (n : Int) (a s : Nat) (v : Int) (h : a + s ≤ 62) : lo (putN n a s v / 2 ^ (a + s)) (62 - (a + s)) = lo (n / 2 ^ (a + s)) (62 - (a + s)) := by
  rw [place_above n a s v]
  have e := lo_div n (a + s) (62 - (a + s))
  rw [show a + s + (62 - (a + s)) = 62 from by omega] at e
  rw [e, lo_lo]

theorem bitPlaces_walk (n a s v : Int) (ha : -9223372036854775808 ≤ a ∧ a ≤ 9223372036854775807) (hs : -9223372036854775808 ≤ s ∧ s ≤ 9223372036854775807) (w : World) :
    Calls Try.prog 10 #[.int .i64 n, .int .i64 a, .int .i64 s, .int .i64 v] w fun e w' => e = .returned (.bool true) ∧ Grown w w' := by
  obtain ⟨A, eA, hA⟩ : ∃ A : Nat, a % 50 = A ∧ A ≤ 49 := ⟨(a % 50).toNat, by omega, by omega⟩
  obtain ⟨S, eS, hS⟩ : ∃ S : Nat, s % 12 = S ∧ S ≤ 11 := ⟨(s % 12).toNat, by omega, by omega⟩
  have w1 : wd (A : Int) = A := wd_of A (by omega)
  have w2 : wd (S : Int) = S := wd_of S (by omega)
  have w3 : wd ((A : Int) + (S : Int)) = A + S := by unfold wd; omega
  have w4 : wd 0 = 0 := rfl
  have f1 : fz (A : Int) (S : Int) = S := by unfold fz; omega
  have f2 : fz 0 (A : Int) = A := by unfold fz; omega
  have f3 : fz ((A : Int) + (S : Int)) 62 = 62 - (A + S) := by unfold fz; omega
  have p1 := place_in n A S v
  have p2 := place_below n A S v
  have p3 := place_above' n A S v (by omega)
  go_enter Try.func10, Try.ntmps10
  go_wp2_with (first
    | (go_at_call_of 34 (Value.int .i64 a); refine (below_any _ _ ha (by omega) _).mono ?_; rintro e w' ⟨rfl, rfl⟩)
    | (go_at_call_of 34 (Value.int .i64 s); refine (below_any _ _ hs (by omega) _).mono ?_; rintro e w' ⟨rfl, rfl⟩)
    | (go_at_call 29; refine (put_any _ _ _ _ _).mono ?_; rintro e w' ⟨rfl, rfl⟩)
    | (go_at_call 28; refine (get_any _ _ _ _).mono ?_; rintro e w' ⟨rfl, rfl⟩)
    | (go_at_call 16; refine (low_any _ _ _).mono ?_; rintro e w' ⟨rfl, rfl⟩)
    | (go_at_call 35; refine (bits_any _).mono ?_; rintro e w2 ⟨rfl, hq2⟩))
  go_ret
  exact ⟨rfl, hq2.grown⟩
end Go.Proofs.Ytciedmpmjhnnpaa
