/- The contract of the reference's Named: is a text a name? -/
import Derived.Test.YtnkplfimcehnmaaChecked
import Derived.Test.YtnkplfimcehnmaaShelf
import Derived.Test.YtnkplfimcehnmaaNameMath
import Derived.Lib.Walk
import Derived.Lib.Hide
namespace Go.Proofs.Ytnkplfimcehnmaa
open Go.RowKit

theorem letters_any (b : UInt8) (w : World) :
    Calls Try.prog 42 #[.string ⟨#[97, 98, 99, 100, 101, 102, 103, 104, 105, 106, 107, 108, 109, 110, 111, 112, 113, 114, 115, 116, 117, 118, 119, 120, 121, 122]⟩, .int .u8 (b.toNat : Nat)] w fun e w' =>
      (∃ r : Int, e = .returned (.int .i64 r) ∧ decide (0 ≤ r) = lowB b.toNat) ∧ w = w' :=
  (Try.strings_IndexByte _ _ w).mono fun _ _ ⟨he, hw⟩ => ⟨⟨_, he, by rw [at_letters]⟩, hw.symm⟩
theorem signs_any (b : UInt8) (w : World) :
    Calls Try.prog 42 #[.string ⟨#[97, 98, 99, 100, 101, 102, 103, 104, 105, 106, 107, 108, 109, 110, 111, 112, 113, 114, 115, 116, 117, 118, 119, 120, 121, 122, 48, 49, 50, 51, 52, 53, 54, 55, 56, 57, 45]⟩, .int .u8 (b.toNat : Nat)] w fun e w' =>
      (∃ r : Int, e = .returned (.int .i64 r) ∧ decide (0 ≤ r) = chB b.toNat) ∧ w = w' :=
  (Try.strings_IndexByte _ _ w).mono fun _ _ ⟨he, hw⟩ => ⟨⟨_, he, by rw [at_signs]⟩, hw.symm⟩

set_option maxHeartbeats 1000000 in
theorem named_any (s : ByteArray) (w : World) (hs : s.size ≤ 9223372036854775807) :
    Calls Try.prog 17 #[.string s] w fun e w' => e = .returned (.bool (nameB s)) ∧ w = w' := by
  by_cases h0 : s.size < 1
  · have e := name_none s h0
    rw [e]
    go_enter Try.func17, Try.ntmps17
    go_wp2_with fail
    go_ret
    exact ⟨rfl, rfl⟩
  by_cases h20 : 20 < s.size
  · have e := name_long s h20
    rw [e]
    go_enter Try.func17, Try.ntmps17
    go_wp2_with fail
    go_ret
    exact ⟨rfl, rfl⟩
  have p0 : 0 < s.size := by omega
  cases hlow : lowB (s[0]'p0).toNat
  · have e := name_first s p0 hlow
    rw [e]
    go_enter Try.func17, Try.ntmps17
    go_wp2_with (go_at_call 42; refine (letters_any _ _).mono ?_; rintro e w' ⟨⟨r, rfl, hr⟩, rfl⟩; rw [hlow] at hr; have hr := of_decide_eq_false hr)
    go_ret
    exact ⟨rfl, rfl⟩
  · have He := Lib.hid (name_rest s p0 (by omega) hlow)
    go_enter Try.func17, Try.ntmps17
    go_wp2_with (go_at_call 42; refine (letters_any _ _).mono ?_; rintro e w' ⟨⟨r, rfl, hr⟩, rfl⟩; rw [hlow] at hr; have hr := of_decide_eq_true hr)
    go_loop [20] (fun i => ∃ k : Nat, k ≤ s.size ∧ i = .int .i64 k ∧ okB s k = true) (fun i => s.size - (intOf i).toNat)
    case atStart => exact ⟨0, Nat.zero_le _, rfl, rfl⟩
    case round =>
      obtain ⟨k, hk, rfl, hok⟩ := hrel
      by_cases hlt : k < s.size
      · have Hs := Lib.hid (okB_succ s k hlt)
        have Ho := Lib.hid hok
        have Hf := Lib.hid (okB_false s k hlt)
        clear hok
        cases hc : chB (s[k]'hlt).toNat
        · have HR := Lib.hid (show nameB s = false by rw [He.out]; exact Hf.out hc)
          go_wp2_with (go_at_call 42; refine (signs_any _ _).mono ?_; rintro e w' ⟨⟨r, rfl, hr⟩, rfl⟩; rw [hc] at hr; have hr := of_decide_eq_false hr)
          go_ret
          exact ⟨by rw [HR.out]; rfl, rfl⟩
        · go_wp2_with (go_at_call 42; refine (signs_any _ _).mono ?_; rintro e w' ⟨⟨r, rfl, hr⟩, rfl⟩; rw [hc] at hr; have hr := of_decide_eq_true hr)
          go_round
          case rel => exact ⟨k + 1, by omega, by go_num, by rw [Hs.out, Ho.out]; simpa using hc⟩
          case measure => simp [intOf]; omega
      · obtain rfl : k = s.size := by omega
        have HR := Lib.hid (show nameB s = true by rw [He.out]; exact hok)
        clear hok
        go_wp2_with fail
        go_ret
        exact ⟨by rw [HR.out]; rfl, rfl⟩
end Go.Proofs.Ytnkplfimcehnmaa
