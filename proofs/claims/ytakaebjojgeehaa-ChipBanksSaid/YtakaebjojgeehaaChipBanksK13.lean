/- A part of the proof of ChipBanks: TabNameT. -/
import Derived.Test.YtakaebjojgeehaaChipBanksK12
import Derived.Below
import Derived.BigQuiet
import Derived.Deep.QuietTactic
import Derived.Lib.Bytealg
import Derived.Lib.Hide
import Derived.Lib.IndexAny
import Derived.Lib.Walk
import Derived.RowKit3
import Derived.Test.YtakaebjojgeehaaChecked
import Derived.WalkKit
namespace Go.Proofs.Ytakaebjojgeehaa
open Go.RowKit
theorem ret_boolT {a b : Bool} (h : a = b) : Ending.returned (.bool a) = Ending.returned (.bool b) := by rw [h]
theorem small_any (b : UInt8) (w : World) :
    Calls Try.prog 50 #[.int .u8 (b.toNat : Nat)] w fun e w' => e = .returned (.bool (lowB b.toNat)) ∧ w = w' := by
  have hb := b.toNat_lt
  go_enter Try.func50, Try.ntmps50
  go_wp2
  all_goals
    go_ret
    refine ⟨ret_boolT ?_, rfl⟩
    rw [Bool.eq_iff_iff]
    simp [lowB]
    omega
theorem digit_any (b : UInt8) (w : World) :
    Calls Try.prog 51 #[.int .u8 (b.toNat : Nat)] w fun e w' => e = .returned (.bool (decide (48 ≤ b.toNat) && decide (b.toNat ≤ 57))) ∧ w = w' := by
  have hb := b.toNat_lt
  go_enter Try.func51, Try.ntmps51
  go_wp2
  all_goals
    go_ret
    refine ⟨ret_boolT ?_, rfl⟩
    rw [Bool.eq_iff_iff]
    simp
    omega

theorem byte_bne (b : UInt8) : ((b.toNat : Int) != 45) = !(b.toNat == 45) := by
  rw [Bool.eq_iff_iff]; simp; omega
theorem no_bytes (s : ByteArray) (h : s.size < 1) : s = ⟨#[]⟩ := by
  obtain ⟨⟨l⟩⟩ := s
  cases l with
  | nil => rfl
  | cons x l => exfalso; simp [ByteArray.size] at h
theorem some_bytes (s : ByteArray) (h : 0 < s.size) : ¬ s.toList = [] := by
  rw [ByteArray.toList_eq]
  obtain ⟨⟨l⟩⟩ := s
  cases l with
  | nil => simp [ByteArray.size] at h
  | cons x l => simp

set_option maxHeartbeats 1000000 in
theorem name_is (s : ByteArray) (w : World) (hs : s.size ≤ 9223372036854775807) :
    Calls Try.prog 19 #[.string s] w fun e w' => e = .returned (.bool (nameB s)) ∧ w = w' := by
  by_cases h0 : s.size < 1
  · have e := name_none s h0
    rw [e]
    clear e
    obtain rfl := no_bytes s h0
    go_enter Try.func19, Try.ntmps19
    go_wp2_with fail
    go_ret
    exact ⟨rfl, rfl⟩
  have p0 : 0 < s.size := by omega
  have hz := some_bytes s p0
  have hz2 : s.toList.isEmpty = false := by cases e : s.toList with | nil => exact absurd e hz | cons _ _ => rfl
  by_cases h20 : 20 < s.size
  · have e := name_long s h20
    rw [e]
    go_enter Try.func19, Try.ntmps19
    go_wp2_with fail
    go_ret
    exact ⟨rfl, rfl⟩
  cases hlow : lowB (s[0]'p0).toNat
  · have e := name_first s p0 hlow
    rw [e]
    go_enter Try.func19, Try.ntmps19
    go_wp2_with (go_at_call 50; refine (small_any _ _).mono ?_; rintro e w' ⟨rfl, rfl⟩; rw [hlow])
    go_ret
    exact ⟨rfl, rfl⟩
  · have He := Lib.hid (name_rest s p0 (by omega) hlow)
    go_enter Try.func19, Try.ntmps19
    go_wp2_with (go_at_call 50; refine (small_any _ _).mono ?_; rintro e w' ⟨rfl, rfl⟩; rw [hlow])
    go_loop [19] (fun i => ∃ k : Nat, k ≤ s.size ∧ i = .int .i64 k ∧ okName s k = true) (fun i => s.size - (intOf i).toNat)
    case atStart => exact ⟨0, Nat.zero_le _, rfl, rfl⟩
    case round =>
      obtain ⟨k, hk, rfl, hok⟩ := hrel
      by_cases hlt : k < s.size
      · have Hs := Lib.hid (okB_succ s k hlt)
        have Ho := Lib.hid hok
        have Hf := Lib.hid (okB_false s k hlt)
        clear hok
        have hC : chB (s[k]'hlt).toNat = (lowB (s[k]'hlt).toNat || (decide (48 ≤ (s[k]'hlt).toNat) && decide ((s[k]'hlt).toNat ≤ 57)) || (s[k]'hlt).toNat == 45) := rfl
        have hbn := byte_bne (s[k]'hlt)
        cases f1 : lowB (s[k]'hlt).toNat <;> cases f2 : (decide (48 ≤ (s[k]'hlt).toNat) && decide ((s[k]'hlt).toNat ≤ 57)) <;> cases f3 : ((s[k]'hlt).toNat == 45)
        all_goals
          rw [f1, f2, f3] at hC
          rw [f3] at hbn
          simp only [Bool.or_true, Bool.or_false, Bool.or_self, Bool.not_true, Bool.not_false] at hC hbn
        case false.false.false =>
          have HR := Lib.hid (show nameB s = false by rw [He.out]; exact Hf.out hC)
          clear hC
          go_wp2_with (first
            | (go_at_call 50; refine (small_any _ _).mono ?_; rintro e w' ⟨rfl, rfl⟩; rw [f1])
            | (go_at_call 51; refine (digit_any _ _).mono ?_; rintro e w' ⟨rfl, rfl⟩; rw [f2]))
          go_ret
          exact ⟨by rw [HR.out]; rfl, rfl⟩
        all_goals
          have HC := Lib.hid hC
          clear hC
          go_wp2_with (first
            | (go_at_call 50; refine (small_any _ _).mono ?_; rintro e w' ⟨rfl, rfl⟩; rw [f1])
            | (go_at_call 51; refine (digit_any _ _).mono ?_; rintro e w' ⟨rfl, rfl⟩; rw [f2]))
          go_round
          case rel => exact ⟨k + 1, by omega, by go_num, by rw [Hs.out, Ho.out, HC.out]; rfl⟩
          case measure => simp [intOf]; omega
      · obtain rfl : k = s.size := by omega
        have HR := Lib.hid (show nameB s = true by rw [He.out]; exact hok)
        clear hok
        go_wp2_with fail
        go_ret
        exact ⟨by rw [HR.out]; rfl, rfl⟩
theorem name_any (s : ByteArray) (w : World) (hs : s.size ≤ 9223372036854775807) :
    Calls Try.prog 19 #[.string s] w fun e w' => e = .returned (.bool (nameB s)) ∧ Below w.heap.size w w' :=
  (name_is s w hs).mono fun _ _ ⟨he, hw⟩ => ⟨he, hw ▸ Below.refl _ _⟩
end Go.Proofs.Ytakaebjojgeehaa
