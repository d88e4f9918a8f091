/- A part of the proof of ChipBanks: BitWalks. -/
import Derived.Test.YtakaebjojgeehaaChipBanksK01
import Derived.Test.YtakaebjojgeehaaChipBanksK02
import Derived.Below
import Derived.BigQuiet
import Derived.Deep.QuietTactic
import Derived.Lib.Hide
import Derived.RowKit3
import Derived.Test.YtakaebjojgeehaaChecked
import Derived.WalkKit
namespace Go.Proofs.Ytakaebjojgeehaa
open Go.RowKit
theorem nearest_any (n a b : Int) (w : World) :
    Calls Try.prog 81 #[.int .i64 n, .int .i64 a, .int .i64 b] w fun e w' => e = .returned (.int .i64 (near n a b)) ∧ w = w' := by
  go_enter Try.func81, Try.ntmps81
  go_wp2
  all_goals
    go_ret
    refine ⟨ret_int ?_, rfl⟩
    unfold near
    split at * <;> omega

theorem width_any (b : Int) (w : World) :
    Calls Try.prog 49 #[.int .i64 b] w fun e w' => e = .returned (.int .i64 (wd b : Nat)) ∧ w = w' := by
  go_enter Try.func49, Try.ntmps49
  go_wp2_with (go_at_call 81; refine (nearest_any _ _ _ _).mono ?_; rintro e w' ⟨rfl, rfl⟩)
  go_ret
  exact ⟨ret_int (near_wd b), rfl⟩

theorem low_any (n b : Int) (w : World) :
    Calls Try.prog 16 #[.int .i64 n, .int .i64 b] w fun e w' => e = .returned (.int .i64 (lo n (wd b))) ∧ w = w' := by
  have hw := wd_le b
  have e1 := wrap_p2 (wd b) hw
  have e2 : IntKind.i64.wrap (2 ^ wd b - 1) = 2 ^ wd b - 1 := by
    have := p2_pos (wd b); have := p2_62 (wd b) hw
    exact IntWalk.i64_in _ (by omega)
  have e3 := and_mask n (wd b) hw
  go_enter Try.func16, Try.ntmps16
  go_wp2_with (go_at_call 49; refine (width_any _ _).mono ?_; rintro e w' ⟨rfl, rfl⟩)
  go_ret
  exact ⟨rfl, rfl⟩

theorem field_any (a s : Int) (w : World) :
    Calls Try.prog 87 #[.int .i64 a, .int .i64 s] w fun e w' => e = .returned (.tuple #[.int .i64 (wd a : Nat), .int .i64 (fz a s : Nat)]) ∧ w = w' := by
  have hw := wd_le a
  have e1 := near_wd a
  have e2 := near_fz a s
  go_enter Try.func87, Try.ntmps87
  go_wp2_with (go_at_call 81; refine (nearest_any _ _ _ _).mono ?_; rintro e w' ⟨rfl, rfl⟩)
  go_ret2
  exact ⟨rfl, rfl⟩

theorem get_any (n a s : Int) (w : World) :
    Calls Try.prog 75 #[.int .i64 n, .int .i64 a, .int .i64 s] w fun e w' => e = .returned (.int .i64 (lo (n / 2 ^ wd a) (fz a s))) ∧ w = w' := by
  have hw := wd_le a
  have hz := fz_le a s
  have e1 := wd_of (fz a s) (by omega)
  go_enter Try.func75, Try.ntmps75
  go_wp2_with (first | (go_at_call 87; refine (field_any _ _ _).mono ?_; rintro e w' ⟨rfl, rfl⟩) | (go_at_call 16; refine (low_any _ _ _).mono ?_; rintro e w' ⟨rfl, rfl⟩))
  go_ret
  exact ⟨rfl, rfl⟩

theorem put_any (n a s v : Int) (w : World) :
    Calls Try.prog 67 #[.int .i64 n, .int .i64 a, .int .i64 s, .int .i64 v] w fun e w' => e = .returned (.int .i64 (putN n (wd a) (fz a s) v)) ∧ w = w' := by
  have hw := wd_le a
  have hz := fz_le a s
  have e1 := wd_of (fz a s) (by omega)
  have e62 : wd 62 = 62 := rfl
  go_enter Try.func67, Try.ntmps67
  go_wp2_with (first | (go_at_call 87; refine (field_any _ _ _).mono ?_; rintro e w' ⟨rfl, rfl⟩) | (go_at_call 16; refine (low_any _ _ _).mono ?_; rintro e w' ⟨rfl, rfl⟩))
  go_ret
  exact ⟨ret_int (put_eq n (wd a) (fz a s) v hz), rfl⟩
end Go.Proofs.Ytakaebjojgeehaa
