/- Contracts of package bit's functions Low, Add, Sub, Rol, Ror, Get, Put and of the helpers that they call: what each returns, for all numbers. -/
import Derived.Test.YthhihmggaddlmaaBitMath
import Derived.Test.YthhihmggaddlmaaChecked
import Derived.Test.YthhihmggaddlmaaQuiet
import Derived.Below
import Derived.BigQuiet
import Derived.Deep.QuietTactic
import Derived.Lib.Hide
import Derived.RowKit3
import Derived.WalkKit
namespace Go.Proofs.Ythhihmggaddlmaa
open Go.RowKit

theorem nearest_any (n a b : Int) (w : World) :
    Calls Try.prog 99 #[.int .i64 n, .int .i64 a, .int .i64 b] w fun e w' => e = .returned (.int .i64 (near n a b)) ∧ w = w' := by
  go_enter Try.func99, Try.ntmps99
  go_wp2
  all_goals
    go_ret
    refine ⟨ret_int ?_, rfl⟩
    unfold near
    split at * <;> omega

theorem width_any (b : Int) (w : World) :
    Calls Try.prog 92 #[.int .i64 b] w fun e w' => e = .returned (.int .i64 (wd b : Nat)) ∧ w = w' := by
  go_enter Try.func92, Try.ntmps92
  go_wp2_with (go_at_call 99; refine (nearest_any _ _ _ _).mono ?_; rintro e w' ⟨rfl, rfl⟩)
  go_ret
  exact ⟨ret_int (near_wd b), rfl⟩

theorem low_any (n b : Int) (w : World) :
    Calls Try.prog 61 #[.int .i64 n, .int .i64 b] w fun e w' => e = .returned (.int .i64 (lo n (wd b))) ∧ w = w' := by
  have hw := wd_le b
  have e1 := wrap_p2 (wd b) hw
  have e2 : IntKind.i64.wrap (2 ^ wd b - 1) = 2 ^ wd b - 1 := by
    have := p2_pos (wd b); have := p2_62 (wd b) hw
    exact IntWalk.i64_in _ (by omega)
  have e3 := and_mask n (wd b) hw
  go_enter Try.func61, Try.ntmps61
  go_wp2_with (go_at_call 92; refine (width_any _ _).mono ?_; rintro e w' ⟨rfl, rfl⟩)
  go_ret
  exact ⟨rfl, rfl⟩

/-- The sum and the carry. -/
def addS (a b c : Int) (k : Nat) : Int := lo a k + lo b k + c % 2
theorem addS_bd (a b c : Int) (k : Nat) (h : k ≤ 62) : 0 ≤ addS a b c k ∧ addS a b c k ≤ 9223372036854775807 := by
  have := lo_nonneg a k; have := lo_nonneg b k; have := lo_le a k h; have := lo_le b k h
  unfold addS; omega

theorem add_any (a b c n : Int) (w : World) :
    Calls Try.prog 116 #[.int .i64 a, .int .i64 b, .int .i64 c, .int .i64 n] w fun e w' => e = .returned (.tuple #[.int .i64 (lo (addS a b c (wd n)) (wd n)), .int .i64 (addS a b c (wd n) / 2 ^ wd n)]) ∧ Qt w w' := by
  have hw := wd_le n
  have ha0 := lo_nonneg a (wd n)
  have ha1 := lo_le a (wd n) hw
  have hb0 := lo_nonneg b (wd n)
  have hb1 := lo_le b (wd n) hw
  have e3 := and_one c
  go_enter Try.func116, Try.ntmps116
  go_wp2_with (first | (go_at_call 92; refine (width_any _ _).mono ?_; rintro e w' ⟨rfl, rfl⟩) | (go_at_call 61; refine (low_any _ _ _).mono ?_; rintro e w' ⟨rfl, rfl⟩))
  go_quiet ((first | (go_at_call 92; exact quiet_left (width_any _ _)) | (go_at_call 61; exact quiet_left (low_any _ _ _))))
  go_wp2
  go_ret2
  exact ⟨rfl, nq, rfl⟩

/-- The difference, less a borrow. -/
def subS (a b c : Int) (k : Nat) : Int := lo a k - lo b k - c % 2
def subC (a b c : Int) (k : Nat) : Int := if subS a b c k < 0 then 1 else 0
theorem sub_any (a b c n : Int) (w : World) :
    Calls Try.prog 121 #[.int .i64 a, .int .i64 b, .int .i64 c, .int .i64 n] w fun e w' => e = .returned (.tuple #[.int .i64 (lo (subS a b c (wd n)) (wd n)), .int .i64 (subC a b c (wd n))]) ∧ w = w' := by
  have hw := wd_le n
  have ha0 := lo_nonneg a (wd n)
  have ha1 := lo_le a (wd n) hw
  have ha2 := lo_lt a (wd n)
  have hb0 := lo_nonneg b (wd n)
  have hb1 := lo_le b (wd n) hw
  have e3 := and_one c
  go_enter Try.func121, Try.ntmps121
  go_wp2_with (first | (go_at_call 92; refine (width_any _ _).mono ?_; rintro e w' ⟨rfl, rfl⟩) | (go_at_call 61; refine (low_any _ _ _).mono ?_; rintro e w' ⟨rfl, rfl⟩))
  · go_ret2
    have h : subS a b c (wd n) < 0 := by assumption
    exact ⟨ret_int2 rfl (by unfold subC; rw [if_pos h]), rfl⟩
  · go_ret2
    have h : 0 ≤ subS a b c (wd n) := by assumption
    have hl : subS a b c (wd n) < 2 ^ wd n := by unfold subS; omega
    exact ⟨ret_int2 (lo_of h hl).symm (by unfold subC; rw [if_neg (by omega)]), rfl⟩

def rolS (n c : Int) (k : Nat) : Int := lo n k * 2 + c % 2
theorem rol_any (n c b : Int) (w : World) :
    Calls Try.prog 119 #[.int .i64 n, .int .i64 c, .int .i64 b] w fun e w' => e = .returned (.tuple #[.int .i64 (lo (rolS n c (wd b)) (wd b)), .int .i64 (rolS n c (wd b) / 2 ^ wd b)]) ∧ Qt w w' := by
  have hw := wd_le b
  have ha0 := lo_nonneg n (wd b)
  have ha1 := lo_le n (wd b) hw
  have e3 := and_one c
  have e4 : bits .or .i64 (lo n (wd b) * 2) (c % 2) = lo n (wd b) * 2 + c % 2 := by
    have := or_join 1 (lo n (wd b)) (c % 2) ha0 (by omega) (by omega) (by omega)
    simpa using this
  go_enter Try.func119, Try.ntmps119
  go_wp2_with (first | (go_at_call 92; refine (width_any _ _).mono ?_; rintro e w' ⟨rfl, rfl⟩) | (go_at_call 61; refine (low_any _ _ _).mono ?_; rintro e w' ⟨rfl, rfl⟩))
  go_quiet ((first | (go_at_call 92; exact quiet_left (width_any _ _)) | (go_at_call 61; exact quiet_left (low_any _ _ _))))
  go_wp2
  go_ret2
  exact ⟨rfl, nq, rfl⟩

def rorS (n c : Int) (k : Nat) : Int := c % 2 * 2 ^ k + lo n k
theorem ror_any (n c b : Int) (w : World) :
    Calls Try.prog 120 #[.int .i64 n, .int .i64 c, .int .i64 b] w fun e w' => e = .returned (.tuple #[.int .i64 (rorS n c (wd b) / 2), .int .i64 (rorS n c (wd b) % 2)]) ∧ w = w' := by
  have hw := wd_le b
  have ha0 := lo_nonneg n (wd b)
  have ha1 := lo_le n (wd b) hw
  have e3 := and_one c
  have hp := p2_62 (wd b) hw
  have hp0 := p2_pos (wd b)
  have hc : 0 ≤ c % 2 * 2 ^ wd b ∧ c % 2 * 2 ^ wd b ≤ 4611686018427387904 := by
    rcases (by omega : c % 2 = 0 ∨ c % 2 = 1) with h | h <;> rw [h] <;> omega
  have e4 : bits .or .i64 (lo n (wd b)) (c % 2 * 2 ^ wd b) = c % 2 * 2 ^ wd b + lo n (wd b) := by
    rw [or_comm64]
    exact or_join (wd b) (c % 2) (lo n (wd b)) (by omega) ha0 (lo_lt _ _) (by omega)
  have e5 : IntKind.i64.wrap (c % 2 * 2 ^ wd b) = c % 2 * 2 ^ wd b := IntWalk.i64_in _ (by omega)
  have e6 := and_one (c % 2 * 2 ^ wd b + lo n (wd b))
  go_enter Try.func120, Try.ntmps120
  go_wp2_with (first | (go_at_call 92; refine (width_any _ _).mono ?_; rintro e w' ⟨rfl, rfl⟩) | (go_at_call 61; refine (low_any _ _ _).mono ?_; rintro e w' ⟨rfl, rfl⟩))
  go_ret2
  exact ⟨rfl, rfl⟩

theorem field_any (a s : Int) (w : World) :
    Calls Try.prog 81 #[.int .i64 a, .int .i64 s] w fun e w' => e = .returned (.tuple #[.int .i64 (wd a : Nat), .int .i64 (fz a s : Nat)]) ∧ w = w' := by
  have hw := wd_le a
  have e1 := near_wd a
  have e2 := near_fz a s
  go_enter Try.func81, Try.ntmps81
  go_wp2_with (go_at_call 99; refine (nearest_any _ _ _ _).mono ?_; rintro e w' ⟨rfl, rfl⟩)
  go_ret2
  exact ⟨rfl, rfl⟩

theorem get_any (n a s : Int) (w : World) :
    Calls Try.prog 48 #[.int .i64 n, .int .i64 a, .int .i64 s] w fun e w' => e = .returned (.int .i64 (lo (n / 2 ^ wd a) (fz a s))) ∧ w = w' := by
  have hw := wd_le a
  have hz := fz_le a s
  have e1 := wd_of (fz a s) (by omega)
  go_enter Try.func48, Try.ntmps48
  go_wp2_with (first | (go_at_call 81; refine (field_any _ _ _).mono ?_; rintro e w' ⟨rfl, rfl⟩) | (go_at_call 61; refine (low_any _ _ _).mono ?_; rintro e w' ⟨rfl, rfl⟩))
  go_ret
  exact ⟨rfl, rfl⟩

theorem put_any (n a s v : Int) (w : World) :
    Calls Try.prog 70 #[.int .i64 n, .int .i64 a, .int .i64 s, .int .i64 v] w fun e w' => e = .returned (.int .i64 (putN n (wd a) (fz a s) v)) ∧ w = w' := by
  have hw := wd_le a
  have hz := fz_le a s
  have e1 := wd_of (fz a s) (by omega)
  have e62 : wd 62 = 62 := rfl
  go_enter Try.func70, Try.ntmps70
  go_wp2_with (first | (go_at_call 81; refine (field_any _ _ _).mono ?_; rintro e w' ⟨rfl, rfl⟩) | (go_at_call 61; refine (low_any _ _ _).mono ?_; rintro e w' ⟨rfl, rfl⟩))
  go_ret
  exact ⟨ret_int (put_eq n (wd a) (fz a s) v hz), rfl⟩
end Go.Proofs.Ythhihmggaddlmaa
