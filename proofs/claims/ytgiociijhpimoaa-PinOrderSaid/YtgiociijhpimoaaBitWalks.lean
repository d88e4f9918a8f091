/- Contracts of package bit's functions Low, Add, Sub, Rol, Ror, Get, Put and of the helpers that they call: what each returns, for all numbers. -/
import Derived.Test.YtgiociijhpimoaaChecked
import Derived.Test.YtgiociijhpimoaaBitMath
import Derived.Test.YtgiociijhpimoaaQuiet
import Derived.Lib.Hide
namespace Go.Proofs.Ytgiociijhpimoaa
open Go.RowKit

theorem nearest_any (n a b : Int) (w : World) :
    Calls Try.prog 40 #[.int .i64 n, .int .i64 a, .int .i64 b] w fun e w' => e = .returned (.int .i64 (near n a b)) ∧ w = w' := by
  go_enter Try.func40, Try.ntmps40
  go_wp2
  all_goals
    go_ret
    refine ⟨ret_int ?_, rfl⟩
    unfold near
    split at * <;> omega

theorem width_any (b : Int) (w : World) :
    Calls Try.prog 37 #[.int .i64 b] w fun e w' => e = .returned (.int .i64 (wd b : Nat)) ∧ w = w' := by
  go_enter Try.func37, Try.ntmps37
  go_wp2_with (go_at_call 40; refine (nearest_any _ _ _ _).mono ?_; rintro e w' ⟨rfl, rfl⟩)
  go_ret
  exact ⟨ret_int (near_wd b), rfl⟩

theorem low_any (n b : Int) (w : World) :
    Calls Try.prog 26 #[.int .i64 n, .int .i64 b] w fun e w' => e = .returned (.int .i64 (lo n (wd b))) ∧ w = w' := by
  have hw := wd_le b
  have e1 := wrap_p2 (wd b) hw
  have e2 : IntKind.i64.wrap (2 ^ wd b - 1) = 2 ^ wd b - 1 := by
    have := p2_pos (wd b); have := p2_62 (wd b) hw
    exact IntWalk.i64_in _ (by omega)
  have e3 := and_mask n (wd b) hw
  go_enter Try.func26, Try.ntmps26
  go_wp2_with (go_at_call 37; refine (width_any _ _).mono ?_; rintro e w' ⟨rfl, rfl⟩)
  go_ret
  exact ⟨rfl, rfl⟩

/-- The sum and the carry. -/
def addS (a b c : Int) (k : Nat) : Int := lo a k + lo b k + c % 2
theorem addS_bd (a b c : Int) (k : Nat) (h : k ≤ 62) : 0 ≤ addS a b c k ∧ addS a b c k ≤ 9223372036854775807 := by
  have := lo_nonneg a k; have := lo_nonneg b k; have := lo_le a k h; have := lo_le b k h
  unfold addS; omega

/-- The difference, less a borrow. -/
def subS (a b c : Int) (k : Nat) : Int := lo a k - lo b k - c % 2
def subC (a b c : Int) (k : Nat) : Int := if subS a b c k < 0 then 1 else 0
def rolS (n c : Int) (k : Nat) : Int := lo n k * 2 + c % 2
def rorS (n c : Int) (k : Nat) : Int := c % 2 * 2 ^ k + lo n k
theorem field_any (a s : Int) (w : World) :
    Calls Try.prog 38 #[.int .i64 a, .int .i64 s] w fun e w' => e = .returned (.tuple #[.int .i64 (wd a : Nat), .int .i64 (fz a s : Nat)]) ∧ w = w' := by
  have hw := wd_le a
  have e1 := near_wd a
  have e2 := near_fz a s
  go_enter Try.func38, Try.ntmps38
  go_wp2_with (go_at_call 40; refine (nearest_any _ _ _ _).mono ?_; rintro e w' ⟨rfl, rfl⟩)
  go_ret2
  exact ⟨rfl, rfl⟩

theorem get_any (n a s : Int) (w : World) :
    Calls Try.prog 33 #[.int .i64 n, .int .i64 a, .int .i64 s] w fun e w' => e = .returned (.int .i64 (lo (n / 2 ^ wd a) (fz a s))) ∧ w = w' := by
  have hw := wd_le a
  have hz := fz_le a s
  have e1 := wd_of (fz a s) (by omega)
  go_enter Try.func33, Try.ntmps33
  go_wp2_with (first | (go_at_call 38; refine (field_any _ _ _).mono ?_; rintro e w' ⟨rfl, rfl⟩) | (go_at_call 26; refine (low_any _ _ _).mono ?_; rintro e w' ⟨rfl, rfl⟩))
  go_ret
  exact ⟨rfl, rfl⟩

theorem put_any (n a s v : Int) (w : World) :
    Calls Try.prog 32 #[.int .i64 n, .int .i64 a, .int .i64 s, .int .i64 v] w fun e w' => e = .returned (.int .i64 (putN n (wd a) (fz a s) v)) ∧ w = w' := by
  have hw := wd_le a
  have hz := fz_le a s
  have e1 := wd_of (fz a s) (by omega)
  have e62 : wd 62 = 62 := rfl
  go_enter Try.func32, Try.ntmps32
  go_wp2_with (first | (go_at_call 38; refine (field_any _ _ _).mono ?_; rintro e w' ⟨rfl, rfl⟩) | (go_at_call 26; refine (low_any _ _ _).mono ?_; rintro e w' ⟨rfl, rfl⟩))
  go_ret
  exact ⟨ret_int (put_eq n (wd a) (fz a s) v hz), rfl⟩
end Go.Proofs.Ytgiociijhpimoaa
