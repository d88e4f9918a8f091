/- Contracts of package bit's functions Low, Add, Sub, Rol, Ror, Get, Put and of the helpers that they call: what each returns, for all numbers. -/
import Derived.Test.YtmjddoboogccoaaBitMath
import Derived.Test.YtmjddoboogccoaaChecked
import Derived.Test.YtmjddoboogccoaaQuiet
import Derived.Below
import Derived.BigQuiet
import Derived.Deep.QuietTactic
import Derived.Lib.Hide
import Derived.RowKit3
import Derived.WalkKit
namespace Go.Proofs.Ytmjddoboogccoaa
open Go.RowKit

theorem nearest_any (n a b : Int) (w : World) :
    Calls Try.prog 62 #[.int .i64 n, .int .i64 a, .int .i64 b] w fun e w' => e = .returned (.int .i64 (near n a b)) ∧ w = w' := by
  go_enter Try.func62, Try.ntmps62
  go_wp2
  all_goals
    go_ret
    refine ⟨ret_int ?_, rfl⟩
    unfold near
    split at * <;> omega

theorem width_any (b : Int) (w : World) :
    Calls Try.prog 57 #[.int .i64 b] w fun e w' => e = .returned (.int .i64 (wd b : Nat)) ∧ w = w' := by
  go_enter Try.func57, Try.ntmps57
  go_wp2_with (go_at_call 62; refine (nearest_any _ _ _ _).mono ?_; rintro e w' ⟨rfl, rfl⟩)
  go_ret
  exact ⟨ret_int (near_wd b), rfl⟩

theorem low_any (n b : Int) (w : World) :
    Calls Try.prog 43 #[.int .i64 n, .int .i64 b] w fun e w' => e = .returned (.int .i64 (lo n (wd b))) ∧ w = w' := by
  have hw := wd_le b
  have e1 := wrap_p2 (wd b) hw
  have e2 : IntKind.i64.wrap (2 ^ wd b - 1) = 2 ^ wd b - 1 := by
    have := p2_pos (wd b); have := p2_62 (wd b) hw
    exact IntWalk.i64_in _ (by omega)
  have e3 := and_mask n (wd b) hw
  go_enter Try.func43, Try.ntmps43
  go_wp2_with (go_at_call 57; refine (width_any _ _).mono ?_; rintro e w' ⟨rfl, rfl⟩)
  go_ret
  exact ⟨rfl, rfl⟩

/-- The sum and the carry. -/
def addS (a b c : Int) (k : Nat) : Int := lo a k + lo b k + c % 2
theorem addS_bd (a b c : Int) (k : Nat) (h : k ≤ 62) : 0 ≤ addS a b c k ∧ addS a b c k ≤ 9223372036854775807 := by
  have := lo_nonneg a k; have := lo_nonneg b k; have := lo_le a k h; have := lo_le b k h
  unfold addS; omega

/-- The difference, less a borrow. -/
def subS (a b c : Int) (k : Nat) : Int := lo a k - lo b k - c % 2
def subC (a b c : Int) (k : Nat) : Int := if subS a b c k < 0 then 1 else 0
def rolS (n c : Int) (k : Nat) : Int := lo n k * 2 + c % 2
def rorS (n c : Int) (k : Nat) : Int := c % 2 * 2 ^ k + lo n k
theorem field_any (a s : Int) (w : World) :
    Calls Try.prog 56 #[.int .i64 a, .int .i64 s] w fun e w' => e = .returned (.tuple #[.int .i64 (wd a : Nat), .int .i64 (fz a s : Nat)]) ∧ w = w' := by
  have hw := wd_le a
  have e1 := near_wd a
  have e2 := near_fz a s
  go_enter Try.func56, Try.ntmps56
  go_wp2_with (go_at_call 62; refine (nearest_any _ _ _ _).mono ?_; rintro e w' ⟨rfl, rfl⟩)
  go_ret2
  exact ⟨rfl, rfl⟩

theorem get_any (n a s : Int) (w : World) :
    Calls Try.prog 42 #[.int .i64 n, .int .i64 a, .int .i64 s] w fun e w' => e = .returned (.int .i64 (lo (n / 2 ^ wd a) (fz a s))) ∧ w = w' := by
  have hw := wd_le a
  have hz := fz_le a s
  have e1 := wd_of (fz a s) (by omega)
  go_enter Try.func42, Try.ntmps42
  go_wp2_with (first | (go_at_call 56; refine (field_any _ _ _).mono ?_; rintro e w' ⟨rfl, rfl⟩) | (go_at_call 43; refine (low_any _ _ _).mono ?_; rintro e w' ⟨rfl, rfl⟩))
  go_ret
  exact ⟨rfl, rfl⟩

end Go.Proofs.Ytmjddoboogccoaa
