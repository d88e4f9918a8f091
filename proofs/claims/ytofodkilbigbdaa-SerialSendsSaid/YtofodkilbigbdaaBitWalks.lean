/- Contracts of package bit's functions Low, Add, Sub, Rol, Ror, Get, Put and of the helpers that they call: what each returns, for all numbers. -/
import Derived.Test.YtofodkilbigbdaaBitMath
import Derived.Test.YtofodkilbigbdaaChecked
import Derived.Test.YtofodkilbigbdaaQuiet
import Derived.Below
import Derived.BigQuiet
import Derived.Deep.QuietTactic
import Derived.Lib.Hide
import Derived.RowKit3
import Derived.WalkKit
namespace Go.Proofs.Ytofodkilbigbdaa
open Go.RowKit

theorem nearest_any (n a b : Int) (w : World) :
    Calls Try.prog 48 #[.int .i64 n, .int .i64 a, .int .i64 b] w fun e w' => e = .returned (.int .i64 (near n a b)) ∧ w = w' := by
  go_enter Try.func48, Try.ntmps48
  go_wp2
  all_goals
    go_ret
    refine ⟨ret_int ?_, rfl⟩
    unfold near
    split at * <;> omega

theorem width_any (b : Int) (w : World) :
    Calls Try.prog 46 #[.int .i64 b] w fun e w' => e = .returned (.int .i64 (wd b : Nat)) ∧ w = w' := by
  go_enter Try.func46, Try.ntmps46
  go_wp2_with (go_at_call 48; refine (nearest_any _ _ _ _).mono ?_; rintro e w' ⟨rfl, rfl⟩)
  go_ret
  exact ⟨ret_int (near_wd b), rfl⟩

theorem low_any (n b : Int) (w : World) :
    Calls Try.prog 30 #[.int .i64 n, .int .i64 b] w fun e w' => e = .returned (.int .i64 (lo n (wd b))) ∧ w = w' := by
  have hw := wd_le b
  have e1 := wrap_p2 (wd b) hw
  have e2 : IntKind.i64.wrap (2 ^ wd b - 1) = 2 ^ wd b - 1 := by
    have := p2_pos (wd b); have := p2_62 (wd b) hw
    exact IntWalk.i64_in _ (by omega)
  have e3 := and_mask n (wd b) hw
  go_enter Try.func30, Try.ntmps30
  go_wp2_with (go_at_call 46; refine (width_any _ _).mono ?_; rintro e w' ⟨rfl, rfl⟩)
  go_ret
  exact ⟨rfl, rfl⟩

/-- The sum and the carry. -/
def addS (a b c : Int) (k : Nat) : Int := lo a k + lo b k + c % 2
theorem addS_bd (a b c : Int) (k : Nat) (h : k ≤ 62) : 0 ≤ addS a b c k ∧ addS a b c k ≤ 9223372036854775807 := by
  have := lo_nonneg a k; have := lo_nonneg b k; have := lo_le a k h; have := lo_le b k h
  unfold addS; omega

/-- The difference, less a borrow. -/
def subS (a b c : Int) (k : Nat) : Int := lo a k - lo b k - c % 2
def subC (a b c : Int) (k : Nat) : Int := if subS a b c k < 0 then 1 else 0
def rolS (n c : Int) (k : Nat) : Int := lo n k * 2 + c % 2
def rorS (n c : Int) (k : Nat) : Int := c % 2 * 2 ^ k + lo n k
end Go.Proofs.Ytofodkilbigbdaa
