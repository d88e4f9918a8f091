/- Contracts of package bit's functions Low, Add, Sub, Rol, Ror, Get, Put and of the helpers that they call: what each returns, for all numbers. -/
import Derived.Test.YtbgjnegojoaimaaGreatDoorChecked
import Derived.Test.YtbgjnegojoaimaaGreatDoorBitMath
import Derived.Test.YtbgjnegojoaimaaGreatDoorQuiet
import Derived.Lib.Hide
namespace Go.Proofs.YtbgjnegojoaimaaGreatDoor
open Go.RowKit

/-- The sum and the carry. -/
def addS (a b c : Int) (k : Nat) : Int := lo a k + lo b k + c % 2
theorem addS_bd (a b c : Int) (k : Nat) (h : k ≤ 62) : 0 ≤ addS a b c k ∧ addS a b c k ≤ 9223372036854775807 := by
  have := lo_nonneg a k; have := lo_nonneg b k; have := lo_le a k h; have := lo_le b k h
  unfold addS; omega

/-- The difference, less a borrow. -/
def subS (a b c : Int) (k : Nat) : Int := lo a k - lo b k - c % 2
def subC (a b c : Int) (k : Nat) : Int := if subS a b c k < 0 then 1 else 0
def rolS (n c : Int) (k : Nat) : Int := lo n k * 2 + c % 2
def rorS (n c : Int) (k : Nat) : Int := c % 2 * 2 ^ k + lo n k
end Go.Proofs.YtbgjnegojoaimaaGreatDoor
