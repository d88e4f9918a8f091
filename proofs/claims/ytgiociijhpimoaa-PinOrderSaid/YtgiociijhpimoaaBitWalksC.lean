/- Contracts of package bit's functions Digits and Number, and of the reference's functions Decimal and limit: what each returns, for all numbers. -/
import Derived.Test.YtgiociijhpimoaaBitWalksB
import Derived.Test.YtgiociijhpimoaaBitDecs
namespace Go.Proofs.Ytgiociijhpimoaa
open Go.RowKit

theorem ret_intb {k : IntKind} {a b : Int} {c d : Bool} (h : a = b) (g : c = d) : Ending.returned (.tuple #[.int k a, .bool c]) = .returned (.tuple #[.int k b, .bool d]) := by rw [h, g]

theorem get_hx (n : Int) (j : Nat) (h : j ≤ 14) : lo (n / 2 ^ wd ((j : Int) * 4)) (fz ((j : Int) * 4) 4) = hx n j := by
  have e1 : wd ((j : Int) * 4) = j * 4 := by unfold wd; omega
  have e2 : fz ((j : Int) * 4) 4 = 4 := by unfold fz; omega
  rw [e1, e2]; rfl

end Go.Proofs.Ytgiociijhpimoaa
