/- The walk of the statement BitDigits: it returns true for all numbers. -/
import Derived.Test.YtgiociijhpimoaaBitWalksC
import Derived.Test.YtgiociijhpimoaaRefWalks
import Derived.Deep.RegionWith
namespace Go.Proofs.Ytgiociijhpimoaa
open Go.RowKit

theorem dg_sum_bd (n : Int) (k : Nat) (h : k < 15) : 0 ≤ dg n k * p16 k ∧ dg n k * p16 k ≤ 1152921504606846975 ∧ 0 ≤ dcd n k ∧ dcd n k + dg n k * p16 k ≤ 1152921504606846975 := by
  have h1 := dcd_bd n k
  have h2 := dcd_bd n (k + 1)
  have h3 := p16_le (k + 1) (by omega)
  simp only [dcd] at h2
  have h4 : 0 ≤ dg n k * p16 k := Int.mul_nonneg (dg_bd n k).1 (Int.le_of_lt (p16_pos k))
  omega

end Go.Proofs.Ytgiociijhpimoaa
