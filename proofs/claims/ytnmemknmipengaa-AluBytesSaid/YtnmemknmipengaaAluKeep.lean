/- The laws AluSums, AluCompares and AluShifts. -/
import Derived.Test.YtnmemknmipengaaAluRegs
import Derived.Test.YtnmemknmipengaaAluPure
import Derived.Test.YtnmemknmipengaaAluEq
namespace Go.Proofs.Ytnmemknmipengaa
open Go.RowKit

theorem ne_up {a b c : Nat} (h : a < b) (g : b ≤ c) : c ≠ a := by omega
end Go.Proofs.Ytnmemknmipengaa
