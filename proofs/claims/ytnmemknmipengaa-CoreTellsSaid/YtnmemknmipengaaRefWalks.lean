/- Contracts of the reference's functions Digits2 and Of2. -/
import Derived.Test.YtnmemknmipengaaBitWalksB
import Derived.Test.YtnmemknmipengaaRefRows
namespace Go.Proofs.Ytnmemknmipengaa
open Go.RowKit

theorem infoI : (Try.prog.info? 3).map (fun i => (i.zero, i.size, i.bytes)) = some (some (.int .i64 0), 1, 8) := by kernel_rfl

theorem limit_any (n a b : Int) (h : a ≤ b) (w : World) :
    Calls Try.prog 60 #[.int .i64 n, .int .i64 a, .int .i64 b] w fun e w' => e = .returned (.int .i64 (near n a b)) ∧ w = w' := by
  go_enter Try.func60, Try.ntmps60
  go_wp2
  all_goals
    go_ret
    refine ⟨ret_int ?_, rfl⟩
    unfold near
    omega

end Go.Proofs.Ytnmemknmipengaa
