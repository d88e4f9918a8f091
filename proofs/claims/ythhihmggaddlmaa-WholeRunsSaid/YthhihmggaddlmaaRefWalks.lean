/- Contracts of the reference's functions Digits2 and Of2. -/
import Derived.Test.YthhihmggaddlmaaBitMath
import Derived.Test.YthhihmggaddlmaaChecked
import Derived.Test.YthhihmggaddlmaaQuiet
import Derived.Below
import Derived.BigQuiet
import Derived.Deep.Draws
import Derived.Deep.OwnRows
import Derived.Deep.QuietTactic
import Derived.Lib.Hide
import Derived.OwnWalk
import Derived.RowKit3
import Derived.WalkKit
namespace Go.Proofs.Ythhihmggaddlmaa
open Go.RowKit

theorem infoI : (Try.prog.info? 3).map (fun i => (i.zero, i.size, i.bytes)) = some (some (.int .i64 0), 1, 8) := by kernel_rfl

theorem limit_any (n a b : Int) (h : a ≤ b) (w : World) :
    Calls Try.prog 74 #[.int .i64 n, .int .i64 a, .int .i64 b] w fun e w' => e = .returned (.int .i64 (near n a b)) ∧ w = w' := by
  go_enter Try.func74, Try.ntmps74
  go_wp2
  all_goals
    go_ret
    refine ⟨ret_int ?_, rfl⟩
    unfold near
    omega

end Go.Proofs.Ythhihmggaddlmaa
