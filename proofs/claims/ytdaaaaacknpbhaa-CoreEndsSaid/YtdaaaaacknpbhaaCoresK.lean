/- The fact of the laws on processors: a new one begins with its reset. -/
import Derived.Test.YtdaaaaacknpbhaaChecked
import Derived.Test.YtdaaaaacknpbhaaCoreAskA
import Derived.Below
import Derived.BigQuiet
import Derived.ChangeMaps5
import Derived.Deep.DeepCutAuto
import Derived.Deep.Draws
import Derived.Deep.MidRow
import Derived.Deep.OwnRows
import Derived.Deep.QuietTactic
import Derived.Deep.RegionHeld3
import Derived.Deep.RegionWith
import Derived.Deep.Slices
import Derived.Deep.WholeRow
import Derived.Lib.Hide
import Derived.Lib.SmallJoins
import Derived.OpenShut
import Derived.OrdersHeld
import Derived.OwnWalk
import Derived.RowKit3
import Derived.StillTactics
import Derived.StillTail
import Derived.StillTailTactics
import Derived.WalkKit
namespace Go.Proofs.Ytdaaaaacknpbhaa
open Go.RowKit
set_option maxRecDepth 100000

theorem cores_keep (w : World) :
    Calls Try.prog 33 #[] w fun e w' => e = .returned (.bool true) ∧ Below w.heap.size w w' := by
  go_enter Try.func33, Try.ntmps33
  go_upto_region 2 with (first
      | (go_at_call 43; refine (new_any _).mono ?_; rintro e w1 ⟨rfl, hb⟩; have nz := rowB_new w1 29 (core12 (fun _ => 0) 0 0 false))
      | (refine wpList_storeR rfl 29 _ _ rfl (w1.heap.size) rfl (core12 newR 258 0 false) rfl (core12_one _ _ _ _) 29 (core12 (fun _ => 0) 0 0 false) rfl ?_ agK ?_; exact nz))
  have nX := rowB_row nz (core12 newR 258 0 false)
  have bX := below_rowR (hb.alloc hb.size (.cells (core12 (fun _ => 0) 0 0 false) 29)) (core12 newR 258 0 false) hb.size
  have c9 := coreB_op nX
  have c4 := coreB_reg nX 4 (by decide)
  rw [show newR 4 = 4 from rfl] at c4
  rw [zero12]
  generalize (w1.alloc (.cells (core12 (fun _ => 0) 0 0 false) 29)).setRow w1.heap.size (core12 newR 258 0 false) = w2 at *
  go_wp2_with fail
  go_ret
  exact ⟨rfl, bX⟩
end Go.Proofs.Ytdaaaaacknpbhaa
