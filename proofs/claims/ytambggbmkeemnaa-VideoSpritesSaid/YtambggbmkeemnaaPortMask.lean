/- The walk of the law PortMask. -/
import Derived.Test.YtambggbmkeemnaaBitWalks
import Derived.Test.YtambggbmkeemnaaChecked
import Derived.Test.YtambggbmkeemnaaPortMath
import Derived.Below
import Derived.BigQuiet
import Derived.ChangeMaps5
import Derived.Deep.DeepCutAuto
import Derived.Deep.Draws
import Derived.Deep.MidRow
import Derived.Deep.OwnRows
import Derived.Deep.QuietTactic
import Derived.Deep.RegionHeld3
import Derived.Deep.RegionWith
import Derived.Deep.Slices
import Derived.Deep.WholeRow
import Derived.Lib.Hide
import Derived.Lib.SmallJoins
import Derived.OpenShut
import Derived.OrdersHeld
import Derived.OwnWalk
import Derived.RowKit3
import Derived.StillTactics
import Derived.StillTail
import Derived.StillTailTactics
import Derived.WalkKit
namespace Go.Proofs.Ytambggbmkeemnaa
open Go.RowKit
set_option maxRecDepth 100000

theorem getBit (n : Int) (k : Nat) (h : k < 8) : lo (n / 2 ^ wd (k : Int)) (fz (k : Int) 1) = n / 2 ^ k % 2 := by
  rw [wd_of k (by omega), show fz (k : Int) 1 = 1 by unfold fz; rw [wd_of k (by omega)]; omega]
  rfl
theorem lowBit (n : Int) (k : Nat) (h : k < 8) : lo n 8 / 2 ^ k % 2 = n / 2 ^ k % 2 := by
  have e := lo_div n k (8 - k)
  rw [show k + (8 - k) = 8 by omega] at e
  rw [e]
  unfold lo
  refine Int.emod_emod_of_dvd _ ⟨2 ^ (7 - k), ?_⟩
  rw [show 8 - k = (7 - k) + 1 by omega, p2_succ]
theorem getBit_any (k : Nat) (h : k < 8) (n : Int) (w : World) : Calls Try.prog 57 #[.int .i64 n, .int .i64 k, .int .i64 1] w fun e w' => e = .returned (.int .i64 (n / 2 ^ k % 2)) ∧ w = w' := by
  have := get_any n k 1 w
  rw [getBit n k h] at this
  exact this
theorem lo8_fit (n l m : Int) : (Pt.mk (lo n 8) (lo l 8) (lo m 8)).fit := ⟨⟨lo_nonneg _ _, lo_lt _ _⟩, ⟨lo_nonneg _ _, lo_lt _ _⟩, ⟨lo_nonneg _ _, lo_lt _ _⟩⟩

end Go.Proofs.Ytambggbmkeemnaa
