/- The walk of the law DriveDisks. -/
import Derived.Test.YtmjddoboogccoaaChecked
import Derived.Test.YtmjddoboogccoaaDrvKeep
import Derived.Test.YtmjddoboogccoaaDrvRb
import Derived.Below
import Derived.BigQuiet
import Derived.ChangeMaps5
import Derived.Deep.AppendSrc
import Derived.Deep.DeepAppendWide
import Derived.Deep.DeepCutAuto
import Derived.Deep.Draws
import Derived.Deep.MidRow
import Derived.Deep.OwnRows
import Derived.Deep.QuietTactic
import Derived.Deep.RegionHeld3
import Derived.Deep.RegionWith
import Derived.Deep.Slices
import Derived.Deep.WholeRow
import Derived.Laws.CopyOwn
import Derived.Laws.OwnMore
import Derived.Lib.Hide
import Derived.Lib.SmallJoins
import Derived.Maps.AppendAt
import Derived.OpenShut
import Derived.OrdersHeld
import Derived.OwnWalk
import Derived.RowKit3
import Derived.StillTactics
import Derived.StillTail
import Derived.StillTailTactics
import Derived.WalkKit
namespace Go.Proofs.Ytmjddoboogccoaa
open Go.RowKit
set_option maxRecDepth 100000

set_option maxHeartbeats 1000000 in
theorem driveDisks_walk (vm : Value) (lb : List Int) (w : World) (hm : isByt w vm lb) (hL : lb.length ≤ 140737488351232) :
    Calls Try.prog 5 #[vm] w fun e w' => e = .returned (.bool true) ∧ Below w.heap.size w w' := by
  have hlen := Dr.of_len [] lb
  have hN := fun w h => drvNew_any vm lb w h hL
  have hFr := fun w h => freshDrv_any ByteArray.empty 0 0 vm lb w h hL
  generalize Dr.of [] lb = s at *
  have hl : s.m.length ≤ 9223372036854775807 := by omega
  clear hlen hL
  dsimp only [chip5] at hFr
  obtain ⟨sp, sc, rfl, _⟩ := isByt_src hm 0
  go_enter Try.func5, Try.ntmps5
  go_wp2_with (first
    | (go_at_call 9; refine (drivesL_any _).mono ?_; rintro e w2 ⟨rfl, hb2⟩; have m2 := isByt_below hm hb2 (Nat.le_refl _))
    | (go_at_call 11; refine (hN _ m2).mono ?_; rintro e w3 ⟨u3, rfl, x3, hb3⟩; have m3 := isByt_below m2 hb3 (Nat.le_refl _))
    | (go_at_call 12; refine (hFr _ m3).mono ?_; rintro e w4 ⟨u4, rfl, x4, hb4⟩)
    | (go_at_call 10; refine (sameA_any _ _ _ _ (x3.below hb4) (x4.toA hl)).mono ?_; rintro e w5 ⟨rfl, hb5⟩))
  go_ret
  have z2 := hb2.size
  have z3 := hb3.size
  have z4 := hb4.size
  exact ⟨rfl, ((hb2.trans (hb3.mono z2)).trans (hb4.mono (by omega))).trans (hb5.mono (by omega))⟩
end Go.Proofs.Ytmjddoboogccoaa
