/- The reference's Formed for the sound chips. -/
import Derived.Test.YtbpjkdigihpohaaChecked
import Derived.Test.YtbpjkdigihpohaaDevForm
import Derived.Below
import Derived.BigQuiet
import Derived.ChangeMaps5
import Derived.Deep.DeepCutAuto
import Derived.Deep.Draws
import Derived.Deep.MidRow
import Derived.Deep.OwnRows
import Derived.Deep.QuietTactic
import Derived.Deep.RegionHeld3
import Derived.Deep.RegionWith
import Derived.Deep.Slices
import Derived.Deep.WholeRow
import Derived.Lib.Hide
import Derived.Lib.SmallJoins
import Derived.OpenShut
import Derived.OrdersHeld
import Derived.OwnWalk
import Derived.RowKit3
import Derived.StillTactics
import Derived.StillTail
import Derived.StillTailTactics
import Derived.WalkKit
namespace Go.Proofs.Ytbpjkdigihpohaa
open Go.RowKit
set_option maxRecDepth 100000

def msSnd : List Int := [4096, 16, 256, 4096, 2, 16384, 4096, 16, 256, 4096, 2, 16384]
theorem formedSnd_any (nm : ByteArray) (b z : Int) (dat v vm : Value) (l : List Int) (w : World) (h : isArg w v l) :
    Calls Try.prog 19 #[.agg (chip5 nm 7 b z dat), .agg #[v, vm]] w fun e w' => ∃ u, e = .returned u ∧ devO w.heap.size w' u (fmN l msSnd 12) ∧ Below w.heap.size w w' := by
  dsimp only [chip5]
  obtain ⟨k0, k1, k2, k3, k4, bW, sW⟩ := boxes5 w (.cells #[.string nm, .int .i64 7, .int .i64 b, .int .i64 z, dat] 27) (.cells #[v, vm] 25) (.cells #[.slice none 0 0, .slice none 0 0] 25) (.cells #[.slice none 0 0, .slice none 0 0] 25) (.cells #[.int .i64 4096, .int .i64 16, .int .i64 256, .int .i64 4096, .int .i64 2, .int .i64 16384, .int .i64 4096, .int .i64 16, .int .i64 256, .int .i64 4096, .int .i64 2, .int .i64 16384] 3)
  have k2 : rowB _ _ _ _ := k2
  have k3 : rowB _ _ _ _ := k3
  have hu := numB_arg (l := [4096, 16, 256, 4096, 2, 16384, 4096, 16, 256, 4096, 2, 16384]) (show rowB _ _ _ _ from k4) (by decide)
  have h2 := isArg_below h bW (Nat.le_refl _)
  have hF := form_any v vm _ l [4096, 16, 256, 4096, 2, 16384, 4096, 16, 256, 4096, 2, 16384] _ h2 hu (by decide) (by decide)
  clear k0 k1 k4 hu h2
  go_enter Try.func19, Try.ntmps19
  go_wp2_with (first
    | (go_at_call 43; refine hF.mono ?_; rintro e w2 ⟨g, rfl, hg, hr, hb⟩; have q2 := rowB_below k2 hb (rowB_lt k2); have q3 := rowB_set (rowB_below k3 hb (rowB_lt k3)) 0 (.slice (some ⟨g, 0, none⟩) 12 12); obtain ⟨d0, d1, y0, y1⟩ := dcells2 (rowB_below k3 hb (rowB_lt k3)); rw [sW] at hg; have bX := bW.trans (hb.mono bW.size); have p2 := rowB_other q2 ⟨w.heap.size + 3, 0, none⟩ (.slice (some ⟨g, 0, none⟩) 12 12) (by simp))
    | (refine wpList_storeR rfl 25 _ _ rfl (w.heap.size + 2) rfl #[.slice (some ⟨g, 0, none⟩) 12 12, .slice none 0 0] rfl (dev2_one _ _ _ _ _ _) 25 #[.slice none 0 0, .slice none 0 0] rfl ?_ agDv ?_; with_reducible exact p2))
  refine bodyPost_ret (resultsR rfl (w.heap.size + 2) _ rfl (rowB_row p2 _) agDv) rfl ?_
  exact ⟨_, rfl, ⟨g, rfl, by omega, rowB_row_other (rowB_other hr _ _ (by show w.heap.size + 3 ≠ g; omega)) _ (by omega)⟩, below_rowR (bX.setCell (p := ⟨w.heap.size + 3, 0, none⟩) (by simp) _) _ (by omega)⟩
end Go.Proofs.Ytbpjkdigihpohaa
