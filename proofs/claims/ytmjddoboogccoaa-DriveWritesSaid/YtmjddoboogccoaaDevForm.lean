/- The reference's Formed for the kinds of chips that have no bytes. -/
import Derived.Test.YtmjddoboogccoaaChecked
import Derived.Test.YtmjddoboogccoaaDevR
import Derived.Test.YtmjddoboogccoaaRegs
import Derived.Below
import Derived.BigQuiet
import Derived.ChangeMaps5
import Derived.Deep.DeepCutAuto
import Derived.Deep.Draws
import Derived.Deep.MidRow
import Derived.Deep.OwnRows
import Derived.Deep.QuietTactic
import Derived.Deep.RegionHeld3
import Derived.Deep.RegionWith
import Derived.Deep.Slices
import Derived.Deep.WholeRow
import Derived.Lib.Hide
import Derived.Lib.SmallJoins
import Derived.OpenShut
import Derived.OrdersHeld
import Derived.OwnWalk
import Derived.RowKit3
import Derived.StillTactics
import Derived.StillTail
import Derived.StillTailTactics
import Derived.WalkKit
namespace Go.Proofs.Ytmjddoboogccoaa
open Go.RowKit
set_option maxRecDepth 100000

theorem boxes5 (w : World) (o p q r s : Obj) : (((((w.alloc o).alloc p).alloc q).alloc r).alloc s).heap[w.heap.size]? = some o ∧ (((((w.alloc o).alloc p).alloc q).alloc r).alloc s).heap[w.heap.size + 1]? = some p ∧ (((((w.alloc o).alloc p).alloc q).alloc r).alloc s).heap[w.heap.size + 2]? = some q ∧ (((((w.alloc o).alloc p).alloc q).alloc r).alloc s).heap[w.heap.size + 3]? = some r ∧ (((((w.alloc o).alloc p).alloc q).alloc r).alloc s).heap[w.heap.size + 4]? = some s ∧ Below w.heap.size w (((((w.alloc o).alloc p).alloc q).alloc r).alloc s) ∧ (((((w.alloc o).alloc p).alloc q).alloc r).alloc s).heap.size = w.heap.size + 5 := by
  obtain ⟨h1, h2, h3, h4, h5, h6⟩ := boxes4 w o p q r
  obtain ⟨k1, k2, k3⟩ := boxes1 ((((w.alloc o).alloc p).alloc q).alloc r) s
  rw [h6] at k1 k3
  exact ⟨keepO h1 s, keepO h2 s, keepO h3 s, keepO h4 s, k1, h5.alloc (by omega) s, k3⟩
/-- A chip's description, by value. -/
def chip5 (nm : ByteArray) (k b z : Int) (dat : Value) : Array Value := #[.string nm, .int .i64 k, .int .i64 b, .int .i64 z, dat]

def msTim : List Int := [65536, 65536, 8, 2]
theorem formedTim_any (nm : ByteArray) (b z : Int) (dat v vm : Value) (l : List Int) (w : World) (h : isArg w v l) :
    Calls Try.prog 25 #[.agg (chip5 nm 3 b z dat), .agg #[v, vm]] w fun e w' => ∃ u, e = .returned u ∧ devO w.heap.size w' u (fmN l msTim 4) ∧ Below w.heap.size w w' := by
  dsimp only [chip5]
  obtain ⟨k0, k1, k2, k3, k4, bW, sW⟩ := boxes5 w (.cells #[.string nm, .int .i64 3, .int .i64 b, .int .i64 z, dat] 27) (.cells #[v, vm] 25) (.cells #[.slice none 0 0, .slice none 0 0] 25) (.cells #[.slice none 0 0, .slice none 0 0] 25) (.cells #[.int .i64 65536, .int .i64 65536, .int .i64 8, .int .i64 2] 3)
  have k2 : rowB _ _ _ _ := k2
  have k3 : rowB _ _ _ _ := k3
  have hu := numB_arg (l := [65536, 65536, 8, 2]) (show rowB _ _ _ _ from k4) (by decide)
  have h2 := isArg_below h bW (Nat.le_refl _)
  have hF := form_any v vm _ l [65536, 65536, 8, 2] _ h2 hu (by decide) (by decide)
  clear k0 k1 k4 hu h2
  go_enter Try.func25, Try.ntmps25
  go_wp2_with (first
    | (go_at_call 50; refine hF.mono ?_; rintro e w2 ⟨g, rfl, hg, hr, hb⟩; have q2 := rowB_below k2 hb (rowB_lt k2); have q3 := rowB_set (rowB_below k3 hb (rowB_lt k3)) 0 (.slice (some ⟨g, 0, none⟩) 4 4); obtain ⟨d0, d1, y0, y1⟩ := dcells2 (rowB_below k3 hb (rowB_lt k3)); rw [sW] at hg; have bX := bW.trans (hb.mono bW.size); have p2 := rowB_other q2 ⟨w.heap.size + 3, 0, none⟩ (.slice (some ⟨g, 0, none⟩) 4 4) (by simp))
    | (refine wpList_storeR rfl 25 _ _ rfl (w.heap.size + 2) rfl #[.slice (some ⟨g, 0, none⟩) 4 4, .slice none 0 0] rfl (dev2_one _ _ _ _ _ _) 25 #[.slice none 0 0, .slice none 0 0] rfl ?_ agDv ?_; with_reducible exact p2))
  refine bodyPost_ret (resultsR rfl (w.heap.size + 2) _ rfl (rowB_row p2 _) agDv) rfl ?_
  exact ⟨_, rfl, ⟨g, rfl, by omega, rowB_row_other (rowB_other hr _ _ (by show w.heap.size + 3 ≠ g; omega)) _ (by omega)⟩, below_rowR (bX.setCell (p := ⟨w.heap.size + 3, 0, none⟩) (by simp) _) _ (by omega)⟩

def msPort : List Int := [256, 256, 256]
theorem formedPort_any (nm : ByteArray) (b z : Int) (dat v vm : Value) (l : List Int) (w : World) (h : isArg w v l) :
    Calls Try.prog 25 #[.agg (chip5 nm 4 b z dat), .agg #[v, vm]] w fun e w' => ∃ u, e = .returned u ∧ devO w.heap.size w' u (fmN l msPort 3) ∧ Below w.heap.size w w' := by
  dsimp only [chip5]
  obtain ⟨k0, k1, k2, k3, k4, bW, sW⟩ := boxes5 w (.cells #[.string nm, .int .i64 4, .int .i64 b, .int .i64 z, dat] 27) (.cells #[v, vm] 25) (.cells #[.slice none 0 0, .slice none 0 0] 25) (.cells #[.slice none 0 0, .slice none 0 0] 25) (.cells #[.int .i64 256, .int .i64 256, .int .i64 256] 3)
  have k2 : rowB _ _ _ _ := k2
  have k3 : rowB _ _ _ _ := k3
  have hu := numB_arg (l := [256, 256, 256]) (show rowB _ _ _ _ from k4) (by decide)
  have h2 := isArg_below h bW (Nat.le_refl _)
  have hF := form_any v vm _ l [256, 256, 256] _ h2 hu (by decide) (by decide)
  clear k0 k1 k4 hu h2
  go_enter Try.func25, Try.ntmps25
  go_wp2_with (first
    | (go_at_call 50; refine hF.mono ?_; rintro e w2 ⟨g, rfl, hg, hr, hb⟩; have q2 := rowB_below k2 hb (rowB_lt k2); have q3 := rowB_set (rowB_below k3 hb (rowB_lt k3)) 0 (.slice (some ⟨g, 0, none⟩) 3 3); obtain ⟨d0, d1, y0, y1⟩ := dcells2 (rowB_below k3 hb (rowB_lt k3)); rw [sW] at hg; have bX := bW.trans (hb.mono bW.size); have p2 := rowB_other q2 ⟨w.heap.size + 3, 0, none⟩ (.slice (some ⟨g, 0, none⟩) 3 3) (by simp))
    | (refine wpList_storeR rfl 25 _ _ rfl (w.heap.size + 2) rfl #[.slice (some ⟨g, 0, none⟩) 3 3, .slice none 0 0] rfl (dev2_one _ _ _ _ _ _) 25 #[.slice none 0 0, .slice none 0 0] rfl ?_ agDv ?_; with_reducible exact p2))
  refine bodyPost_ret (resultsR rfl (w.heap.size + 2) _ rfl (rowB_row p2 _) agDv) rfl ?_
  exact ⟨_, rfl, ⟨g, rfl, by omega, rowB_row_other (rowB_other hr _ _ (by show w.heap.size + 3 ≠ g; omega)) _ (by omega)⟩, below_rowR (bX.setCell (p := ⟨w.heap.size + 3, 0, none⟩) (by simp) _) _ (by omega)⟩

def msSer : List Int := [256, 64, 256, 2, 2, 4, 1048576, 256]
theorem formedSer_any (nm : ByteArray) (b z : Int) (dat v vm : Value) (l : List Int) (w : World) (h : isArg w v l) :
    Calls Try.prog 25 #[.agg (chip5 nm 5 b z dat), .agg #[v, vm]] w fun e w' => ∃ u, e = .returned u ∧ devO w.heap.size w' u (fmN l msSer 8) ∧ Below w.heap.size w w' := by
  dsimp only [chip5]
  obtain ⟨k0, k1, k2, k3, k4, bW, sW⟩ := boxes5 w (.cells #[.string nm, .int .i64 5, .int .i64 b, .int .i64 z, dat] 27) (.cells #[v, vm] 25) (.cells #[.slice none 0 0, .slice none 0 0] 25) (.cells #[.slice none 0 0, .slice none 0 0] 25) (.cells #[.int .i64 256, .int .i64 64, .int .i64 256, .int .i64 2, .int .i64 2, .int .i64 4, .int .i64 1048576, .int .i64 256] 3)
  have k2 : rowB _ _ _ _ := k2
  have k3 : rowB _ _ _ _ := k3
  have hu := numB_arg (l := [256, 64, 256, 2, 2, 4, 1048576, 256]) (show rowB _ _ _ _ from k4) (by decide)
  have h2 := isArg_below h bW (Nat.le_refl _)
  have hF := form_any v vm _ l [256, 64, 256, 2, 2, 4, 1048576, 256] _ h2 hu (by decide) (by decide)
  clear k0 k1 k4 hu h2
  go_enter Try.func25, Try.ntmps25
  go_wp2_with (first
    | (go_at_call 50; refine hF.mono ?_; rintro e w2 ⟨g, rfl, hg, hr, hb⟩; have q2 := rowB_below k2 hb (rowB_lt k2); have q3 := rowB_set (rowB_below k3 hb (rowB_lt k3)) 0 (.slice (some ⟨g, 0, none⟩) 8 8); obtain ⟨d0, d1, y0, y1⟩ := dcells2 (rowB_below k3 hb (rowB_lt k3)); rw [sW] at hg; have bX := bW.trans (hb.mono bW.size); have p2 := rowB_other q2 ⟨w.heap.size + 3, 0, none⟩ (.slice (some ⟨g, 0, none⟩) 8 8) (by simp))
    | (refine wpList_storeR rfl 25 _ _ rfl (w.heap.size + 2) rfl #[.slice (some ⟨g, 0, none⟩) 8 8, .slice none 0 0] rfl (dev2_one _ _ _ _ _ _) 25 #[.slice none 0 0, .slice none 0 0] rfl ?_ agDv ?_; with_reducible exact p2))
  refine bodyPost_ret (resultsR rfl (w.heap.size + 2) _ rfl (rowB_row p2 _) agDv) rfl ?_
  exact ⟨_, rfl, ⟨g, rfl, by omega, rowB_row_other (rowB_other hr _ _ (by show w.heap.size + 3 ≠ g; omega)) _ (by omega)⟩, below_rowR (bX.setCell (p := ⟨w.heap.size + 3, 0, none⟩) (by simp) _) _ (by omega)⟩
end Go.Proofs.Ytmjddoboogccoaa
