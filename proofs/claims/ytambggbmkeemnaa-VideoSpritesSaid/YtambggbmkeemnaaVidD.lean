/- States of video chips: as they are read, in rows of their own. -/
import Derived.Test.YtambggbmkeemnaaChecked
import Derived.Test.YtambggbmkeemnaaDevB
import Derived.Test.YtambggbmkeemnaaVidMath
import Derived.Below
import Derived.BigQuiet
import Derived.ChangeMaps5
import Derived.Deep.DeepCutAuto
import Derived.Deep.Draws
import Derived.Deep.MidRow
import Derived.Deep.OwnRows
import Derived.Deep.QuietTactic
import Derived.Deep.RegionHeld3
import Derived.Deep.RegionWith
import Derived.Deep.Slices
import Derived.Deep.WholeRow
import Derived.Laws.CopyOwn
import Derived.Lib.Hide
import Derived.Lib.SmallJoins
import Derived.OpenShut
import Derived.OrdersHeld
import Derived.OwnWalk
import Derived.RowKit3
import Derived.StillTactics
import Derived.StillTail
import Derived.StillTailTactics
import Derived.WalkKit
namespace Go.Proofs.Ytambggbmkeemnaa
open Go.RowKit
set_option maxRecDepth 100000

/-- The numbers of a video chip as they are read: the position is the last one if it is missing. -/
def vidL (l : List Int) : List Int := if l = [] then [2559] else l
/-- A video chip as its numbers and bytes are read. -/
def Vd.ofN (l lb : List Int) : Vd := ⟨(vidL l).getD 0 0 % 2560, (vidL l).getD 1 0 % 2, pad 32 lb⟩
theorem Vd.ofN_fit (l lb : List Int) (hb : ∀ x ∈ lb, 0 ≤ x ∧ x < 256) : (Vd.ofN l lb).fit := by
  refine ⟨⟨Int.emod_nonneg _ (by decide), Int.emod_lt_of_pos _ (by decide)⟩, ⟨Int.emod_nonneg _ (by decide), Int.emod_lt_of_pos _ (by decide)⟩, pad_len _ _, fun i => ?_⟩
  show 0 ≤ (pad 32 lb).getD i 0 ∧ (pad 32 lb).getD i 0 < 256
  rw [pad_get]
  split
  · exact Vd.reg_bd hb i
  · exact ⟨by decide, by decide⟩
/-- A state of a video chip in rows of its own. -/
def devV (lo : Nat) (w : World) (v : Value) (s : Vd) : Prop :=
  ∃ g q, v = .agg #[.slice (some ⟨g, 0, none⟩) 2 2, .slice (some ⟨q, 0, none⟩) 32 32] ∧ lo ≤ g ∧ lo ≤ q ∧ g ≠ q ∧ rowB w g 3 #[.int .i64 s.p, .int .i64 s.h] ∧ rowB w q 5 (byts s.m)
theorem devV.below {lo : Nat} {w w' : World} {v : Value} {s : Vd} (h : devV lo w v s) (hb : Below w.heap.size w w') : devV lo w' v s := by
  obtain ⟨g, q, e, h1, h2, h3, h4, h5⟩ := h
  exact ⟨g, q, e, h1, h2, h3, rowB_below h4 hb (rowB_lt h4), rowB_below h5 hb (rowB_lt h5)⟩
/-- The bytes of a row as an argument. -/
theorem byt32 {w : World} {q : Nat} {m : List Int} (h : rowB w q 5 (byts m)) (hl : m.length = 32) : isByt w (.slice (some ⟨q, 0, none⟩) 32 32) m := by
  have := bytB_arg h (by omega)
  rw [hl] at this
  exact this
theorem byt_cell {w : World} {q : Nat} {m : List Int} (h : rowB w q 5 (byts m)) (hl : m.length = 32) (i : Nat) (hi : i < 32) : w.cell? ⟨q, i, none⟩ = some (.int .u8 (vreg m i)) := by
  refine rowB_cell h i ?_
  rw [byts_get, List.getElem?_eq_getElem (by omega)]
  unfold vreg
  rw [List.getD_eq_getElem?_getD, List.getElem?_eq_getElem (by omega)]
  rfl
end Go.Proofs.Ytambggbmkeemnaa
