/- A part of the proof of ChipBanks: DrvSk. -/
import Derived.Test.YtakaebjojgeehaaChipBanksK01
import Derived.Test.YtakaebjojgeehaaChipBanksK02
import Derived.Test.YtakaebjojgeehaaChipBanksK03
import Derived.Test.YtakaebjojgeehaaChipBanksK04
import Derived.Test.YtakaebjojgeehaaChipBanksK05
import Derived.Test.YtakaebjojgeehaaChipBanksK06
import Derived.Test.YtakaebjojgeehaaChipBanksK08
import Derived.Test.YtakaebjojgeehaaChipBanksK15
import Derived.Test.YtakaebjojgeehaaChipBanksK17
import Derived.Test.YtakaebjojgeehaaChipBanksK19
import Derived.Test.YtakaebjojgeehaaChipBanksK20
import Derived.Test.YtakaebjojgeehaaChipBanksK21
import Derived.Test.YtakaebjojgeehaaChipBanksK22
import Derived.Test.YtakaebjojgeehaaChipBanksK23
import Derived.Test.YtakaebjojgeehaaChipBanksK24
import Derived.Below
import Derived.BigQuiet
import Derived.ChangeMaps5
import Derived.Deep.AppendSrc
import Derived.Deep.DeepAppendWide
import Derived.Deep.DeepCutAuto
import Derived.Deep.Draws
import Derived.Deep.MidRow
import Derived.Deep.OwnRows
import Derived.Deep.QuietTactic
import Derived.Deep.RegionHeld3
import Derived.Deep.RegionWith
import Derived.Deep.Slices
import Derived.Deep.WholeRow
import Derived.Laws.CopyOwn
import Derived.Laws.OwnMore
import Derived.Lib.Hide
import Derived.Lib.SmallJoins
import Derived.Maps.AppendAt
import Derived.OpenShut
import Derived.OrdersHeld
import Derived.OwnWalk
import Derived.RowKit3
import Derived.StillTactics
import Derived.StillTail
import Derived.StillTailTactics
import Derived.Test.YtakaebjojgeehaaChecked
import Derived.WalkKit
namespace Go.Proofs.Ytakaebjojgeehaa
open Go.RowKit
set_option maxRecDepth 100000
/-- A state in the box y, and a box for the result; all that lies below w's end is as it was. -/
structure drvW (w : World) (B : Nat) (w' : World) (y : Nat) (s : Dr) (u : Value) : Prop where
  st : stD (B + 1) w' y s u
  box : rowB w' B 34 #[.slice none 0 0, .slice none 0 0]
  bel : Below w.heap.size w w'
  lo : w.heap.size ≤ B
theorem drvW.put {w w' : World} {B y : Nat} {s t : Dr} {u : Value} (h : drvW w B w' y s u) (i : Nat) (v : Value) (ht : (s.cs u).setIfInBounds i v = t.cs u) (hm : t.m = s.m) : drvW w B (w'.setCell ⟨y, i, none⟩ v) y t u := by
  have := h.st.lo
  have := h.lo
  exact ⟨h.st.put i v ht hm, rowB_other h.box ⟨y, i, none⟩ v (show y ≠ B by omega), Below.setCell h.bel (p := ⟨y, i, none⟩) (show w.heap.size ≤ y by omega) v, h.lo⟩
theorem drvW.calm {w w' w2 : World} {B y : Nat} {s : Dr} {u : Value} (h : drvW w B w' y s u) (hb : Below w'.heap.size w' w2) : drvW w B w2 y s u :=
  ⟨h.st.below hb, rowB_below h.box hb (rowB_lt h.box), h.bel.trans (hb.mono h.bel.size), h.lo⟩
theorem drvW.next {w w' w2 : World} {B y : Nat} {s t : Dr} {u : Value} (h : drvW w B w' y s u) (hs : stD (B + 1) w2 y t u) (hb : Below (B + 1) w' w2) : drvW w B w2 y t u :=
  ⟨hs, rowB_below h.box hb (Nat.lt_succ_self _), h.bel.trans (hb.mono (Nat.le_succ_of_le h.lo)), h.lo⟩
theorem drvW.start {w w1 : World} {B y : Nat} {s : Dr} {u : Value} (hB : w.heap.size ≤ B) (hu : own8 (B + 1) w1 u s.m) (hk : rowB w1 B 34 #[.slice none 0 0, .slice none 0 0]) (hb : Below w.heap.size w w1) (hy : w1.heap.size = y) :
    drvW w B (w1.alloc (.cells (s.cs u) 75)) y s u := by
  subst hy
  have := rowB_lt hk
  exact ⟨⟨rowB_new w1 _ _, World.ownsRow.alloc hu _, fun g hg e => by have := (own8_lt hu g hg).2; omega, by omega⟩, rowB_alloc hk _, hb.alloc hb.size _, hB⟩
/-- The result: a state in new blocks. -/
theorem drvW.fin {w w' w2 : World} {B y g : Nat} {s : Dr} {u : Value} (h : drvW w B w' y s u) (hr : rowB w2 g 3 (nums s.ns)) (hg : w'.heap.size ≤ g) (hb : Below w'.heap.size w' w2) (v vm : Value) :
    devF w.heap.size v vm (w2.setRow B #[.slice (some ⟨g, 0, none⟩) 10 10, u]) (.agg #[.slice (some ⟨g, 0, none⟩) 10 10, u]) s ∧ Below w.heap.size w (w2.setRow B #[.slice (some ⟨g, 0, none⟩) 10 10, u]) := by
  have h2 := h.calm hb
  have hlo := h.lo
  have hBw := rowB_lt h.box
  have ho : Off (· = B) w2 (w2.setRow B #[.slice (some ⟨g, 0, none⟩) 10 10, u]) := (Off.refl (· = B) w2).row (g := B) (.inl rfl) _
  refine ⟨⟨_, _, rfl, numB_arg (l := s.ns) (rowB_row_other hr _ (by omega)) (by show 10 ≤ _; decide), ?_, ?_⟩, below_rowR h2.bel _ hlo⟩
  · have hn : ∀ q, u.ownBlock = some q → q ≠ B := fun q hq => by have := (own8_lt h2.st.own q hq).1; omega
    have hgr : w2.grownBy (w2.setRow B #[.slice (some ⟨g, 0, none⟩) 10 10, u]) (some B) := ⟨rfl, rfl, rfl, by simp [World.setRow], fun k _ hk => setRow_other w2 B k _ (fun e => hk (by simp [e]))⟩
    have : own8 (B + 1) (w2.setRow B #[.slice (some ⟨g, 0, none⟩) 10 10, u]) u s.m := by
      refine World.ownsRow.kept h2.st.own hgr ?_
      cases e : u.ownBlock with
      | none => exact .inl rfl
      | some b => exact .inr (fun he => hn b e (by cases he; rfl))
    exact own8_byt this
  · intro b hb2
    refine .inl ?_
    rcases hb2 with hb2 | hb2
    · have : g = b := by simpa [Value.ownBlock] using hb2
      omega
    · have := (own8_lt h2.st.own b hb2).1
      omega
end Go.Proofs.Ytakaebjojgeehaa
