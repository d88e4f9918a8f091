/- A drive that skips cycles, from one act to the next; a state in a box beside the box of a result. No function is named here. -/
import Derived.Test.YtmjddoboogccoaaChecked
import Derived.Test.YtmjddoboogccoaaDrvOwn
import Derived.Test.YtmjddoboogccoaaDrvTk
import Derived.Test.YtmjddoboogccoaaRegs
import Derived.Below
import Derived.BigQuiet
import Derived.ChangeMaps5
import Derived.Deep.AppendSrc
import Derived.Deep.DeepAppendWide
import Derived.Deep.DeepCutAuto
import Derived.Deep.Draws
import Derived.Deep.MidRow
import Derived.Deep.OwnRows
import Derived.Deep.QuietTactic
import Derived.Deep.RegionHeld3
import Derived.Deep.RegionWith
import Derived.Deep.Slices
import Derived.Deep.WholeRow
import Derived.Laws.CopyOwn
import Derived.Laws.OwnMore
import Derived.Lib.Hide
import Derived.Lib.SmallJoins
import Derived.Maps.AppendAt
import Derived.OpenShut
import Derived.OrdersHeld
import Derived.OwnWalk
import Derived.RowKit3
import Derived.StillTactics
import Derived.StillTail
import Derived.StillTailTactics
import Derived.WalkKit
namespace Go.Proofs.Ytmjddoboogccoaa
open Go.RowKit
set_option maxRecDepth 100000

/-- What a command does when its cycles have passed. -/
def Dr.act (s : Dr) : Dr := if s.c < 3 then s.move else s.byte.done
theorem Dr.act_fit {s : Dr} (h : s.fit) : s.act.fit := by
  unfold Dr.act
  split
  · exact Dr.move_fit h
  · exact Dr.done_fit (Dr.byte_fit h)
theorem Dr.act_len (s : Dr) : s.act.m.length = s.m.length := by
  unfold Dr.act
  split
  · rfl
  · rw [Dr.done_m, Dr.byte_len]
theorem Dr.act_tick (s : Dr) (h1 : s.c ≠ 0) (h2 : ¬ (2 < s.c ∧ s.k = 0)) (h3 : ¬ 1 < s.l) : s.tick = s.act := by
  unfold Dr.tick Dr.act
  rw [if_neg h1, if_neg h2, if_neg h3]
theorem Dr.act_one (s : Dr) (x : Int) : ({ s with l := x } : Dr).act = s.act := by
  unfold Dr.act
  dsimp only
  split
  · rfl
  · have e : ({ s with l := x } : Dr).byte = { s.byte with l := x } := by
      unfold Dr.byte
      dsimp only
      split <;> rfl
    rw [e]
    rfl
theorem Dr.ticks_act (s : Dr) (h1 : s.c ≠ 0) (h2 : ¬ (2 < s.c ∧ s.k = 0)) : s.ticks (max 1 s.l).toNat = s.act := by
  by_cases h : 1 < s.l
  · rw [show max 1 s.l = s.l by omega, Dr.ticks_end s h1 h2 (by omega)]
    rw [Dr.act_tick ({ s with l := 1 } : Dr) h1 h2 (by show ¬ (1 : Int) < 1; decide), Dr.act_one]
  · rw [show (max 1 s.l).toNat = 0 + 1 by omega]
    exact Dr.act_tick s h1 h2 h
/-- The ways of a round: no disk; too few cycles; an act. -/
theorem Dr.skip_lacks (s : Dr) (h1 : s.c ≠ 0) (h2 : 2 < s.c ∧ s.k = 0) (j : Nat) (hj : 0 < j) (i : Nat) : s.ticks j = ({ s with c := 0 } : Dr).ticks i := by
  obtain ⟨q, rfl⟩ : ∃ q, j = 1 + q := ⟨j - 1, by omega⟩
  rw [Dr.ticks_add]
  have e : s.ticks 1 = { s with c := 0 } := by
    show s.tick = _
    unfold Dr.tick
    rw [if_neg h1, if_pos h2]
  rw [e, Dr.ticks_idle _ rfl, Dr.ticks_idle _ rfl]
theorem Dr.skip_few (s : Dr) (h1 : s.c ≠ 0) (h2 : ¬ (2 < s.c ∧ s.k = 0)) (j : Int) (hj : 0 < j) (hl : j < max 1 s.l) : s.ticks j.toNat = { s with l := s.l - j } := by
  rw [Dr.ticks_down s h1 h2 j.toNat (by omega), show ((j.toNat : Nat) : Int) = j by omega]
theorem Dr.skip_act (s : Dr) (h1 : s.c ≠ 0) (h2 : ¬ (2 < s.c ∧ s.k = 0)) (j : Int) (hl : max 1 s.l ≤ j) : s.ticks j.toNat = s.act.ticks (j - max 1 s.l).toNat := by
  rw [← Dr.ticks_act s h1 h2, ← Dr.ticks_add]
  congr 1
  omega
theorem Dr.c0_fit {s : Dr} (h : s.fit) : ({ s with c := 0 } : Dr).fit := ⟨h.k, h.t, ⟨(by decide : (0 : Int) ≤ 0), (by decide : (0 : Int) < 5)⟩, h.e, h.n, h.l, h.d, h.r, h.o, h.b, h.m, h.y⟩
theorem Dr.few_fit {s : Dr} (h : s.fit) (j : Int) (hj : 0 < j) (hl : j < max 1 s.l) : ({ s with l := s.l - j } : Dr).fit := by
  have := h.l
  exact ⟨h.k, h.t, h.c, h.e, h.n, by dsimp only; omega, h.d, h.r, h.o, h.b, h.m, h.y⟩

/-- A state in the box y, and a box for the result; all that lies below w's end is as it was. -/
structure drvW (w : World) (B : Nat) (w' : World) (y : Nat) (s : Dr) (u : Value) : Prop where
  st : stD (B + 1) w' y s u
  box : rowB w' B 25 #[.slice none 0 0, .slice none 0 0]
  bel : Below w.heap.size w w'
  lo : w.heap.size ≤ B
theorem drvW.put {w w' : World} {B y : Nat} {s t : Dr} {u : Value} (h : drvW w B w' y s u) (i : Nat) (v : Value) (ht : (s.cs u).setIfInBounds i v = t.cs u) (hm : t.m = s.m) : drvW w B (w'.setCell ⟨y, i, none⟩ v) y t u := by
  have := h.st.lo
  have := h.lo
  exact ⟨h.st.put i v ht hm, rowB_other h.box ⟨y, i, none⟩ v (show y ≠ B by omega), Below.setCell h.bel (p := ⟨y, i, none⟩) (show w.heap.size ≤ y by omega) v, h.lo⟩
theorem drvW.calm {w w' w2 : World} {B y : Nat} {s : Dr} {u : Value} (h : drvW w B w' y s u) (hb : Below w'.heap.size w' w2) : drvW w B w2 y s u :=
  ⟨h.st.below hb, rowB_below h.box hb (rowB_lt h.box), h.bel.trans (hb.mono h.bel.size), h.lo⟩
theorem drvW.next {w w' w2 : World} {B y : Nat} {s t : Dr} {u : Value} (h : drvW w B w' y s u) (hs : stD (B + 1) w2 y t u) (hb : Below (B + 1) w' w2) : drvW w B w2 y t u :=
  ⟨hs, rowB_below h.box hb (Nat.lt_succ_self _), h.bel.trans (hb.mono (Nat.le_succ_of_le h.lo)), h.lo⟩
theorem drvW.start {w w1 : World} {B y : Nat} {s : Dr} {u : Value} (hB : w.heap.size ≤ B) (hu : own8 (B + 1) w1 u s.m) (hk : rowB w1 B 25 #[.slice none 0 0, .slice none 0 0]) (hb : Below w.heap.size w w1) (hy : w1.heap.size = y) :
    drvW w B (w1.alloc (.cells (s.cs u) 58)) y s u := by
  subst hy
  have := rowB_lt hk
  exact ⟨⟨rowB_new w1 _ _, World.ownsRow.alloc hu _, fun g hg e => by have := (own8_lt hu g hg).2; omega, by omega⟩, rowB_alloc hk _, hb.alloc hb.size _, hB⟩
/-- The result: a state in new blocks. -/
theorem drvW.fin {w w' w2 : World} {B y g : Nat} {s : Dr} {u : Value} (h : drvW w B w' y s u) (hr : rowB w2 g 3 (nums s.ns)) (hg : w'.heap.size ≤ g) (hb : Below w'.heap.size w' w2) (v vm : Value) :
    devF w.heap.size v vm (w2.setRow B #[.slice (some ⟨g, 0, none⟩) 10 10, u]) (.agg #[.slice (some ⟨g, 0, none⟩) 10 10, u]) s ∧ Below w.heap.size w (w2.setRow B #[.slice (some ⟨g, 0, none⟩) 10 10, u]) := by
  have h2 := h.calm hb
  have hlo := h.lo
  have hBw := rowB_lt h.box
  have ho : Off (· = B) w2 (w2.setRow B #[.slice (some ⟨g, 0, none⟩) 10 10, u]) := (Off.refl (· = B) w2).row (g := B) (.inl rfl) _
  refine ⟨⟨_, _, rfl, numB_arg (l := s.ns) (rowB_row_other hr _ (by omega)) (by show 10 ≤ _; decide), ?_, ?_⟩, below_rowR h2.bel _ hlo⟩
  · have hn : ∀ q, u.ownBlock = some q → q ≠ B := fun q hq => by have := (own8_lt h2.st.own q hq).1; omega
    have hgr : w2.grownBy (w2.setRow B #[.slice (some ⟨g, 0, none⟩) 10 10, u]) (some B) := ⟨rfl, rfl, rfl, by simp [World.setRow], fun k _ hk => setRow_other w2 B k _ (fun e => hk (by simp [e]))⟩
    have : own8 (B + 1) (w2.setRow B #[.slice (some ⟨g, 0, none⟩) 10 10, u]) u s.m := by
      refine World.ownsRow.kept h2.st.own hgr ?_
      cases e : u.ownBlock with
      | none => exact .inl rfl
      | some b => exact .inr (fun he => hn b e (by cases he; rfl))
    exact own8_byt this
  · intro b hb2
    refine .inl ?_
    rcases hb2 with hb2 | hb2
    · have : g = b := by simpa [Value.ownBlock] using hb2
      omega
    · have := (own8_lt h2.st.own b hb2).1
      omega
end Go.Proofs.Ytmjddoboogccoaa
