/- The contracts of the laws' ready and runs. -/
import Derived.Test.YtmjddoboogccoaaChecked
import Derived.Test.YtmjddoboogccoaaRow
import Derived.Below
import Derived.BigQuiet
import Derived.ChangeMaps5
import Derived.Deep.CutBlock
import Derived.Deep.DeepAppendWide
import Derived.Deep.DeepCutAuto
import Derived.Deep.Draws
import Derived.Deep.MidRow
import Derived.Deep.OwnRows
import Derived.Deep.QuietTactic
import Derived.Deep.RegionHeld3
import Derived.Deep.RegionLaw
import Derived.Deep.RegionWith
import Derived.Deep.Slices
import Derived.Deep.WholeRow
import Derived.Great.BuildSlice
import Derived.Laws.CopyOwn
import Derived.Laws.OwnMore
import Derived.Lib.Hide
import Derived.Lib.SmallJoins
import Derived.OpenShut
import Derived.OrdersHeld
import Derived.OwnWalk
import Derived.RangeFuncBox
import Derived.RowKit3
import Derived.Shelf.Abstract
import Derived.SizedLaws
import Derived.StillTactics
import Derived.StillTail
import Derived.StillTailTactics
import Derived.WalkKit
namespace Go.Proofs.Ytmjddoboogccoaa
open Go.RowKit
set_option maxRecDepth 100000

/-- A program of bytes, laid at 1024. -/
def loadP (p : List Int) (k : Nat) : Int := if 1024 ≤ k then p.getD (k - 1024) 0 else 0
theorem loadP_at (p : List Int) (j : Nat) : loadP p (1024 + j) = p.getD j 0 := by
  unfold loadP
  rw [if_pos (by omega)]
  congr 1
  omega
/-- The slice v holds the bytes p. -/
def bytesA (w : World) (v : Value) (p : List Int) : Prop := ∃ (b : Nat) (cap : Nat), v = .slice (some ⟨b, 0, none⟩) p.length cap ∧ b < w.heap.size ∧ (∀ j x, p[j]? = some x → w.cell? ⟨b, j, none⟩ = some (.int .u8 x)) ∧ (∀ x ∈ p, 0 ≤ x ∧ x < 256)
theorem bytesA.below {w w' : World} {v : Value} {p : List Int} (h : bytesA w v p) (hb : Below w.heap.size w w') : bytesA w' v p := by
  obtain ⟨b, cap, rfl, h1, h2, h3⟩ := h
  exact ⟨b, cap, rfl, Nat.lt_of_lt_of_le h1 hb.size, fun j x hx => (hb.cell (p := ⟨b, j, none⟩) h1).trans (h2 j x hx), h3⟩
theorem zeros_get (n k : Nat) (v : Value) (h : k < n) : (madeCells #[v] n)[k]? = some v := by
  unfold madeCells
  simp [h, Nat.mod_one]
theorem zeros_size (n : Nat) (v : Value) : (madeCells #[v] n).size = n := by
  unfold madeCells
  simp

/-- A copy into a row of the call's own: the row is then L. -/
theorem wpList_copy_L {P : Program} {w : World} {ops : Array Oper} {rest : List Oper} {o : Oper} {a : Act} {Q : Exit → Act → World → Prop} (hgd : o.guard = none) (d s : Operand) (dT sT : TypeId)
    (ho : o.op = .call { callee := .builtin .copy, args := #[d, s], argTypes := #[dT, sT] }) (elem : TypeId) (hu : P.underlying dT = some (.slice elem)) (hsz : (P.info? elem).map (·.size) = some 1)
    (g off dLen dCap : Nat) (ad : Addr) (sLen sCap : Nat) (hd : a.eval d = .slice (some ⟨g, off, none⟩) dLen dCap) (hs : a.eval s = .slice (some ad) sLen sCap)
    (cur : Array Value) (t : TypeId) (hg : rowB w g t cur) (cs : List Value) (hn : cs.length = Nat.min sLen dLen)
    (hsrc : ∀ j v, cs[j]? = some v → w.cell? (ad.add j) = some v) (hfit : off + cs.length ≤ cur.size) (h1 : ∀ v ∈ cs, v.oneCell' = true) (L : Array Value) (hL : L = (splice cur.toList off cs).toArray)
    (h : wpList P ops Q rest (a.put o.dst (goInt cs.length)) (w.setRow g L)) : wpList P ops Q (o :: rest) a w := by
  subst hL
  exact wpList_copy_own hgd d s dT sT ho elem hu hsz g off dLen dCap ad sLen sCap hd hs cur t hg cs hn hsrc hfit h1 h
theorem splice_at {α : Type} (l : List α) (off : Nat) (cs : List α) (h : off + cs.length ≤ l.length) (k : Nat) : (splice l off cs)[k]? = if off ≤ k ∧ k < off + cs.length then cs[k - off]? else l[k]? := by
  unfold splice
  rw [List.getElem?_append, List.length_take, Nat.min_eq_left (by omega)]
  split
  · rw [List.getElem?_take, if_pos (by omega), if_neg (by omega)]
  · rw [List.getElem?_append]
    split
    · rw [if_pos (by omega)]
    · rw [if_neg (by omega), List.getElem?_drop]
      congr 1
      omega

end Go.Proofs.Ytmjddoboogccoaa
