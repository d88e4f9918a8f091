/- What instructions can do, as plain data: how many cycles they take, which registers they change. No function is named here. -/
import Derived.Test.YthhihmggaddlmaaTabMath
import Derived.Below
import Derived.BigQuiet
import Derived.ChangeMaps5
import Derived.Deep.Draws
import Derived.Deep.OwnRows
import Derived.Deep.QuietTactic
import Derived.Deep.Slices
import Derived.Lib.Hide
import Derived.Lib.SmallJoins
import Derived.OpenShut
import Derived.OwnWalk
import Derived.RowKit3
import Derived.WalkKit
namespace Go.Proofs.Ythhihmggaddlmaa
open Go.RowKit

def ifB (s : St) : Bool := s.d == 24
def hasIf (l : List St) : Bool := l.any ifB
/-- How many cycles are done at least. -/
def leastN : List Cy → Nat
  | [] => 0
  | x :: r => if hasIf x.steps = true then 1 else leastN r + 1
theorem leastN_le (l : List Cy) : leastN l ≤ l.length := by
  induction l with
  | nil => simp [leastN]
  | cons x r ih =>
    unfold leastN
    rw [List.length_cons]
    split <;> omega
def toB (d : Int) : Bool := !(d == 0 || d == 24 || d == 3 || d == 6 || d == 16 || d == 17)
def flagsB (d t : Int) : Bool :=
  (d == 3 || d == 6 || d == 16 || d == 17 || d == 4 || d == 5 || d == 7 || d == 8 || d == 9 || d == 12 || d == 13 || d == 14 || d == 15) || (d == 10 || d == 11) && !(t == 7 || t == 8)
def stepT (reg : Int) (s : St) : Bool := s.t == reg && toB s.d || reg == 4 && flagsB s.d s.t
def busT (reg : Int) (x : Cy) : Bool := x.bus == 1 && x.reg == reg || reg == 3 && x.bus != 0 && (x.place == 4 || x.place == 5)
def cyT (reg : Int) (x : Cy) : Bool := busT reg x || x.steps.any (stepT reg)
def touchB (reg : Int) (l : List Cy) : Bool := l.any (cyT reg)

/-- Where the first element is that meets a test. -/
def idxL {α : Type} (p : α → Bool) (l : List α) : Int := if l.findIdx p < l.length then (l.findIdx p : Int) else -1
section
variable {α : Type}
theorem idxL_any (p : α → Bool) (l : List α) : decide (0 ≤ idxL p l) = l.any p := by
  rw [Bool.eq_iff_iff, List.any_eq_true, decide_eq_true_eq]
  unfold idxL
  rw [← List.findIdx_lt_length]
  split <;> simp_all
theorem idxL_here {p : α → Bool} {l : List α} {k : Nat} {x : α} (hk : k ≤ l.findIdx p) (hx : l[k]? = some x) (hp : p x = true) : idxL p l = (k : Int) := by
  obtain ⟨hlt, he⟩ := List.getElem?_eq_some_iff.1 hx
  have h2 : l.findIdx p = k := by
    rcases Nat.lt_or_ge k (l.findIdx p) with h | h
    · have := List.not_of_lt_findIdx h
      rw [he, hp] at this
      cases this
    · omega
  unfold idxL
  rw [h2, if_pos hlt]
theorem idxL_next {p : α → Bool} {l : List α} {k : Nat} {x : α} (hk : k ≤ l.findIdx p) (hx : l[k]? = some x) (hp : p x = false) : k + 1 ≤ l.findIdx p := by
  obtain ⟨hlt, he⟩ := List.getElem?_eq_some_iff.1 hx
  rcases Nat.lt_or_ge k (l.findIdx p) with h | h
  · exact h
  · have e : l.findIdx p = k := by omega
    have := List.findIdx_getElem (p := p) (xs := l) (w := by rw [e]; exact hlt)
    simp only [e, he, hp] at this
    cases this
theorem idxL_none {p : α → Bool} {l : List α} (hk : l.length ≤ l.findIdx p) : idxL p l = -1 := by
  unfold idxL; rw [if_neg (by omega)]
end
end Go.Proofs.Ythhihmggaddlmaa
