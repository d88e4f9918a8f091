/- The values of a line: what package pin and the reference compute, as plain functions, and that they agree. No function is named here. -/
import Derived.Test.YtgiociijhpimoaaBitMath
namespace Go.Proofs.Ytgiociijhpimoaa

/-- The value that a number counts as. -/
def ln (n : Int) : Int := if n < 0 ∨ 3 < n then 3 else n
def jn (a b : Int) : Int := if ln a = 2 then ln b else if ln b = 2 ∨ ln a = ln b then ln a else 3
def allL (l : List Int) : Int := l.foldl jn 2
def pl (a b : Int) : Int := if a = 2 then ln b else ln a
def clashes (l : List Int) : Bool := l.any fun x => decide (ln x = 3)
def wir (l : List Int) (b : Int) : Int := if l.contains 0 then 0 else if clashes l then 3 else ln b

/-- The levels that a number drives, as the reference takes them. -/
def dlo (a : Int) : Bool := decide (a = 0) || decide (a < 0) || decide (2 < a)
def dhi (a : Int) : Bool := decide (a = 1) || decide (a < 0) || decide (2 < a)
def lnOf (lo hi : Bool) : Int := if lo && hi then 3 else if lo then 0 else if hi then 1 else 2
def lob (l : List Int) : Bool := l.any dlo
def hib (l : List Int) : Bool := l.any dhi
def refL (l : List Int) : Int := lnOf (lob l) (hib l)

theorem ln_of (a : Int) : lnOf (dlo a) (dhi a) = ln a := by
  unfold lnOf dlo dhi ln
  by_cases h1 : a < 0
  · simp [h1]
  by_cases h2 : 3 < a
  · simp [h1, h2, show (2 : Int) < a by omega]
  rcases (by omega : a = 0 ∨ a = 1 ∨ a = 2 ∨ a = 3) with rfl | rfl | rfl | rfl <;> decide
theorem lnOf_bd (a b : Bool) : 0 ≤ lnOf a b ∧ lnOf a b ≤ 3 := by cases a <;> cases b <;> decide
theorem ln_bd (a : Int) : 0 ≤ ln a ∧ ln a ≤ 3 := by unfold ln; split <;> omega
theorem ln_idem (a : Int) : ln (ln a) = ln a := by
  have := ln_bd a
  generalize ln a = x at *
  unfold ln; split <;> omega
theorem ln_lnOf (a b : Bool) : ln (lnOf a b) = lnOf a b := by cases a <;> cases b <;> decide
theorem jn_lnOf (p q : Bool) (a : Int) : jn (lnOf p q) a = lnOf (p || dlo a) (q || dhi a) := by
  unfold jn
  rw [ln_lnOf, ← ln_of a]
  cases p <;> cases q <;> cases dlo a <;> cases dhi a <;> decide
theorem jn_bd (a b : Int) : 0 ≤ jn a b ∧ jn a b ≤ 3 := by
  have := ln_bd a; have := ln_bd b
  unfold jn; split
  · omega
  · split <;> omega

theorem foldl_jn (l : List Int) (p q : Bool) : l.foldl jn (lnOf p q) = lnOf (p || lob l) (q || hib l) := by
  induction l generalizing p q with
  | nil => simp [lob, hib]
  | cons a l ih => rw [List.foldl_cons, jn_lnOf, ih]; simp [lob, hib, Bool.or_assoc]
theorem all_ref (l : List Int) : allL l = refL l := by
  have h := foldl_jn l false false
  simpa [allL, refL, lnOf] using h
theorem all_bd (l : List Int) : 0 ≤ allL l ∧ allL l ≤ 3 := by rw [all_ref]; exact lnOf_bd _ _
theorem join_ref (a b : Int) : jn a b = refL [a, b] := by
  rw [← all_ref]
  show jn a b = jn (jn 2 a) b
  have e : jn 2 a = ln a := by unfold jn; rfl
  rw [e]
  unfold jn; rw [ln_idem]
theorem one_ref (a : Int) : refL [a] = ln a := by simp [refL, lob, hib, ln_of]

theorem all_snoc (l : List Int) (x : Int) : allL (l ++ [x]) = jn (allL l) x := by simp [allL, List.foldl_append]
theorem lob_snoc (l : List Int) (x : Int) : lob (l ++ [x]) = (lob l || dlo x) := by simp [lob]
theorem hib_snoc (l : List Int) (x : Int) : hib (l ++ [x]) = (hib l || dhi x) := by simp [hib]
theorem clashes_snoc (l : List Int) (x : Int) : clashes (l ++ [x]) = (clashes l || decide (ln x = 3)) := by simp [clashes]
theorem take_snoc (l : List Int) (k : Nat) (h : k < l.length) : l.take (k + 1) = l.take k ++ [l.getD k 0] := by
  rw [List.take_add_one, List.getD_eq_getElem?_getD, List.getElem?_eq_getElem h]; rfl
theorem ln_zero (x : Int) : ln x = 0 ↔ x = 0 := by unfold ln; split <;> omega
theorem take_no0 (l : List Int) (k : Nat) (h : k < l.length) (h0 : (l.take k).contains 0 = false) (hx : l.getD k 0 ≠ 0) : (l.take (k + 1)).contains 0 = false := by
  rw [take_snoc l k h]
  simp only [List.contains_eq_any_beq, List.any_append] at h0 ⊢
  rw [h0]
  simpa using fun e => hx e.symm
theorem has0 (l : List Int) (k : Nat) (h : k < l.length) (hx : l.getD k 0 = 0) : l.contains 0 = true := by
  rw [List.contains_iff_mem, ← hx, List.getD_eq_getElem?_getD, List.getElem?_eq_getElem h]
  exact List.getElem_mem h
end Go.Proofs.Ytgiociijhpimoaa
