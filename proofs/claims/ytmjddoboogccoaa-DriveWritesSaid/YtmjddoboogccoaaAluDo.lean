/- Contract of package alu's Do: each step of a processor. -/
import Derived.Test.YtmjddoboogccoaaAluFlags
import Derived.Test.YtmjddoboogccoaaAluShift
import Derived.Test.YtmjddoboogccoaaAluSum
import Derived.Test.YtmjddoboogccoaaChecked
import Derived.Below
import Derived.BigQuiet
import Derived.Deep.CutBlock
import Derived.Deep.DeepCutAuto
import Derived.Deep.Draws
import Derived.Deep.MidRow
import Derived.Deep.OwnRows
import Derived.Deep.QuietTactic
import Derived.Deep.RegionHeld3
import Derived.Deep.RegionLaw
import Derived.Deep.RegionWith
import Derived.Deep.WholeRow
import Derived.Lib.Hide
import Derived.OrdersHeld
import Derived.OwnWalk
import Derived.RowKit3
import Derived.StillTactics
import Derived.StillTail
import Derived.StillTailTactics
import Derived.WalkKit
namespace Go.Proofs.Ytmjddoboogccoaa
set_option maxRecDepth 100000
open Go.RowKit

/-- The number of a register that is nearest to a number. -/
def reg (n : Int) : Nat := (near n 0 8).toNat
theorem reg_lt (n : Int) : reg n < 9 := by unfold reg near; omega
theorem reg_eq (n : Int) : near n 0 8 = (reg n : Nat) := by unfold reg near; omega
theorem reg_of (k : Nat) (h : k < 9) : reg (k : Int) = k := by unfold reg near; omega

def moves (d : Int) : Bool := d == 1 || d == 2 || d == 18 || d == 19 || d == 20 || d == 21 || d == 22 || d == 23
/-- The registers behind a step, of registers that are as large as they may be. -/
def doF (d : Int) (t u : Nat) (n : Int) (f : Nat → Int) : Nat → Int :=
  if d = 3 then setR f 4 (flg (f 4) (f t))
  else if moves d then fitR (setR f t (movedV d n (f t) (f u)))
  else if d = 4 ∨ d = 5 ∨ d = 6 then fitR (sumF d t u f)
  else if d = 7 ∨ d = 8 ∨ d = 9 then fitR (setR (setR f 4 (flg (f 4) (joinB d (lo (f t) 8) (lo (f u) 8)))) t (joinB d (lo (f t) 8) (lo (f u) 8)))
  else if d = 10 then fitR (countF t 1 f)
  else if d = 11 then fitR (countF t (-1) f)
  else if d = 12 ∨ d = 13 ∨ d = 14 ∨ d = 15 then fitR (shiftF d t f)
  else if d = 16 then fitR (setR f 4 (bits .or .i64 (f 4) (lo n 8)))
  else if d = 17 then fitR (setR f 4 (bits .andNot .i64 (f 4) (lo n 8)))
  else if d = 24 then f
  else fitR f
/-- Whether the instruction ends. -/
def endB (d u n : Int) (f : Nat → Int) : Bool := if d = 24 then (!(bits .and .i64 (f 4) (lo n 8) == 0)) != (u == 1) else false

theorem do24 (t u : Nat) (n : Int) (g : Nat → Int) : doF 24 t u n g = g := by unfold doF moves; simp
theorem end24 (u n : Int) (g : Nat → Int) : endB 24 u n g = (!((bits .and .i64 (g 4) (lo n 8) == 0) != (u == 1))) := by
  unfold endB
  rw [if_pos rfl]
  generalize (bits .and .i64 (g 4) (lo n 8) == 0) = p
  generalize (u == 1) = q
  cases p <;> cases q <;> rfl
theorem stepNo (d : Int) : d = 1 ∨ d = 2 ∨ d = 3 ∨ d = 4 ∨ d = 5 ∨ d = 6 ∨ d = 7 ∨ d = 8 ∨ d = 9 ∨ d = 10 ∨ d = 11 ∨ d = 12 ∨ d = 13 ∨ d = 14 ∨ d = 15 ∨ d = 16 ∨ d = 17 ∨ d = 18 ∨ d = 19 ∨ d = 20 ∨ d = 21 ∨ d = 22 ∨ d = 23 ∨ d = 24 ∨ (d ≠ 1 ∧ d ≠ 2 ∧ d ≠ 3 ∧ d ≠ 4 ∧ d ≠ 5 ∧ d ≠ 6 ∧ d ≠ 7 ∧ d ≠ 8 ∧ d ≠ 9 ∧ d ≠ 10 ∧ d ≠ 11 ∧ d ≠ 12 ∧ d ≠ 13 ∧ d ≠ 14 ∧ d ≠ 15 ∧ d ≠ 16 ∧ d ≠ 17 ∧ d ≠ 18 ∧ d ≠ 19 ∧ d ≠ 20 ∧ d ≠ 21 ∧ d ≠ 22 ∧ d ≠ 23 ∧ d ≠ 24) := by omega
end Go.Proofs.Ytmjddoboogccoaa
