/- Contracts of package alu's functions count and shift. -/
import Derived.Test.YtmjddoboogccoaaBitWalks
import Derived.Test.YtmjddoboogccoaaChecked
import Derived.Test.YtmjddoboogccoaaRegMath
import Derived.Below
import Derived.BigQuiet
import Derived.Deep.DeepCutAuto
import Derived.Deep.Draws
import Derived.Deep.OwnRows
import Derived.Deep.QuietTactic
import Derived.Deep.RegionHeld3
import Derived.Deep.RegionWith
import Derived.Deep.WholeRow
import Derived.Lib.Hide
import Derived.OwnWalk
import Derived.RowKit3
import Derived.WalkKit
namespace Go.Proofs.Ytmjddoboogccoaa
set_option maxRecDepth 100000
open Go.RowKit

/-- The registers behind a step up or down. -/
def countF (t : Nat) (b : Int) (f : Nat → Int) : Nat → Int :=
  if t = 7 ∨ t = 8 then setR f t (lo (f t + b) 16) else setR (setR f 4 (flg (f 4) (lo (f t + b) 8))) t (lo (f t + b) 8)

def shiftN (d a c : Int) : Int := if d = 12 then lo (rolS a 0 8) 8 else if d = 14 then lo (rolS a c 8) 8 else if d = 13 then rorS a 0 8 / 2 else rorS a c 8 / 2
def shiftC (d a c : Int) : Int := if d = 12 then rolS a 0 8 / 256 else if d = 14 then rolS a c 8 / 256 else if d = 13 then rorS a 0 8 % 2 else rorS a c 8 % 2
theorem shiftC_bd (d a c : Int) : shiftC d a c = 0 ∨ shiftC d a c = 1 := by
  have h := lo8_bd a
  unfold shiftC rolS rorS
  split
  · omega
  · split
    · omega
    · split <;> omega
/-- The registers behind a shift. -/
def shiftF (d : Int) (t : Nat) (f : Nat → Int) : Nat → Int :=
  setR (setR f 4 (flg (car (f 4) (shiftC d (f t) (f 4 % 2))) (shiftN d (f t) (f 4 % 2)))) t (shiftN d (f t) (f 4 % 2))

end Go.Proofs.Ytmjddoboogccoaa
