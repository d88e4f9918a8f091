/- Contracts of package alu's functions moved, sum, count and shift. -/
import Derived.Test.YtmjddoboogccoaaBitLists
import Derived.Test.YtmjddoboogccoaaBitWalks
import Derived.Test.YtmjddoboogccoaaChecked
import Derived.Test.YtmjddoboogccoaaRegMath
import Derived.Below
import Derived.BigQuiet
import Derived.Deep.DeepCutAuto
import Derived.Deep.Draws
import Derived.Deep.OwnRows
import Derived.Deep.QuietTactic
import Derived.Deep.RegionHeld3
import Derived.Deep.RegionWith
import Derived.Deep.WholeRow
import Derived.Lib.Hide
import Derived.OwnWalk
import Derived.RowKit3
import Derived.WalkKit
namespace Go.Proofs.Ytmjddoboogccoaa
open Go.RowKit
set_option maxRecDepth 100000

/-- What a step puts into a register that leaves the flags alone. -/
def movedV (d n a b : Int) : Int :=
  if d = 2 then n else if d = 18 then putN a 0 8 b else if d = 19 then putN a 8 8 b else if d = 20 then lo b 8 else if d = 21 then lo (b / 256) 8
  else if d = 22 then wrap64 (a + lo b 8) else if d = 23 then wrap64 (a + sg b 8) else b
theorem below_one (w : World) (o : Obj) : Below w.heap.size w (w.alloc o) := (Below.refl _ _).alloc (Nat.le_refl _) _
/-! ### blocks: a step, registers and a result, of the call's own -/
def stepC (d t u n : Int) : Array Value := #[.int .i64 d, .int .i64 t, .int .i64 u, .int .i64 n]
section
end

def sumN (d a b c : Int) : Int := if d = 4 then lo (addS a b c 8) 8 else if d = 5 then lo (subS a b (1 - c) 8) 8 else lo (subS a b 0 8) 8
def sumC (d a b c : Int) : Int := if d = 4 then addS a b c 8 / 256 else if d = 5 then 1 - subC a b (1 - c) 8 else 1 - subC a b 0 8
theorem subC_bd (a b c : Int) (k : Nat) : subC a b c k = 0 ∨ subC a b c k = 1 := by unfold subC; split <;> simp
theorem sumC_bd (d a b c : Int) : sumC d a b c = 0 ∨ sumC d a b c = 1 := by
  unfold sumC
  split
  · unfold addS
    have := lo8_bd a; have := lo8_bd b
    omega
  · split
    · rcases subC_bd a b (1 - c) 8 with h | h <;> rw [h] <;> simp
    · rcases subC_bd a b 0 8 with h | h <;> rw [h] <;> simp
/-- The registers behind an addition, a subtraction or a comparison. -/
def sumF (d : Int) (t u : Nat) (f : Nat → Int) : Nat → Int :=
  let g := setR f 4 (flg (car (f 4) (sumC d (f t) (f u) (f 4 % 2))) (sumN d (f t) (f u) (f 4 % 2)))
  if d = 6 then g else setR g t (sumN d (f t) (f u) (f 4 % 2))

end Go.Proofs.Ytmjddoboogccoaa
