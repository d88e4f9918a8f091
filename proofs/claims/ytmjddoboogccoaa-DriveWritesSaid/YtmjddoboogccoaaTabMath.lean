/- Descriptions of processors as plain data, and what is checked of them. No function is named here. -/
import Derived.Test.YtmjddoboogccoaaShape
import Derived.Below
import Derived.BigQuiet
import Derived.ChangeMaps5
import Derived.Deep.Draws
import Derived.Deep.OwnRows
import Derived.Deep.QuietTactic
import Derived.Deep.Slices
import Derived.Lib.Hide
import Derived.Lib.SmallJoins
import Derived.OpenShut
import Derived.OwnWalk
import Derived.RowKit3
import Derived.WalkKit
namespace Go.Proofs.Ytmjddoboogccoaa
open Go.RowKit

structure St where
  d : Int
  t : Int
  f : Int
  n : Int
  deriving Inhabited
structure Cy where
  bus : Int
  place : Int
  reg : Int
  steps : List St
  deriving Inhabited
structure In where
  op : Int
  name : ByteArray
  mode : Int
  cycles : List Cy
  deriving Inhabited
structure Cp where
  name : ByteArray
  instrs : List In
  res : List Cy
  irq : List Cy
  nmi : List Cy
  deriving Inhabited

def nar (r : Int) : Bool := decide (0 ≤ r) && decide (r ≤ 6)
def wid (r : Int) : Bool := r == 7 || r == 8
def stepOk (d t f n : Int) : Bool :=
  if d = 0 then t == 0 && (f == 0 && n == 0)
  else if d = 1 then n == 0 && (nar t && nar f || wid t && wid f)
  else if d = 2 then f == 0 && decide (0 ≤ n) && (nar t && decide (n < 256) || wid t && decide (n < 65536))
  else if d = 3 ∨ d = 12 ∨ d = 13 ∨ d = 14 ∨ d = 15 then f == 0 && n == 0 && nar t
  else if d = 10 ∨ d = 11 then f == 0 && n == 0 && (nar t || wid t)
  else if d = 4 ∨ d = 5 ∨ d = 6 ∨ d = 7 ∨ d = 8 ∨ d = 9 then n == 0 && nar t && nar f
  else if d = 16 ∨ d = 17 then t == 0 && f == 0 && decide (0 ≤ n) && decide (n < 256)
  else if d = 18 ∨ d = 19 ∨ d = 22 ∨ d = 23 then n == 0 && wid t && nar f
  else if d = 20 ∨ d = 21 then n == 0 && nar t && wid f
  else t == 0 && (f == 0 || f == 1) && decide (0 ≤ n) && decide (n < 256)
def stepE (s : St) : Int := if s.d < 0 ∨ 24 < s.d then 8 else if stepOk s.d s.t s.f s.n then 0 else 1
def stepsE : List St → Int
  | [] => 0
  | s :: l => if stepE s = 0 then stepsE l else stepE s
def cycleE (c : Cy) : Int :=
  if c.bus ≠ 0 ∧ c.bus ≠ 1 ∧ c.bus ≠ 2 then 8
  else if c.bus = 0 ∧ (c.place ≠ 0 ∨ c.reg ≠ 0) then 3
  else if c.place < 0 ∨ 11 < c.place ∨ nar c.reg = false then 1
  else if 6 < c.steps.length then 2
  else stepsE c.steps
def cyclesF : List Cy → Int
  | [] => 0
  | c :: l => if cycleE c = 0 then cyclesF l else cycleE c
def cyclesE (l : List Cy) : Int := if 8 < l.length then 2 else cyclesF l
def operand (m : Int) : Int := if m < 0 ∨ 8 < m then -1 else if m = 0 then 0 else if m = 4 ∨ m = 5 ∨ m = 6 then 2 else 1

/-- What the cells of an element are. -/
def stepR (_ : World) (cs : List Value) (s : St) : Prop := cs = [.int .i64 s.d, .int .i64 s.t, .int .i64 s.f, .int .i64 s.n]
def cycleR (w : World) (cs : List Value) (c : Cy) : Prop := ∃ v, cs = [.int .i64 c.bus, .int .i64 c.place, .int .i64 c.reg, v] ∧ isArr 4 stepR w v c.steps
def instrR (w : World) (cs : List Value) (x : In) : Prop := ∃ v, cs = [.int .i64 x.op, .string x.name, .int .i64 x.mode, v] ∧ isArr 4 cycleR w v x.cycles
def cpuR (w : World) (cs : List Value) (c : Cp) : Prop :=
  ∃ v0 v1 v2 v3, cs = [.string c.name, v0, v1, v2, v3] ∧ isArr 4 instrR w v0 c.instrs ∧ isArr 4 cycleR w v1 c.res ∧ isArr 4 cycleR w v2 c.irq ∧ isArr 4 cycleR w v3 c.nmi
theorem step_keeps : keeps stepR := fun _ _ _ _ _ _ _ h => h
theorem cycle_keeps : keeps cycleR := fun _ _ _ hb hB _ _ ⟨v, h, g⟩ => ⟨v, h, isArr_below step_keeps g hb hB⟩
theorem instr_keeps : keeps instrR := fun _ _ _ hb hB _ _ ⟨v, h, g⟩ => ⟨v, h, isArr_below cycle_keeps g hb hB⟩
theorem cpu_keeps : keeps cpuR := fun _ _ _ hb hB _ _ ⟨v0, v1, v2, v3, h, g0, g1, g2, g3⟩ =>
  ⟨v0, v1, v2, v3, h, isArr_below instr_keeps g0 hb hB, isArr_below cycle_keeps g1 hb hB, isArr_below cycle_keeps g2 hb hB, isArr_below cycle_keeps g3 hb hB⟩

/-- One element's cells, one by one. -/
theorem four_cells {w : World} {b o : Nat} {x0 x1 x2 x3 : Value} (h : ∀ j, j < 4 → w.cell? ⟨b, o + j, none⟩ = ([x0, x1, x2, x3] : List Value)[j]?) :
    w.cell? ⟨b, o, none⟩ = some x0 ∧ w.cell? ⟨b, o + 1, none⟩ = some x1 ∧ w.cell? ⟨b, o + 2, none⟩ = some x2 ∧ w.cell? ⟨b, o + 3, none⟩ = some x3 :=
  ⟨h 0 (by decide), h 1 (by decide), h 2 (by decide), h 3 (by decide)⟩
theorem drop_at {α : Type} {l : List α} {k : Nat} (h : k < l.length) : ∃ x, l[k]? = some x ∧ l.drop k = x :: l.drop (k + 1) :=
  ⟨l[k], List.getElem?_eq_getElem h, List.drop_eq_getElem_cons h⟩
theorem stepsE_cons (s : St) (l : List St) : stepsE (s :: l) = if stepE s = 0 then stepsE l else stepE s := rfl
end Go.Proofs.Ytmjddoboogccoaa
