/- What a processor does in a cycle, as plain data; its state as a row of cells. No function is named here. -/
import Derived.Test.YthhihmggaddlmaaRegs
import Derived.Test.YthhihmggaddlmaaRow
import Derived.Test.YthhihmggaddlmaaTabMath
import Derived.Below
import Derived.BigQuiet
import Derived.ChangeMaps5
import Derived.Deep.Draws
import Derived.Deep.MidRow
import Derived.Deep.OwnRows
import Derived.Deep.QuietTactic
import Derived.Deep.Slices
import Derived.Deep.WholeRow
import Derived.Lib.Hide
import Derived.Lib.SmallJoins
import Derived.OpenShut
import Derived.OwnWalk
import Derived.RowKit3
import Derived.WalkKit
namespace Go.Proofs.Ythhihmggaddlmaa
open Go.RowKit
set_option maxRecDepth 100000

/-- The cells of a processor's state. -/
def core12 (f : Nat → Int) (op pl : Int) (n : Bool) : Array Value := #[.int .i64 (f 0), .int .i64 (f 1), .int .i64 (f 2), .int .i64 (f 3), .int .i64 (f 4), .int .i64 (f 5), .int .i64 (f 6), .int .i64 (f 7), .int .i64 (f 8), .int .i64 op, .int .i64 pl, .bool n]
/-- .. of what is done on the bus. -/
def bus3 (d a n : Int) : Array Value := #[.int .i64 d, .int .i64 a, .int .i64 n]
/-- .. of a cycle. -/
def cyc4 (b p r : Int) (v : Value) : Array Value := #[.int .i64 b, .int .i64 p, .int .i64 r, v]
/-- .. of a processor. -/
def cpu5 (n : ByteArray) (v0 v1 v2 v3 : Value) : Array Value := #[.string n, v0, v1, v2, v3]
theorem core12_size (f : Nat → Int) (op pl : Int) (n : Bool) : (core12 f op pl n).size = 12 := rfl
theorem core12_one (f : Nat → Int) (op pl : Int) (n : Bool) : (core12 f op pl n).all (·.oneCell') = true := by simp [core12, Value.oneCell']
theorem bus3_one (d a n : Int) : (bus3 d a n).all (·.oneCell') = true := by simp [bus3, Value.oneCell']
theorem cyc4_one (b p r : Int) (a : Option Addr) (l c : Nat) : (cyc4 b p r (.slice a l c)).all (·.oneCell') = true := by simp [cyc4, Value.oneCell']
theorem zero12 : (#[.int .i64 0, .int .i64 0, .int .i64 0, .int .i64 0, .int .i64 0, .int .i64 0, .int .i64 0, .int .i64 0, .int .i64 0, .int .i64 0, .int .i64 0, .bool false] : Array Value) = core12 (fun _ => 0) 0 0 false := rfl
theorem zero3 : (#[.int .i64 0, .int .i64 0, .int .i64 0] : Array Value) = bus3 0 0 0 := rfl
theorem core12_at (f : Nat → Int) (op pl : Int) (n : Bool) (k : Nat) (h : k < 9) : (core12 f op pl n)[k]? = some (.int .i64 (f k)) := by
  rcases nine h with rfl | rfl | rfl | rfl | rfl | rfl | rfl | rfl | rfl <;> rfl
theorem core12_head (f : Nat → Int) (op pl : Int) (n : Bool) : ∀ (j : Nat) (v : Value), (arr9 f)[j]? = some v → (core12 f op pl n)[j]? = some v := fun j v hv => by
  have hj : j < 9 := (Array.getElem?_eq_some_iff.1 hv).1
  rw [core12_at f op pl n j hj, ← hv, arr9_get f j hj]
theorem core12_puts (f F : Nat → Int) (op pl : Int) (n : Bool) : putsA (core12 f op pl n) 0 (arr9 F).toList = core12 F op pl n := by simp [putsA, core12, arr9]
theorem core12_reg (f : Nat → Int) (op pl : Int) (n : Bool) (k : Nat) (x : Int) (h : k < 9) : (core12 f op pl n).setIfInBounds k (.int .i64 x) = core12 (setR f k x) op pl n := by
  rcases nine h with rfl | rfl | rfl | rfl | rfl | rfl | rfl | rfl | rfl <;> simp [core12, setR]
theorem core12_op (f : Nat → Int) (op pl x : Int) (n : Bool) : (core12 f op pl n).setIfInBounds 9 (.int .i64 x) = core12 f x pl n := rfl
theorem core12_pl (f : Nat → Int) (op pl x : Int) (n : Bool) : (core12 f op pl n).setIfInBounds 10 (.int .i64 x) = core12 f op x n := rfl
theorem core12_nm (f : Nat → Int) (op pl : Int) (n x : Bool) : (core12 f op pl n).setIfInBounds 11 (.bool x) = core12 f op pl x := rfl

abbrev coreB (w : World) (g : Nat) (t : TypeId) (f : Nat → Int) (op pl : Int) (n : Bool) : Prop := rowB w g t (core12 f op pl n)
section
variable {w : World} {g : Nat} {t : TypeId} {f : Nat → Int} {op pl : Int} {n : Bool}
theorem coreB_op (h : coreB w g t f op pl n) : w.cell? ⟨g, 9, none⟩ = some (.int .i64 op) := rowB_cell h 9 rfl
theorem coreB_pl (h : coreB w g t f op pl n) : w.cell? ⟨g, 10, none⟩ = some (.int .i64 pl) := rowB_cell h 10 rfl
theorem coreB_nm (h : coreB w g t f op pl n) : w.cell? ⟨g, 11, none⟩ = some (.bool n) := rowB_cell h 11 rfl
theorem coreB_reg (h : coreB w g t f op pl n) (k : Nat) (hk : k < 9) : w.cell? ⟨g, k, none⟩ = some (.int .i64 (f k)) := rowB_cell h k (core12_at f op pl n k hk)
theorem coreB_setOp (h : coreB w g t f op pl n) (x : Int) : coreB (w.setCell ⟨g, 9, none⟩ (.int .i64 x)) g t f x pl n := rowB_eq (rowB_set h 9 _) (core12_op f op pl x n)
theorem coreB_setPl (h : coreB w g t f op pl n) (x : Int) : coreB (w.setCell ⟨g, 10, none⟩ (.int .i64 x)) g t f op x n := rowB_eq (rowB_set h 10 _) (core12_pl f op pl x n)
theorem coreB_setNm (h : coreB w g t f op pl n) (x : Bool) : coreB (w.setCell ⟨g, 11, none⟩ (.bool x)) g t f op pl x := rowB_eq (rowB_set h 11 _) (core12_nm f op pl n x)
theorem coreB_setReg (h : coreB w g t f op pl n) (k : Nat) (x : Int) (hk : k < 9) : coreB (w.setCell ⟨g, k, none⟩ (.int .i64 x)) g t (setR f k x) op pl n := rowB_eq (rowB_set h k _) (core12_reg f op pl n k x hk)
theorem coreB_regs (h : coreB w g t f op pl n) (F : Nat → Int) : coreB (w.setCells g 0 (arr9 F).toList) g t F op pl n := rowB_eq (rowB_puts h 0 _) (core12_puts f F op pl n)
end

/-! ## What is done -/
/-- The cycles of an Op. -/
def opIn (op : Int) (l : List In) : Option In := l.find? fun x => x.op == op
def cycIn (op : Int) (l : List In) : List Cy := match opIn op l with | some x => x.cycles | none => []
def cyclesOf (c : Cp) (op : Int) : List Cy :=
  if op = 256 then c.irq else if op = 257 then c.nmi else if op = 258 then c.res
  else if lo op 8 = op then cycIn op c.instrs else []
theorem opIn_at {op : Int} {l : List In} {k : Nat} {x : In} (h : l[k]? = some x) (hx : x.op = op) (hj : ∀ (j : Nat) (y : In), j < k → l[j]? = some y → y.op ≠ op) : opIn op l = some x := by
  induction l generalizing k with
  | nil => simp at h
  | cons y l ih =>
    unfold opIn
    cases k with
    | zero =>
      simp only [List.getElem?_cons_zero, Option.some.injEq] at h
      subst h
      rw [List.find?_cons_of_pos (by simpa using hx)]
    | succ k =>
      have h0 := hj 0 y (by omega) rfl
      rw [List.find?_cons_of_neg (by simpa using h0)]
      exact ih (by simpa using h) (fun j z hz hjz => hj (j + 1) z (by omega) (by simpa using hjz))
theorem opIn_none {op : Int} {l : List In} (hj : ∀ (j : Nat) (y : In), l[j]? = some y → y.op ≠ op) : opIn op l = none := by
  unfold opIn
  rw [List.find?_eq_none]
  intro x hx
  obtain ⟨i, hi⟩ := List.getElem?_of_mem hx
  simpa using hj i x hi
theorem opIn_op {op : Int} {l : List In} {x : In} (h : opIn op l = some x) : x.op = op := by
  have := List.find?_some h
  simpa using this
/-- The Op, its place, and whether an interrupt waits, when one may begin. -/
def intr (l2 l3 : Nat) (f : Nat → Int) (op pl : Int) (n q : Bool) : Int × Int × Bool :=
  if n = true ∧ 0 < l3 then (257, 0, false) else if q = true ∧ f 4 / 4 % 2 = 0 ∧ 0 < l2 then (256, 0, n) else (op, pl, n)
def meets (c : Cp) (f : Nat → Int) (op pl : Int) (n q : Bool) : Int × Int × Bool :=
  if op = -1 then intr c.irq.length c.nmi.length f op pl n q else (op, pl, n)
/-- The state's cells behind it. -/
def coreM (f : Nat → Int) (m : Int × Int × Bool) : Array Value := core12 f m.1 m.2.1 m.2.2
/-- The cycle that is done. -/
def curB (l : List Cy) (pl : Int) : Bool := decide (0 ≤ pl) && decide (pl < (l.length : Int))
def cycAt (l : List Cy) (pl : Int) : Cy := if curB l pl = true then l.getD pl.toNat ⟨0, 0, 0, []⟩ else ⟨0, 0, 0, []⟩
def doneC (c : Cp) (op pl : Int) : Cy := if op = -1 then ⟨1, 0, 0, []⟩ else cycAt (cyclesOf c op) pl
/-- The address of a place, and the registers then. -/
def fixedAt (p : Int) : Int := if p = 6 then 65534 else if p = 7 then 65535 else if p = 8 then 65530 else if p = 9 then 65531 else if p = 10 then 65532 else if p = 11 then 65533 else 0
def placeA (p : Int) (f : Nat → Int) : Int :=
  if p = 0 then f 7 else if p = 4 then 256 + f 3 else if p = 5 then 256 + lo (f 3 + 1) 8 else if p = 1 then f 7 else if p = 2 then f 8 else if p = 3 then lo (f 8 + 1) 16 else fixedAt p
def placeR (p : Int) (f : Nat → Int) : Nat → Int :=
  if p = 0 then setR f 7 (lo (f 7 + 1) 16) else if p = 4 then setR f 3 (lo (f 3 - 1) 8) else if p = 5 then setR f 3 (lo (f 3 + 1) 8) else f
def isReg (r : Int) : Bool := decide (0 ≤ r) && decide (r < 9)
def dataA (x : Cy) (f : Nat → Int) : Int := if x.bus = 2 ∧ isReg x.reg = true then lo (f x.reg.toNat) 8 else 0
/-- What Ask answers: the state's cells, and the bus. -/
def askCore (c : Cp) (f : Nat → Int) (op pl : Int) (n q : Bool) : Array Value :=
  let m := meets c f op pl n q
  let x := doneC c m.1 m.2.1
  if x.bus = 0 then core12 f m.1 m.2.1 m.2.2 else core12 (placeR x.place f) m.1 m.2.1 m.2.2
def askBus (c : Cp) (f : Nat → Int) (op pl : Int) (n q : Bool) : Array Value :=
  let m := meets c f op pl n q
  let x := doneC c m.1 m.2.1
  if x.bus = 0 then bus3 0 0 0 else bus3 x.bus (placeA x.place f) (dataA x f)
/-- The Op of a processor that has read the byte of an instruction. -/
def begunV (c : Cp) (d : Int) : Int := if (opIn d c.instrs).isSome = false then 259 else if (cycIn d c.instrs).length = 0 then -1 else d
end Go.Proofs.Ythhihmggaddlmaa
