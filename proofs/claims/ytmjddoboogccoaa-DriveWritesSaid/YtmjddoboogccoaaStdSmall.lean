/- The contracts of the small makers of package std. -/
import Derived.Test.YtmjddoboogccoaaChecked
import Derived.Test.YtmjddoboogccoaaStdArr
import Derived.Below
import Derived.BigQuiet
import Derived.ChangeMaps5
import Derived.Deep.DeepAppendWide
import Derived.Deep.DeepCutAuto
import Derived.Deep.Draws
import Derived.Deep.MidRow
import Derived.Deep.OwnRows
import Derived.Deep.QuietTactic
import Derived.Deep.RegionWith
import Derived.Deep.Slices
import Derived.Deep.WholeRow
import Derived.Laws.OwnMore
import Derived.Lib.Hide
import Derived.Lib.SmallJoins
import Derived.OpenShut
import Derived.OwnWalk
import Derived.RowKit3
import Derived.WalkKit
namespace Go.Proofs.Ytmjddoboogccoaa
set_option maxRecDepth 100000
open Go.RowKit

theorem below_laid1 (w : World) (o : Obj) : Below w.heap.size w (w.alloc o) := (Below.refl _ _).alloc (Nat.le_refl _) o
theorem below_step {w a b : World} (h : Below w.heap.size w a) (g : Below a.heap.size a b) : Below w.heap.size w b := h.trans (g.mono h.size)
theorem below_al {w a : World} (h : Below w.heap.size w a) (o : Obj) : Below w.heap.size w (a.alloc o) := h.alloc h.size o
def stRow (s : St) : List Value := [.int .i64 s.d, .int .i64 s.t, .int .i64 s.f, .int .i64 s.n]
theorem litR_steps : ∀ l : List St, litR 4 stepQ (l.map stRow) l
  | [] => trivial
  | _ :: l => ⟨rfl, rfl, litR_steps l⟩
theorem rows_len (l : List St) : l.length * 4 = ((l.map stRow).flatten).length := by
  induction l with
  | nil => rfl
  | cons s l ih => simp only [List.map_cons, List.flatten_cons, List.length_append, List.length_cons, ← ih, stRow, List.length_nil]; omega
def cyRow (p : Cy × Value) : List Value := [.int .i64 p.1.bus, .int .i64 p.1.place, .int .i64 p.1.reg, p.2]
theorem crows_len (l : List (Cy × Value)) : (l.map Prod.fst).length * 4 = ((l.map cyRow).flatten).length := by
  induction l with
  | nil => rfl
  | cons s l ih => simp only [List.map_cons, List.flatten_cons, List.length_append, List.length_cons, ← ih, cyRow, List.length_nil]; omega
section
end
end Go.Proofs.Ytmjddoboogccoaa
