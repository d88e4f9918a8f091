/- The contract of the reference's CpuErr: what is wrong with a processor. -/
import Derived.Test.YtbgjnegojoaimaaGreatDoorTabKeys
import Derived.Test.YtbgjnegojoaimaaGreatDoorTabIns
import Derived.Test.YtbgjnegojoaimaaGreatDoorTabNames
import Derived.Test.YtbgjnegojoaimaaGreatDoorTabCycles
import Derived.Test.YtbgjnegojoaimaaGreatDoorBitMath
import Derived.Carry
import Derived.StillTailTactics
namespace Go.Proofs.YtbgjnegojoaimaaGreatDoor
open Go.RowKit Go.Maps

def reads (l : List Cy) : Int := (l.countP fun c => c.bus == 1 && c.place == 0 : Nat)
theorem reads_next (l : List Cy) (m : Nat) (c : Cy) (h : l[m]? = some c) : reads (l.take (m + 1)) = reads (l.take m) + if (c.bus == 1 && c.place == 0) = true then 1 else 0 := by
  unfold reads
  rw [List.take_add_one, h, List.countP_append]
  simp [List.countP_cons]
  split <;> rfl
theorem reads_bd (l : List Cy) (m : Nat) : 0 ≤ reads (l.take m) ∧ reads (l.take m) ≤ m := by
  unfold reads
  have h1 := List.countP_le_length (p := fun c : Cy => c.bus == 1 && c.place == 0) (l := l.take m)
  have h2 : (l.take m).length ≤ m := by rw [List.length_take]; omega
  omega
def lastOp (done : List In) : Int := match done.getLast? with | some x => x.op | none => -1
theorem lastOp_snoc (done : List In) (x : In) : lastOp (done ++ [x]) = x.op := by unfold lastOp; rw [List.getLast?_concat]
def instrE (done : List In) (x : In) : Int :=
  if x.op < 0 ∨ 255 < x.op then 1
  else if done ≠ [] ∧ x.op ≤ lastOp done then 9
  else if nameB x.name = false then 15
  else if operand x.mode < 0 then 8
  else if done.any (sameKey x) = true then 5
  else if cyclesE x.cycles ≠ 0 then cyclesE x.cycles
  else if reads x.cycles ≠ operand x.mode then 3
  else 0
def instrsF : List In → List In → Int
  | _, [] => 0
  | done, x :: l => if instrE done x = 0 then instrsF (done ++ [x]) l else instrE done x
def cpuE (c : Cp) : Int :=
  if nameB c.name = false then 15 else if 256 < c.instrs.length then 2
  else if instrsF [] c.instrs ≠ 0 then instrsF [] c.instrs
  else if cyclesE c.res ≠ 0 then cyclesE c.res
  else if cyclesE c.irq ≠ 0 then cyclesE c.irq else cyclesE c.nmi

theorem grown_of {w w' : World} (h : Below w.heap.size w w') : w.grownBy w' none := ⟨h.os, h.tape, h.output, h.size, fun k hk _ => h.block k hk⟩
theorem box_alloc {w : World} {g : Nat} {o p : Obj} (h : w.heap[g]? = some o) : (w.alloc p).heap[g]? = some o := by
  have hlt := (Array.getElem?_eq_some_iff.1 h).1
  rw [← h]
  show (w.heap.push p)[g]? = _
  rw [Array.getElem?_push_lt hlt, Array.getElem?_eq_getElem hlt]
theorem keep_below {w w' : World} {g B : Nat} {o : Obj} (h : w.heap[g]? = some o) (hb : Below B w w') (hB : w.heap.size ≤ B) : w'.heap[g]? = some o := by
  rw [hb.block g (Nat.lt_of_lt_of_le (Array.getElem?_eq_some_iff.1 h).1 hB)]; exact h
theorem keep_grown {w w' : World} {g : Nat} {r : Option Nat} {o : Obj} (h : w.heap[g]? = some o) (hg : w.grownBy w' r) (hr : some g ≠ r) : w'.heap[g]? = some o := by
  rw [hg.block g (Array.getElem?_eq_some_iff.1 h).1 hr]; exact h
theorem cells4 {w : World} {g : Nat} {t : TypeId} {x0 x1 x2 x3 : Value} (h : w.heap[g]? = some (.cells #[x0, x1, x2, x3] t (0, 0))) :
    w.cell? ⟨g, 0, none⟩ = some x0 ∧ w.cell? ⟨g, 1, none⟩ = some x1 ∧ w.cell? ⟨g, 2, none⟩ = some x2 ∧ w.cell? ⟨g, 3, none⟩ = some x3 :=
  ⟨cell_of_row w g 0 _ t (0, 0) h, cell_of_row w g 1 _ t (0, 0) h, cell_of_row w g 2 _ t (0, 0) h, cell_of_row w g 3 _ t (0, 0) h⟩
theorem cells2 {w : World} {g : Nat} {t : TypeId} {x0 x1 : Value} (h : w.heap[g]? = some (.cells #[x0, x1] t (0, 0))) :
    w.cell? ⟨g, 0, none⟩ = some x0 ∧ w.cell? ⟨g, 1, none⟩ = some x1 :=
  ⟨cell_of_row w g 0 _ t (0, 0) h, cell_of_row w g 1 _ t (0, 0) h⟩
theorem cells5 {w : World} {g : Nat} {t : TypeId} {x0 x1 x2 x3 x4 : Value} (h : w.heap[g]? = some (.cells #[x0, x1, x2, x3, x4] t (0, 0))) :
    w.cell? ⟨g, 2, none⟩ = some x2 ∧ w.cell? ⟨g, 3, none⟩ = some x3 ∧ w.cell? ⟨g, 4, none⟩ = some x4 :=
  ⟨cell_of_row w g 2 _ t (0, 0) h, cell_of_row w g 3 _ t (0, 0) h, cell_of_row w g 4 _ t (0, 0) h⟩
/-- The two blocks that a round lays, behind a call that only lays more. -/
theorem two_blocks {wo w2 : World} {t t' : TypeId} {x0 x1 x2 x3 y0 y1 : Value}
    (hb : Below ((wo.alloc (.cells #[x0, x1, x2, x3] t)).alloc (.cells #[y0, y1] t')).heap.size ((wo.alloc (.cells #[x0, x1, x2, x3] t)).alloc (.cells #[y0, y1] t')) w2) :
    w2.heap[wo.heap.size]? = some (.cells #[x0, x1, x2, x3] t (0, 0)) ∧ w2.heap[wo.heap.size + 1]? = some (.cells #[y0, y1] t' (0, 0)) := by
  have h6 := box_alloc (p := .cells #[y0, y1] t') (heap_alloc_new wo (.cells #[x0, x1, x2, x3] t))
  have h7 := heap_alloc_new (wo.alloc (.cells #[x0, x1, x2, x3] t)) (.cells #[y0, y1] t')
  have e : (wo.alloc (.cells #[x0, x1, x2, x3] t)).heap.size = wo.heap.size + 1 := by simp
  rw [e] at h7
  exact ⟨keep_below h6 hb (Nat.le_refl _), keep_below h7 hb (Nat.le_refl _)⟩
theorem take_next {α : Type} {l : List α} {k : Nat} {x : α} (h : l[k]? = some x) : l.take (k + 1) = l.take k ++ [x] := by rw [List.take_add_one, h]; rfl
theorem and255 (n : Int) : bits .and .i64 n 255 = n % 256 := by
  have := and_mask n 8 (by decide)
  simpa [lo] using this

end Go.Proofs.YtbgjnegojoaimaaGreatDoor
