/- The reference's CpuErr at a processor that came in. -/
import Derived.Test.YtbgjnegojoaimaaGreatDoorTabCpu
import Derived.Test.YtbgjnegojoaimaaGreatDoorTabArg
namespace Go.Proofs.YtbgjnegojoaimaaGreatDoor
open Go.RowKit Go.ChangeShapes Go.WideShapes

theorem below_next {w0 wp wn : World} (h : Below w0.heap.size w0 wp) (hb : Below wp.heap.size wp wn) : Below w0.heap.size w0 wn := h.trans (hb.mono h.size)
theorem below_putT {w0 wp : World} (h : Below w0.heap.size w0 wp) (o : Obj) : Below w0.heap.size w0 (wp.alloc o) := h.alloc h.size o
/-- A box of five cells that was laid last, and all that is laid behind it. -/
theorem box_keep {w w0 w' : World} {t : TypeId} {x0 x1 x2 x3 x4 : Value} (e : w0 = w.alloc (.cells #[x0, x1, x2, x3, x4] t)) (hb : Below w0.heap.size w0 w') :
    w'.cell? ⟨w.heap.size, 0, none⟩ = some x0 ∧ w'.cell? ⟨w.heap.size, 1, none⟩ = some x1 ∧ w'.cell? ⟨w.heap.size, 2, none⟩ = some x2 ∧ w'.cell? ⟨w.heap.size, 3, none⟩ = some x3 ∧ w'.cell? ⟨w.heap.size, 4, none⟩ = some x4 ∧ Below w0.heap.size w0 w' := by
  subst e
  have h := keep_below (heap_alloc_new w (.cells #[x0, x1, x2, x3, x4] t)) hb (Nat.le_refl _)
  exact ⟨cell_of_row w' _ 0 _ t (0, 0) h, cell_of_row w' _ 1 _ t (0, 0) h, cell_of_row w' _ 2 _ t (0, 0) h, cell_of_row w' _ 3 _ t (0, 0) h, cell_of_row w' _ 4 _ t (0, 0) h, hb⟩

theorem keep_alloc_drew {w0 w1 : World} {o : Obj} (hb : Below (w0.alloc o).drew.heap.size (w0.alloc o).drew w1) : w1.heap[w0.heap.size]? = some o :=
  keep_below (w := (w0.alloc o).drew) (heap_alloc_new w0 o) hb (Nat.le_refl _)
theorem pick6 {a b c d e : Prop} {w0 wp : World} (h : a ∧ b ∧ c ∧ d ∧ e ∧ Below w0.heap.size w0 wp) : Below w0.heap.size w0 wp := h.2.2.2.2.2
end Go.Proofs.YtbgjnegojoaimaaGreatDoor
