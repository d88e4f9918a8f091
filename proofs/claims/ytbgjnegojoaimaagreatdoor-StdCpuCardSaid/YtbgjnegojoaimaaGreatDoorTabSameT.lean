/- The contract of package table's Same. -/
import Derived.Test.YtbgjnegojoaimaaGreatDoorTabSame2
namespace Go.Proofs.YtbgjnegojoaimaaGreatDoor
open Go.RowKit

theorem cp_eq (a b : Cp) : decide (a = b) = (decide (a.name = b.name) && decide (a.instrs = b.instrs) && decide (a.res = b.res) && decide (a.irq = b.irq) && decide (a.nmi = b.nmi)) := by
  obtain ⟨n, l, r, i, m⟩ := a
  obtain ⟨n', l', r', i', m'⟩ := b
  simp [Bool.and_assoc]

theorem cp_two {w : World} {t : TypeId} {x0 x1 x2 x3 x4 y0 y1 y2 y3 y4 : Value} {w' : World}
    (hb : Below ((w.alloc (.cells #[x0, x1, x2, x3, x4] t)).alloc (.cells #[y0, y1, y2, y3, y4] t)).heap.size ((w.alloc (.cells #[x0, x1, x2, x3, x4] t)).alloc (.cells #[y0, y1, y2, y3, y4] t)) w') :
    w'.cell? ⟨w.heap.size, 2, none⟩ = some x2 ∧ w'.cell? ⟨w.heap.size, 3, none⟩ = some x3 ∧ w'.cell? ⟨w.heap.size, 4, none⟩ = some x4 ∧
    w'.cell? ⟨w.heap.size + 1, 2, none⟩ = some y2 ∧ w'.cell? ⟨w.heap.size + 1, 3, none⟩ = some y3 ∧ w'.cell? ⟨w.heap.size + 1, 4, none⟩ = some y4 := by
  have kA := box_alloc (p := .cells #[y0, y1, y2, y3, y4] t) (heap_alloc_new w (.cells #[x0, x1, x2, x3, x4] t))
  have kB := heap_alloc_new (w.alloc (.cells #[x0, x1, x2, x3, x4] t)) (.cells #[y0, y1, y2, y3, y4] t)
  rw [World.size_alloc] at kB
  have k := keep_below kA hb (Nat.le_refl _)
  have k' := keep_below kB hb (Nat.le_refl _)
  exact ⟨cell_of_row w' _ 2 _ t (0, 0) k, cell_of_row w' _ 3 _ t (0, 0) k, cell_of_row w' _ 4 _ t (0, 0) k, cell_of_row w' _ 2 _ t (0, 0) k', cell_of_row w' _ 3 _ t (0, 0) k', cell_of_row w' _ 4 _ t (0, 0) k'⟩

end Go.Proofs.YtbgjnegojoaimaaGreatDoor
