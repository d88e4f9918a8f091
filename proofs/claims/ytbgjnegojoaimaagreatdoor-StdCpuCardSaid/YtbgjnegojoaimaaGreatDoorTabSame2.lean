/- Instructions that are compared. -/
import Derived.Test.YtbgjnegojoaimaaGreatDoorTabSame
namespace Go.Proofs.YtbgjnegojoaimaaGreatDoor
open Go.RowKit

deriving instance DecidableEq for Cp

theorem bytes_ne {n m : ByteArray} (h : n ≠ m) : (n.toList == m.toList) = false := by
  rw [ByteArray.toList_eq, ByteArray.toList_eq]
  simp only [beq_eq_false_iff_ne, ne_eq]
  intro e
  obtain ⟨⟨x⟩⟩ := n
  obtain ⟨⟨y⟩⟩ := m
  exact h (by simpa using e)

end Go.Proofs.YtbgjnegojoaimaaGreatDoor
