/- The laws' own comparison of two states, the cells of a chip's description. -/
import Derived.Test.YtmjddoboogccoaaChecked
import Derived.Test.YtmjddoboogccoaaDevEq
import Derived.Below
import Derived.BigQuiet
import Derived.ChangeMaps5
import Derived.Deep.DeepCutAuto
import Derived.Deep.Draws
import Derived.Deep.MidRow
import Derived.Deep.OwnRows
import Derived.Deep.QuietTactic
import Derived.Deep.RegionHeld3
import Derived.Deep.RegionWith
import Derived.Deep.Slices
import Derived.Deep.WholeRow
import Derived.Lib.Hide
import Derived.Lib.SmallJoins
import Derived.OpenShut
import Derived.OrdersHeld
import Derived.OwnWalk
import Derived.RowKit3
import Derived.StillTactics
import Derived.StillTail
import Derived.StillTailTactics
import Derived.WalkKit
namespace Go.Proofs.Ytmjddoboogccoaa
open Go.RowKit
set_option maxRecDepth 100000

theorem agCh : isAg Try.prog 27 5 := ⟨⟨_, Try.underlying27, rfl⟩, by kernel_rfl⟩
theorem ccells {w : World} {g : Nat} {t : TypeId} {a b c d e : Value} (h : rowB w g t #[a, b, c, d, e]) : w.cell? ⟨g, 0, none⟩ = some a ∧ w.cell? ⟨g, 1, none⟩ = some b ∧ w.cell? ⟨g, 2, none⟩ = some c ∧ w.cell? ⟨g, 3, none⟩ = some d ∧ w.cell? ⟨g, 4, none⟩ = some e :=
  ⟨rowB_cell h 0 rfl, rowB_cell h 1 rfl, rowB_cell h 2 rfl, rowB_cell h 3 rfl, rowB_cell h 4 rfl⟩
theorem isByt_none (w : World) : isByt w (.slice none 0 0) [] := .inl ⟨none, 0, rfl, rfl⟩
theorem sameTwo_any (v u : Value) (l : List Int) (a b : Nat) (w : World) (hl : l.length ≤ 9223372036854775807) (h : devO a w v l) (g : devO b w u l) :
    Calls Try.prog 10 #[v, u] w fun e w' => e = .returned (.bool true) ∧ Below w.heap.size w w' := by
  obtain ⟨x, rfl, _, hx⟩ := h
  obtain ⟨y, rfl, _, hy⟩ := g
  have := sameDv_any _ _ _ _ l l [] [] w (numB_arg hx hl) (isByt_none w) (numB_arg hy hl) (isByt_none w)
  rw [decide_eq_true (rfl : l = l), decide_eq_true (rfl : ([] : List Int) = [])] at this
  exact this
end Go.Proofs.Ytmjddoboogccoaa
