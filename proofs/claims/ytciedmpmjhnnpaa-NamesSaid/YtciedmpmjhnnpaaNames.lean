/- The walk of the statement Names: it returns true. -/
import Derived.Test.YtciedmpmjhnnpaaBitWalksB
namespace Go.Proofs.Ytciedmpmjhnnpaa
open Go.RowKit

def upTo (n : Nat) : List Value := (List.range n).map fun k => Value.int .i64 ((k : Nat) : Int)
theorem upTo_get (n k : Nat) (h : k < n) : (upTo n)[k]? = some (.int .i64 k) := by
  unfold upTo; rw [List.getElem?_map, List.getElem?_range h]; rfl

theorem names_walk (w : World) :
    Calls Try.prog 3 #[] w fun e w' => e = .returned (.bool true) ∧ Grown w w' := by
  have hcell : ∀ k : Nat, k < 22 → (w.alloc (.cells (upTo 22).toArray 22)).cell? ⟨w.heap.size, k, none⟩ = some (.int .i64 k) := fun k hk => by
    rw [World.cell?_alloc_at _ _ _ _ rfl]
    show (upTo 22).toArray[k]? = _
    rw [List.getElem?_toArray]; exact upTo_get 22 k hk
  have hg : Grown w (w.alloc (.cells (upTo 22).toArray 22)) := (Grown.refl w).alloc _ _
  obtain ⟨W, hW⟩ : ∃ W : World, W = w.alloc (.cells (upTo 22).toArray 22) := ⟨_, rfl⟩
  rw [← hW] at hcell hg
  have HW := Lib.hid hW
  clear hW
  go_enter Try.func3, Try.ntmps3
  go_wp2
  rw [show w.alloc (Obj.cells #[Value.int .i64 0, Value.int .i64 1, Value.int .i64 2, Value.int .i64 3, Value.int .i64 4, Value.int .i64 5, Value.int .i64 6, Value.int .i64 7, Value.int .i64 8, Value.int .i64 9, Value.int .i64 10, Value.int .i64 11, Value.int .i64 12, Value.int .i64 13, Value.int .i64 14, Value.int .i64 15, Value.int .i64 16, Value.int .i64 17, Value.int .i64 18, Value.int .i64 19, Value.int .i64 20, Value.int .i64 21] 22) = W from HW.out.symm]
  go_loop [7] (fun i => ∃ k : Nat, k ≤ 22 ∧ i = .int .i64 k) (fun i => 22 - (intOf i).toNat)
  case atStart => exact ⟨0, Nat.zero_le _, rfl⟩
  case round =>
    obtain ⟨k, hk, rfl⟩ := hrel
    by_cases hlt : k < 22
    · have hc := hcell k hlt
      clear hcell
      go_wp2
      go_round
      case rel => exact ⟨k + 1, by omega, by go_num⟩
      case measure => simp [intOf]; omega
    · have e : k = 22 := by omega
      subst e
      clear hcell
      go_wp2_with (go_at_call 12; refine (bits_law _).mono ?_; rintro e w1 ⟨rfl, hq⟩)
      go_ret
      exact ⟨rfl, ⟨World.keptBut_trans hg.1 hq.grown.1, fun x => (hq.grown.2.1 x).trans (hg.2.1 x), Nat.le_trans hg.2.2 hq.grown.2.2⟩⟩
end Go.Proofs.Ytciedmpmjhnnpaa
