/- slices.Contains of two literals of numbers. -/
import Derived.Test.YtdiajkgebicnnaaWholes
import Derived.Test.YtdiajkgebicnnaaTabArg
import Derived.Test.YtdiajkgebicnnaaBitWalks
import Derived.Shelf.Abstract
namespace Go.Proofs.Ytdiajkgebicnnaa
open Go.RowKit

attribute [local go_sem] Oper.semAt_some

def idxZ (d : Int) (l : List Int) : Int := idxL (fun x => d == x) l
set_option maxRecDepth 100000 in
theorem indexI_any (b : Nat) (xs : List Int) (d : Int) (w : World) (hn : xs.length ≤ 1000) (h : ∀ k x, xs[k]? = some x → w.cell? ⟨b, k, none⟩ = some (.int .i64 x)) :
    Calls Try.prog 85 #[.slice (some ⟨b, 0, none⟩) xs.length xs.length, .int .i64 d] w fun e w' => e = .returned (.int .i64 (idxZ d xs)) ∧ w' = w := by
  go_enter Try.func85, Try.ntmps85
  go_wp2_with fail
  go_loopw [8] (fun i wr => ∃ k : Nat, k ≤ xs.length ∧ i = .int .i64 k ∧ k ≤ xs.findIdx (fun x => d == x) ∧ wr = w) (fun i _ => xs.length - (intOf i).toNat)
  case atStart => exact ⟨0, Nat.zero_le _, rfl, Nat.zero_le _, rfl⟩
  case round =>
    obtain ⟨k, hk, rfl, hF, rfl⟩ := hrel
    by_cases hlt : k < xs.length
    · obtain ⟨x, hx⟩ : ∃ x, xs[k]? = some x := ⟨_, List.getElem?_eq_getElem hlt⟩
      have hc := h k x hx
      cases hp : (d == x)
      · have HN := Lib.hid (idxL_next hF hx hp)
        clear hF hx h
        go_wp2_with fail
        go_roundw
        case rel => exact ⟨k + 1, by omega, by go_num, HN.out, by first | rfl | trivial⟩
        case measure => simp [intOf]; omega
      · have HN := Lib.hid (idxL_here hF hx hp)
        clear hF hx h
        go_wp2_with fail
        go_ret
        exact ⟨ret_int HN.out.symm, by first | rfl | trivial⟩
    · obtain rfl : k = xs.length := by omega
      have HN := Lib.hid (idxL_none hF)
      clear hF h
      go_wp2_with fail
      go_ret
      exact ⟨ret_int HN.out.symm, by first | rfl | trivial⟩
set_option maxRecDepth 100000 in
theorem containsI_any (b : Nat) (xs : List Int) (d : Int) (w : World) (hn : xs.length ≤ 1000) (h : ∀ k x, xs[k]? = some x → w.cell? ⟨b, k, none⟩ = some (.int .i64 x)) :
    Calls Try.prog 40 #[.slice (some ⟨b, 0, none⟩) xs.length xs.length, .int .i64 d] w fun e w' => e = .returned (.bool (xs.any (fun x => d == x))) ∧ w' = w := by
  rw [← idxL_any]
  have HI := Lib.hid (indexI_any b xs d w hn h)
  clear h
  go_enter Try.func40, Try.ntmps40
  go_wp2_with (go_at_call 85; refine HI.out.mono ?_; rintro e w1 ⟨rfl, rfl⟩)
  go_ret
  exact ⟨rfl, rfl⟩

theorem lit_cells (w : World) (xs : List Int) (t : TypeId) : ∀ k x, xs[k]? = some x → (w.alloc (.cells (xs.map (.int .i64)).toArray t)).cell? ⟨w.heap.size, k, none⟩ = some (.int .i64 x) := fun k x hx => by
  have h := heap_alloc_new w (.cells (xs.map (.int .i64)).toArray t)
  exact cell_of_row _ _ k _ _ (0, 0) h |>.trans (by simp [hx])
theorem puts6_any (w : World) (d : Int) (t : TypeId) :
    Calls Try.prog 40 #[.slice (some ⟨w.heap.size, 0, none⟩) 6 6, .int .i64 d] (w.alloc (.cells #[.int .i64 0, .int .i64 24, .int .i64 3, .int .i64 6, .int .i64 16, .int .i64 17] t)) fun e w' => e = .returned (.bool (!toB d)) ∧ w' = w.alloc (.cells #[.int .i64 0, .int .i64 24, .int .i64 3, .int .i64 6, .int .i64 16, .int .i64 17] t) := by
  have h := containsI_any w.heap.size [0, 24, 3, 6, 16, 17] d (w.alloc (.cells #[.int .i64 0, .int .i64 24, .int .i64 3, .int .i64 6, .int .i64 16, .int .i64 17] t)) (by decide) (lit_cells w [0, 24, 3, 6, 16, 17] t)
  refine h.mono ?_
  rintro e w' ⟨rfl, rfl⟩
  refine ⟨?_, rfl⟩
  simp only [List.any_cons, List.any_nil, toB, Bool.not_not, Bool.or_false, Bool.or_assoc]
def flags13 (d : Int) : Bool := d == 3 || d == 6 || d == 16 || d == 17 || d == 4 || d == 5 || d == 7 || d == 8 || d == 9 || d == 12 || d == 13 || d == 14 || d == 15
theorem flags13_any (w : World) (d : Int) (t : TypeId) :
    Calls Try.prog 40 #[.slice (some ⟨w.heap.size, 0, none⟩) 13 13, .int .i64 d] (w.alloc (.cells #[.int .i64 3, .int .i64 6, .int .i64 16, .int .i64 17, .int .i64 4, .int .i64 5, .int .i64 7, .int .i64 8, .int .i64 9, .int .i64 12, .int .i64 13, .int .i64 14, .int .i64 15] t)) fun e w' => e = .returned (.bool (flags13 d)) ∧ w' = w.alloc (.cells #[.int .i64 3, .int .i64 6, .int .i64 16, .int .i64 17, .int .i64 4, .int .i64 5, .int .i64 7, .int .i64 8, .int .i64 9, .int .i64 12, .int .i64 13, .int .i64 14, .int .i64 15] t) := by
  have h := containsI_any w.heap.size [3, 6, 16, 17, 4, 5, 7, 8, 9, 12, 13, 14, 15] d (w.alloc (.cells #[.int .i64 3, .int .i64 6, .int .i64 16, .int .i64 17, .int .i64 4, .int .i64 5, .int .i64 7, .int .i64 8, .int .i64 9, .int .i64 12, .int .i64 13, .int .i64 14, .int .i64 15] t)) (by decide) (lit_cells w [3, 6, 16, 17, 4, 5, 7, 8, 9, 12, 13, 14, 15] t)
  refine h.mono ?_
  rintro e w' ⟨rfl, rfl⟩
  refine ⟨?_, rfl⟩
  simp only [List.any_cons, List.any_nil, flags13, Bool.or_false, Bool.or_assoc]
end Go.Proofs.Ytdiajkgebicnnaa
