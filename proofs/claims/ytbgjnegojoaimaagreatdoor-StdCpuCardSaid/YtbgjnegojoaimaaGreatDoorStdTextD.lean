/- The reference's list of instructions: a line that is put behind the others. -/
import Derived.Test.YtbgjnegojoaimaaGreatDoorStdTextB
namespace Go.Proofs.YtbgjnegojoaimaaGreatDoor
open Go.RowKit
set_option maxRecDepth 100000

theorem own_strs {w : World} {cells : Array Value} (l : List ByteArray) (hc : cells.toList = l.map Value.string) {n : Nat} (hn : n = l.length) (hm : n ≤ 1000) : strsO w.heap.size (w.alloc (.cells cells 9)) (.slice (some ⟨w.heap.size, 0, none⟩) n n) l := by
  have h1 : litR 1 strQ (l.map fun s => [Value.string s]) l := by
    clear hc hn
    induction l with
    | nil => trivial
    | cons s l ih => exact ⟨rfl, rfl, ih⟩
  have h2 : (l.map fun s => [Value.string s]).flatten = l.map Value.string := by
    clear hc hn h1
    induction l with
    | nil => rfl
    | cons s l ih => simp [ih]
  exact own_lit (R := strQ) (l.map fun s => [Value.string s]) l h1 (by rw [h2]; simp) cells (by rw [hc, h2]) n hn hm w (Nat.le_refl _) _ _ rfl
theorem line_put {lo g : Nat} {x w3 : World} {L : List ByteArray} {t : ByteArray} {a : Option Addr} {n c b3 n3 c3 : Nat} (hg : lo ≤ g) (hlo : lo ≤ x.heap.size) (r0 : rowB x g 27 #[.slice a n c]) (o0 : strsO lo x (.slice a n c) L)
    (o3 : strsO lo w3 (.slice (some ⟨b3, 0, none⟩) n3 c3) (L ++ [t])) (g3 : (x.alloc (.cells #[.string t] 9)).grownBy w3 (Value.slice a n c).ownBlock) (at3 : (Value.slice a n c).ownBlock = some b3 ∨ b3 = (x.alloc (.cells #[.string t] 9)).heap.size) :
    rowB w3 g 27 #[.slice a n c] ∧ atT lo g (w3.setCell ⟨g, 0, none⟩ (.slice (some ⟨b3, 0, none⟩) n3 c3)) (L ++ [t]) ∧ Below lo x (w3.setCell ⟨g, 0, none⟩ (.slice (some ⟨b3, 0, none⟩) n3 c3)) ∧ keepT g x (w3.setCell ⟨g, 0, none⟩ (.slice (some ⟨b3, 0, none⟩) n3 c3)) := by
  have r2 := rowB_alloc r0 (.cells #[.string t] 9)
  have o2 := strsO_below o0 (below_one x (.cells #[.string t] 9))
  have row3 : rowB w3 g 27 #[.slice a n c] := (g3.block g (rowB_lt r2) (fun e => by have := own_tag o2 e.symm r2; cases this)).trans r2
  have bel3 : Below lo x w3 := ((Below.refl lo x).alloc hlo _).trans (own_grown o2 g3 (by simp; omega))
  have r5 := rowB_set row3 0 (.slice (some ⟨b3, 0, none⟩) n3 c3)
  have s5 := safe_set (T := fun e => e ≠ 27) (j := 0) row3 (by simp) (.slice (some ⟨b3, 0, none⟩) n3 c3)
  refine ⟨row3, ⟨hg, _, _, _, r5, ownArr_safe o3 s5 (by decide)⟩, bel3.setCell (by show lo ≤ g; omega) _, fun q u cs h1 h2 => ?_⟩
  have u6 := h2.2 _ _ _ r0
  have u7 := rowB_alloc h1 (.cells #[.string t] 9)
  have u8 := rowB_lt h1
  have u9 : rowB w3 q u cs := (g3.block q (rowB_lt u7) (fun e => u6 e.symm)).trans u7
  refine ⟨rowB_other u9 ⟨g, 0, none⟩ _ (fun e => h2.1 e.symm), h2.1, fun a' n' c' k6 => ?_⟩
  have r5' := r5
  rw [rowB] at k6 r5'
  rw [r5'] at k6
  rw [← row_inj k6]
  intro e
  have e1 : b3 = q := Option.some.inj e
  rcases at3 with e2 | e2
  · rw [e1] at e2; exact u6 e2
  · simp at e2; omega
theorem lines_put {lo g : Nat} {x w3 : World} {L M : List ByteArray} {cells : Array Value} {a a' : Option Addr} {n c n3 c3 : Nat} (hg : lo ≤ g) (hlo : lo ≤ x.heap.size) (r0 : rowB x g 27 #[.slice a n c]) (o0 : strsO lo x (.slice a n c) L)
    (o3 : strsO lo w3 (.slice a' n3 c3) (L ++ M)) (g3 : (x.alloc (.cells cells 9)).grownBy w3 (Value.slice a n c).ownBlock) :
    rowB w3 g 27 #[.slice a n c] ∧ atT lo g (w3.setCell ⟨g, 0, none⟩ (.slice a' n3 c3)) (L ++ M) ∧ Below lo x (w3.setCell ⟨g, 0, none⟩ (.slice a' n3 c3)) := by
  have r2 := rowB_alloc r0 (.cells cells 9)
  have o2 := strsO_below o0 (below_one x (.cells cells 9))
  have row3 : rowB w3 g 27 #[.slice a n c] := (g3.block g (rowB_lt r2) (fun e => by have := own_tag o2 e.symm r2; cases this)).trans r2
  have bel3 : Below lo x w3 := ((Below.refl lo x).alloc hlo _).trans (own_grown o2 g3 (by simp; omega))
  have r5 := rowB_set row3 0 (.slice a' n3 c3)
  have s5 := safe_set (T := fun e => e ≠ 27) (j := 0) row3 (by simp) (.slice a' n3 c3)
  exact ⟨row3, ⟨hg, _, _, _, r5, ownArr_safe o3 s5 (by decide)⟩, bel3.setCell (by show lo ≤ g; omega) _⟩
end Go.Proofs.YtbgjnegojoaimaaGreatDoor
