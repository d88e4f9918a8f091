/- The walk of the statement BitLows: it returns true for all numbers. -/
import Derived.Test.YtgiociijhpimoaaRefAdds
import Derived.Test.YtgiociijhpimoaaShelf
namespace Go.Proofs.Ytgiociijhpimoaa
open Go.RowKit

theorem put_rev {l : List Int} {Y : List Value} : Sort.putCells (Value.int .i64) 0 l.reverse.toArray (l.map (Value.int .i64) ++ Y).toArray = (l.reverse.map (Value.int .i64) ++ Y).toArray := by
  apply Array.ext_getElem?
  intro k
  simp only [Sort.putCells, Array.getElem?_mapIdx, List.getElem?_toArray]
  by_cases hk : k < l.length
  · have h1 : k < l.reverse.length := by rw [List.length_reverse]; exact hk
    rw [List.getElem?_append_left (by rw [List.length_map]; exact hk), List.getElem?_append_left (by rw [List.length_map]; exact h1), List.getElem?_map, List.getElem?_eq_getElem hk, List.getElem?_map, List.getElem?_eq_getElem h1]
    simp only [Option.map_some]
    rw [if_pos ⟨Nat.zero_le _, by rw [Nat.zero_add, List.size_toArray]; exact h1⟩]
    congr 2
    rw [Nat.sub_zero, getElem!_pos _ k (by rw [List.size_toArray]; exact h1), List.getElem_toArray]
  · rw [List.getElem?_append_right (by rw [List.length_map]; omega), List.getElem?_append_right (by rw [List.length_map, List.length_reverse]; omega), List.length_map, List.length_map, List.length_reverse]
    cases Y[k - l.length]? with
    | none => rfl
    | some y =>
      simp only [Option.map_some]
      rw [if_neg (fun h => by have := h.2; rw [Nat.zero_add, List.size_toArray, List.length_reverse] at this; omega)]

theorem below_mapBlock (w : World) (g B : Nat) (f : Array Value → Array Value) (h : B ≤ g) : Below B w (Sort.mapBlock w g f) := by
  refine ⟨rfl, rfl, rfl, by simp [Sort.mapBlock], fun k hk => ?_⟩
  simp only [Sort.mapBlock, Array.getElem?_modify]
  rw [if_neg (by omega)]

theorem reverse_any (g cap n : Nat) (l : List Int) (Y : List Value) (w : World) (hn : l.length = n) (hg : w.heap[g]? = some (.cells (l.map (Value.int .i64) ++ Y).toArray 3 (0, 0))) (hl : l.length ≤ 17592186044416) :
    Calls Try.prog 23 #[.slice (some ⟨g, 0, none⟩) n cap] w fun e w' => e = .returned (.tuple #[]) ∧
      w'.heap[g]? = some (.cells (l.reverse.map (Value.int .i64) ++ Y).toArray 3 (0, 0)) ∧ Below g w w' := by
  subst hn
  refine (Try.slices_Reverse_int g 0 cap l w (fun j hj => ?_) (by omega)).mono fun e w' ⟨he, m, hw⟩ => ⟨he, ?_, ?_⟩
  · rw [List.size_toArray] at hj
    refine ⟨?_, ?_⟩
    · rw [cells_of_heap hg j hj, getElem!_pos _ j (by rw [List.size_toArray]; exact hj), List.getElem_toArray, List.getD_eq_getElem?_getD, List.getElem?_eq_getElem hj]; rfl
    · simp [World.frozen?, hg]
  · subst hw
    have : (Sort.ahead w m).heap[g]? = some (.cells (l.map (Value.int .i64) ++ Y).toArray 3 (0, 0)) := hg
    simp only [Sort.putRow, Sort.mapBlock, Array.getElem?_modify, if_true, this, Option.map_some, Sort.onCells, put_rev]
  · subst hw
    exact (show Below g w (Sort.ahead w m) from ⟨rfl, rfl, rfl, Nat.le_refl _, fun _ _ => rfl⟩).trans (below_mapBlock _ g g _ (Nat.le_refl _))
theorem reverse_zero (a : Option Addr) (cap : Nat) (w : World) :
    Calls Try.prog 23 #[.slice a 0 cap] w fun e w' => e = .returned (.tuple #[]) ∧ w' = w := Try.slices_Reverse_int_empty a cap w

/-- Of a slice that belongs to the call. -/
theorem reverse_own (B : Nat) (v : Value) (l : List Int) (w : World) (h : own B w v l) (hl : l.length ≤ 17592186044416) :
    Calls Try.prog 23 #[v] w fun e w' => e = .returned (.tuple #[]) ∧ isRow w' v l.reverse ∧ Below B w w' := by
  by_cases hz : l.length = 0
  · have hv : ∃ a cap, v = .slice a 0 cap := by
      obtain ⟨a, cap, hv, _⟩ := own_form h
      rw [hz] at hv
      exact ⟨a, cap, hv⟩
    have hr := own_row h
    obtain ⟨a, cap, rfl⟩ := hv
    obtain rfl := List.eq_nil_of_length_eq_zero hz
    refine (reverse_zero a cap w).mono fun e w' ⟨he, hw⟩ => ?_
    subst hw
    exact ⟨he, hr, Below.refl _ _⟩
  · obtain ⟨g, cap, Y, rfl, hB, hgs, hg, hcap, hm⟩ := own_open h (by omega)
    refine (reverse_any g cap l.length l Y w rfl hg hl).mono fun e w' ⟨he, hg', hb⟩ => ⟨he, ?_, hb.mono hB⟩
    have hr := row_of_heap (cap := cap) hg' (by rw [List.length_reverse]; omega) hm
    rw [List.length_reverse] at hr
    exact hr

theorem lo_succ (n : Int) (k : Nat) : lo n (k + 1) = lo n k + bitOf n k * 2 ^ k := by
  rw [← of2_digits, digits_snoc, of2_snoc, of2_digits, digits_len]
theorem sg_succ (n : Int) (k : Nat) : sg n (k + 1) = lo n k - bitOf n k * 2 ^ k := by
  have h0 := lo_nonneg n k
  have h1 := lo_lt n k
  have hp := p2_pos k
  have hb := bitOf_bit n k
  unfold isBit at hb
  unfold sg
  rw [lo_succ, p2_succ]
  rcases (by omega : bitOf n k = 0 ∨ bitOf n k = 1) with h | h
  · rw [h, if_pos (by omega)]; omega
  · rw [h, if_neg (by omega)]; omega

theorem digits_take_sum (n : Int) (k : Nat) : sumL (digits n (k + 1)) = sumL (digits n k) + bitOf n k := by
  rw [digits_snoc, sumL_append]; simp [sumL]

end Go.Proofs.Ytgiociijhpimoaa
