/- The walk of the statement BitAdds: it returns true for all numbers. -/
import Derived.Test.YtgiociijhpimoaaRefAdder
import Derived.Test.YtgiociijhpimoaaRefFields
namespace Go.Proofs.Ytgiociijhpimoaa
open Go.RowKit

/-! What the reference's bits come to. -/
theorem adds_sum (a b c : Int) (k : Nat) : partSum (digits a k) (digits b k) (c % 2) k = addS a b c k := by
  unfold partSum addS
  rw [List.take_of_length_le (by rw [digits_len]; exact Nat.le_refl _), List.take_of_length_le (by rw [digits_len]; exact Nat.le_refl _), of2_digits, of2_digits]
theorem adds_less (a b c : Int) (k : Nat) : partSum (digits a k) (inv (digits b k)) (1 - c % 2) k = 2 ^ k * 1 + subS a b c k := by
  unfold partSum subS
  rw [List.take_of_length_le (by rw [digits_len]; exact Nat.le_refl _), List.take_of_length_le (by rw [inv_len, digits_len]; exact Nat.le_refl _), of2_inv, of2_digits, of2_digits, digits_len]
  omega
theorem less_low (a b c : Int) (k : Nat) : lo (2 ^ k * 1 + subS a b c k) k = lo (subS a b c k) k := by
  unfold lo; rw [Int.add_comm, Int.add_mul_emod_self_left]
theorem less_carry (a b c : Int) (k : Nat) : subC a b c k = 1 - (2 ^ k * 1 + subS a b c k) / 2 ^ k := by
  have hp := p2_pos k
  have ha0 := lo_nonneg a k
  have ha1 := lo_lt a k
  have hb0 := lo_nonneg b k
  have hb1 := lo_lt b k
  have h0 : -2 ^ k ≤ subS a b c k := by unfold subS; omega
  have h1 : subS a b c k < 2 ^ k := by unfold subS; omega
  rw [Int.add_comm, Int.add_mul_ediv_left _ _ (by omega)]
  unfold subC
  split
  · rename_i h
    have : subS a b c k / 2 ^ k = -1 := by
      have e : subS a b c k = (subS a b c k + 2 ^ k) + 2 ^ k * (-1) := by omega
      rw [e, Int.add_mul_ediv_left _ _ (by omega), Int.ediv_eq_zero_of_lt (by omega) (by omega)]; rfl
    rw [this]; rfl
  · rename_i h
    rw [Int.ediv_eq_zero_of_lt (by omega) h1]; rfl

theorem rol_bits (n c : Int) (k : Nat) : digits (rolS n c k) (k + 1) = [c % 2] ++ digits n k := by
  have hb : areBits ([c % 2] ++ digits n k) := fun x hx => by
    rcases List.mem_append.1 hx with hx | hx
    · have : x = c % 2 := by simpa using hx
      subst this; unfold isBit; omega
    · exact digits_bits n k x hx
  have h := digits_of2 hb
  have e : of2 ([c % 2] ++ digits n k) = rolS n c k := by
    show c % 2 + 2 * of2 (digits n k) = _
    rw [of2_digits]; unfold rolS; omega
  rw [e, List.length_append, digits_len, List.length_singleton, Nat.add_comm] at h
  exact h
theorem ror_bits (n c : Int) (k : Nat) : digits (rorS n c k) (k + 1) = digits n k ++ [c % 2] := by
  have hb : areBits (digits n k ++ [c % 2]) := fun x hx => by
    rcases List.mem_append.1 hx with hx | hx
    · exact digits_bits n k x hx
    · have : x = c % 2 := by simpa using hx
      subst this; unfold isBit; omega
  have h := digits_of2 hb
  have e : of2 (digits n k ++ [c % 2]) = rorS n c k := by
    rw [of2_snoc, of2_digits, digits_len]; unfold rorS; omega
  rw [e, List.length_append, digits_len, List.length_singleton] at h
  exact h
theorem rol_left (n c : Int) (k : Nat) : of2 ((([c % 2] ++ digits n k).drop 0).take k) = lo (rolS n c k) k := by
  rw [← rol_bits, digits_sub (rolS n c k) (k + 1) 0 k (by omega), of2_digits]; simp
theorem rol_lost (n c : Int) (k : Nat) : ([c % 2] ++ digits n k).getD k 0 = rolS n c k / 2 ^ k := by
  rw [← rol_bits, List.getD_eq_getElem?_getD, List.getElem?_eq_getElem (by rw [digits_len]; omega), digits_get]
  show bitOf (rolS n c k) k = _
  unfold bitOf
  have hp := p2_pos k
  have ha0 := lo_nonneg n k
  have ha1 := lo_lt n k
  have h1 : rolS n c k < 2 * 2 ^ k := by unfold rolS; omega
  have h0 : 0 ≤ rolS n c k := by unfold rolS; omega
  have := Int.ediv_lt_of_lt_mul hp h1
  have := Int.ediv_nonneg h0 (Int.le_of_lt hp)
  omega
theorem ror_right (n c : Int) (k : Nat) : of2 (((digits n k ++ [c % 2]).drop 1).take k) = rorS n c k / 2 := by
  rw [← ror_bits, digits_sub (rorS n c k) (k + 1) 1 k (by omega), of2_digits]
  have hp := p2_pos k
  have ha0 := lo_nonneg n k
  have ha1 := lo_lt n k
  have hc : 0 ≤ c % 2 * 2 ^ k ∧ c % 2 * 2 ^ k ≤ 2 ^ k := by
    rcases (by omega : c % 2 = 0 ∨ c % 2 = 1) with h | h <;> rw [h] <;> omega
  have e : (2 : Int) ^ 1 = 2 := rfl
  rw [e]
  exact lo_of (by unfold rorS; omega) (by unfold rorS; omega)
theorem ror_gone (n c : Int) (k : Nat) : (digits n k ++ [c % 2]).getD 0 0 = rorS n c k % 2 := by
  rw [← ror_bits, List.getD_eq_getElem?_getD, List.getElem?_eq_getElem (by rw [digits_len]; omega), digits_get]
  show bitOf (rorS n c k) 0 = _
  exact bitOf_zero _

def lessS (a b c : Int) (k : Nat) : Int := 2 ^ k * 1 + subS a b c k
theorem lessS_carry (a b c : Int) (k : Nat) : subC a b c k = 1 - lessS a b c k / 2 ^ k := less_carry a b c k
theorem lessS_bd (a b c : Int) (k : Nat) : 0 ≤ lessS a b c k / 2 ^ k ∧ lessS a b c k / 2 ^ k ≤ 1 := by
  have h := lessS_carry a b c k
  unfold subC at h
  split at h <;> omega

theorem digits2_form (n b : Int) (w : World) :
    Calls Try.prog 20 #[.int .i64 n, .int .i64 b] w fun e w' => ∃ sp sCap, e = .returned (.slice sp (wd b) sCap) ∧
      own w.heap.size w' (.slice sp (wd b) sCap) (digits n (wd b)) ∧ Below w.heap.size w w' :=
  (digits2_any n b w).mono fun _ _ ⟨v, he, ho, hb⟩ => by
    obtain ⟨sp, sCap, hv, _⟩ := own_form ho
    rw [digits_len] at hv
    subst hv
    exact ⟨sp, sCap, he, ho, hb⟩

theorem isRow_take {w : World} {b off cap : Nat} {l : List Int} (c : Nat) (h1 : b < w.heap.size) (h2 : l.length ≤ cap) (h3 : cap ≤ 9223372036854775807)
    (h4 : ∀ j, j < l.length → w.cell? ⟨b, off + j, none⟩ = some (.int .i64 (l.getD j 0))) (h : c ≤ l.length) : isRow w (.slice (some ⟨b, off, none⟩) c cap) ((l.drop 0).take c) :=
  isRow_sub (cap := cap) 0 c h1 h2 h3 h4 (by omega)

theorem cells_of_heap {w : World} {g : Nat} {l : List Int} {Y : List Value} (hg : w.heap[g]? = some (.cells (l.map (Value.int .i64) ++ Y).toArray 3 (0, 0))) :
    ∀ j, j < l.length → w.cell? ⟨g, 0 + j, none⟩ = some (.int .i64 (l.getD j 0)) := fun j hj => by
  rw [Nat.zero_add, cell_of_row w g j _ 3 (0, 0) hg, List.getElem?_toArray, List.getElem?_append_left (by simpa using hj), List.getElem?_map, List.getD_eq_getElem?_getD, List.getElem?_eq_getElem hj]
  rfl

end Go.Proofs.Ytgiociijhpimoaa
