/- The walk of the statement BitLows: it returns true for all numbers. -/
import Derived.Test.YtciedmpmjhnnpaaRefAdds
import Derived.Test.YtciedmpmjhnnpaaShelf
namespace Go.Proofs.Ytciedmpmjhnnpaa
open Go.RowKit

theorem put_rev {l : List Int} {Y : List Value} : Sort.putCells (Value.int .i64) 0 l.reverse.toArray (l.map (Value.int .i64) ++ Y).toArray = (l.reverse.map (Value.int .i64) ++ Y).toArray := by
  apply Array.ext_getElem?
  intro k
  simp only [Sort.putCells, Array.getElem?_mapIdx, List.getElem?_toArray]
  by_cases hk : k < l.length
  · have h1 : k < l.reverse.length := by rw [List.length_reverse]; exact hk
    rw [List.getElem?_append_left (by rw [List.length_map]; exact hk), List.getElem?_append_left (by rw [List.length_map]; exact h1), List.getElem?_map, List.getElem?_eq_getElem hk, List.getElem?_map, List.getElem?_eq_getElem h1]
    simp only [Option.map_some]
    rw [if_pos ⟨Nat.zero_le _, by rw [Nat.zero_add, List.size_toArray]; exact h1⟩]
    congr 2
    rw [Nat.sub_zero, getElem!_pos _ k (by rw [List.size_toArray]; exact h1), List.getElem_toArray]
  · rw [List.getElem?_append_right (by rw [List.length_map]; omega), List.getElem?_append_right (by rw [List.length_map, List.length_reverse]; omega), List.length_map, List.length_map, List.length_reverse]
    cases Y[k - l.length]? with
    | none => rfl
    | some y =>
      simp only [Option.map_some]
      rw [if_neg (fun h => by have := h.2; rw [Nat.zero_add, List.size_toArray, List.length_reverse] at this; omega)]

theorem below_mapBlock (w : World) (g B : Nat) (f : Array Value → Array Value) (h : B ≤ g) : Below B w (Sort.mapBlock w g f) := by
  refine ⟨rfl, rfl, rfl, by simp [Sort.mapBlock], fun k hk => ?_⟩
  simp only [Sort.mapBlock, Array.getElem?_modify]
  rw [if_neg (by omega)]

theorem reverse_any (g cap n : Nat) (l : List Int) (Y : List Value) (w : World) (hn : l.length = n) (hg : w.heap[g]? = some (.cells (l.map (Value.int .i64) ++ Y).toArray 3 (0, 0))) (hl : l.length ≤ 536870912) :
    Calls Try.prog 15 #[.slice (some ⟨g, 0, none⟩) n cap] w fun e w' => e = .returned (.tuple #[]) ∧
      w'.heap[g]? = some (.cells (l.reverse.map (Value.int .i64) ++ Y).toArray 3 (0, 0)) ∧ Below g w w' := by
  subst hn
  refine (Try.slices_Reverse_int g 0 cap l w (fun j hj => ?_) (by omega)).mono fun e w' ⟨he, m, hw⟩ => ⟨he, ?_, ?_⟩
  · rw [List.size_toArray] at hj
    refine ⟨?_, ?_⟩
    · rw [cells_of_heap hg j hj, getElem!_pos _ j (by rw [List.size_toArray]; exact hj), List.getElem_toArray, List.getD_eq_getElem?_getD, List.getElem?_eq_getElem hj]; rfl
    · simp [World.frozen?, hg]
  · subst hw
    have : (Sort.ahead w m).heap[g]? = some (.cells (l.map (Value.int .i64) ++ Y).toArray 3 (0, 0)) := hg
    simp only [Sort.putRow, Sort.mapBlock, Array.getElem?_modify, if_true, this, Option.map_some, Sort.onCells, put_rev]
  · subst hw
    exact (show Below g w (Sort.ahead w m) from ⟨rfl, rfl, rfl, Nat.le_refl _, fun _ _ => rfl⟩).trans (below_mapBlock _ g g _ (Nat.le_refl _))
theorem reverse_zero (a : Option Addr) (cap : Nat) (w : World) :
    Calls Try.prog 15 #[.slice a 0 cap] w fun e w' => e = .returned (.tuple #[]) ∧ w' = w := Try.slices_Reverse_int_empty a cap w

/-- Of a slice that belongs to the call. -/
theorem reverse_own (B : Nat) (v : Value) (l : List Int) (w : World) (h : own B w v l) (hl : l.length ≤ 536870912) :
    Calls Try.prog 15 #[v] w fun e w' => e = .returned (.tuple #[]) ∧ isRow w' v l.reverse ∧ Below B w w' := by
  by_cases hz : l.length = 0
  · have hv : ∃ a cap, v = .slice a 0 cap := by
      obtain ⟨a, cap, hv, _⟩ := own_form h
      rw [hz] at hv
      exact ⟨a, cap, hv⟩
    have hr := own_row h
    obtain ⟨a, cap, rfl⟩ := hv
    obtain rfl := List.eq_nil_of_length_eq_zero hz
    refine (reverse_zero a cap w).mono fun e w' ⟨he, hw⟩ => ?_
    subst hw
    exact ⟨he, hr, Below.refl _ _⟩
  · obtain ⟨g, cap, Y, rfl, hB, hgs, hg, hcap, hm⟩ := own_open h (by omega)
    refine (reverse_any g cap l.length l Y w rfl hg hl).mono fun e w' ⟨he, hg', hb⟩ => ⟨he, ?_, hb.mono hB⟩
    have hr := row_of_heap (cap := cap) hg' (by rw [List.length_reverse]; omega) hm
    rw [List.length_reverse] at hr
    exact hr

theorem lo_succ (n : Int) (k : Nat) : lo n (k + 1) = lo n k + bitOf n k * 2 ^ k := by
  rw [← of2_digits, digits_snoc, of2_snoc, of2_digits, digits_len]
theorem sg_succ (n : Int) (k : Nat) : sg n (k + 1) = lo n k - bitOf n k * 2 ^ k := by
  have h0 := lo_nonneg n k
  have h1 := lo_lt n k
  have hp := p2_pos k
  have hb := bitOf_bit n k
  unfold isBit at hb
  unfold sg
  rw [lo_succ, p2_succ]
  rcases (by omega : bitOf n k = 0 ∨ bitOf n k = 1) with h | h
  · rw [h, if_pos (by omega)]; omega
  · rw [h, if_neg (by omega)]; omega

theorem signed2_zero (a : Option Addr) (cap : Nat) (w : World) :
    Calls Try.prog 19 #[.slice a 0 cap] w fun e w' => e = .returned (.int .i64 0) ∧ Qt w w' := by
  go_enter Try.func19, Try.ntmps19
  go_wp2
  go_ret
  exact ⟨rfl, Qt.refl _⟩

theorem signed2_some (b off cap k : Nat) (n : Int) (w : World) (h1 : b < w.heap.size) (h2 : k + 1 ≤ cap) (h3 : cap ≤ 9223372036854775807) (hk : k + 1 ≤ 62)
    (hc : ∀ j, j < (digits n (k + 1)).length → w.cell? ⟨b, off + j, none⟩ = some (.int .i64 ((digits n (k + 1)).getD j 0))) :
    Calls Try.prog 19 #[.slice (some ⟨b, off, none⟩) (k + 1) cap] w fun e w' => e = .returned (.int .i64 (sg n (k + 1))) ∧ Qt w w' := by
  have hrow := isRow_take (cap := cap) k h1 (by rw [digits_len]; exact h2) h3 hc (by rw [digits_len]; omega)
  have e0 : n / 2 ^ 0 = n := by simp
  rw [digits_sub n (k + 1) 0 k (by omega), e0] at hrow
  clear e0
  have hcell : w.cell? ⟨b, off + k, none⟩ = some (.int .i64 (bitOf n k)) := by
    rw [hc k (by rw [digits_len]; omega), List.getD_eq_getElem?_getD, List.getElem?_eq_getElem (by rw [digits_len]; omega), digits_get]; rfl
  have ho := of2_digits n k
  have Hs := Lib.hid (sg_succ n k)
  have hb := bitOf_bit n k
  unfold isBit at hb
  have hp := p2_62 k (by omega)
  have hp0 := p2_pos k
  have h0 := lo_nonneg n k
  have hl1 := lo_le n k (by omega)
  have hm : 0 ≤ bitOf n k * 2 ^ k ∧ bitOf n k * 2 ^ k ≤ 4611686018427387904 := by
    rcases (by omega : bitOf n k = 0 ∨ bitOf n k = 1) with h | h <;> rw [h] <;> omega
  have Hrow := Lib.hid hrow
  have q1 : ((k : Nat) : Int) ≤ ((cap : Nat) : Int) := by omega
  have q2 : ((k : Nat) : Int) ≤ 64 := by omega
  clear hc hrow
  go_enter Try.func19, Try.ntmps19
  go_wp2
  go_quiet ((go_at_call 17; exact quiet_left (of2_any _ _ _ (isRow_below Hrow.out (below_drewN _ _ w.heap.size) (Nat.le_refl _)) (digits_bits _ _) (by rw [digits_len]; omega))))
  go_wp2
  go_ret
  exact ⟨ret_int Hs.out.symm, nq, rfl⟩

theorem signed2_any (v : Value) (n : Int) (K : Nat) (w : World) (h : isRow w v (digits n K)) (hK : K ≤ 62) :
    Calls Try.prog 19 #[v] w fun e w' => e = .returned (.int .i64 (sg n K)) ∧ Qt w w' := by
  have hlen := digits_len n K
  rcases h with ⟨rfl, hn⟩ | ⟨b, off, cap, rfl, h1, h2, h3, hc⟩
  · rw [hn] at hlen
    have hz : K = 0 := hlen.symm
    subst hz
    have e0 : sg n 0 = 0 := by simp [sg, lo, Int.emod_one]
    rw [e0]
    exact signed2_zero none 0 w
  · rw [hlen] at h2 ⊢
    cases K with
    | zero =>
      have e0 : sg n 0 = 0 := by simp [sg, lo, Int.emod_one]
      rw [e0]
      exact signed2_zero _ cap w
    | succ k => exact signed2_some b off cap k n w h1 h2 h3 hK hc

theorem digits_take_sum (n : Int) (k : Nat) : sumL (digits n (k + 1)) = sumL (digits n k) + bitOf n k := by
  rw [digits_snoc, sumL_append]; simp [sumL]

set_option maxHeartbeats 1000000 in
theorem bitLows_walk (n b : Int) (w : World) :
    Calls Try.prog 4 #[.int .i64 n, .int .i64 b] w fun e w' => e = .returned (.bool true) ∧ Below w.heap.size w w' := by
  have hk := wd_le b
  have e62 : wd 62 = 62 := rfl
  go_enter Try.func4, Try.ntmps4
  go_wp2_with fail
  refine (bits_law _).mono ?_
  rintro e w1 ⟨rfl, hq⟩
  go_wp2_with fail
  refine (digits2_any _ _ _).mono ?_
  rintro e w2 ⟨v, rfl, ho2, hb2⟩
  have hx2 := own_row ho2
  have hB2 := (hq.below w.heap.size).trans (hb2.mono (by rw [hq.size]; exact Nat.le_refl _))
  clear ho2 hb2 hq
  go_wp2_with fail
  refine (clone_any _ _ _ hx2 (by rw [digits_len]; omega)).mono ?_
  rintro e w3 ⟨u, rfl, ho3, hb3⟩
  have hx3 := isRow_below hx2 hb3 (Nat.le_refl _)
  have hB3 := hB2.trans (hb3.mono hB2.size)
  have hsz3 := hb3.size
  go_wp2_with fail
  refine (reverse_own w2.heap.size u _ _ ho3 (by rw [digits_len]; omega)).mono ?_
  rintro e w4 ⟨rfl, hr4, hb4⟩
  have hx4 := isRow_below hx2 (hb3.trans hb4) (Nat.le_refl _)
  have hB4 := hB3.trans (hb4.mono hB2.size)
  clear ho3 hb3 hb4 hx2 hx3 hB2 hB3 hsz3
  go_wp2_with fail
  refine (digits2_form _ _ _).mono ?_
  rintro e w5 ⟨sp, sCap, rfl, ho5, hb5⟩
  rw [e62] at ho5 ⊢
  have hr5 := isRow_below hr4 hb5 (Nat.le_refl _)
  have hx5 := isRow_below hx4 hb5 (Nat.le_refl _)
  have hB5 := hB4.trans (hb5.mono hB4.size)
  have hd5 := own_row ho5
  have hl5 := digits_len n 62
  rcases hd5 with ⟨_, hnil⟩ | ⟨g, off, cap, hv, h1, h2, h3, hc⟩
  · rw [hnil] at hl5; cases hl5
  rw [hl5] at hv
  have hsp : sp = some ⟨g, off, none⟩ := by injection hv
  subst hsp
  have Hc := Lib.hid hc
  clear hc hv h2 h3 ho5 hb5 hr4 hx4 hB4 e62
  go_wp2_with fail
  go_loop [7, 22] (fun t i => ∃ k : Nat, k ≤ 62 ∧ i = .int .i64 k ∧ t = .int .i64 (sumL (digits n k))) (fun _ i => 62 - (intOf i).toNat)
  case atStart => exact ⟨0, Nat.zero_le _, rfl, rfl⟩
  case round =>
    obtain ⟨k, hk62, rfl, rfl⟩ := hrel
    by_cases hlt : k < 62
    · have hcell : w5.cell? ⟨g, off + k, none⟩ = some (.int .i64 (bitOf n k)) := by
        rw [Hc.out k (by rw [digits_len]; exact hlt), List.getD_eq_getElem?_getD, List.getElem?_eq_getElem (by rw [digits_len]; exact hlt), digits_get]; rfl
      have hs := sumL_bd (digits_bits n k)
      rw [digits_len] at hs
      have hb := bitOf_bit n k
      unfold isBit at hb
      go_wp2_with fail
      go_round
      case rel => exact ⟨k + 1, by omega, by go_num, by rw [digits_take_sum]⟩
      case measure => simp [intOf]; omega
    · have e : k = 62 := by omega
      subst e
      have E1 : of2 (digits n (wd b)) = lo n (wd b) := of2_digits _ _
      have E2 : of2 (digits n (wd b)).reverse = rv n (wd b) := rfl
      have E3 : sumL (digits n 62) = cnt n := rfl
      go_wp2_with (first
        | (go_at_call 16; refine (low_any _ _ _).mono ?_; rintro e w' ⟨rfl, rfl⟩)
        | (go_at_call 18; refine (signed_any _ _ _).mono ?_; rintro e w' ⟨rfl, rfl⟩)
        | (go_at_call 20; refine (turn_any _ _ _).mono ?_; rintro e w' ⟨rfl, rfl⟩)
        | (go_at_call 21; refine (count_any _ _).mono ?_; rintro e w' ⟨rfl, rfl⟩)
        | (go_at_call 19; refine (signed2_any _ n (wd b) _ hx5 hk).mono ?_; rintro e w6 ⟨rfl, hq6⟩)
        | (go_at_call_of 17 v; refine (of2_any _ _ _ hx5 (digits_bits _ _) (by rw [digits_len]; exact hk)).mono ?_; rintro e w' ⟨rfl, rfl⟩)
        | (go_at_call_of 17 u; refine (of2_any _ _ _ (isRow_below hr5 (hq6.below _) (Nat.le_refl _)) (rev_bits (digits_bits _ _)) (by rw [List.length_reverse, digits_len]; exact hk)).mono ?_; rintro e w' ⟨rfl, rfl⟩))
      go_ret
      exact ⟨rfl, hB5.trans (hq6.below _)⟩
end Go.Proofs.Ytciedmpmjhnnpaa
