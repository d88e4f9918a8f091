/- The walk of the statement BitAdds: it returns true for all numbers. -/
import Derived.Test.YtciedmpmjhnnpaaRefAdder
import Derived.Test.YtciedmpmjhnnpaaRefFields
namespace Go.Proofs.Ytciedmpmjhnnpaa
open Go.RowKit

/-! What the reference's bits come to. -/
theorem adds_sum (a b c : Int) (k : Nat) : partSum (digits a k) (digits b k) (c % 2) k = addS a b c k := by
  unfold partSum addS
  rw [List.take_of_length_le (by rw [digits_len]; exact Nat.le_refl _), List.take_of_length_le (by rw [digits_len]; exact Nat.le_refl _), of2_digits, of2_digits]
theorem adds_less (a b c : Int) (k : Nat) : partSum (digits a k) (inv (digits b k)) (1 - c % 2) k = 2 ^ k * 1 + subS a b c k := by
  unfold partSum subS
  rw [List.take_of_length_le (by rw [digits_len]; exact Nat.le_refl _), List.take_of_length_le (by rw [inv_len, digits_len]; exact Nat.le_refl _), of2_inv, of2_digits, of2_digits, digits_len]
  omega
theorem less_low (a b c : Int) (k : Nat) : lo (2 ^ k * 1 + subS a b c k) k = lo (subS a b c k) k := by
  unfold lo; rw [Int.add_comm, Int.add_mul_emod_self_left]
theorem less_carry (a b c : Int) (k : Nat) : subC a b c k = 1 - (2 ^ k * 1 + subS a b c k) / 2 ^ k := by
  have hp := p2_pos k
  have ha0 := lo_nonneg a k
  have ha1 := lo_lt a k
  have hb0 := lo_nonneg b k
  have hb1 := lo_lt b k
  have h0 : -2 ^ k ≤ subS a b c k := by unfold subS; omega
  have h1 : subS a b c k < 2 ^ k := by unfold subS; omega
  rw [Int.add_comm, Int.add_mul_ediv_left _ _ (by omega)]
  unfold subC
  split
  · rename_i h
    have : subS a b c k / 2 ^ k = -1 := by
      have e : subS a b c k = (subS a b c k + 2 ^ k) + 2 ^ k * (-1) := by omega
      rw [e, Int.add_mul_ediv_left _ _ (by omega), Int.ediv_eq_zero_of_lt (by omega) (by omega)]; rfl
    rw [this]; rfl
  · rename_i h
    rw [Int.ediv_eq_zero_of_lt (by omega) h1]; rfl

theorem rol_bits (n c : Int) (k : Nat) : digits (rolS n c k) (k + 1) = [c % 2] ++ digits n k := by
  have hb : areBits ([c % 2] ++ digits n k) := fun x hx => by
    rcases List.mem_append.1 hx with hx | hx
    · have : x = c % 2 := by simpa using hx
      subst this; unfold isBit; omega
    · exact digits_bits n k x hx
  have h := digits_of2 hb
  have e : of2 ([c % 2] ++ digits n k) = rolS n c k := by
    show c % 2 + 2 * of2 (digits n k) = _
    rw [of2_digits]; unfold rolS; omega
  rw [e, List.length_append, digits_len, List.length_singleton, Nat.add_comm] at h
  exact h
theorem ror_bits (n c : Int) (k : Nat) : digits (rorS n c k) (k + 1) = digits n k ++ [c % 2] := by
  have hb : areBits (digits n k ++ [c % 2]) := fun x hx => by
    rcases List.mem_append.1 hx with hx | hx
    · exact digits_bits n k x hx
    · have : x = c % 2 := by simpa using hx
      subst this; unfold isBit; omega
  have h := digits_of2 hb
  have e : of2 (digits n k ++ [c % 2]) = rorS n c k := by
    rw [of2_snoc, of2_digits, digits_len]; unfold rorS; omega
  rw [e, List.length_append, digits_len, List.length_singleton] at h
  exact h
theorem rol_left (n c : Int) (k : Nat) : of2 ((([c % 2] ++ digits n k).drop 0).take k) = lo (rolS n c k) k := by
  rw [← rol_bits, digits_sub (rolS n c k) (k + 1) 0 k (by omega), of2_digits]; simp
theorem rol_lost (n c : Int) (k : Nat) : ([c % 2] ++ digits n k).getD k 0 = rolS n c k / 2 ^ k := by
  rw [← rol_bits, List.getD_eq_getElem?_getD, List.getElem?_eq_getElem (by rw [digits_len]; omega), digits_get]
  show bitOf (rolS n c k) k = _
  unfold bitOf
  have hp := p2_pos k
  have ha0 := lo_nonneg n k
  have ha1 := lo_lt n k
  have h1 : rolS n c k < 2 * 2 ^ k := by unfold rolS; omega
  have h0 : 0 ≤ rolS n c k := by unfold rolS; omega
  have := Int.ediv_lt_of_lt_mul hp h1
  have := Int.ediv_nonneg h0 (Int.le_of_lt hp)
  omega
theorem ror_right (n c : Int) (k : Nat) : of2 (((digits n k ++ [c % 2]).drop 1).take k) = rorS n c k / 2 := by
  rw [← ror_bits, digits_sub (rorS n c k) (k + 1) 1 k (by omega), of2_digits]
  have hp := p2_pos k
  have ha0 := lo_nonneg n k
  have ha1 := lo_lt n k
  have hc : 0 ≤ c % 2 * 2 ^ k ∧ c % 2 * 2 ^ k ≤ 2 ^ k := by
    rcases (by omega : c % 2 = 0 ∨ c % 2 = 1) with h | h <;> rw [h] <;> omega
  have e : (2 : Int) ^ 1 = 2 := rfl
  rw [e]
  exact lo_of (by unfold rorS; omega) (by unfold rorS; omega)
theorem ror_gone (n c : Int) (k : Nat) : (digits n k ++ [c % 2]).getD 0 0 = rorS n c k % 2 := by
  rw [← ror_bits, List.getD_eq_getElem?_getD, List.getElem?_eq_getElem (by rw [digits_len]; omega), digits_get]
  show bitOf (rorS n c k) 0 = _
  exact bitOf_zero _

def lessS (a b c : Int) (k : Nat) : Int := 2 ^ k * 1 + subS a b c k
theorem lessS_carry (a b c : Int) (k : Nat) : subC a b c k = 1 - lessS a b c k / 2 ^ k := less_carry a b c k
theorem lessS_bd (a b c : Int) (k : Nat) : 0 ≤ lessS a b c k / 2 ^ k ∧ lessS a b c k / 2 ^ k ≤ 1 := by
  have h := lessS_carry a b c k
  unfold subC at h
  split at h <;> omega

theorem adder_sum (v u : Value) (a b c : Int) (k : Nat) (w : World) (h : isRow w v (digits a k)) (g : isRow w u (digits b k)) (hk : k ≤ 62) :
    Calls Try.prog 22 #[v, u, .int .i64 (c % 2)] w fun e w' => ∃ r, e = .returned (.tuple #[r, .int .i64 (addS a b c k / 2 ^ k)]) ∧ own w.heap.size w' r (digits (addS a b c k) k) ∧ Below w.heap.size w w' := by
  have := adder_any v u (digits a k) (digits b k) (c % 2) w h g (by rw [digits_len, digits_len]) (by rw [digits_len]; exact hk) (digits_bits _ _) (digits_bits _ _) (by unfold isBit; omega)
  rw [digits_len, adds_sum] at this
  exact this
theorem adder_less (v u : Value) (a b c : Int) (k : Nat) (w : World) (h : isRow w v (digits a k)) (g : isRow w u (inv (digits b k))) (hk : k ≤ 62) :
    Calls Try.prog 22 #[v, u, .int .i64 (1 - c % 2)] w fun e w' => ∃ r, e = .returned (.tuple #[r, .int .i64 (lessS a b c k / 2 ^ k)]) ∧ own w.heap.size w' r (digits (lessS a b c k) k) ∧ Below w.heap.size w w' := by
  have := adder_any v u (digits a k) (inv (digits b k)) (1 - c % 2) w h g (by rw [inv_len, digits_len, digits_len]) (by rw [digits_len]; exact hk) (digits_bits _ _) (inv_bits (digits_bits _ _)) (by unfold isBit; omega)
  rw [digits_len, adds_less] at this
  exact this
theorem digits2_form (n b : Int) (w : World) :
    Calls Try.prog 13 #[.int .i64 n, .int .i64 b] w fun e w' => ∃ sp sCap, e = .returned (.slice sp (wd b) sCap) ∧
      own w.heap.size w' (.slice sp (wd b) sCap) (digits n (wd b)) ∧ Below w.heap.size w w' :=
  (digits2_any n b w).mono fun _ _ ⟨v, he, ho, hb⟩ => by
    obtain ⟨sp, sCap, hv, _⟩ := own_form ho
    rw [digits_len] at hv
    subst hv
    exact ⟨sp, sCap, he, ho, hb⟩

theorem isRow_take {w : World} {b off cap : Nat} {l : List Int} (c : Nat) (h1 : b < w.heap.size) (h2 : l.length ≤ cap) (h3 : cap ≤ 9223372036854775807)
    (h4 : ∀ j, j < l.length → w.cell? ⟨b, off + j, none⟩ = some (.int .i64 (l.getD j 0))) (h : c ≤ l.length) : isRow w (.slice (some ⟨b, off, none⟩) c cap) ((l.drop 0).take c) :=
  isRow_sub (cap := cap) 0 c h1 h2 h3 h4 (by omega)

theorem cells_of_heap {w : World} {g : Nat} {l : List Int} {Y : List Value} (hg : w.heap[g]? = some (.cells (l.map (Value.int .i64) ++ Y).toArray 3 (0, 0))) :
    ∀ j, j < l.length → w.cell? ⟨g, 0 + j, none⟩ = some (.int .i64 (l.getD j 0)) := fun j hj => by
  rw [Nat.zero_add, cell_of_row w g j _ 3 (0, 0) hg, List.getElem?_toArray, List.getElem?_append_left (by simpa using hj), List.getElem?_map, List.getD_eq_getElem?_getD, List.getElem?_eq_getElem hj]
  rfl

set_option maxRecDepth 100000 in
set_option maxHeartbeats 2000000 in
theorem bitAdds_walk (a b c n : Int) (w : World) :
    Calls Try.prog 5 #[.int .i64 a, .int .i64 b, .int .i64 c, .int .i64 n] w fun e w' => e = .returned (.bool true) ∧ Below w.heap.size w w' := by
  have hk := wd_le n
  have e3 := and_one c
  have hc01 : 0 ≤ c % 2 ∧ c % 2 ≤ 1 := by omega
  go_enter Try.func5, Try.ntmps5
  go_wp2_with fail
  refine (bits_law _).mono ?_
  rintro e w1 ⟨rfl, hq⟩
  go_wp2_with fail
  refine (digits2_form _ _ _).mono ?_
  rintro e w2 ⟨sp, sCap, rfl, ho2, hb2⟩
  have hx2 := own_row ho2
  have hB2 := (hq.below w.heap.size).trans (hb2.mono (by rw [hq.size]; exact Nat.le_refl _))
  clear ho2 hb2 hq
  go_wp2_with fail
  refine (digits2_any _ _ _).mono ?_
  rintro e w3 ⟨y, rfl, ho3, hb3⟩
  have hy3 := own_row ho3
  have hx3 := isRow_below hx2 hb3 (Nat.le_refl _)
  have hB3 := hB2.trans (hb3.mono hB2.size)
  clear ho3 hb3 hx2 hB2
  go_wp2_with fail
  refine (adder_sum _ _ a b c (wd n) _ hx3 hy3 hk).mono ?_
  rintro e w4 ⟨r1, rfl, ho4, hb4⟩
  have hr4 := own_row ho4
  have hx4 := isRow_below hx3 hb4 (Nat.le_refl _)
  have hy4 := isRow_below hy3 hb4 (Nat.le_refl _)
  have hB4 := hB3.trans (hb4.mono hB3.size)
  clear ho4 hb4 hx3 hy3 hB3
  go_wp2_with fail
  refine (inverse_any _ _ _ hy4 (digits_bits _ _) (by rw [digits_len]; exact hk)).mono ?_
  rintro e w5 ⟨r2, rfl, ho5, hb5⟩
  have hi5 := own_row ho5
  have hx5 := isRow_below hx4 hb5 (Nat.le_refl _)
  have hr5 := isRow_below hr4 hb5 (Nat.le_refl _)
  have hB5 := hB4.trans (hb5.mono hB4.size)
  clear ho5 hb5 hx4 hy4 hr4 hB4
  go_wp2_with fail
  refine (adder_less _ _ a b c (wd n) _ hx5 hi5 hk).mono ?_
  rintro e w6 ⟨r3, rfl, ho6, hb6⟩
  have hs6 := own_row ho6
  have hx6 := isRow_below hx5 hb6 (Nat.le_refl _)
  have hr6 := isRow_below hr5 hb6 (Nat.le_refl _)
  have hB6 := hB5.trans (hb6.mono hB5.size)
  clear ho6 hb6 hx5 hi5 hr5 hB5
  go_wp2_with fail
  refine (add_any _ _ _ _ _).mono ?_
  rintro e w7 ⟨rfl, hq7⟩
  have hs7 := isRow_below hs6 (hq7.below _) (Nat.le_refl _)
  have hx7 := isRow_below hx6 (hq7.below _) (Nat.le_refl _)
  have hr7 := isRow_below hr6 (hq7.below _) (Nat.le_refl _)
  have hB7 := hB6.trans (hq7.below _)
  clear hq7 hs6 hx6 hr6 hB6
  go_wp2_with fail
  refine (sub_any _ _ _ _ _).mono ?_
  rintro e w' ⟨rfl, rfl⟩
  go_wp2_with fail
  refine (rol_any _ _ _ _).mono ?_
  rintro e w8 ⟨rfl, hq8⟩
  have hs8 := isRow_below hs7 (hq8.below _) (Nat.le_refl _)
  have hx8 := isRow_below hx7 (hq8.below _) (Nat.le_refl _)
  have hr8 := isRow_below hr7 (hq8.below _) (Nat.le_refl _)
  have hB8 := hB7.trans (hq8.below _)
  clear hq8 hs7 hx7 hr7 hB7
  go_wp2_with fail
  refine (ror_any _ _ _ _).mono ?_
  rintro e w' ⟨rfl, rfl⟩
  have hdl := digits_len a (wd n)
  have Hdl := Lib.hid hdl
  clear hdl
  have hsz8 := hB8.size
  have hxa := isRow_below hx8 ((Below.refl w8.heap.size w8).alloc (Nat.le_refl _) (.cells #[.int .i64 (c % 2)] 3)) (Nat.le_refl _)
  go_upto_region 11 with (at_builtin; refine wpList_append_row rfl _ _ 25 rfl Try.underlying25 infoI w8.heap.size _ _ rfl rfl [c % 2] (digits a (wd n)) (own_one _ _ _ (Nat.le_refl _)) hxa ?c1 ?c2 ?_)
  case c1 => show 1 + _ ≤ _; rw [Hdl.out]; omega
  case c2 => simp
  intro v9 w9 ho9 hb9
  have hL4 : (c % 2 :: digits a (wd n)).length = wd n + 1 := by rw [List.length_cons, Hdl.out]
  obtain ⟨g4, cap4, Y4, rfl, hBg4, hgs4, hg4, hcap4, hcap4m⟩ := own_open ho9 (by rw [hL4]; omega)
  rw [hL4] at hcap4 ⊢
  have HL4 := Lib.hid hL4
  have Hcap4 := Lib.hid hcap4
  have hcap4b : wd n + 1 ≤ cap4 := by omega
  have hB9 := hB8.trans ((((Below.refl w8.heap.size w8).alloc (Nat.le_refl _) (.cells #[.int .i64 (c % 2)] 3)).trans hb9).mono hsz8)
  have hx9 := isRow_below hx8 (((Below.refl w8.heap.size w8).alloc (Nat.le_refl _) (.cells #[.int .i64 (c % 2)] 3)).trans hb9) (Nat.le_refl _)
  have hs9 := isRow_below hs8 (((Below.refl w8.heap.size w8).alloc (Nat.le_refl _) (.cells #[.int .i64 (c % 2)] 3)).trans hb9) (Nat.le_refl _)
  have hr9 := isRow_below hr8 (((Below.refl w8.heap.size w8).alloc (Nat.le_refl _) (.cells #[.int .i64 (c % 2)] 3)).trans hb9) (Nat.le_refl _)
  clear hL4 hcap4 ho9 hb9 hxa hs8 hr8 hx8 hB8
  go_wp2_with fail
  refine (clone_any _ _ _ hx9 (by rw [Hdl.out]; omega)).mono ?_
  rintro e w10 ⟨v10, rfl, ho10, hb10⟩
  have hsz10 := hb10.size
  clear hx9
  go_upto_region 12 with (at_builtin; refine wpList_append_row rfl _ _ 25 rfl Try.underlying25 infoI w9.heap.size _ _ rfl rfl (digits a (wd n)) [c % 2] (own_alloc ho10 _) (row_one _ _) ?c1 ?c2 ?_)
  case c1 => rw [Hdl.out]; show _ + 1 ≤ _; omega
  case c2 => simp; omega
  intro v11 w11 ho11 hb11
  have hab := ((Below.refl w9.heap.size w10).alloc hsz10 (.cells #[.int .i64 (c % 2)] 3)).trans hb11
  have hL6 : (digits a (wd n) ++ [c % 2]).length = wd n + 1 := by rw [List.length_append, Hdl.out]; rfl
  obtain ⟨g6, cap6, Y6, rfl, hBg6, hgs6, hg6, hcap6, hcap6m⟩ := own_open ho11 (by rw [hL6]; omega)
  rw [hL6] at hcap6 ⊢
  have HL6 := Lib.hid hL6
  have Hcap6 := Lib.hid hcap6
  have hcap6b : wd n + 1 ≤ cap6 := by omega
  clear hcap6 hL6
  have hb11' := hb10.trans hab
  have hg11 := (hb11'.block g4 hgs4).trans hg4
  have hs11 := isRow_below hs9 hb11' (Nat.le_refl _)
  have hr11 := isRow_below hr9 hb11' (Nat.le_refl _)
  have hB11 := hB9.trans (hb11'.mono hB9.size)
  have hgs11 : g4 < w11.heap.size := Nat.lt_of_lt_of_le hgs4 hb11'.size
  have hc4 := cells_of_heap hg11
  have hc6 := cells_of_heap hg6
  have hall := isRow_take (cap := cap4) (wd n) hgs11 (by rw [HL4.out]; exact hcap4b) hcap4m hc4 (by rw [HL4.out]; omega)
  have hlost : w11.cell? ⟨g4, wd n, none⟩ = some (.int .i64 (rolS a c (wd n) / 2 ^ wd n)) := by
    have h := hc4 (wd n) (by rw [HL4.out]; omega)
    rw [Nat.zero_add] at h
    rw [h]; exact congrArg (fun x => some (Value.int .i64 x)) (rol_lost a c (wd n))
  have hgone : w11.cell? ⟨g6, 0, none⟩ = some (.int .i64 (rorS a c (wd n) % 2)) := by
    have h := hc6 0 (by rw [HL6.out]; omega)
    rw [Nat.zero_add] at h
    rw [h]; exact congrArg (fun x => some (Value.int .i64 x)) (ror_gone a c (wd n))
  have E1 := of2_digits (addS a b c (wd n)) (wd n)
  have E2 : of2 (digits (lessS a b c (wd n)) (wd n)) = lo (subS a b c (wd n)) (wd n) := (of2_digits _ _).trans (less_low a b c (wd n))
  have E4 := lessS_carry a b c (wd n)
  have hlb := lessS_bd a b c (wd n)
  obtain ⟨LA, hLA, hLA1, hLA2, E5⟩ : ∃ LA : List Int, isRow w11 (.slice (some ⟨g4, 0, none⟩) (wd n) cap4) LA ∧ areBits LA ∧ LA.length ≤ 62 ∧ of2 LA = lo (rolS a c (wd n)) (wd n) :=
    ⟨_, hall, take_bits (drop_bits (fun x hx => by
      rcases List.mem_cons.1 hx with h | h
      · subst h; exact hc01
      · exact digits_bits _ _ x h) 0) _, Nat.le_trans (List.length_take_le _ _) hk, rol_left a c (wd n)⟩
  have hb6 : areBits (digits a (wd n) ++ [c % 2]) := fun x hx => by
    rcases List.mem_append.1 hx with h | h
    · exact digits_bits _ _ x h
    · have : x = c % 2 := by simpa using h
      subst this; exact hc01
  have hback : ∃ LB : List Int, isRow w11 (.slice (some ⟨g6, if cap6 = 1 then 0 else 1, none⟩) (wd n) (cap6 - 1)) LB ∧ areBits LB ∧ LB.length ≤ 62 ∧ of2 LB = rorS a c (wd n) / 2 := by
    refine ⟨_, ?_, take_bits (drop_bits hb6 1) (wd n), Nat.le_trans (List.length_take_le _ _) hk, ror_right a c (wd n)⟩
    by_cases h1 : cap6 = 1
    · rw [if_pos h1]
      have hz : wd n = 0 := by omega
      rw [hz, h1]
      exact .inr ⟨g6, 0, 0, rfl, hgs6, Nat.le_refl _, by decide, fun j hj => by simp at hj⟩
    · rw [if_neg h1]
      have h := isRow_sub (cap := cap6) (off := 0) 1 (wd n) hgs6 (by rw [HL6.out]; exact hcap6b) hcap6m hc6 (by rw [HL6.out]; omega)
      rw [Nat.zero_add] at h
      exact h
  obtain ⟨LB, hLB, hLB1, hLB2, E6⟩ := hback
  clear hc4 hc6 hall hg11 hg6 hg4 hb6 hab hb11 hb10 hb11' hs9 hr9 hB9 ho10 ho11
  go_wp2_with fail
  refine (of2_any _ _ _ hr11 (digits_bits _ _) (by rw [digits_len]; exact hk)).mono ?_
  rintro e w' ⟨rfl, rfl⟩
  go_wp2_with fail
  refine (of2_any _ _ _ hs11 (digits_bits _ _) (by rw [digits_len]; exact hk)).mono ?_
  rintro e w' ⟨rfl, rfl⟩
  go_wp2_with fail
  refine (of2_any _ _ _ hLA hLA1 hLA2).mono ?_
  rintro e w' ⟨rfl, rfl⟩
  by_cases h1 : cap6 = 1
  · rw [if_pos h1] at hLB
    subst h1
    clear hcap6b hcap6m
    go_wp2_with fail
    refine (of2_any _ _ _ hLB hLB1 hLB2).mono ?_
    rintro e w' ⟨rfl, rfl⟩
    go_wp2
    go_ret
    exact ⟨rfl, hB11⟩
  · rw [if_neg h1] at hLB
    go_wp2_with fail
    refine (of2_any _ _ _ hLB hLB1 hLB2).mono ?_
    rintro e w' ⟨rfl, rfl⟩
    go_wp2
    go_ret
    exact ⟨rfl, hB11⟩
end Go.Proofs.Ytciedmpmjhnnpaa
