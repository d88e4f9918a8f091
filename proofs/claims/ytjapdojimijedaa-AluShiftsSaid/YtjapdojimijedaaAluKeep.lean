/- The laws AluSums, AluCompares and AluShifts. -/
import Derived.Test.YtjapdojimijedaaAluRegs
import Derived.Test.YtjapdojimijedaaAluPure
import Derived.Test.YtjapdojimijedaaAluEq
namespace Go.Proofs.Ytjapdojimijedaa
open Go.RowKit

theorem ne_up {a b c : Nat} (h : a < b) (g : b ≤ c) : c ≠ a := by omega
set_option maxHeartbeats 4000000 in
theorem aluSums_walk (v : Value) (l : List Int) (w : World) (h : isArg w v l) (hwf : ∀ x ∈ l, (Lit.int .i64 x).wf = true) :
    Calls Try.prog 4 #[v] w fun e w' => e = .returned (.bool true) ∧ Below w.heap.size w w' := by
  obtain ⟨sa, sl, scap, rfl⟩ : ∃ a n c, v = .slice a n c := by
    rcases h with ⟨a, cap, rfl, _⟩ | ⟨b, off, cap, rfl, _⟩ <;> exact ⟨_, _, _, rfl⟩
  go_enter Try.func4, Try.ntmps4
  go_upto_region 2 with (first
    | (go_at_call 13; refine (registers_any _ l _ h hwf).mono ?_; rintro e w1 ⟨f, rfl, hf, hb⟩; have hz := regB_new w1 25 (fun _ => 0))
    | (refine wpList_store9 rfl 25 _ _ rfl (w1.heap.size) rfl (f) rfl 25 (fun _ => 0) ?_ is9R ?_; exact hz))
  have hA := regB_row hz f
  have bA := below_rowR (hb.alloc hb.size (.cells (arr9 fun _ => 0) 25)) (arr9 f) hb.size
  rw [zero9]
  generalize (w1.alloc (.cells (arr9 fun _ => 0) 25)).setRow w1.heap.size (arr9 f) = wA at *
  have lA := regB_lt hA
  have la := hb.size
  generalize w1.heap.size = a at *
  clear hz hb
  have f4 := fits4 hf
  have f0 : 0 ≤ f 0 ∧ f 0 < 256 := ⟨(hf 0).1, (hf 0).2.2 (by decide) (by decide)⟩
  have f1 : 0 ≤ f 1 ∧ f 1 < 256 := ⟨(hf 1).1, (hf 1).2.2 (by decide) (by decide)⟩
  have f2 : 0 ≤ f 2 ∧ f 2 < 256 := ⟨(hf 2).1, (hf 2).2.2 (by decide) (by decide)⟩
  have hn4 := sumN_bd 4 (f 0) (f 1) (f 4 % 2)
  have hc4 := sumC_bd 4 (f 0) (f 1) (f 4 % 2)
  have hp4 := car_bd (f 4) _ f4 hc4
  have hq4 := flg_bd _ (sumN 4 (f 0) (f 1) (f 4 % 2)) hp4
  have F4 : sumF 4 0 1 f 4 = flg (car (f 4) (sumC 4 (f 0) (f 1) (f 4 % 2))) (sumN 4 (f 0) (f 1) (f 4 % 2)) := rfl
  have F0 : sumF 4 0 1 f 0 = sumN 4 (f 0) (f 1) (f 4 % 2) := rfl
  have F1 : sumF 4 0 1 f 1 = f 1 := rfl
  have hd1 := do_any 4 0 1 0 f
  rw [show reg 0 = 0 from rfl, show reg 1 = 1 from rfl, do_sum hf 4 0 1 0 (by simp), show endB 4 ((1 : Nat) : Int) 0 (fitR f) = false from rfl] at hd1
  have hFf := sumF_fits hf 4 0 1
  have hback := sum_back (b := f 1) (c := f 4 % 2) f0
  have hfz := flg_zero hp4 hn4
  have hfn := flg_neg hp4 hn4
  rw [← F4, ← F0] at hfz hfn
  rw [← F4] at hq4
  rw [← F0] at hback hn4
  clear F4 hp4 hc4
  have e1 := and_one (f 4)
  generalize sumF 4 0 1 f = F at *
  have e2 := not1 hq4
  have e3 := orc hq4 (c := 1) (by simp)
  obtain ⟨V, hV⟩ : ∃ V, V = F 4 - F 4 % 2 + 1 - f 4 % 2 := ⟨_, rfl⟩
  have HV := Lib.hid hV
  have hVb : 0 ≤ V ∧ V < 256 := by omega
  have hV2 : V % 2 = 1 - f 4 % 2 := by omega
  have hGf : fits (setR F 4 V) := fits_set hFf 4 V hVb.1 hVb.2
  have hd2 := do_any 5 0 1 0 (setR F 4 V)
  rw [show reg 0 = 0 from rfl, show reg 1 = 1 from rfl, do_sum hGf 5 0 1 0 (by simp), show endB 5 ((1 : Nat) : Int) 0 (fitR (setR F 4 V)) = false from rfl] at hd2
  have G0 : sumF 5 0 1 (setR F 4 V) 0 = f 0 := by
    have : sumF 5 0 1 (setR F 4 V) 0 = sumN 5 (F 0) (F 1) (V % 2) := rfl
    rw [this, F1, hV2, hback]
  generalize sumF 5 0 1 (setR F 4 V) = G at *
  clear hback hV hV2 hGf hFf hf f1 f2 F0 F1
  have cA4 := regB_cell hA 4 (by decide)
  go_upto_region 3 with (fail)
  clear cA4
  go_upto_region 4 with (first
    | (go_at_call 11; refine (hd1 _).mono ?_; rintro e w2 ⟨rfl, hb2⟩; have hz2 := regB_new w2 25 (fun _ => 0))
    | (refine wpList_load9 rfl 25 _ rfl (a) rfl 25 (f) ?_ is9R ?_; with_reducible exact hA) | (refine wpList_store9 rfl 25 _ _ rfl (w2.heap.size) rfl (F) rfl 25 (fun _ => 0) ?_ is9R ?_; exact hz2))
  have hB := regB_row hz2 F
  have bB := below_rowR ((bA.trans (hb2.mono bA.size)).alloc (Nat.le_trans bA.size hb2.size) (.cells (arr9 fun _ => 0) 25)) (arr9 F) (Nat.le_trans bA.size hb2.size)
  have hA2 := regB_row_other (regB_alloc (regB_below hA hb2 lA) (.cells (arr9 fun _ => 0) 25)) (arr9 F) (ne_up lA hb2.size)
  have lb : a < w2.heap.size := Nat.lt_of_lt_of_le lA hb2.size
  have lB := regB_lt hB
  rw [zero9]
  clear hA bA lA hb2 hz2 hd1
  generalize (w2.alloc (.cells (arr9 fun _ => 0) 25)).setRow w2.heap.size (arr9 F) = wB at *
  generalize w2.heap.size = b at *
  go_upto_region 5 with (first | (refine wpList_load9 rfl 25 _ rfl (b) rfl 25 (F) ?_ is9R ?_; with_reducible exact hB) | (refine wpList_store9 rfl 25 _ _ rfl (wB.heap.size) rfl (F) rfl 25 (fun _ => 0) ?_ is9R ?_; exact (regB_new wB 25 (fun _ => 0))))
  have hC := regB_row (regB_new wB 25 (fun _ => 0)) F
  have bC := below_rowR (bB.alloc bB.size (.cells (arr9 fun _ => 0) 25)) (arr9 F) bB.size
  have hA3 := regB_row_other (regB_alloc hA2 (.cells (arr9 fun _ => 0) 25)) (arr9 F) (by have := regB_lt hA2; omega : wB.heap.size ≠ a)
  have hB3 := regB_row_other (regB_alloc hB (.cells (arr9 fun _ => 0) 25)) (arr9 F) (by omega : wB.heap.size ≠ b)
  rw [zero9]
  have lc := bB.size
  clear hA2 hB bB
  generalize (wB.alloc (.cells (arr9 fun _ => 0) 25)).setRow wB.heap.size (arr9 F) = wC at *
  generalize wB.heap.size = c at *
  have cC4 := regB_cell hC 4 (by decide)
  have cF4 := regB_free hC 4
  go_upto_region 6 with (fail)
  simp only [← HV.out]
  have hC4 := regB_set hC 4 V (by decide)
  have hA4 := regB_other hA3 ⟨c, 4, none⟩ (.int .i64 V) (by show c ≠ a; omega)
  have hB4 := regB_other hB3 ⟨c, 4, none⟩ (.int .i64 V) (by show c ≠ b; omega)
  have bC4 := bC.setCell (p := ⟨c, 4, none⟩) lc (.int .i64 V)
  clear hC hA3 hB3 bC cC4 cF4
  generalize wC.setCell ⟨c, 4, none⟩ (.int .i64 V) = wD at *
  go_upto_region 7 with (first
    | (go_at_call 11; refine (hd2 _).mono ?_; rintro e w5 ⟨rfl, hb5⟩; have hC5 := regB_below hC4 hb5 (regB_lt hC4); have hA5 := regB_below hA4 hb5 (regB_lt hA4); have hB5 := regB_below hB4 hb5 (regB_lt hB4); have bC5 := bC4.trans (hb5.mono bC4.size))
    | (refine wpList_load9 rfl 25 _ rfl (c) rfl 25 (setR F 4 V) ?_ is9R ?_; with_reducible exact hC4) | (refine wpList_store9 rfl 25 _ _ rfl (c) rfl (G) rfl 25 (setR F 4 V) ?_ is9R ?_; exact hC5))
  have hC6 := regB_row hC5 G
  have hA6 := regB_row_other hA5 (arr9 G) (by omega : c ≠ a)
  have hB6 := regB_row_other hB5 (arr9 G) (by omega : c ≠ b)
  have bC6 := below_rowR bC5 (arr9 G) lc
  clear hC4 hA4 hB4 bC4 hC5 hA5 hB5 bC5 hb5 hd2
  generalize w5.setRow c (arr9 G) = w6 at *
  by_cases hz0 : F 0 = 0
  · rw [if_pos hz0] at hfz
    rw [if_neg (by omega)] at hfn
    go_wp2_with (go_at_call 14; refine (does_keep _).mono ?_; rintro e w7 ⟨rfl, hb7⟩; have hC7 := regB_below hC6 hb7 (regB_lt hC6); have hA7 := regB_below hA6 hb7 (regB_lt hA6); have hB7 := regB_below hB6 hb7 (regB_lt hB6); have bC7 := bC6.trans (hb7.mono bC6.size); have c0 := regB_cell hC7 0 (by decide); have a0 := regB_cell hA7 0 (by decide); have b0 := regB_cell hB7 0 (by decide); have b4 := regB_cell hB7 4 (by decide); rw [G0] at c0)
    go_ret
    exact ⟨rfl, bC7⟩
  · rw [if_neg hz0] at hfz
    have hz1 : (F 0 == 0) = false := by simpa using hz0
    by_cases hn0 : 128 ≤ F 0
    · rw [if_pos hn0] at hfn
      go_wp2_with (go_at_call 14; refine (does_keep _).mono ?_; rintro e w7 ⟨rfl, hb7⟩; have hC7 := regB_below hC6 hb7 (regB_lt hC6); have hA7 := regB_below hA6 hb7 (regB_lt hA6); have hB7 := regB_below hB6 hb7 (regB_lt hB6); have bC7 := bC6.trans (hb7.mono bC6.size); have c0 := regB_cell hC7 0 (by decide); have a0 := regB_cell hA7 0 (by decide); have b0 := regB_cell hB7 0 (by decide); have b4 := regB_cell hB7 4 (by decide); rw [G0] at c0)
      go_ret
      exact ⟨rfl, bC7⟩
    · rw [if_neg hn0] at hfn
      have hn1 : decide (128 ≤ F 0) = false := by simpa using hn0
      go_wp2_with (go_at_call 14; refine (does_keep _).mono ?_; rintro e w7 ⟨rfl, hb7⟩; have hC7 := regB_below hC6 hb7 (regB_lt hC6); have hA7 := regB_below hA6 hb7 (regB_lt hA6); have hB7 := regB_below hB6 hb7 (regB_lt hB6); have bC7 := bC6.trans (hb7.mono bC6.size); have c0 := regB_cell hC7 0 (by decide); have a0 := regB_cell hA7 0 (by decide); have b0 := regB_cell hB7 0 (by decide); have b4 := regB_cell hB7 4 (by decide); rw [G0] at c0)
      go_ret
      exact ⟨rfl, bC7⟩
set_option maxHeartbeats 4000000 in
theorem aluCompares_walk (v : Value) (l : List Int) (w : World) (h : isArg w v l) (hwf : ∀ x ∈ l, (Lit.int .i64 x).wf = true) :
    Calls Try.prog 5 #[v] w fun e w' => e = .returned (.bool true) ∧ Below w.heap.size w w' := by
  obtain ⟨sa, sl, scap, rfl⟩ : ∃ a n c, v = .slice a n c := by
    rcases h with ⟨a, cap, rfl, _⟩ | ⟨b, off, cap, rfl, _⟩ <;> exact ⟨_, _, _, rfl⟩
  go_enter Try.func5, Try.ntmps5
  go_upto_region 2 with (first
    | (go_at_call 13; refine (registers_any _ l _ h hwf).mono ?_; rintro e w1 ⟨f, rfl, hf, hb⟩; have hz := regB_new w1 25 (fun _ => 0))
    | (refine wpList_store9 rfl 25 _ _ rfl (w1.heap.size) rfl (f) rfl 25 (fun _ => 0) ?_ is9R ?_; exact hz))
  have hA := regB_row hz f
  have bA := below_rowR (hb.alloc hb.size (.cells (arr9 fun _ => 0) 25)) (arr9 f) hb.size
  rw [zero9]
  generalize (w1.alloc (.cells (arr9 fun _ => 0) 25)).setRow w1.heap.size (arr9 f) = wA at *
  have lA := regB_lt hA
  have la := hb.size
  generalize w1.heap.size = a at *
  clear hz hb
  have f4 := fits4 hf
  have f0 : 0 ≤ f 0 ∧ f 0 < 256 := ⟨(hf 0).1, (hf 0).2.2 (by decide) (by decide)⟩
  have f1 : 0 ≤ f 1 ∧ f 1 < 256 := ⟨(hf 1).1, (hf 1).2.2 (by decide) (by decide)⟩
  have f2 : 0 ≤ f 2 ∧ f 2 < 256 := ⟨(hf 2).1, (hf 2).2.2 (by decide) (by decide)⟩
  have hn := sumN_bd 6 (f 1) (f 2) (f 4 % 2)
  have hc := sumC_bd 6 (f 1) (f 2) (f 4 % 2)
  have hp := car_bd (f 4) _ f4 hc
  have hq := flg_bd _ (sumN 6 (f 1) (f 2) (f 4 % 2)) hp
  have F4 : sumF 6 1 2 f 4 = flg (car (f 4) (sumC 6 (f 1) (f 2) (f 4 % 2))) (sumN 6 (f 1) (f 2) (f 4 % 2)) := rfl
  have hd1 := do_any 6 1 2 0 f
  rw [show reg 1 = 1 from rfl, show reg 2 = 2 from rfl, do_sum hf 6 1 2 0 (by simp), show endB 6 ((2 : Nat) : Int) 0 (fitR f) = false from rfl] at hd1
  have hback : setR (sumF 6 1 2 f) 4 (f 4) = f := by
    have : sumF 6 1 2 f = setR f 4 (flg (car (f 4) (sumC 6 (f 1) (f 2) (f 4 % 2))) (sumN 6 (f 1) (f 2) (f 4 % 2))) := rfl
    rw [this, setR_setR, setR_self]
  have hfz := flg_zero hp hn
  have hfc := and_one (sumF 6 1 2 f 4)
  have hm : sumF 6 1 2 f 4 % 2 = if f 2 ≤ f 1 then 1 else 0 := by rw [F4, flg_c hp, car_c hc, cmp_c f1 f2]
  rw [hm] at hfc
  clear hm
  have hz := cmp_z (c := f 4 % 2) f1 f2
  rw [← F4] at hfz
  clear F4 hp hc hq
  generalize sumN 6 (f 1) (f 2) (f 4 % 2) = N at *
  generalize sumF 6 1 2 f = F at *
  go_upto_region 3 with (first
    | (go_at_call 11; refine (hd1 _).mono ?_; rintro e w2 ⟨rfl, hb2⟩; have hz2 := regB_new w2 25 (fun _ => 0))
    | (refine wpList_load9 rfl 25 _ rfl (a) rfl 25 (f) ?_ is9R ?_; with_reducible exact hA) | (refine wpList_store9 rfl 25 _ _ rfl (w2.heap.size) rfl (F) rfl 25 (fun _ => 0) ?_ is9R ?_; exact hz2))
  have hB := regB_row hz2 F
  have bB := below_rowR ((bA.trans (hb2.mono bA.size)).alloc (Nat.le_trans bA.size hb2.size) (.cells (arr9 fun _ => 0) 25)) (arr9 F) (Nat.le_trans bA.size hb2.size)
  have hA2 := regB_row_other (regB_alloc (regB_below hA hb2 lA) (.cells (arr9 fun _ => 0) 25)) (arr9 F) (ne_up lA hb2.size)
  have lb : a < w2.heap.size := Nat.lt_of_lt_of_le lA hb2.size
  rw [zero9]
  clear hA bA lA hb2 hz2
  generalize (w2.alloc (.cells (arr9 fun _ => 0) 25)).setRow w2.heap.size (arr9 F) = wB at *
  generalize w2.heap.size = b at *
  clear hd1
  have cB4 := regB_cell hB 4 (by decide)
  have cF4 := regB_free hB 4
  have cA4 := regB_cell hA2 4 (by decide)
  go_upto_region 5 with (fail)
  have hB4 := regB_set hB 4 (f 4) (by decide)
  rw [hback] at hB4
  have hA4 := regB_other hA2 ⟨b, 4, none⟩ (.int .i64 (f 4)) (by show b ≠ a; omega)
  have bB4 := bB.setCell (p := ⟨b, 4, none⟩) (Nat.le_trans la (Nat.le_of_lt lb)) (.int .i64 (f 4))
  clear hB hA2 bB cB4 cF4 cA4 hback
  generalize wB.setCell ⟨b, 4, none⟩ (.int .i64 (f 4)) = w6 at *
  have he : ∀ w, (Op.equalIn 10000 25 (.agg #[.int .i64 (f 0), .int .i64 (f 1), .int .i64 (f 2), .int .i64 (f 3), .int .i64 (f 4), .int .i64 (f 5), .int .i64 (f 6), .int .i64 (f 7), .int .i64 (f 8)]) (.agg #[.int .i64 (f 0), .int .i64 (f 1), .int .i64 (f 2), .int .i64 (f 3), .int .i64 (f 4), .int .i64 (f 5), .int .i64 (f 6), .int .i64 (f 7), .int .i64 (f 8)])).run Try.prog w = .ok true w := equal9 9998 f
  have hg : Try.prog.eqGuardType Try.prog.depth 25 = false := by kernel_rfl
  generalize hP : F 4 = P at *
  rcases (by omega : f 1 = f 2 ∨ f 2 < f 1 ∨ f 1 < f 2) with h12 | h12 | h12
  · rw [if_pos (by omega)] at hfc
    rw [if_pos (hz.2 h12)] at hfz
    have h12b : (f 1 == f 2) = true := by simpa using h12
    have h12c : f 2 ≤ f 1 := by omega
    clear hz hP h12
    go_wp2_with (go_at_call 14; refine (does_keep _).mono ?_; rintro e w7 ⟨rfl, hb7⟩; have hB7 := regB_below hB4 hb7 (regB_lt hB4); have hA7 := regB_below hA4 hb7 (regB_lt hA4); have bC7 := bB4.trans (hb7.mono bB4.size); obtain ⟨a0, a1, a2, a3, a4, a5, a6, a7, a8⟩ := regB_cells hA7; obtain ⟨b0, b1, b2, b3, b4, b5, b6, b7, b8⟩ := regB_cells hB7)
    go_ret
    exact ⟨rfl, bC7⟩
  · have h12' : ¬ f 1 = f 2 := by omega
    have h12b : (f 1 == f 2) = false := by simpa using h12'
    have h12c : f 2 ≤ f 1 := by omega
    rw [if_pos (by omega)] at hfc
    rw [if_neg (fun h => h12' (hz.1 h))] at hfz
    clear hz hP
    go_wp2_with (go_at_call 14; refine (does_keep _).mono ?_; rintro e w7 ⟨rfl, hb7⟩; have hB7 := regB_below hB4 hb7 (regB_lt hB4); have hA7 := regB_below hA4 hb7 (regB_lt hA4); have bC7 := bB4.trans (hb7.mono bB4.size); obtain ⟨a0, a1, a2, a3, a4, a5, a6, a7, a8⟩ := regB_cells hA7; obtain ⟨b0, b1, b2, b3, b4, b5, b6, b7, b8⟩ := regB_cells hB7)
    go_ret
    exact ⟨rfl, bC7⟩
  · have h12' : ¬ f 1 = f 2 := by omega
    have h12b : (f 1 == f 2) = false := by simpa using h12'
    have h12c : decide (f 2 ≤ f 1) = false := by simp; omega
    have h12d : ¬ f 2 ≤ f 1 := by omega
    rw [if_neg (by omega)] at hfc
    rw [if_neg (fun h => h12' (hz.1 h))] at hfz
    clear hz hP
    go_wp2_with (go_at_call 14; refine (does_keep _).mono ?_; rintro e w7 ⟨rfl, hb7⟩; have hB7 := regB_below hB4 hb7 (regB_lt hB4); have hA7 := regB_below hA4 hb7 (regB_lt hA4); have bC7 := bB4.trans (hb7.mono bB4.size); obtain ⟨a0, a1, a2, a3, a4, a5, a6, a7, a8⟩ := regB_cells hA7; obtain ⟨b0, b1, b2, b3, b4, b5, b6, b7, b8⟩ := regB_cells hB7)
    go_ret
    exact ⟨rfl, bC7⟩
set_option maxHeartbeats 4000000 in
theorem aluShifts_walk (v : Value) (l : List Int) (w : World) (h : isArg w v l) (hwf : ∀ x ∈ l, (Lit.int .i64 x).wf = true) :
    Calls Try.prog 6 #[v] w fun e w' => e = .returned (.bool true) ∧ Below w.heap.size w w' := by
  obtain ⟨sa, sl, scap, rfl⟩ : ∃ a n c, v = .slice a n c := by
    rcases h with ⟨a, cap, rfl, _⟩ | ⟨b, off, cap, rfl, _⟩ <;> exact ⟨_, _, _, rfl⟩
  go_enter Try.func6, Try.ntmps6
  go_upto_region 2 with (first
    | (go_at_call 13; refine (registers_any _ l _ h hwf).mono ?_; rintro e w1 ⟨f, rfl, hf, hb⟩; have hz := regB_new w1 25 (fun _ => 0))
    | (refine wpList_store9 rfl 25 _ _ rfl (w1.heap.size) rfl (f) rfl 25 (fun _ => 0) ?_ is9R ?_; exact hz))
  have hA := regB_row hz f
  have bA := below_rowR (hb.alloc hb.size (.cells (arr9 fun _ => 0) 25)) (arr9 f) hb.size
  rw [zero9]
  generalize (w1.alloc (.cells (arr9 fun _ => 0) 25)).setRow w1.heap.size (arr9 f) = wA at *
  have lA := regB_lt hA
  have la := hb.size
  generalize w1.heap.size = a at *
  clear hz hb
  have f4 := fits4 hf
  have f0 : 0 ≤ f 0 ∧ f 0 < 256 := ⟨(hf 0).1, (hf 0).2.2 (by decide) (by decide)⟩
  have f1 : 0 ≤ f 1 ∧ f 1 < 256 := ⟨(hf 1).1, (hf 1).2.2 (by decide) (by decide)⟩
  have f2 : 0 ≤ f 2 ∧ f 2 < 256 := ⟨(hf 2).1, (hf 2).2.2 (by decide) (by decide)⟩
  go_upto_region 3 with (first | (refine wpList_load9 rfl 25 _ rfl (a) rfl 25 (f) ?_ is9R ?_; with_reducible exact hA) | (refine wpList_store9 rfl 25 _ _ rfl (wA.heap.size) rfl (f) rfl 25 (fun _ => 0) ?_ is9R ?_; exact (regB_new wA 25 (fun _ => 0))))
  have hB := regB_row (regB_new wA 25 (fun _ => 0)) f
  have bB := below_rowR (bA.alloc bA.size (.cells (arr9 fun _ => 0) 25)) (arr9 f) bA.size
  have hA2 := regB_row_other (regB_alloc hA (.cells (arr9 fun _ => 0) 25)) (arr9 f) (by omega : wA.heap.size ≠ a)
  rw [zero9]
  have lc := bA.size
  clear hA bA
  generalize (wA.alloc (.cells (arr9 fun _ => 0) 25)).setRow wA.heap.size (arr9 f) = wB at *
  generalize wA.heap.size = b at *
  go_wp2_with fail
  go_loopw [8] (fun i wr => ∃ (k : Nat) (F : Nat → Int), k ≤ 9 ∧ i = .int .i64 k ∧ fits F ∧ nine_of F = rots k (nine_of f) ∧ regB wr b 25 F ∧ regB wr a 25 f ∧ Below w.heap.size w wr) (fun i _ => 9 - (intOf i).toNat)
  case atStart => exact ⟨0, f, by decide, rfl, hf, rfl, hB, hA2, bB⟩
  case round =>
    clear hB hA2 bB
    obtain ⟨k, F, hk, rfl, hF, hN, hB, hA, bB⟩ := hrel
    by_cases hlt : k < 9
    · have hd := do_any 14 0 0 0 F
      rw [show reg 0 = 0 from rfl, do_shift hF 0 0 0, show endB 14 ((0 : Nat) : Int) 0 (fitR F) = false from rfl] at hd
      have hF2 := shiftF_fits hF 14 0
      have hN2 : nine_of (shiftF 14 0 F) = rots (k + 1) (nine_of f) := by rw [shift_nine hF, hN]; rfl
      generalize shiftF 14 0 F = G at *
      have HN2 := Lib.hid hN2
      clear hN hN2
      go_wp2_with (first
        | (go_at_call 11; refine (hd _).mono ?_; rintro e w2 ⟨rfl, hb2⟩; have hB2 := regB_below hB hb2 (regB_lt hB); have hA2 := regB_below hA hb2 (regB_lt hA); have bB2 := bB.trans (hb2.mono bB.size))
        | (refine wpList_load9 rfl 25 _ rfl (b) rfl 25 (F) ?_ is9R ?_; with_reducible exact hB) | (refine wpList_store9 rfl 25 _ _ rfl (b) rfl (G) rfl 25 (F) ?_ is9R ?_; exact hB2))
      go_roundw
      case measure => simp [intOf]; omega
      case rel => exact ⟨k + 1, G, by omega, by go_num, hF2, HN2.out, regB_row hB2 G, regB_row_other hA2 (arr9 G) (by omega), below_rowR bB2 (arr9 G) lc⟩
    · obtain rfl : k = 9 := by omega
      have h4 := fits4 hF
      have h0 : 0 ≤ F 0 ∧ F 0 < 256 := ⟨(hF 0).1, (hF 0).2.2 (by decide) (by decide)⟩
      rw [rots9 (by unfold nine_of; omega) (by unfold nine_of; omega)] at hN
      unfold nine_of at hN
      have e0 : F 0 = f 0 := by omega
      have e4 : F 4 % 2 = f 4 % 2 := by omega
      have a1 := and_one (f 4)
      have a2 := and_one (F 4)
      rw [e4] at a2
      clear hN e4
      go_wp2_with (go_at_call 14; refine (does_keep _).mono ?_; rintro e w7 ⟨rfl, hb7⟩; have hB7 := regB_below hB hb7 (regB_lt hB); have hA7 := regB_below hA hb7 (regB_lt hA); have bC7 := bB.trans (hb7.mono bB.size); have b0 := regB_cell hB7 0 (by decide); have a0 := regB_cell hA7 0 (by decide); have b4 := regB_cell hB7 4 (by decide); have a4 := regB_cell hA7 4 (by decide); rw [e0] at b0)
      go_ret
      exact ⟨rfl, bC7⟩
end Go.Proofs.Ytjapdojimijedaa
