/- Contract of the reference's Stepped: each step of a processor. -/
import Derived.Test.YthhihmggaddlmaaAluRefSums
import Derived.Test.YthhihmggaddlmaaChecked
import Derived.Test.YthhihmggaddlmaaRefWalks
import Derived.Below
import Derived.BigQuiet
import Derived.Carry
import Derived.Deep.CutBlock
import Derived.Deep.DeepCutAuto
import Derived.Deep.Draws
import Derived.Deep.MidRow
import Derived.Deep.OwnRows
import Derived.Deep.QuietTactic
import Derived.Deep.RegionHeld3
import Derived.Deep.RegionLaw
import Derived.Deep.RegionWith
import Derived.Deep.WholeRow
import Derived.Lib.Hide
import Derived.Maps.Keyed
import Derived.Maps.Own
import Derived.Maps.OwnOps
import Derived.OrdersHeld
import Derived.OwnWalk
import Derived.RowKit3
import Derived.StillTactics
import Derived.StillTail
import Derived.StillTailTactics
import Derived.WalkKit
namespace Go.Proofs.Ythhihmggaddlmaa
set_option maxRecDepth 100000
open Go.RowKit

set_option maxRecDepth 100000 in
set_option maxHeartbeats 8000000 in
theorem stepped_A (d t0 u0 n : Int) (hd : d = 1 ∨ d = 2 ∨ d = 3 ∨ d = 16 ∨ d = 17 ∨ d = 22 ∨ d = 23 ∨ (d ≠ 1 ∧ d ≠ 2 ∧ d ≠ 3 ∧ d ≠ 4 ∧ d ≠ 5 ∧ d ≠ 6 ∧ d ≠ 7 ∧ d ≠ 8 ∧ d ≠ 9 ∧ d ≠ 10 ∧ d ≠ 11 ∧ d ≠ 12 ∧ d ≠ 13 ∧ d ≠ 14 ∧ d ≠ 15 ∧ d ≠ 16 ∧ d ≠ 17 ∧ d ≠ 18 ∧ d ≠ 19 ∧ d ≠ 20 ∧ d ≠ 21 ∧ d ≠ 22 ∧ d ≠ 23 ∧ d ≠ 24)) (f : Nat → Int) (w : World) :
    Calls Try.prog 59 #[.agg #[.int .i64 d, .int .i64 t0, .int .i64 u0, .int .i64 n], .agg (arr9 f)] w fun e w' =>
      e = .returned (.tuple #[.agg (arr9 (doF d (reg t0) (reg u0) n (fitR f))), .bool (endB d (reg u0) n (fitR f))]) ∧ Below w.heap.size w w' := by
  have hA := aluW.start w d t0 u0 n f
  have e1 := reg_eq t0
  have e2 := reg_eq u0
  have ht := reg_lt t0
  have hu := reg_lt u0
  have hfit := fits_fit f
  have hft := fittedRef_any f
  have hu1 : ((reg u0 : Int) == 1) = (u0 == 1) := reg_one u0
  generalize fitR f = g at *
  generalize reg t0 = t at *
  generalize reg u0 = u at *
  go_enter Try.func59, Try.ntmps59
  go_upto_region 1 with (fail)
  rw [zero9]
  have hA : aluW w (((w.alloc (.cells #[.int .i64 d, .int .i64 t0, .int .i64 u0, .int .i64 n] 100)).alloc (.cells (arr9 f) 27)).alloc (.cells (arr9 fun _ => 0) 27)) d t0 u0 n f := hA
  generalize ((w.alloc (.cells #[.int .i64 d, .int .i64 t0, .int .i64 u0, .int .i64 n] 100)).alloc (.cells (arr9 f) 27)).alloc (.cells (arr9 fun _ => 0) 27) = w1 at *
  go_upto_region 2 with (first
    | (go_at_call 51; with_reducible refine (hft _).mono ?_; rintro e w2 ⟨rfl, hb⟩; have hA2 := hA.call hb; clear hb)
    | (refine wpList_load9 rfl 27 _ rfl (w.heap.size + 1) rfl 27 (f) ?_ is9R ?_; with_reducible exact hA.hr) | (refine wpList_store9 rfl 27 _ _ rfl (w.heap.size + 1) rfl (g) rfl 27 (f) ?_ is9R ?_; with_reducible exact hA2.hr))
  have hA3 := hA2.row g
  generalize w2.setRow (w.heap.size + 1) (arr9 g) = w3 at *
  clear hft hA2 hA
  obtain ⟨s0, s1, s2, s3⟩ := hA3.steps
  refine wp_region_order (fun _ => True) [(0, false), (1, false), (2, false), (3, false), (4, false), (5, false), (6, false), (7, false)] [] (by kernel_rfl) (by kernel_rfl) (fun _ _ _ _ _ h => h) trivial ?_
  simp only [List.map_cons, List.map_nil, opOf, List.getD_cons_zero, List.getD_cons_succ]
  repeat (refine wpSteps_step (fun K hK => ?_); go_simp; refine hK _ ?_; clear hK K)
  (refine wpSteps_step (fun K hK => ?_); go_simp; refine ⟨_, ((limit_any _ _ _ (by decide) _).mono fun _ _ ⟨h, g⟩ => ⟨h, g.symm⟩), hK _ ?_⟩; clear hK K)
  repeat (refine wpSteps_step (fun K hK => ?_); go_simp; refine hK _ ?_; clear hK K)
  (refine wpSteps_step (fun K hK => ?_); go_simp; refine ⟨_, ((limit_any _ _ _ (by decide) _).mono fun _ _ ⟨h, g⟩ => ⟨h, g.symm⟩), hK _ ?_⟩; clear hK K)
  repeat (refine wpSteps_step (fun K hK => ?_); go_simp; refine hK _ ?_; clear hK K)
  refine wpSteps_nil ?_
  change wpTail _ _ _ _ _ _ w3.drew
  have hA4 := hA3.drew
  clear hA3 s0 s1 s2 s3 e1 e2
  generalize w3.drew = w4 at *
  unfold wpTail
  have g4 : 0 ≤ g 4 ∧ g 4 < 256 := ⟨(hfit 4).1, (hfit 4).2.2 (by decide) (by decide)⟩
  have gt : 0 ≤ g t ∧ g t < 65536 := ⟨(hfit t).1, (hfit t).2.1⟩
  have gu : 0 ≤ g u ∧ g u < 65536 := ⟨(hfit u).1, (hfit u).2.1⟩
  have i1 : (0 : Int) ≤ (t : Int) := by omega
  have i2 : (t : Int) < 9 := by omega
  have i3 : (0 : Int) ≤ (u : Int) := by omega
  have i4 : (u : Int) < 9 := by omega
  have ct := regB_cell hA4.hr t ht
  have cu := regB_cell hA4.hr u hu
  have c4 := regB_cell hA4.hr 4 (by decide)
  go_upto_region 3 with (fail)
  go_quiet (fail)
  have hA5 := hA4.drewN nq
  clear hA4 ct cu c4
  generalize w4.drewN nq = w5 at *
  have ct := regB_cell hA5.hr t ht
  have cu := regB_cell hA5.hr u hu
  have c4 := regB_cell hA5.hr 4 (by decide)
  go_upto_region 4 with (fail)
  go_quiet (fail)
  have hA6 := hA5.drewN nq
  clear hA5 ct cu c4
  generalize w5.drewN nq = w6 at *
  obtain ⟨s0, s1, s2, s3⟩ := hA6.steps
  go_upto_block 0 with (fail)
  go_cut [11, 12] (fun o p wx => ∃ (O Pf : Int), o = .int .i64 O ∧ p = .int .i64 Pf ∧ aluW w wx d t0 u0 n g ∧ fitR (setR (setR g 4 Pf) t O) = doF d t u n g ∧ endB d u n g = false)
  case rest =>
    obtain ⟨O, Pf, rfl, rfl, hA7, hG, hE⟩ := hcut
    clear hA6 s0 s1 s2 s3
    have HG := Lib.hid hG
    have HE := Lib.hid hE
    clear hG hE
    have c4 := regB_cell hA7.hr 4 (by decide)
    have f4 := regB_free hA7.hr 4
    go_upto_region 59 with (fail)
    have hA8 := hA7.set 4 Pf (by decide)
    clear c4 f4 hA7
    generalize wc.setCell ⟨w.heap.size + 1, 4, none⟩ (.int .i64 Pf) = w8 at *
    have ct := regB_cell hA8.hr t ht
    have ft := regB_free hA8.hr t
    go_upto_region 60 with (fail)
    have hA9 := hA8.set t O ht
    clear ct ft hA8
    generalize w8.setCell ⟨w.heap.size + 1, t, none⟩ (.int .i64 O) = w9 at *
    have hft := fittedRef_any (setR (setR g 4 Pf) t O)
    rw [HG.out] at hft
    go_wp2_with (first
      | (go_at_call 51; with_reducible refine (hft _).mono ?_; rintro e w10 ⟨rfl, hb⟩; have hA10 := hA9.call hb; clear hb)
      | (refine wpList_load9 rfl 27 _ rfl (w.heap.size + 1) rfl 27 (setR (setR g 4 Pf) t O) ?_ is9R ?_; with_reducible exact hA9.hr) | (refine wpList_store9 rfl 27 _ _ rfl (w.heap.size + 2) rfl (doF d t u n g) rfl 27 (fun _ => 0) ?_ is9R ?_; with_reducible exact hA10.hz))
    exact bodyPost_ret (results9b rfl is9R (w.heap.size + 2) _ rfl (regB_row hA10.hz _) _ rfl) rfl ⟨by rw [HE.out]; rfl, below_rowR hA10.bel _ (by omega)⟩
  case first =>
    have ct := regB_cell hA6.hr t ht
    have cu := regB_cell hA6.hr u hu
    have c4 := regB_cell hA6.hr 4 (by decide)
    have f4 := regB_free hA6.hr 4
    rcases hd with rfl | rfl | rfl | rfl | rfl | rfl | rfl | hd
    · -- 1
      go_wp2_with fail
      go_meet
      case rel =>
        refine ⟨_, _, rfl, rfl, hA6, ?_, rfl⟩
        rw [setR_self]
        show fitR (setR g t _) = fitR (setR g t (movedV 1 n (g t) (g u)))
        rfl
    · -- 2
      go_wp2_with fail
      go_meet
      case rel =>
        refine ⟨_, _, rfl, rfl, hA6, ?_, rfl⟩
        rw [setR_self]
        show fitR (setR g t _) = fitR (setR g t (movedV 2 n (g t) (g u)))
        rfl
    · -- 3
      have hc := flagsRef_any (g 4) (g t % 256) (-1) g4 (by omega) (by simp)
      rw [show refFlags (g 4) (g t % 256) (-1) = flg (g 4) (g t % 256) from rfl, flg_mod] at hc
      go_upto_region 13 with (go_at_call 84; refine (hc _).mono ?_; rintro e w' ⟨rfl, rfl⟩)
      have hA7 := hA6.set 4 (flg (g 4) (g t)) (by decide)
      clear hA6 s0 s1 s2 s3 ct cu c4 f4
      generalize w6.setCell ⟨w.heap.size + 1, 4, none⟩ (.int .i64 (flg (g 4) (g t))) = w7 at *
      go_wp2_with (first | (refine wpList_load9 rfl 27 _ rfl (w.heap.size + 1) rfl 27 (setR g 4 (flg (g 4) (g t))) ?_ is9R ?_; with_reducible exact hA7.hr) | (refine wpList_store9 rfl 27 _ _ rfl (w.heap.size + 2) rfl (setR g 4 (flg (g 4) (g t))) rfl 27 (fun _ => 0) ?_ is9R ?_; with_reducible exact hA7.hz))
      exact bodyPost_ret (results9b rfl is9R (w.heap.size + 2) _ rfl (regB_row hA7.hz _) _ rfl) rfl ⟨rfl, below_rowR hA7.bel _ (by omega)⟩
    · -- 16
      have hm := modRef_any n 256 (.inl rfl)
      have hby := or_byte g4 (lo8_bd n)
      go_upto_region 41 with (go_at_call 14; refine (hm _).mono ?_; rintro e w' ⟨rfl, rfl⟩)
      have hA7 := hA6.set 4 (bits .or .i64 (g 4) (lo n 8)) (by decide)
      rw [show n % 256 = lo n 8 from rfl]
      clear hA6 s0 s1 s2 s3 ct cu c4 f4
      have hF : doF 16 t u n g = setR g 4 (bits .or .i64 (g 4) (lo n 8)) := fit_fits (fits_set hfit 4 _ hby.1 hby.2)
      have HF := Lib.hid hF
      clear hF hby
      generalize bits .or .i64 (g 4) (lo n 8) = V at *
      generalize w6.setCell ⟨w.heap.size + 1, 4, none⟩ (.int .i64 V) = w7 at *
      go_wp2_with (first | (refine wpList_load9 rfl 27 _ rfl (w.heap.size + 1) rfl 27 (setR g 4 V) ?_ is9R ?_; with_reducible exact hA7.hr) | (refine wpList_store9 rfl 27 _ _ rfl (w.heap.size + 2) rfl (setR g 4 V) rfl 27 (fun _ => 0) ?_ is9R ?_; with_reducible exact hA7.hz))
      exact bodyPost_ret (results9b rfl is9R (w.heap.size + 2) _ rfl (regB_row hA7.hz _) _ rfl) rfl ⟨by rw [HF.out]; rfl, below_rowR hA7.bel _ (by omega)⟩
    · -- 17
      have hm := modRef_any n 256 (.inl rfl)
      have hby := andNot_byte g4 (lo8_bd n)
      go_upto_region 44 with (go_at_call 14; refine (hm _).mono ?_; rintro e w' ⟨rfl, rfl⟩)
      have hA7 := hA6.set 4 (bits .andNot .i64 (g 4) (lo n 8)) (by decide)
      rw [show n % 256 = lo n 8 from rfl]
      clear hA6 s0 s1 s2 s3 ct cu c4 f4
      have hF : doF 17 t u n g = setR g 4 (bits .andNot .i64 (g 4) (lo n 8)) := fit_fits (fits_set hfit 4 _ hby.1 hby.2)
      have HF := Lib.hid hF
      clear hF hby
      generalize bits .andNot .i64 (g 4) (lo n 8) = V at *
      generalize w6.setCell ⟨w.heap.size + 1, 4, none⟩ (.int .i64 V) = w7 at *
      go_wp2_with (first | (refine wpList_load9 rfl 27 _ rfl (w.heap.size + 1) rfl 27 (setR g 4 V) ?_ is9R ?_; with_reducible exact hA7.hr) | (refine wpList_store9 rfl 27 _ _ rfl (w.heap.size + 2) rfl (setR g 4 V) rfl 27 (fun _ => 0) ?_ is9R ?_; with_reducible exact hA7.hz))
      exact bodyPost_ret (results9b rfl is9R (w.heap.size + 2) _ rfl (regB_row hA7.hz _) _ rfl) rfl ⟨by rw [HF.out]; rfl, below_rowR hA7.bel _ (by omega)⟩
    · -- 22
      go_wp2_with fail
      go_meet
      case rel =>
        refine ⟨_, _, rfl, rfl, hA6, ?_, rfl⟩
        rw [setR_self]
        show fitR (setR g t _) = fitR (setR g t (movedV 22 n (g t) (g u)))
        rw [moved22 gt]
    · -- 23
      go_wp2_with fail
      go_meet
      case rel =>
        refine ⟨_, _, rfl, rfl, hA6, ?_, rfl⟩
        rw [setR_self]
        show fitR (setR g t _) = fitR (setR g t (movedV 23 n (g t) (g u)))
        rw [moved23 gt]
    · obtain ⟨h1, h2, h3, h4, h5, h6, h7, h8, h9, h10, h11, h12, h13, h14, h15, h16, h17, h18, h19, h20, h21, h22, h23, h24⟩ := hd
      go_wp2_with fail
      go_meet
      case rel => exact ⟨_, _, rfl, rfl, hA6, (by rw [setR_self, setR_self]; unfold doF moves; simp [h1, h2, h3, h4, h5, h6, h7, h8, h9, h10, h11, h12, h13, h14, h15, h16, h17, h18, h19, h20, h21, h22, h23, h24]), (by unfold endB; simp [h24])⟩

set_option maxRecDepth 100000 in
set_option maxHeartbeats 8000000 in
theorem stepped_B (d t0 u0 n : Int) (hd : d = 4 ∨ d = 5 ∨ d = 6 ∨ d = 7 ∨ d = 8 ∨ d = 9) (f : Nat → Int) (w : World) :
    Calls Try.prog 59 #[.agg #[.int .i64 d, .int .i64 t0, .int .i64 u0, .int .i64 n], .agg (arr9 f)] w fun e w' =>
      e = .returned (.tuple #[.agg (arr9 (doF d (reg t0) (reg u0) n (fitR f))), .bool (endB d (reg u0) n (fitR f))]) ∧ Below w.heap.size w w' := by
  have hA := aluW.start w d t0 u0 n f
  have e1 := reg_eq t0
  have e2 := reg_eq u0
  have ht := reg_lt t0
  have hu := reg_lt u0
  have hfit := fits_fit f
  have hft := fittedRef_any f
  have hu1 : ((reg u0 : Int) == 1) = (u0 == 1) := reg_one u0
  generalize fitR f = g at *
  generalize reg t0 = t at *
  generalize reg u0 = u at *
  go_enter Try.func59, Try.ntmps59
  go_upto_region 1 with (fail)
  rw [zero9]
  have hA : aluW w (((w.alloc (.cells #[.int .i64 d, .int .i64 t0, .int .i64 u0, .int .i64 n] 100)).alloc (.cells (arr9 f) 27)).alloc (.cells (arr9 fun _ => 0) 27)) d t0 u0 n f := hA
  generalize ((w.alloc (.cells #[.int .i64 d, .int .i64 t0, .int .i64 u0, .int .i64 n] 100)).alloc (.cells (arr9 f) 27)).alloc (.cells (arr9 fun _ => 0) 27) = w1 at *
  go_upto_region 2 with (first
    | (go_at_call 51; with_reducible refine (hft _).mono ?_; rintro e w2 ⟨rfl, hb⟩; have hA2 := hA.call hb; clear hb)
    | (refine wpList_load9 rfl 27 _ rfl (w.heap.size + 1) rfl 27 (f) ?_ is9R ?_; with_reducible exact hA.hr) | (refine wpList_store9 rfl 27 _ _ rfl (w.heap.size + 1) rfl (g) rfl 27 (f) ?_ is9R ?_; with_reducible exact hA2.hr))
  have hA3 := hA2.row g
  generalize w2.setRow (w.heap.size + 1) (arr9 g) = w3 at *
  clear hft hA2 hA
  obtain ⟨s0, s1, s2, s3⟩ := hA3.steps
  refine wp_region_order (fun _ => True) [(0, false), (1, false), (2, false), (3, false), (4, false), (5, false), (6, false), (7, false)] [] (by kernel_rfl) (by kernel_rfl) (fun _ _ _ _ _ h => h) trivial ?_
  simp only [List.map_cons, List.map_nil, opOf, List.getD_cons_zero, List.getD_cons_succ]
  repeat (refine wpSteps_step (fun K hK => ?_); go_simp; refine hK _ ?_; clear hK K)
  (refine wpSteps_step (fun K hK => ?_); go_simp; refine ⟨_, ((limit_any _ _ _ (by decide) _).mono fun _ _ ⟨h, g⟩ => ⟨h, g.symm⟩), hK _ ?_⟩; clear hK K)
  repeat (refine wpSteps_step (fun K hK => ?_); go_simp; refine hK _ ?_; clear hK K)
  (refine wpSteps_step (fun K hK => ?_); go_simp; refine ⟨_, ((limit_any _ _ _ (by decide) _).mono fun _ _ ⟨h, g⟩ => ⟨h, g.symm⟩), hK _ ?_⟩; clear hK K)
  repeat (refine wpSteps_step (fun K hK => ?_); go_simp; refine hK _ ?_; clear hK K)
  refine wpSteps_nil ?_
  change wpTail _ _ _ _ _ _ w3.drew
  have hA4 := hA3.drew
  clear hA3 s0 s1 s2 s3 e1 e2
  generalize w3.drew = w4 at *
  unfold wpTail
  have g4 : 0 ≤ g 4 ∧ g 4 < 256 := ⟨(hfit 4).1, (hfit 4).2.2 (by decide) (by decide)⟩
  have gt : 0 ≤ g t ∧ g t < 65536 := ⟨(hfit t).1, (hfit t).2.1⟩
  have gu : 0 ≤ g u ∧ g u < 65536 := ⟨(hfit u).1, (hfit u).2.1⟩
  have i1 : (0 : Int) ≤ (t : Int) := by omega
  have i2 : (t : Int) < 9 := by omega
  have i3 : (0 : Int) ≤ (u : Int) := by omega
  have i4 : (u : Int) < 9 := by omega
  have ct := regB_cell hA4.hr t ht
  have cu := regB_cell hA4.hr u hu
  have c4 := regB_cell hA4.hr 4 (by decide)
  go_upto_region 3 with (fail)
  go_quiet (fail)
  have hA5 := hA4.drewN nq
  clear hA4 ct cu c4
  generalize w4.drewN nq = w5 at *
  have ct := regB_cell hA5.hr t ht
  have cu := regB_cell hA5.hr u hu
  have c4 := regB_cell hA5.hr 4 (by decide)
  go_upto_region 4 with (fail)
  go_quiet (fail)
  have hA6 := hA5.drewN nq
  clear hA5 ct cu c4
  generalize w5.drewN nq = w6 at *
  obtain ⟨s0, s1, s2, s3⟩ := hA6.steps
  go_upto_block 0 with (fail)
  go_cut [11, 12] (fun o p wx => ∃ (O Pf : Int), o = .int .i64 O ∧ p = .int .i64 Pf ∧ aluW w wx d t0 u0 n g ∧ fitR (setR (setR g 4 Pf) t O) = doF d t u n g ∧ endB d u n g = false)
  case rest =>
    obtain ⟨O, Pf, rfl, rfl, hA7, hG, hE⟩ := hcut
    clear hA6 s0 s1 s2 s3
    have HG := Lib.hid hG
    have HE := Lib.hid hE
    clear hG hE
    have c4 := regB_cell hA7.hr 4 (by decide)
    have f4 := regB_free hA7.hr 4
    go_upto_region 59 with (fail)
    have hA8 := hA7.set 4 Pf (by decide)
    clear c4 f4 hA7
    generalize wc.setCell ⟨w.heap.size + 1, 4, none⟩ (.int .i64 Pf) = w8 at *
    have ct := regB_cell hA8.hr t ht
    have ft := regB_free hA8.hr t
    go_upto_region 60 with (fail)
    have hA9 := hA8.set t O ht
    clear ct ft hA8
    generalize w8.setCell ⟨w.heap.size + 1, t, none⟩ (.int .i64 O) = w9 at *
    have hft := fittedRef_any (setR (setR g 4 Pf) t O)
    rw [HG.out] at hft
    go_wp2_with (first
      | (go_at_call 51; with_reducible refine (hft _).mono ?_; rintro e w10 ⟨rfl, hb⟩; have hA10 := hA9.call hb; clear hb)
      | (refine wpList_load9 rfl 27 _ rfl (w.heap.size + 1) rfl 27 (setR (setR g 4 Pf) t O) ?_ is9R ?_; with_reducible exact hA9.hr) | (refine wpList_store9 rfl 27 _ _ rfl (w.heap.size + 2) rfl (doF d t u n g) rfl 27 (fun _ => 0) ?_ is9R ?_; with_reducible exact hA10.hz))
    exact bodyPost_ret (results9b rfl is9R (w.heap.size + 2) _ rfl (regB_row hA10.hz _) _ rfl) rfl ⟨by rw [HE.out]; rfl, below_rowR hA10.bel _ (by omega)⟩
  case first =>
    have ct := regB_cell hA6.hr t ht
    have cu := regB_cell hA6.hr u hu
    have c4 := regB_cell hA6.hr 4 (by decide)
    have f4 := regB_free hA6.hr 4
    rcases hd with rfl | rfl | rfl | rfl | rfl | rfl
    · -- 4
      have hs := sums4Ref_any (g t % 256) (g u % 256) (g 4 % 2) (by omega) (by omega) (by omega)
      rw [sumN_mod, sumC_mod] at hs
      have hN := sumN_bd 4 (g t) (g u) (g 4 % 2)
      have hC := sumC_bd 4 (g t) (g u) (g 4 % 2)
      have hF : doF 4 t u n g = fitR (setR (setR g 4 (flg (car (g 4) (sumC 4 (g t) (g u) (g 4 % 2))) (sumN 4 (g t) (g u) (g 4 % 2)))) t (sumN 4 (g t) (g u) (g 4 % 2))) := rfl
      generalize sumN 4 (g t) (g u) (g 4 % 2) = N at *
      generalize sumC 4 (g t) (g u) (g 4 % 2) = Cc at *
      have hc := flagsRef_any (g 4) N Cc g4 hN (.inr hC)
      rw [show refFlags (g 4) N Cc = flg (car (g 4) Cc) N from by unfold refFlags; rw [if_neg (by omega), flg_car hC]] at hc
      generalize flg (car (g 4) Cc) N = Pf at *
      have HF := Lib.hid hF
      clear hF
      go_wp2_with (first
        | (go_at_call 85; refine (hs _).mono ?_; rintro e w7 ⟨rfl, hb⟩; have hA7 := hA6.call hb; clear hb)
        | (go_at_call 84; refine (hc _).mono ?_; rintro e w' ⟨rfl, rfl⟩))
      go_meet
      case rel => exact ⟨N, Pf, rfl, rfl, hA7, HF.out.symm, rfl⟩
    · -- 5
      have hs := sums5Ref_any (g t % 256) (g u % 256) (g 4 % 2) (by omega) (by omega) (by omega)
      rw [sumN_mod, sumC_mod] at hs
      have hN := sumN_bd 5 (g t) (g u) (g 4 % 2)
      have hC := sumC_bd 5 (g t) (g u) (g 4 % 2)
      have hF : doF 5 t u n g = fitR (setR (setR g 4 (flg (car (g 4) (sumC 5 (g t) (g u) (g 4 % 2))) (sumN 5 (g t) (g u) (g 4 % 2)))) t (sumN 5 (g t) (g u) (g 4 % 2))) := rfl
      generalize sumN 5 (g t) (g u) (g 4 % 2) = N at *
      generalize sumC 5 (g t) (g u) (g 4 % 2) = Cc at *
      have hc := flagsRef_any (g 4) N Cc g4 hN (.inr hC)
      rw [show refFlags (g 4) N Cc = flg (car (g 4) Cc) N from by unfold refFlags; rw [if_neg (by omega), flg_car hC]] at hc
      generalize flg (car (g 4) Cc) N = Pf at *
      have HF := Lib.hid hF
      clear hF
      go_wp2_with (first
        | (go_at_call 85; refine (hs _).mono ?_; rintro e w7 ⟨rfl, hb⟩; have hA7 := hA6.call hb; clear hb)
        | (go_at_call 84; refine (hc _).mono ?_; rintro e w' ⟨rfl, rfl⟩))
      go_meet
      case rel => exact ⟨N, Pf, rfl, rfl, hA7, HF.out.symm, rfl⟩
    · -- 6
      have hs := sums6Ref_any (g t % 256) (g u % 256) (g 4 % 2) (by omega) (by omega)
      rw [sumN_mod, sumC_mod] at hs
      have hN := sumN_bd 6 (g t) (g u) (g 4 % 2)
      have hC := sumC_bd 6 (g t) (g u) (g 4 % 2)
      have hF : doF 6 t u n g = fitR (setR g 4 (flg (car (g 4) (sumC 6 (g t) (g u) (g 4 % 2))) (sumN 6 (g t) (g u) (g 4 % 2)))) := rfl
      generalize sumN 6 (g t) (g u) (g 4 % 2) = N at *
      generalize sumC 6 (g t) (g u) (g 4 % 2) = Cc at *
      have hc := flagsRef_any (g 4) N Cc g4 hN (.inr hC)
      rw [show refFlags (g 4) N Cc = flg (car (g 4) Cc) N from by unfold refFlags; rw [if_neg (by omega), flg_car hC]] at hc
      generalize flg (car (g 4) Cc) N = Pf at *
      have HF := Lib.hid hF
      clear hF
      by_cases h4 : t = 4
      · subst h4
        go_wp2_with (first
          | (go_at_call 85; refine (hs _).mono ?_; rintro e w7 ⟨rfl, hb⟩; have hA7 := hA6.call hb; clear hb)
          | (go_at_call 84; refine (hc _).mono ?_; rintro e w' ⟨rfl, rfl⟩))
        go_meet
        case rel => exact ⟨Pf, Pf, rfl, rfl, hA7, (by rw [HF.out, setR_setR]), rfl⟩
      · have h4i : ((t : Int) == 4) = false := by simp; omega
        go_wp2_with (first
          | (go_at_call 85; refine (hs _).mono ?_; rintro e w7 ⟨rfl, hb⟩; have hA7 := hA6.call hb; clear hb)
          | (go_at_call 84; refine (hc _).mono ?_; rintro e w' ⟨rfl, rfl⟩))
        go_meet
        case rel => exact ⟨g t, Pf, rfl, rfl, hA7, (by rw [HF.out, ← setR_other g 4 t Pf h4, setR_self]), rfl⟩
    · -- 7
      have hJ := and_byte (a := g t % 256) (b := g u % 256) (by omega) (by omega)
      have hc := flagsRef_any (g 4) (bits .and .i64 (g t % 256) (g u % 256)) (-1) g4 hJ (by simp)
      rw [show refFlags (g 4) (bits .and .i64 (g t % 256) (g u % 256)) (-1) = flg (g 4) (bits .and .i64 (g t % 256) (g u % 256)) from rfl] at hc
      go_wp2_with (go_at_call 84; refine (hc _).mono ?_; rintro e w' ⟨rfl, rfl⟩)
      go_meet
      case rel => exact ⟨_, _, rfl, rfl, hA6.call (below_one _ _), rfl, rfl⟩
    · -- 8
      have hJ := or_byte (a := g t % 256) (b := g u % 256) (by omega) (by omega)
      have hc := flagsRef_any (g 4) (bits .or .i64 (g t % 256) (g u % 256)) (-1) g4 hJ (by simp)
      rw [show refFlags (g 4) (bits .or .i64 (g t % 256) (g u % 256)) (-1) = flg (g 4) (bits .or .i64 (g t % 256) (g u % 256)) from rfl] at hc
      go_wp2_with (go_at_call 84; refine (hc _).mono ?_; rintro e w' ⟨rfl, rfl⟩)
      go_meet
      case rel => exact ⟨_, _, rfl, rfl, hA6.call (below_one _ _), rfl, rfl⟩
    · -- 9
      have hJ := xor_byte (a := g t % 256) (b := g u % 256) (by omega) (by omega)
      have hc := flagsRef_any (g 4) (bits .xor .i64 (g t % 256) (g u % 256)) (-1) g4 hJ (by simp)
      rw [show refFlags (g 4) (bits .xor .i64 (g t % 256) (g u % 256)) (-1) = flg (g 4) (bits .xor .i64 (g t % 256) (g u % 256)) from rfl] at hc
      go_wp2_with (go_at_call 84; refine (hc _).mono ?_; rintro e w' ⟨rfl, rfl⟩)
      go_meet
      case rel => exact ⟨_, _, rfl, rfl, hA6.call (below_one _ _), rfl, rfl⟩

set_option maxRecDepth 100000 in
set_option maxHeartbeats 8000000 in
theorem stepped_C (d t0 u0 n : Int) (hd : d = 10 ∨ d = 11 ∨ d = 12 ∨ d = 13 ∨ d = 14 ∨ d = 15) (f : Nat → Int) (w : World) :
    Calls Try.prog 59 #[.agg #[.int .i64 d, .int .i64 t0, .int .i64 u0, .int .i64 n], .agg (arr9 f)] w fun e w' =>
      e = .returned (.tuple #[.agg (arr9 (doF d (reg t0) (reg u0) n (fitR f))), .bool (endB d (reg u0) n (fitR f))]) ∧ Below w.heap.size w w' := by
  have hA := aluW.start w d t0 u0 n f
  have e1 := reg_eq t0
  have e2 := reg_eq u0
  have ht := reg_lt t0
  have hu := reg_lt u0
  have hfit := fits_fit f
  have hft := fittedRef_any f
  have hu1 : ((reg u0 : Int) == 1) = (u0 == 1) := reg_one u0
  generalize fitR f = g at *
  generalize reg t0 = t at *
  generalize reg u0 = u at *
  go_enter Try.func59, Try.ntmps59
  go_upto_region 1 with (fail)
  rw [zero9]
  have hA : aluW w (((w.alloc (.cells #[.int .i64 d, .int .i64 t0, .int .i64 u0, .int .i64 n] 100)).alloc (.cells (arr9 f) 27)).alloc (.cells (arr9 fun _ => 0) 27)) d t0 u0 n f := hA
  generalize ((w.alloc (.cells #[.int .i64 d, .int .i64 t0, .int .i64 u0, .int .i64 n] 100)).alloc (.cells (arr9 f) 27)).alloc (.cells (arr9 fun _ => 0) 27) = w1 at *
  go_upto_region 2 with (first
    | (go_at_call 51; with_reducible refine (hft _).mono ?_; rintro e w2 ⟨rfl, hb⟩; have hA2 := hA.call hb; clear hb)
    | (refine wpList_load9 rfl 27 _ rfl (w.heap.size + 1) rfl 27 (f) ?_ is9R ?_; with_reducible exact hA.hr) | (refine wpList_store9 rfl 27 _ _ rfl (w.heap.size + 1) rfl (g) rfl 27 (f) ?_ is9R ?_; with_reducible exact hA2.hr))
  have hA3 := hA2.row g
  generalize w2.setRow (w.heap.size + 1) (arr9 g) = w3 at *
  clear hft hA2 hA
  obtain ⟨s0, s1, s2, s3⟩ := hA3.steps
  refine wp_region_order (fun _ => True) [(0, false), (1, false), (2, false), (3, false), (4, false), (5, false), (6, false), (7, false)] [] (by kernel_rfl) (by kernel_rfl) (fun _ _ _ _ _ h => h) trivial ?_
  simp only [List.map_cons, List.map_nil, opOf, List.getD_cons_zero, List.getD_cons_succ]
  repeat (refine wpSteps_step (fun K hK => ?_); go_simp; refine hK _ ?_; clear hK K)
  (refine wpSteps_step (fun K hK => ?_); go_simp; refine ⟨_, ((limit_any _ _ _ (by decide) _).mono fun _ _ ⟨h, g⟩ => ⟨h, g.symm⟩), hK _ ?_⟩; clear hK K)
  repeat (refine wpSteps_step (fun K hK => ?_); go_simp; refine hK _ ?_; clear hK K)
  (refine wpSteps_step (fun K hK => ?_); go_simp; refine ⟨_, ((limit_any _ _ _ (by decide) _).mono fun _ _ ⟨h, g⟩ => ⟨h, g.symm⟩), hK _ ?_⟩; clear hK K)
  repeat (refine wpSteps_step (fun K hK => ?_); go_simp; refine hK _ ?_; clear hK K)
  refine wpSteps_nil ?_
  change wpTail _ _ _ _ _ _ w3.drew
  have hA4 := hA3.drew
  clear hA3 s0 s1 s2 s3 e1 e2
  generalize w3.drew = w4 at *
  unfold wpTail
  have g4 : 0 ≤ g 4 ∧ g 4 < 256 := ⟨(hfit 4).1, (hfit 4).2.2 (by decide) (by decide)⟩
  have gt : 0 ≤ g t ∧ g t < 65536 := ⟨(hfit t).1, (hfit t).2.1⟩
  have gu : 0 ≤ g u ∧ g u < 65536 := ⟨(hfit u).1, (hfit u).2.1⟩
  have i1 : (0 : Int) ≤ (t : Int) := by omega
  have i2 : (t : Int) < 9 := by omega
  have i3 : (0 : Int) ≤ (u : Int) := by omega
  have i4 : (u : Int) < 9 := by omega
  have ct := regB_cell hA4.hr t ht
  have cu := regB_cell hA4.hr u hu
  have c4 := regB_cell hA4.hr 4 (by decide)
  go_upto_region 3 with (fail)
  go_quiet (fail)
  have hA5 := hA4.drewN nq
  clear hA4 ct cu c4
  generalize w4.drewN nq = w5 at *
  have ct := regB_cell hA5.hr t ht
  have cu := regB_cell hA5.hr u hu
  have c4 := regB_cell hA5.hr 4 (by decide)
  go_upto_region 4 with (fail)
  go_quiet (fail)
  have hA6 := hA5.drewN nq
  clear hA5 ct cu c4
  generalize w5.drewN nq = w6 at *
  obtain ⟨s0, s1, s2, s3⟩ := hA6.steps
  go_upto_block 0 with (fail)
  go_cut [11, 12] (fun o p wx => ∃ (O Pf : Int), o = .int .i64 O ∧ p = .int .i64 Pf ∧ aluW w wx d t0 u0 n g ∧ fitR (setR (setR g 4 Pf) t O) = doF d t u n g ∧ endB d u n g = false)
  case rest =>
    obtain ⟨O, Pf, rfl, rfl, hA7, hG, hE⟩ := hcut
    clear hA6 s0 s1 s2 s3
    have HG := Lib.hid hG
    have HE := Lib.hid hE
    clear hG hE
    have c4 := regB_cell hA7.hr 4 (by decide)
    have f4 := regB_free hA7.hr 4
    go_upto_region 59 with (fail)
    have hA8 := hA7.set 4 Pf (by decide)
    clear c4 f4 hA7
    generalize wc.setCell ⟨w.heap.size + 1, 4, none⟩ (.int .i64 Pf) = w8 at *
    have ct := regB_cell hA8.hr t ht
    have ft := regB_free hA8.hr t
    go_upto_region 60 with (fail)
    have hA9 := hA8.set t O ht
    clear ct ft hA8
    generalize w8.setCell ⟨w.heap.size + 1, t, none⟩ (.int .i64 O) = w9 at *
    have hft := fittedRef_any (setR (setR g 4 Pf) t O)
    rw [HG.out] at hft
    go_wp2_with (first
      | (go_at_call 51; with_reducible refine (hft _).mono ?_; rintro e w10 ⟨rfl, hb⟩; have hA10 := hA9.call hb; clear hb)
      | (refine wpList_load9 rfl 27 _ rfl (w.heap.size + 1) rfl 27 (setR (setR g 4 Pf) t O) ?_ is9R ?_; with_reducible exact hA9.hr) | (refine wpList_store9 rfl 27 _ _ rfl (w.heap.size + 2) rfl (doF d t u n g) rfl 27 (fun _ => 0) ?_ is9R ?_; with_reducible exact hA10.hz))
    exact bodyPost_ret (results9b rfl is9R (w.heap.size + 2) _ rfl (regB_row hA10.hz _) _ rfl) rfl ⟨by rw [HE.out]; rfl, below_rowR hA10.bel _ (by omega)⟩
  case first =>
    have ct := regB_cell hA6.hr t ht
    have cu := regB_cell hA6.hr u hu
    have c4 := regB_cell hA6.hr 4 (by decide)
    have f4 := regB_free hA6.hr 4
    rcases hd with rfl | rfl | rfl | rfl | rfl | rfl
    · -- 10
      by_cases h7 : t = 7 ∨ t = 8
      · have hW : wideB (t : Int) = true := by unfold wideB; rcases h7 with rfl | rfl <;> rfl
        have hB : bitsN t = 16 := by unfold bitsN; rw [if_pos h7]
        go_wp2_with (go_at_call 54; refine (wideRef_any _ _).mono ?_; rintro e w' ⟨rfl, rfl⟩)
        go_meet
        case rel =>
          refine ⟨_, _, rfl, rfl, hA6, ?_, rfl⟩
          rw [setR_self]
          show fitR (setR g t (g t + (1))) = fitR (countF t (1) g)
          unfold countF
          rw [if_pos h7, ← hB, fit_set_lo]
      · have hW : wideB (t : Int) = false := by unfold wideB; simp; omega
        have hB : bitsN t = 8 := by unfold bitsN; rw [if_neg h7]
        have hm := modRef_any (g t + (1)) 256 (.inl rfl)
        have hc := flagsRef_any (g 4) ((g t + (1)) % 256) (-1) g4 (by omega) (by simp)
        rw [show refFlags (g 4) ((g t + (1)) % 256) (-1) = flg (g 4) ((g t + (1)) % 256) from rfl] at hc
        go_wp2_with (first
          | (go_at_call 54; refine (wideRef_any _ _).mono ?_; rintro e w' ⟨rfl, rfl⟩)
          | (go_at_call 14; refine (hm _).mono ?_; rintro e w' ⟨rfl, rfl⟩)
          | (go_at_call 84; refine (hc _).mono ?_; rintro e w' ⟨rfl, rfl⟩))
        go_meet
        case rel =>
          refine ⟨_, _, rfl, rfl, hA6, ?_, rfl⟩
          show fitR (setR (setR g 4 (flg (g 4) (lo (g t + (1)) 8))) t (g t + (1))) = fitR (countF t (1) g)
          unfold countF
          rw [if_neg h7, ← hB, fit_set_lo]
    · -- 11
      by_cases h7 : t = 7 ∨ t = 8
      · have hW : wideB (t : Int) = true := by unfold wideB; rcases h7 with rfl | rfl <;> rfl
        have hB : bitsN t = 16 := by unfold bitsN; rw [if_pos h7]
        go_wp2_with (go_at_call 54; refine (wideRef_any _ _).mono ?_; rintro e w' ⟨rfl, rfl⟩)
        go_meet
        case rel =>
          refine ⟨_, _, rfl, rfl, hA6, ?_, rfl⟩
          rw [setR_self]
          show fitR (setR g t (g t + (-1))) = fitR (countF t (-1) g)
          unfold countF
          rw [if_pos h7, ← hB, fit_set_lo]
      · have hW : wideB (t : Int) = false := by unfold wideB; simp; omega
        have hB : bitsN t = 8 := by unfold bitsN; rw [if_neg h7]
        have hm := modRef_any (g t + (-1)) 256 (.inl rfl)
        have hc := flagsRef_any (g 4) ((g t + (-1)) % 256) (-1) g4 (by omega) (by simp)
        rw [show refFlags (g 4) ((g t + (-1)) % 256) (-1) = flg (g 4) ((g t + (-1)) % 256) from rfl] at hc
        go_wp2_with (first
          | (go_at_call 54; refine (wideRef_any _ _).mono ?_; rintro e w' ⟨rfl, rfl⟩)
          | (go_at_call 14; refine (hm _).mono ?_; rintro e w' ⟨rfl, rfl⟩)
          | (go_at_call 84; refine (hc _).mono ?_; rintro e w' ⟨rfl, rfl⟩))
        go_meet
        case rel =>
          refine ⟨_, _, rfl, rfl, hA6, ?_, rfl⟩
          show fitR (setR (setR g 4 (flg (g 4) (lo (g t + (-1)) 8))) t (g t + (-1))) = fitR (countF t (-1) g)
          unfold countF
          rw [if_neg h7, ← hB, fit_set_lo]
    · -- 12
      have hs := turnedRef_any 12 (g t % 256) (g 4 % 2) (by simp) (by omega) (by omega)
      rw [shiftN_mod, shiftC_mod] at hs
      have hN := shiftN_bd 12 (g t) (g 4 % 2)
      have hC := shiftC_bd 12 (g t) (g 4 % 2)
      have hF : doF 12 t u n g = fitR (setR (setR g 4 (flg (car (g 4) (shiftC 12 (g t) (g 4 % 2))) (shiftN 12 (g t) (g 4 % 2)))) t (shiftN 12 (g t) (g 4 % 2))) := rfl
      generalize shiftN 12 (g t) (g 4 % 2) = N at *
      generalize shiftC 12 (g t) (g 4 % 2) = Cc at *
      have hc := flagsRef_any (g 4) N Cc g4 hN (.inr hC)
      rw [show refFlags (g 4) N Cc = flg (car (g 4) Cc) N from by unfold refFlags; rw [if_neg (by omega), flg_car hC]] at hc
      generalize flg (car (g 4) Cc) N = Pf at *
      have HF := Lib.hid hF
      clear hF
      go_wp2_with (first
        | (go_at_call 86; refine (hs _).mono ?_; rintro e w' ⟨rfl, rfl⟩)
        | (go_at_call 84; refine (hc _).mono ?_; rintro e w' ⟨rfl, rfl⟩))
      go_meet
      case rel => exact ⟨N, Pf, rfl, rfl, hA6, HF.out.symm, rfl⟩
    · -- 13
      have hs := turnedRef_any 13 (g t % 256) (g 4 % 2) (by simp) (by omega) (by omega)
      rw [shiftN_mod, shiftC_mod] at hs
      have hN := shiftN_bd 13 (g t) (g 4 % 2)
      have hC := shiftC_bd 13 (g t) (g 4 % 2)
      have hF : doF 13 t u n g = fitR (setR (setR g 4 (flg (car (g 4) (shiftC 13 (g t) (g 4 % 2))) (shiftN 13 (g t) (g 4 % 2)))) t (shiftN 13 (g t) (g 4 % 2))) := rfl
      generalize shiftN 13 (g t) (g 4 % 2) = N at *
      generalize shiftC 13 (g t) (g 4 % 2) = Cc at *
      have hc := flagsRef_any (g 4) N Cc g4 hN (.inr hC)
      rw [show refFlags (g 4) N Cc = flg (car (g 4) Cc) N from by unfold refFlags; rw [if_neg (by omega), flg_car hC]] at hc
      generalize flg (car (g 4) Cc) N = Pf at *
      have HF := Lib.hid hF
      clear hF
      go_wp2_with (first
        | (go_at_call 86; refine (hs _).mono ?_; rintro e w' ⟨rfl, rfl⟩)
        | (go_at_call 84; refine (hc _).mono ?_; rintro e w' ⟨rfl, rfl⟩))
      go_meet
      case rel => exact ⟨N, Pf, rfl, rfl, hA6, HF.out.symm, rfl⟩
    · -- 14
      have hs := turnedRef_any 14 (g t % 256) (g 4 % 2) (by simp) (by omega) (by omega)
      rw [shiftN_mod, shiftC_mod] at hs
      have hN := shiftN_bd 14 (g t) (g 4 % 2)
      have hC := shiftC_bd 14 (g t) (g 4 % 2)
      have hF : doF 14 t u n g = fitR (setR (setR g 4 (flg (car (g 4) (shiftC 14 (g t) (g 4 % 2))) (shiftN 14 (g t) (g 4 % 2)))) t (shiftN 14 (g t) (g 4 % 2))) := rfl
      generalize shiftN 14 (g t) (g 4 % 2) = N at *
      generalize shiftC 14 (g t) (g 4 % 2) = Cc at *
      have hc := flagsRef_any (g 4) N Cc g4 hN (.inr hC)
      rw [show refFlags (g 4) N Cc = flg (car (g 4) Cc) N from by unfold refFlags; rw [if_neg (by omega), flg_car hC]] at hc
      generalize flg (car (g 4) Cc) N = Pf at *
      have HF := Lib.hid hF
      clear hF
      go_wp2_with (first
        | (go_at_call 86; refine (hs _).mono ?_; rintro e w' ⟨rfl, rfl⟩)
        | (go_at_call 84; refine (hc _).mono ?_; rintro e w' ⟨rfl, rfl⟩))
      go_meet
      case rel => exact ⟨N, Pf, rfl, rfl, hA6, HF.out.symm, rfl⟩
    · -- 15
      have hs := turnedRef_any 15 (g t % 256) (g 4 % 2) (by simp) (by omega) (by omega)
      rw [shiftN_mod, shiftC_mod] at hs
      have hN := shiftN_bd 15 (g t) (g 4 % 2)
      have hC := shiftC_bd 15 (g t) (g 4 % 2)
      have hF : doF 15 t u n g = fitR (setR (setR g 4 (flg (car (g 4) (shiftC 15 (g t) (g 4 % 2))) (shiftN 15 (g t) (g 4 % 2)))) t (shiftN 15 (g t) (g 4 % 2))) := rfl
      generalize shiftN 15 (g t) (g 4 % 2) = N at *
      generalize shiftC 15 (g t) (g 4 % 2) = Cc at *
      have hc := flagsRef_any (g 4) N Cc g4 hN (.inr hC)
      rw [show refFlags (g 4) N Cc = flg (car (g 4) Cc) N from by unfold refFlags; rw [if_neg (by omega), flg_car hC]] at hc
      generalize flg (car (g 4) Cc) N = Pf at *
      have HF := Lib.hid hF
      clear hF
      go_wp2_with (first
        | (go_at_call 86; refine (hs _).mono ?_; rintro e w' ⟨rfl, rfl⟩)
        | (go_at_call 84; refine (hc _).mono ?_; rintro e w' ⟨rfl, rfl⟩))
      go_meet
      case rel => exact ⟨N, Pf, rfl, rfl, hA6, HF.out.symm, rfl⟩

set_option maxRecDepth 100000 in
set_option maxHeartbeats 8000000 in
theorem stepped_D (d t0 u0 n : Int) (hd : d = 18 ∨ d = 19 ∨ d = 20 ∨ d = 21 ∨ d = 24) (f : Nat → Int) (w : World) :
    Calls Try.prog 59 #[.agg #[.int .i64 d, .int .i64 t0, .int .i64 u0, .int .i64 n], .agg (arr9 f)] w fun e w' =>
      e = .returned (.tuple #[.agg (arr9 (doF d (reg t0) (reg u0) n (fitR f))), .bool (endB d (reg u0) n (fitR f))]) ∧ Below w.heap.size w w' := by
  have hA := aluW.start w d t0 u0 n f
  have e1 := reg_eq t0
  have e2 := reg_eq u0
  have ht := reg_lt t0
  have hu := reg_lt u0
  have hfit := fits_fit f
  have hft := fittedRef_any f
  have hu1 : ((reg u0 : Int) == 1) = (u0 == 1) := reg_one u0
  generalize fitR f = g at *
  generalize reg t0 = t at *
  generalize reg u0 = u at *
  go_enter Try.func59, Try.ntmps59
  go_upto_region 1 with (fail)
  rw [zero9]
  have hA : aluW w (((w.alloc (.cells #[.int .i64 d, .int .i64 t0, .int .i64 u0, .int .i64 n] 100)).alloc (.cells (arr9 f) 27)).alloc (.cells (arr9 fun _ => 0) 27)) d t0 u0 n f := hA
  generalize ((w.alloc (.cells #[.int .i64 d, .int .i64 t0, .int .i64 u0, .int .i64 n] 100)).alloc (.cells (arr9 f) 27)).alloc (.cells (arr9 fun _ => 0) 27) = w1 at *
  go_upto_region 2 with (first
    | (go_at_call 51; with_reducible refine (hft _).mono ?_; rintro e w2 ⟨rfl, hb⟩; have hA2 := hA.call hb; clear hb)
    | (refine wpList_load9 rfl 27 _ rfl (w.heap.size + 1) rfl 27 (f) ?_ is9R ?_; with_reducible exact hA.hr) | (refine wpList_store9 rfl 27 _ _ rfl (w.heap.size + 1) rfl (g) rfl 27 (f) ?_ is9R ?_; with_reducible exact hA2.hr))
  have hA3 := hA2.row g
  generalize w2.setRow (w.heap.size + 1) (arr9 g) = w3 at *
  clear hft hA2 hA
  obtain ⟨s0, s1, s2, s3⟩ := hA3.steps
  refine wp_region_order (fun _ => True) [(0, false), (1, false), (2, false), (3, false), (4, false), (5, false), (6, false), (7, false)] [] (by kernel_rfl) (by kernel_rfl) (fun _ _ _ _ _ h => h) trivial ?_
  simp only [List.map_cons, List.map_nil, opOf, List.getD_cons_zero, List.getD_cons_succ]
  repeat (refine wpSteps_step (fun K hK => ?_); go_simp; refine hK _ ?_; clear hK K)
  (refine wpSteps_step (fun K hK => ?_); go_simp; refine ⟨_, ((limit_any _ _ _ (by decide) _).mono fun _ _ ⟨h, g⟩ => ⟨h, g.symm⟩), hK _ ?_⟩; clear hK K)
  repeat (refine wpSteps_step (fun K hK => ?_); go_simp; refine hK _ ?_; clear hK K)
  (refine wpSteps_step (fun K hK => ?_); go_simp; refine ⟨_, ((limit_any _ _ _ (by decide) _).mono fun _ _ ⟨h, g⟩ => ⟨h, g.symm⟩), hK _ ?_⟩; clear hK K)
  repeat (refine wpSteps_step (fun K hK => ?_); go_simp; refine hK _ ?_; clear hK K)
  refine wpSteps_nil ?_
  change wpTail _ _ _ _ _ _ w3.drew
  have hA4 := hA3.drew
  clear hA3 s0 s1 s2 s3 e1 e2
  generalize w3.drew = w4 at *
  unfold wpTail
  have g4 : 0 ≤ g 4 ∧ g 4 < 256 := ⟨(hfit 4).1, (hfit 4).2.2 (by decide) (by decide)⟩
  have gt : 0 ≤ g t ∧ g t < 65536 := ⟨(hfit t).1, (hfit t).2.1⟩
  have gu : 0 ≤ g u ∧ g u < 65536 := ⟨(hfit u).1, (hfit u).2.1⟩
  have i1 : (0 : Int) ≤ (t : Int) := by omega
  have i2 : (t : Int) < 9 := by omega
  have i3 : (0 : Int) ≤ (u : Int) := by omega
  have i4 : (u : Int) < 9 := by omega
  have ct := regB_cell hA4.hr t ht
  have cu := regB_cell hA4.hr u hu
  have c4 := regB_cell hA4.hr 4 (by decide)
  go_upto_region 3 with (fail)
  go_quiet (fail)
  have hA5 := hA4.drewN nq
  clear hA4 ct cu c4
  generalize w4.drewN nq = w5 at *
  have ct := regB_cell hA5.hr t ht
  have cu := regB_cell hA5.hr u hu
  have c4 := regB_cell hA5.hr 4 (by decide)
  go_upto_region 4 with (fail)
  go_quiet (fail)
  have hA6 := hA5.drewN nq
  clear hA5 ct cu c4
  generalize w5.drewN nq = w6 at *
  obtain ⟨s0, s1, s2, s3⟩ := hA6.steps
  go_upto_block 0 with (fail)
  go_cut [11, 12] (fun o p wx => ∃ (O Pf : Int), o = .int .i64 O ∧ p = .int .i64 Pf ∧ aluW w wx d t0 u0 n g ∧ fitR (setR (setR g 4 Pf) t O) = doF d t u n g ∧ endB d u n g = false)
  case rest =>
    obtain ⟨O, Pf, rfl, rfl, hA7, hG, hE⟩ := hcut
    clear hA6 s0 s1 s2 s3
    have HG := Lib.hid hG
    have HE := Lib.hid hE
    clear hG hE
    have c4 := regB_cell hA7.hr 4 (by decide)
    have f4 := regB_free hA7.hr 4
    go_upto_region 59 with (fail)
    have hA8 := hA7.set 4 Pf (by decide)
    clear c4 f4 hA7
    generalize wc.setCell ⟨w.heap.size + 1, 4, none⟩ (.int .i64 Pf) = w8 at *
    have ct := regB_cell hA8.hr t ht
    have ft := regB_free hA8.hr t
    go_upto_region 60 with (fail)
    have hA9 := hA8.set t O ht
    clear ct ft hA8
    generalize w8.setCell ⟨w.heap.size + 1, t, none⟩ (.int .i64 O) = w9 at *
    have hft := fittedRef_any (setR (setR g 4 Pf) t O)
    rw [HG.out] at hft
    go_wp2_with (first
      | (go_at_call 51; with_reducible refine (hft _).mono ?_; rintro e w10 ⟨rfl, hb⟩; have hA10 := hA9.call hb; clear hb)
      | (refine wpList_load9 rfl 27 _ rfl (w.heap.size + 1) rfl 27 (setR (setR g 4 Pf) t O) ?_ is9R ?_; with_reducible exact hA9.hr) | (refine wpList_store9 rfl 27 _ _ rfl (w.heap.size + 2) rfl (doF d t u n g) rfl 27 (fun _ => 0) ?_ is9R ?_; with_reducible exact hA10.hz))
    exact bodyPost_ret (results9b rfl is9R (w.heap.size + 2) _ rfl (regB_row hA10.hz _) _ rfl) rfl ⟨by rw [HE.out]; rfl, below_rowR hA10.bel _ (by omega)⟩
  case first =>
    have ct := regB_cell hA6.hr t ht
    have cu := regB_cell hA6.hr u hu
    have c4 := regB_cell hA6.hr 4 (by decide)
    have f4 := regB_free hA6.hr 4
    rcases hd with rfl | rfl | rfl | rfl | rfl
    · -- 18
      go_upto_region 48 with (fail)
      have hA7 := hA6.call (below_one w6 (.cells #[.int .i64 1, .int .i64 256] 3))
      clear hA6 s0 s1 s2 s3 ct cu c4 f4
      generalize w6.alloc (.cells #[.int .i64 1, .int .i64 256] 3) = w7 at *
      have ct := regB_cell hA7.hr t ht
      go_quiet (fail)
      have hA8 := hA7.drewN nq
      go_wp2_with fail
      go_meet
      case rel =>
        refine ⟨_, _, rfl, rfl, hA8, ?_, rfl⟩
        rw [setR_self]
        show fitR (setR g t _) = fitR (setR g t (putN (g t) 0 8 (g u)))
        rw [put_low gt]
    · -- 19
      go_upto_region 48 with (fail)
      have hA7 := hA6.call (below_one w6 (.cells #[.int .i64 1, .int .i64 256] 3))
      clear hA6 s0 s1 s2 s3 ct cu c4 f4
      generalize w6.alloc (.cells #[.int .i64 1, .int .i64 256] 3) = w7 at *
      have ct := regB_cell hA7.hr t ht
      go_quiet (fail)
      have hA8 := hA7.drewN nq
      go_wp2_with fail
      go_meet
      case rel =>
        refine ⟨_, _, rfl, rfl, hA8, ?_, rfl⟩
        rw [setR_self]
        show fitR (setR g t _) = fitR (setR g t (putN (g t) 8 8 (g u)))
        rw [put_high gt]
    · -- 20
      have hS6 : w6.drew.cell? ⟨w.heap.size + 1, u, none⟩ = some (.int .i64 (g u)) := cu
      go_upto_region 51 with (fail)
      refine wp_region_mix (fun w' => w'.cell? ⟨w.heap.size + 1, u, none⟩ = some (.int .i64 (g u))) [(0, 1), (1, 1), (2, 1), (4, 1), (5, 1), (3, 3), (6, 0), (7, 0), (8, 0), (9, 0), (10, 0)] (by kernel_rfl) (by kernel_rfl) (fun _ _ _ _ _ h => h) ?_
      simp only [List.map_cons, List.map_nil, opOf, List.getD_cons_zero, List.getD_cons_succ]
      change wpMix _ _ _ _ _ _ w6.drew
      have hA7 := hA6.drew
      clear hA6 s0 s1 s2 s3 ct cu c4 f4
      generalize w6.drew = w7 at *
      have q0 : IntKind.i64.wrap 0 = 0 := IntWalk.i64_in _ (by omega)
      refine wpMix_held (.int .i64 u) rfl hS6 (fun w' hw' => by go_simp) ?_
      simp only [Act.put, List.setIfInBounds_toArray, List.set_cons_zero, List.set_cons_succ]
      refine wpMix_held (.pointer (some ⟨w.heap.size + 1, u, none⟩)) rfl hS6 (fun w' hw' => by go_simp) ?_
      simp only [Act.put, List.setIfInBounds_toArray, List.set_cons_zero, List.set_cons_succ]
      refine wpMix_held (.int .i64 (g u)) rfl hS6 (fun w' hw' => by go_simp) ?_
      simp only [Act.put, List.setIfInBounds_toArray, List.set_cons_zero, List.set_cons_succ]
      refine wpMix_held (.int .i64 20) rfl hS6 (fun w' hw' => by go_simp) ?_
      simp only [Act.put, List.setIfInBounds_toArray, List.set_cons_zero, List.set_cons_succ]
      refine wpMix_held (.int .i64 0) rfl hS6 (fun w' hw' => by go_simp) ?_
      simp only [Act.put, List.setIfInBounds_toArray, List.set_cons_zero, List.set_cons_succ]
      refine wpMix_call ?_
      go_wp2_with fail
      have hA8 := hA7.call (below_one w7 (.cells #[.int .i64 1, .int .i64 256] 3))
      have hb8 := heap_alloc_last w7 (.cells #[.int .i64 1, .int .i64 256] 3)
      have k0 := cell_of_row _ _ 0 _ _ _ hb8
      have k1 := cell_of_row _ _ 1 _ _ _ hb8
      refine ⟨fun _ => regB_cell hA8.hr u hu, ?_⟩
      clear hb8 hA7 hS6
      generalize w7.alloc (.cells #[.int .i64 1, .int .i64 256] 3) = w8 at *
      have k0 : w8.cell? ⟨w7.heap.size, 0, none⟩ = some (.int .i64 1) := k0
      have k1 : w8.cell? ⟨w7.heap.size, 1, none⟩ = some (.int .i64 256) := k1
      have e1 : (g u).tdiv 1 = g u := Int.tdiv_one _
      have e2 : (g u).tdiv 256 = g u / 256 := Int.tdiv_eq_ediv_of_nonneg gu.1
      have e3 : IntKind.i64.wrap (g u) = g u := IntWalk.i64_in _ (by omega)
      have e4 : IntKind.i64.wrap (g u / 256) = g u / 256 := IntWalk.i64_in _ (by omega)
      have e5 : (g u).tmod 256 = g u % 256 := Int.tmod_eq_emod_of_nonneg gu.1
      have e6 : (g u / 256).tmod 256 = g u / 256 % 256 := Int.tmod_eq_emod_of_nonneg (by omega)
      repeat (refine wpMix_still (fun K hK => ?_); go_simp; refine hK _ ?_; clear hK K)
      refine wpMix_nil ?_
      go_wp2_with fail
      go_meet
      case rel =>
        refine ⟨_, _, rfl, rfl, hA8, ?_, rfl⟩
        rw [setR_self]
        rfl
    · -- 21
      have hS6 : w6.drew.cell? ⟨w.heap.size + 1, u, none⟩ = some (.int .i64 (g u)) := cu
      go_upto_region 51 with (fail)
      refine wp_region_mix (fun w' => w'.cell? ⟨w.heap.size + 1, u, none⟩ = some (.int .i64 (g u))) [(0, 1), (1, 1), (2, 1), (4, 1), (5, 1), (3, 3), (6, 0), (7, 0), (8, 0), (9, 0), (10, 0)] (by kernel_rfl) (by kernel_rfl) (fun _ _ _ _ _ h => h) ?_
      simp only [List.map_cons, List.map_nil, opOf, List.getD_cons_zero, List.getD_cons_succ]
      change wpMix _ _ _ _ _ _ w6.drew
      have hA7 := hA6.drew
      clear hA6 s0 s1 s2 s3 ct cu c4 f4
      generalize w6.drew = w7 at *
      have q0 : IntKind.i64.wrap 1 = 1 := IntWalk.i64_in _ (by omega)
      refine wpMix_held (.int .i64 u) rfl hS6 (fun w' hw' => by go_simp) ?_
      simp only [Act.put, List.setIfInBounds_toArray, List.set_cons_zero, List.set_cons_succ]
      refine wpMix_held (.pointer (some ⟨w.heap.size + 1, u, none⟩)) rfl hS6 (fun w' hw' => by go_simp) ?_
      simp only [Act.put, List.setIfInBounds_toArray, List.set_cons_zero, List.set_cons_succ]
      refine wpMix_held (.int .i64 (g u)) rfl hS6 (fun w' hw' => by go_simp) ?_
      simp only [Act.put, List.setIfInBounds_toArray, List.set_cons_zero, List.set_cons_succ]
      refine wpMix_held (.int .i64 21) rfl hS6 (fun w' hw' => by go_simp) ?_
      simp only [Act.put, List.setIfInBounds_toArray, List.set_cons_zero, List.set_cons_succ]
      refine wpMix_held (.int .i64 1) rfl hS6 (fun w' hw' => by go_simp) ?_
      simp only [Act.put, List.setIfInBounds_toArray, List.set_cons_zero, List.set_cons_succ]
      refine wpMix_call ?_
      go_wp2_with fail
      have hA8 := hA7.call (below_one w7 (.cells #[.int .i64 1, .int .i64 256] 3))
      have hb8 := heap_alloc_last w7 (.cells #[.int .i64 1, .int .i64 256] 3)
      have k0 := cell_of_row _ _ 0 _ _ _ hb8
      have k1 := cell_of_row _ _ 1 _ _ _ hb8
      refine ⟨fun _ => regB_cell hA8.hr u hu, ?_⟩
      clear hb8 hA7 hS6
      generalize w7.alloc (.cells #[.int .i64 1, .int .i64 256] 3) = w8 at *
      have k0 : w8.cell? ⟨w7.heap.size, 0, none⟩ = some (.int .i64 1) := k0
      have k1 : w8.cell? ⟨w7.heap.size, 1, none⟩ = some (.int .i64 256) := k1
      have e1 : (g u).tdiv 1 = g u := Int.tdiv_one _
      have e2 : (g u).tdiv 256 = g u / 256 := Int.tdiv_eq_ediv_of_nonneg gu.1
      have e3 : IntKind.i64.wrap (g u) = g u := IntWalk.i64_in _ (by omega)
      have e4 : IntKind.i64.wrap (g u / 256) = g u / 256 := IntWalk.i64_in _ (by omega)
      have e5 : (g u).tmod 256 = g u % 256 := Int.tmod_eq_emod_of_nonneg gu.1
      have e6 : (g u / 256).tmod 256 = g u / 256 % 256 := Int.tmod_eq_emod_of_nonneg (by omega)
      repeat (refine wpMix_still (fun K hK => ?_); go_simp; refine hK _ ?_; clear hK K)
      refine wpMix_nil ?_
      go_wp2_with fail
      go_meet
      case rel =>
        refine ⟨_, _, rfl, rfl, hA8, ?_, rfl⟩
        rw [setR_self]
        rfl
    · -- 24
      have hby := and_byte g4 (lo8_bd n)
      have hE : endB 24 u n g = ((!(bits .and .i64 (g 4) (lo n 8) == 0)) != (u0 == 1)) := by unfold endB; rw [if_pos rfl, hu1]
      have hpos : decide (0 < bits .and .i64 (g 4) (lo n 8)) = !(bits .and .i64 (g 4) (lo n 8) == 0) := by
        by_cases hq : bits .and .i64 (g 4) (lo n 8) = 0
        · rw [hq]; rfl
        · have : 0 < bits .and .i64 (g 4) (lo n 8) := by omega
          simp [hq, this]
      rw [← hpos] at hE
      have HE := Lib.hid hE
      clear hE hpos hby hu1
      have hm := modRef_any n 256 (.inl rfl)
      rw [show n % 256 = lo n 8 from rfl] at hm
      obtain ⟨r0, r1, r2, r3, r4, r5, r6, r7, r8⟩ := regB_cells hA6.hr
      go_upto_region 57 with (fail)
      refine wp_region_mix (fun w' => w'.cell? ⟨w.heap.size, 2, none⟩ = some (.int .i64 u0)) [(0, 0), (1, 1), (2, 0), (3, 0), (4, 0), (5, 1), (6, 1), (7, 1), (8, 1), (9, 1), (10, 1), (11, 3), (12, 0)] (by kernel_rfl) (by kernel_rfl) (fun _ _ _ _ _ h => h) ?_
      simp only [List.map_cons, List.map_nil, opOf, List.getD_cons_zero, List.getD_cons_succ]
      (refine wpMix_still (fun K hK => ?_); go_simp; refine hK _ ?_; clear hK K)
      refine wpMix_held (.int .i64 (g 4)) rfl s2 (fun w' hw' => by go_simp) ?_
      simp only [Act.put, List.setIfInBounds_toArray, List.set_cons_zero, List.set_cons_succ]
      (refine wpMix_still (fun K hK => ?_); go_simp; refine hK _ ?_; clear hK K)
      (refine wpMix_still (fun K hK => ?_); go_simp; refine hK _ ?_; clear hK K)
      (refine wpMix_still (fun K hK => ?_); go_simp; refine ⟨_, ((hm _).mono fun _ _ ⟨h, g⟩ => ⟨h, g.symm⟩), hK _ ?_⟩; clear hK K)
      refine wpMix_held (.int .i64 (bits .and .i64 (g 4) (lo n 8))) rfl s2 (fun w' hw' => by go_simp) ?_
      simp only [Act.put, List.setIfInBounds_toArray, List.set_cons_zero, List.set_cons_succ]
      refine wpMix_held (.bool (decide (0 < bits .and .i64 (g 4) (lo n 8)))) rfl s2 (fun w' hw' => by go_simp) ?_
      simp only [Act.put, List.setIfInBounds_toArray, List.set_cons_zero, List.set_cons_succ]
      refine wpMix_held (.pointer (some ⟨w.heap.size, 2, none⟩)) rfl s2 (fun w' hw' => by go_simp) ?_
      simp only [Act.put, List.setIfInBounds_toArray, List.set_cons_zero, List.set_cons_succ]
      refine wpMix_held (.int .i64 u0) rfl s2 (fun w' hw' => by go_simp) ?_
      simp only [Act.put, List.setIfInBounds_toArray, List.set_cons_zero, List.set_cons_succ]
      refine wpMix_held (.bool (u0 == 1)) rfl s2 (fun w' hw' => by go_simp) ?_
      simp only [Act.put, List.setIfInBounds_toArray, List.set_cons_zero, List.set_cons_succ]
      refine wpMix_held (.bool (decide (0 < bits .and .i64 (g 4) (lo n 8)) != (u0 == 1))) rfl s2 (fun w' hw' => by go_simp; generalize decide (0 < bits .and .i64 (g 4) (lo n 8)) = p; generalize (u0 == 1) = q; cases p <;> cases q <;> rfl) ?_
      simp only [Act.put, List.setIfInBounds_toArray, List.set_cons_zero, List.set_cons_succ]
      have hA7 := hA6.drew
      have hz := regB_row hA7.hz g
      have hbel := below_rowR hA7.bel (arr9 g) (by omega : w.heap.size ≤ w.heap.size + 2)
      have k2 : (w6.drew.setRow (w.heap.size + 2) (arr9 g)).cell? ⟨w.heap.size, 2, none⟩ = some (.int .i64 u0) := by rw [cell_setRow_other _ _ _ _ (by simp)]; exact s2
      change wpMix _ _ _ _ _ _ w6.drew
      clear hA6 s0 s1 s2 s3 ct cu c4 f4 r0 r1 r2 r3 r4 r5 r6 r7 r8
      generalize w6.drew = w7 at *
      refine wpMix_call ?_
      go_wp2_with (refine wpList_store9 rfl 27 _ _ rfl (w.heap.size + 2) rfl (g) rfl 27 (fun _ => 0) ?_ is9R ?_; with_reducible exact hA7.hz)
      refine ⟨fun _ => k2, ?_⟩
      clear k2 hA7
      generalize w7.setRow (w.heap.size + 2) (arr9 g) = w8 at *
      (refine wpMix_still (fun K hK => ?_); go_simp; refine hK _ ?_; clear hK K)
      refine wpMix_nil ?_
      go_wp2_with fail
      exact bodyPost_ret (results9b rfl is9R (w.heap.size + 2) _ rfl hz _ rfl) rfl ⟨by rw [do24, HE.out]; rfl, hbel⟩

theorem stepped_any (d t0 u0 n : Int) (f : Nat → Int) (w : World) :
    Calls Try.prog 59 #[.agg #[.int .i64 d, .int .i64 t0, .int .i64 u0, .int .i64 n], .agg (arr9 f)] w fun e w' =>
      e = .returned (.tuple #[.agg (arr9 (doF d (reg t0) (reg u0) n (fitR f))), .bool (endB d (reg u0) n (fitR f))]) ∧ Below w.heap.size w w' := by
  rcases stepNo d with h | h | h | h | h | h | h | h | h | h | h | h | h | h | h | h | h | h | h | h | h | h | h | h | h
  · exact stepped_A d t0 u0 n (by simp [h]) f w
  · exact stepped_A d t0 u0 n (by simp [h]) f w
  · exact stepped_A d t0 u0 n (by simp [h]) f w
  · exact stepped_B d t0 u0 n (by simp [h]) f w
  · exact stepped_B d t0 u0 n (by simp [h]) f w
  · exact stepped_B d t0 u0 n (by simp [h]) f w
  · exact stepped_B d t0 u0 n (by simp [h]) f w
  · exact stepped_B d t0 u0 n (by simp [h]) f w
  · exact stepped_B d t0 u0 n (by simp [h]) f w
  · exact stepped_C d t0 u0 n (by simp [h]) f w
  · exact stepped_C d t0 u0 n (by simp [h]) f w
  · exact stepped_C d t0 u0 n (by simp [h]) f w
  · exact stepped_C d t0 u0 n (by simp [h]) f w
  · exact stepped_C d t0 u0 n (by simp [h]) f w
  · exact stepped_C d t0 u0 n (by simp [h]) f w
  · exact stepped_A d t0 u0 n (by simp [h]) f w
  · exact stepped_A d t0 u0 n (by simp [h]) f w
  · exact stepped_D d t0 u0 n (by simp [h]) f w
  · exact stepped_D d t0 u0 n (by simp [h]) f w
  · exact stepped_D d t0 u0 n (by simp [h]) f w
  · exact stepped_D d t0 u0 n (by simp [h]) f w
  · exact stepped_A d t0 u0 n (by simp [h]) f w
  · exact stepped_A d t0 u0 n (by simp [h]) f w
  · exact stepped_D d t0 u0 n (by simp [h]) f w
  · exact stepped_A d t0 u0 n (.inr (.inr (.inr (.inr (.inr (.inr (.inr h))))))) f w
end Go.Proofs.Ythhihmggaddlmaa
