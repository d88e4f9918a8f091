/- Contract of package alu's Do: each step of a processor. -/
import Derived.Test.YthhihmggaddlmaaAluShift
import Derived.Test.YthhihmggaddlmaaChecked
import Derived.Test.YthhihmggaddlmaaLin
import Derived.Below
import Derived.BigQuiet
import Derived.Deep.CutBlock
import Derived.Deep.DeepCutAuto
import Derived.Deep.Draws
import Derived.Deep.MidRow
import Derived.Deep.OwnRows
import Derived.Deep.QuietTactic
import Derived.Deep.RegionHeld3
import Derived.Deep.RegionLaw
import Derived.Deep.RegionWith
import Derived.Deep.WholeRow
import Derived.Lib.Hide
import Derived.OrdersHeld
import Derived.OwnWalk
import Derived.RowKit3
import Derived.StillTactics
import Derived.StillTail
import Derived.StillTailTactics
import Derived.WalkKit
namespace Go.Proofs.Ythhihmggaddlmaa
set_option maxRecDepth 100000
open Go.RowKit

/-- The number of a register that is nearest to a number. -/
def reg (n : Int) : Nat := (near n 0 8).toNat
theorem reg_lt (n : Int) : reg n < 9 := by unfold reg near; omega
theorem reg_eq (n : Int) : near n 0 8 = (reg n : Nat) := by unfold reg near; omega
theorem reg_of (k : Nat) (h : k < 9) : reg (k : Int) = k := by unfold reg near; omega

def moves (d : Int) : Bool := d == 1 || d == 2 || d == 18 || d == 19 || d == 20 || d == 21 || d == 22 || d == 23
/-- The registers behind a step, of registers that are as large as they may be. -/
def doF (d : Int) (t u : Nat) (n : Int) (f : Nat → Int) : Nat → Int :=
  if d = 3 then setR f 4 (flg (f 4) (f t))
  else if moves d then fitR (setR f t (movedV d n (f t) (f u)))
  else if d = 4 ∨ d = 5 ∨ d = 6 then fitR (sumF d t u f)
  else if d = 7 ∨ d = 8 ∨ d = 9 then fitR (setR (setR f 4 (flg (f 4) (joinB d (lo (f t) 8) (lo (f u) 8)))) t (joinB d (lo (f t) 8) (lo (f u) 8)))
  else if d = 10 then fitR (countF t 1 f)
  else if d = 11 then fitR (countF t (-1) f)
  else if d = 12 ∨ d = 13 ∨ d = 14 ∨ d = 15 then fitR (shiftF d t f)
  else if d = 16 then fitR (setR f 4 (bits .or .i64 (f 4) (lo n 8)))
  else if d = 17 then fitR (setR f 4 (bits .andNot .i64 (f 4) (lo n 8)))
  else if d = 24 then f
  else fitR f
/-- Whether the instruction ends. -/
def endB (d u n : Int) (f : Nat → Int) : Bool := if d = 24 then (!(bits .and .i64 (f 4) (lo n 8) == 0)) != (u == 1) else false

theorem do24 (t u : Nat) (n : Int) (g : Nat → Int) : doF 24 t u n g = g := by unfold doF moves; simp
theorem end24 (u n : Int) (g : Nat → Int) : endB 24 u n g = (!((bits .and .i64 (g 4) (lo n 8) == 0) != (u == 1))) := by
  unfold endB
  rw [if_pos rfl]
  generalize (bits .and .i64 (g 4) (lo n 8) == 0) = p
  generalize (u == 1) = q
  cases p <;> cases q <;> rfl
theorem aluW.setS {w0 w : World} {d t u n : Int} {f : Nat → Int} (h : aluW w0 w d t u n f) (x y : Int) : aluW w0 ((w.setCell ⟨w0.heap.size, 1, none⟩ (.int .i64 x)).setCell ⟨w0.heap.size, 2, none⟩ (.int .i64 y)) d x y n f := by
  refine ⟨(h.bel.setCell (p := ⟨w0.heap.size, 1, none⟩) (Nat.le_refl _) _).setCell (p := ⟨w0.heap.size, 2, none⟩) (Nat.le_refl _) _, ?_, regB_other (regB_other h.hr _ _ (by simp)) _ _ (by simp), regB_other (regB_other h.hz _ _ (by simp)) _ _ (by simp)⟩
  rw [heap_setCell_same _ _ _ _ _ _ (heap_setCell_same _ _ _ _ _ _ h.hs)]
  rfl

theorem stepNo (d : Int) : d = 1 ∨ d = 2 ∨ d = 3 ∨ d = 4 ∨ d = 5 ∨ d = 6 ∨ d = 7 ∨ d = 8 ∨ d = 9 ∨ d = 10 ∨ d = 11 ∨ d = 12 ∨ d = 13 ∨ d = 14 ∨ d = 15 ∨ d = 16 ∨ d = 17 ∨ d = 18 ∨ d = 19 ∨ d = 20 ∨ d = 21 ∨ d = 22 ∨ d = 23 ∨ d = 24 ∨ (d ≠ 1 ∧ d ≠ 2 ∧ d ≠ 3 ∧ d ≠ 4 ∧ d ≠ 5 ∧ d ≠ 6 ∧ d ≠ 7 ∧ d ≠ 8 ∧ d ≠ 9 ∧ d ≠ 10 ∧ d ≠ 11 ∧ d ≠ 12 ∧ d ≠ 13 ∧ d ≠ 14 ∧ d ≠ 15 ∧ d ≠ 16 ∧ d ≠ 17 ∧ d ≠ 18 ∧ d ≠ 19 ∧ d ≠ 20 ∧ d ≠ 21 ∧ d ≠ 22 ∧ d ≠ 23 ∧ d ≠ 24) := by omega
theorem aluW.setS2 {w0 w : World} {d t u n : Int} {f : Nat → Int} (h : aluW w0 w d t u n f) (x y : Int) : aluW w0 ((w.setCell ⟨w0.heap.size, 2, none⟩ (.int .i64 y)).setCell ⟨w0.heap.size, 1, none⟩ (.int .i64 x)) d x y n f := by
  refine ⟨(h.bel.setCell (p := ⟨w0.heap.size, 2, none⟩) (Nat.le_refl _) _).setCell (p := ⟨w0.heap.size, 1, none⟩) (Nat.le_refl _) _, ?_, regB_other (regB_other h.hr _ _ (by simp)) _ _ (by simp), regB_other (regB_other h.hz _ _ (by simp)) _ _ (by simp)⟩
  rw [heap_setCell_same _ _ _ _ _ _ (heap_setCell_same _ _ _ _ _ _ h.hs)]
  rfl
theorem aluW.drew {w0 w : World} {d t u n : Int} {f : Nat → Int} (h : aluW w0 w d t u n f) : aluW w0 w.drew d t u n f := h.drewN 1

set_option maxRecDepth 100000 in
set_option maxHeartbeats 8000000 in
theorem do_any (d t0 u0 n : Int) (f : Nat → Int) (w : World) :
    Calls Try.prog 104 #[.agg #[.int .i64 d, .int .i64 t0, .int .i64 u0, .int .i64 n], .agg (arr9 f)] w fun e w' =>
      e = .returned (.tuple #[.agg (arr9 (doF d (reg t0) (reg u0) n (fitR f))), .bool (endB d (reg u0) n (fitR f))]) ∧ Below w.heap.size w w' := by
  have hA := aluW.start w d t0 u0 n f
  have e1 := reg_eq t0
  have e2 := reg_eq u0
  have ht := reg_lt t0
  have hu := reg_lt u0
  have hfit := fits_fit f
  have hft := fit_any f
  generalize fitR f = g at *
  generalize reg t0 = t at *
  generalize reg u0 = u at *
  go_enter Try.func104, Try.ntmps104
  go_upto_region 1 with (fail)
  rw [zero9]
  have hA : aluW w (((w.alloc (.cells #[.int .i64 d, .int .i64 t0, .int .i64 u0, .int .i64 n] 100)).alloc (.cells (arr9 f) 27)).alloc (.cells (arr9 fun _ => 0) 27)) d t0 u0 n f := hA
  generalize ((w.alloc (.cells #[.int .i64 d, .int .i64 t0, .int .i64 u0, .int .i64 n] 100)).alloc (.cells (arr9 f) 27)).alloc (.cells (arr9 fun _ => 0) 27) = w1 at *
  go_cut [] (fun wx => aluW w wx d t u n f)
  case first =>
    obtain ⟨s0, s1, s2, s3⟩ := hA.steps
    have q1 := frozen_of_row w1 _ 1 _ _ hA.hs
    have q2 := frozen_of_row w1 _ 2 _ _ hA.hs
    clear hfit hft
    refine wp_region_order (fun _ => True) [(0, false), (1, false), (2, false), (3, false), (4, false), (5, false), (6, false)] [(7, false), (8, false), (9, false)] (by kernel_rfl) (by kernel_rfl) (fun _ _ _ _ _ h => h) trivial ?_
    simp only [List.map_cons, List.map_nil, opOf, List.getD_cons_zero, List.getD_cons_succ]
    repeat (refine wpSteps_step (fun K hK => ?_); go_simp; refine hK _ ?_; clear hK K)
    (refine wpSteps_step (fun K hK => ?_); go_simp; refine ⟨_, ((near8_any _ _).mono fun _ _ ⟨h, g⟩ => ⟨h, g.symm⟩), hK _ ?_⟩; clear hK K)
    repeat (refine wpSteps_step (fun K hK => ?_); go_simp; refine hK _ ?_; clear hK K)
    (refine wpSteps_step (fun K hK => ?_); go_simp; refine ⟨_, ((near8_any _ _).mono fun _ _ ⟨h, g⟩ => ⟨h, g.symm⟩), hK _ ?_⟩; clear hK K)
    repeat (refine wpSteps_step (fun K hK => ?_); go_simp; refine hK _ ?_; clear hK K)
    refine wpSteps_nil ?_
    change wpTail _ _ _ _ _ _ w1.drew
    unfold wpTail
    go_wp2_with fail
    refine ⟨fun h => (by cases h), ?_⟩
    unfold wpTail
    go_wp2_with fail
    refine ⟨fun h => (by cases h), ?_⟩
    unfold wpTail
    go_wp2_with fail
    refine ⟨fun h => (by cases h), ?_⟩
    unfold wpTail
    go_wp2_with fail
    go_meet
    case rel => first | exact hA.setS _ _ | exact (hA.setS _ _).drew | exact hA.drew.setS _ _
  case rest =>
    clear hA e1 e2
    go_upto_region 3 with (first
      | (go_at_call 87; with_reducible refine (hft _).mono ?_; rintro e w2 ⟨rfl, hb⟩; have hA2 := hcut.call hb; clear hb)
      | (refine wpList_load9 rfl 27 _ rfl (w.heap.size + 1) rfl 27 (f) ?_ is9R ?_; with_reducible exact hcut.hr)
      | (refine wpList_store9 rfl 27 _ _ rfl (w.heap.size + 1) rfl (g) rfl 27 (f) ?_ is9R ?_; with_reducible exact hA2.hr))
    have hA3 := hA2.row g
    generalize w2.setRow (w.heap.size + 1) (arr9 g) = w3 at *
    clear hft hA2 hcut
    obtain ⟨s0, s1, s2, s3⟩ := hA3.steps
    go_upto_block 0 with (fail)
    go_cut [] (fun wx => ∃ G, aluW w wx d t u n G ∧ doF d t u n g = fitR G ∧ endB d u n g = false)
    case rest =>
      obtain ⟨G, hA4, hG, hE⟩ := hcut
      clear hA3 s0 s1 s2 s3
      have hft := fit_any G
      have HG := Lib.hid hG
      have HE := Lib.hid hE
      clear hG hE
      go_wp2_with (first
        | (go_at_call 87; with_reducible refine (hft _).mono ?_; rintro e w4 ⟨rfl, hb⟩; have hA5 := hA4.call hb; clear hb)
        | (refine wpList_load9 rfl 27 _ rfl (w.heap.size + 1) rfl 27 (G) ?_ is9R ?_; with_reducible exact hA4.hr) | (refine wpList_store9 rfl 27 _ _ rfl (w.heap.size + 2) rfl (fitR G) rfl 27 (fun _ => 0) ?_ is9R ?_; with_reducible exact hA5.hz))
      exact bodyPost_ret (results9b rfl is9R (w.heap.size + 2) _ rfl (regB_row hA5.hz _) _ rfl) rfl ⟨by rw [HG.out, HE.out]; rfl, below_rowR hA5.bel _ (by omega)⟩
    case first =>
      have ct := regB_cell hA3.hr t ht
      have cu := regB_cell hA3.hr u hu
      have c4 := regB_cell hA3.hr 4 (by decide)
      have ft := regB_free hA3.hr t
      have f4 := regB_free hA3.hr 4
      have g4 : 0 ≤ g 4 ∧ g 4 < 256 := ⟨(hfit 4).1, (hfit 4).2.2 (by decide) (by decide)⟩
      have i1 : (0 : Int) ≤ (t : Int) := by omega
      have i2 : (t : Int) < 9 := by omega
      have i3 : (0 : Int) ≤ (u : Int) := by omega
      have i4 : (u : Int) < 9 := by omega
      rcases stepNo d with rfl | rfl | rfl | rfl | rfl | rfl | rfl | rfl | rfl | rfl | rfl | rfl | rfl | rfl | rfl | rfl | rfl | rfl | rfl | rfl | rfl | rfl | rfl | rfl | hd
      · -- 1
        have hc := moved_any 1 t u n (g t) (g u)
        go_upto_region 14 with (fail)
        refine wp_region_order (fun w' => w'.cell? ⟨w.heap.size, 1, none⟩ = some (.int .i64 t)) [(0, true), (1, true), (2, false), (3, false), (4, false), (5, false), (6, false), (7, false), (8, false), (9, false), (10, false)] [(11, true), (12, false), (13, false)] (by kernel_rfl) (by kernel_rfl) (fun _ _ _ _ _ h => h) s1 ?_
        simp only [List.map_cons, List.map_nil, opOf, List.getD_cons_zero, List.getD_cons_succ]
        refine wpSteps_held (.pointer (some ⟨w.heap.size, 1, none⟩)) rfl (fun w' hw' => by go_simp) ?_
        refine wpSteps_held (.int .i64 t) rfl (fun w' hw' => by go_simp) ?_
        repeat (refine wpSteps_step (fun K hK => ?_); go_simp; refine hK _ ?_; clear hK K)
        refine wpSteps_nil ?_
        change wpTail _ _ _ _ _ _ w3.drew
        have hA4 := hA3.drew
        clear hA3 s0 s1 s2 s3 ct cu c4 ft f4
        generalize w3.drew = w4 at *
        unfold wpTail
        go_wp2_with (go_at_call 108; with_reducible refine (hc _).mono ?_; rintro e w5 ⟨rfl, hb⟩; have hA5 := hA4.call hb; clear hb)
        refine ⟨fun _ => hA5.steps.2.1, ?_⟩
        have ft := regB_free hA5.hr t
        have ct := regB_cell hA5.hr t ht
        unfold wpTail
        go_wp2_with fail
        refine ⟨fun h => (by cases h), ?_⟩
        unfold wpTail
        go_wp2_with fail
        refine ⟨fun h => (by cases h), ?_⟩
        unfold wpTail
        go_wp2_with fail
        go_meet
        case rel => exact ⟨setR g t (movedV 1 n (g t) (g u)), hA5.set t _ ht, rfl, rfl⟩
      · -- 2
        have hc := moved_any 2 t u n (g t) (g u)
        go_upto_region 14 with (fail)
        refine wp_region_order (fun w' => w'.cell? ⟨w.heap.size, 1, none⟩ = some (.int .i64 t)) [(0, true), (1, true), (2, false), (3, false), (4, false), (5, false), (6, false), (7, false), (8, false), (9, false), (10, false)] [(11, true), (12, false), (13, false)] (by kernel_rfl) (by kernel_rfl) (fun _ _ _ _ _ h => h) s1 ?_
        simp only [List.map_cons, List.map_nil, opOf, List.getD_cons_zero, List.getD_cons_succ]
        refine wpSteps_held (.pointer (some ⟨w.heap.size, 1, none⟩)) rfl (fun w' hw' => by go_simp) ?_
        refine wpSteps_held (.int .i64 t) rfl (fun w' hw' => by go_simp) ?_
        repeat (refine wpSteps_step (fun K hK => ?_); go_simp; refine hK _ ?_; clear hK K)
        refine wpSteps_nil ?_
        change wpTail _ _ _ _ _ _ w3.drew
        have hA4 := hA3.drew
        clear hA3 s0 s1 s2 s3 ct cu c4 ft f4
        generalize w3.drew = w4 at *
        unfold wpTail
        go_wp2_with (go_at_call 108; with_reducible refine (hc _).mono ?_; rintro e w5 ⟨rfl, hb⟩; have hA5 := hA4.call hb; clear hb)
        refine ⟨fun _ => hA5.steps.2.1, ?_⟩
        have ft := regB_free hA5.hr t
        have ct := regB_cell hA5.hr t ht
        unfold wpTail
        go_wp2_with fail
        refine ⟨fun h => (by cases h), ?_⟩
        unfold wpTail
        go_wp2_with fail
        refine ⟨fun h => (by cases h), ?_⟩
        unfold wpTail
        go_wp2_with fail
        go_meet
        case rel => exact ⟨setR g t (movedV 2 n (g t) (g u)), hA5.set t _ ht, rfl, rfl⟩
      · -- 3
        have hc := flagged_any g (g t) g4
        obtain ⟨r0, r1, r2, r3, r4, r5, r6, r7, r8⟩ := regB_cells hA3.hr
        go_upto_region 5 with (fail)
        go_still_tail 5, (by kernel_rfl)
        change wpList _ _ _ _ _ w3.drew
        have hA4 := hA3.drew
        clear hA3 s0 s1 s2 s3 ct cu c4 ft f4 r0 r1 r2 r3 r4 r5 r6 r7 r8
        generalize w3.drew = w4 at *
        go_wp2_with (first
          | (go_at_call 107; refine (hc _).mono ?_; rintro e w5 ⟨rfl, hb⟩; have hA5 := hA4.call hb; clear hb)
          | (refine wpList_store9 rfl 27 _ _ rfl (w.heap.size + 2) rfl (setR g 4 (flg (g 4) (g t))) rfl 27 (fun _ => 0) ?_ is9R ?_; with_reducible exact hA5.hz))
        exact bodyPost_ret (results9b rfl is9R (w.heap.size + 2) _ rfl (regB_row hA5.hz _) _ rfl) rfl ⟨rfl, below_rowR hA5.bel _ (by omega)⟩
      · -- 4
        have hc := sum4_any t u n g ht hu hfit
        go_wp2_with (first
          | (go_at_call 109; with_reducible refine (hc _).mono ?_; rintro e w4 ⟨rfl, hb⟩; have hA4 := hA3.call hb; clear hb)
          | (refine wpList_load9 rfl 27 _ rfl (w.heap.size + 1) rfl 27 (g) ?_ is9R ?_; with_reducible exact hA3.hr) | (refine wpList_store9 rfl 27 _ _ rfl (w.heap.size + 1) rfl (sumF 4 t u g) rfl 27 (g) ?_ is9R ?_; with_reducible exact hA4.hr))
        have hA5 := hA4.row (sumF 4 t u g)
        go_meet
        case rel => exact ⟨_, hA5, rfl, rfl⟩
      · -- 5
        have hc := sum5_any t u n g ht hu hfit
        go_wp2_with (first
          | (go_at_call 109; with_reducible refine (hc _).mono ?_; rintro e w4 ⟨rfl, hb⟩; have hA4 := hA3.call hb; clear hb)
          | (refine wpList_load9 rfl 27 _ rfl (w.heap.size + 1) rfl 27 (g) ?_ is9R ?_; with_reducible exact hA3.hr) | (refine wpList_store9 rfl 27 _ _ rfl (w.heap.size + 1) rfl (sumF 5 t u g) rfl 27 (g) ?_ is9R ?_; with_reducible exact hA4.hr))
        have hA5 := hA4.row (sumF 5 t u g)
        go_meet
        case rel => exact ⟨_, hA5, rfl, rfl⟩
      · -- 6
        have hc := sum6_any t u n g ht hu hfit
        go_wp2_with (first
          | (go_at_call 109; with_reducible refine (hc _).mono ?_; rintro e w4 ⟨rfl, hb⟩; have hA4 := hA3.call hb; clear hb)
          | (refine wpList_load9 rfl 27 _ rfl (w.heap.size + 1) rfl 27 (g) ?_ is9R ?_; with_reducible exact hA3.hr) | (refine wpList_store9 rfl 27 _ _ rfl (w.heap.size + 1) rfl (sumF 6 t u g) rfl 27 (g) ?_ is9R ?_; with_reducible exact hA4.hr))
        have hA5 := hA4.row (sumF 6 t u g)
        go_meet
        case rel => exact ⟨_, hA5, rfl, rfl⟩
      · -- 7
        obtain ⟨J, hJ⟩ : ∃ J, J = joinB 7 (lo (g t) 8) (lo (g u) 8) := ⟨_, rfl⟩
        have hc := flagged_any g J g4
        have hF : doF 7 t u n g = fitR (setR (setR g 4 (flg (g 4) J)) t J) := by rw [hJ]; rfl
        have HF := Lib.hid hF
        have HJ := Lib.hid hJ
        clear hF hJ
        go_upto_region 22 with (fail)
        go_quiet (first | (go_at_call 111; exact quiet_left (low8_any _ _)) | (go_at_call 110; exact quiet_left (joined_any _ _ _ _)))
        simp only [← HJ.out]
        have hA4 := hA3.drewN nq
        clear hA3 s0 s1 s2 s3 ct cu c4 ft f4
        generalize w3.drewN nq = w4 at *
        go_upto_region 24 with (first
          | (go_at_call 107; with_reducible refine (hc _).mono ?_; rintro e w5 ⟨rfl, hb⟩; have hA5 := hA4.call hb; clear hb)
          | (refine wpList_load9 rfl 27 _ rfl (w.heap.size + 1) rfl 27 (g) ?_ is9R ?_; with_reducible exact hA4.hr) | (refine wpList_store9 rfl 27 _ _ rfl (w.heap.size + 1) rfl (setR g 4 (flg (g 4) J)) rfl 27 (g) ?_ is9R ?_; with_reducible exact hA5.hr))
        have hA6 := hA5.row (setR g 4 (flg (g 4) J))
        clear hA4 hA5 hc
        generalize w5.setRow (w.heap.size + 1) (arr9 (setR g 4 (flg (g 4) J))) = w6 at *
        obtain ⟨s0, s1, s2, s3⟩ := hA6.steps
        have ft := regB_free hA6.hr t
        have ct := regB_cell hA6.hr t ht
        go_wp2_with fail
        go_meet
        case rel => exact ⟨_, hA6.set t J ht, HF.out, rfl⟩
      · -- 8
        obtain ⟨J, hJ⟩ : ∃ J, J = joinB 8 (lo (g t) 8) (lo (g u) 8) := ⟨_, rfl⟩
        have hc := flagged_any g J g4
        have hF : doF 8 t u n g = fitR (setR (setR g 4 (flg (g 4) J)) t J) := by rw [hJ]; rfl
        have HF := Lib.hid hF
        have HJ := Lib.hid hJ
        clear hF hJ
        go_upto_region 22 with (fail)
        go_quiet (first | (go_at_call 111; exact quiet_left (low8_any _ _)) | (go_at_call 110; exact quiet_left (joined_any _ _ _ _)))
        simp only [← HJ.out]
        have hA4 := hA3.drewN nq
        clear hA3 s0 s1 s2 s3 ct cu c4 ft f4
        generalize w3.drewN nq = w4 at *
        go_upto_region 24 with (first
          | (go_at_call 107; with_reducible refine (hc _).mono ?_; rintro e w5 ⟨rfl, hb⟩; have hA5 := hA4.call hb; clear hb)
          | (refine wpList_load9 rfl 27 _ rfl (w.heap.size + 1) rfl 27 (g) ?_ is9R ?_; with_reducible exact hA4.hr) | (refine wpList_store9 rfl 27 _ _ rfl (w.heap.size + 1) rfl (setR g 4 (flg (g 4) J)) rfl 27 (g) ?_ is9R ?_; with_reducible exact hA5.hr))
        have hA6 := hA5.row (setR g 4 (flg (g 4) J))
        clear hA4 hA5 hc
        generalize w5.setRow (w.heap.size + 1) (arr9 (setR g 4 (flg (g 4) J))) = w6 at *
        obtain ⟨s0, s1, s2, s3⟩ := hA6.steps
        have ft := regB_free hA6.hr t
        have ct := regB_cell hA6.hr t ht
        go_wp2_with fail
        go_meet
        case rel => exact ⟨_, hA6.set t J ht, HF.out, rfl⟩
      · -- 9
        obtain ⟨J, hJ⟩ : ∃ J, J = joinB 9 (lo (g t) 8) (lo (g u) 8) := ⟨_, rfl⟩
        have hc := flagged_any g J g4
        have hF : doF 9 t u n g = fitR (setR (setR g 4 (flg (g 4) J)) t J) := by rw [hJ]; rfl
        have HF := Lib.hid hF
        have HJ := Lib.hid hJ
        clear hF hJ
        go_upto_region 22 with (fail)
        go_quiet (first | (go_at_call 111; exact quiet_left (low8_any _ _)) | (go_at_call 110; exact quiet_left (joined_any _ _ _ _)))
        simp only [← HJ.out]
        have hA4 := hA3.drewN nq
        clear hA3 s0 s1 s2 s3 ct cu c4 ft f4
        generalize w3.drewN nq = w4 at *
        go_upto_region 24 with (first
          | (go_at_call 107; with_reducible refine (hc _).mono ?_; rintro e w5 ⟨rfl, hb⟩; have hA5 := hA4.call hb; clear hb)
          | (refine wpList_load9 rfl 27 _ rfl (w.heap.size + 1) rfl 27 (g) ?_ is9R ?_; with_reducible exact hA4.hr) | (refine wpList_store9 rfl 27 _ _ rfl (w.heap.size + 1) rfl (setR g 4 (flg (g 4) J)) rfl 27 (g) ?_ is9R ?_; with_reducible exact hA5.hr))
        have hA6 := hA5.row (setR g 4 (flg (g 4) J))
        clear hA4 hA5 hc
        generalize w5.setRow (w.heap.size + 1) (arr9 (setR g 4 (flg (g 4) J))) = w6 at *
        obtain ⟨s0, s1, s2, s3⟩ := hA6.steps
        have ft := regB_free hA6.hr t
        have ct := regB_cell hA6.hr t ht
        go_wp2_with fail
        go_meet
        case rel => exact ⟨_, hA6.set t J ht, HF.out, rfl⟩
      · -- 10
        have hc := countR_any t 1 g ht (by simp) hfit
        go_wp2_with (first
          | (go_at_call 112; with_reducible refine (hc _).mono ?_; rintro e w4 ⟨rfl, hb⟩; have hA4 := hA3.call hb; clear hb)
          | (refine wpList_load9 rfl 27 _ rfl (w.heap.size + 1) rfl 27 (g) ?_ is9R ?_; with_reducible exact hA3.hr) | (refine wpList_store9 rfl 27 _ _ rfl (w.heap.size + 1) rfl (countF t 1 g) rfl 27 (g) ?_ is9R ?_; with_reducible exact hA4.hr))
        have hA5 := hA4.row (countF t 1 g)
        go_meet
        case rel => exact ⟨_, hA5, rfl, rfl⟩
      · -- 11
        have hc := countR_any t (-1) g ht (by simp) hfit
        go_wp2_with (first
          | (go_at_call 112; with_reducible refine (hc _).mono ?_; rintro e w4 ⟨rfl, hb⟩; have hA4 := hA3.call hb; clear hb)
          | (refine wpList_load9 rfl 27 _ rfl (w.heap.size + 1) rfl 27 (g) ?_ is9R ?_; with_reducible exact hA3.hr) | (refine wpList_store9 rfl 27 _ _ rfl (w.heap.size + 1) rfl (countF t (-1) g) rfl 27 (g) ?_ is9R ?_; with_reducible exact hA4.hr))
        have hA5 := hA4.row (countF t (-1) g)
        go_meet
        case rel => exact ⟨_, hA5, rfl, rfl⟩
      · -- 12
        have hc := shift12_any t u n g ht hfit
        go_wp2_with (first
          | (go_at_call 113; with_reducible refine (hc _).mono ?_; rintro e w4 ⟨rfl, hb⟩; have hA4 := hA3.call hb; clear hb)
          | (refine wpList_load9 rfl 27 _ rfl (w.heap.size + 1) rfl 27 (g) ?_ is9R ?_; with_reducible exact hA3.hr) | (refine wpList_store9 rfl 27 _ _ rfl (w.heap.size + 1) rfl (shiftF 12 t g) rfl 27 (g) ?_ is9R ?_; with_reducible exact hA4.hr))
        have hA5 := hA4.row (shiftF 12 t g)
        go_meet
        case rel => exact ⟨_, hA5, rfl, rfl⟩
      · -- 13
        have hc := shift13_any t u n g ht hfit
        go_wp2_with (first
          | (go_at_call 113; with_reducible refine (hc _).mono ?_; rintro e w4 ⟨rfl, hb⟩; have hA4 := hA3.call hb; clear hb)
          | (refine wpList_load9 rfl 27 _ rfl (w.heap.size + 1) rfl 27 (g) ?_ is9R ?_; with_reducible exact hA3.hr) | (refine wpList_store9 rfl 27 _ _ rfl (w.heap.size + 1) rfl (shiftF 13 t g) rfl 27 (g) ?_ is9R ?_; with_reducible exact hA4.hr))
        have hA5 := hA4.row (shiftF 13 t g)
        go_meet
        case rel => exact ⟨_, hA5, rfl, rfl⟩
      · -- 14
        have hc := shift14_any t u n g ht hfit
        go_wp2_with (first
          | (go_at_call 113; with_reducible refine (hc _).mono ?_; rintro e w4 ⟨rfl, hb⟩; have hA4 := hA3.call hb; clear hb)
          | (refine wpList_load9 rfl 27 _ rfl (w.heap.size + 1) rfl 27 (g) ?_ is9R ?_; with_reducible exact hA3.hr) | (refine wpList_store9 rfl 27 _ _ rfl (w.heap.size + 1) rfl (shiftF 14 t g) rfl 27 (g) ?_ is9R ?_; with_reducible exact hA4.hr))
        have hA5 := hA4.row (shiftF 14 t g)
        go_meet
        case rel => exact ⟨_, hA5, rfl, rfl⟩
      · -- 15
        have hc := shift15_any t u n g ht hfit
        go_wp2_with (first
          | (go_at_call 113; with_reducible refine (hc _).mono ?_; rintro e w4 ⟨rfl, hb⟩; have hA4 := hA3.call hb; clear hb)
          | (refine wpList_load9 rfl 27 _ rfl (w.heap.size + 1) rfl 27 (g) ?_ is9R ?_; with_reducible exact hA3.hr) | (refine wpList_store9 rfl 27 _ _ rfl (w.heap.size + 1) rfl (shiftF 15 t g) rfl 27 (g) ?_ is9R ?_; with_reducible exact hA4.hr))
        have hA5 := hA4.row (shiftF 15 t g)
        go_meet
        case rel => exact ⟨_, hA5, rfl, rfl⟩
      · -- 16
        go_upto_region 35 with (fail)
        refine wp_region_order (fun _ => True) [(0, false), (1, false), (2, false), (3, false), (4, false), (5, false), (6, false)] [(7, false)] (by kernel_rfl) (by kernel_rfl) (fun _ _ _ _ _ h => h) trivial ?_
        simp only [List.map_cons, List.map_nil, opOf, List.getD_cons_zero, List.getD_cons_succ]
        repeat (refine wpSteps_step (fun K hK => ?_); go_simp; refine hK _ ?_; clear hK K)
        (refine wpSteps_step (fun K hK => ?_); go_simp; refine ⟨_, ((low8_any _ _).mono fun _ _ ⟨h, g⟩ => ⟨h, g.symm⟩), hK _ ?_⟩; clear hK K)
        repeat (refine wpSteps_step (fun K hK => ?_); go_simp; refine hK _ ?_; clear hK K)
        refine wpSteps_nil ?_
        change wpTail _ _ _ _ _ _ w3.drew
        have hA4 := hA3.drew
        clear hA3 s0 s1 s2 s3 ct cu c4 ft f4
        generalize w3.drew = w4 at *
        have f4 := regB_free hA4.hr 4
        have c4 := regB_cell hA4.hr 4 (by decide)
        unfold wpTail
        go_wp2_with fail
        refine ⟨fun h => (by cases h), ?_⟩
        unfold wpTail
        go_wp2_with fail
        go_meet
        case rel => exact ⟨setR g 4 (bits .or .i64 (g 4) (lo n 8)), hA4.set 4 _ (by decide), rfl, rfl⟩
      · -- 17
        go_upto_region 37 with (fail)
        refine wp_region_order (fun _ => True) [(0, false), (1, false), (2, false), (3, false), (4, false), (5, false), (6, false)] [(7, false)] (by kernel_rfl) (by kernel_rfl) (fun _ _ _ _ _ h => h) trivial ?_
        simp only [List.map_cons, List.map_nil, opOf, List.getD_cons_zero, List.getD_cons_succ]
        repeat (refine wpSteps_step (fun K hK => ?_); go_simp; refine hK _ ?_; clear hK K)
        (refine wpSteps_step (fun K hK => ?_); go_simp; refine ⟨_, ((low8_any _ _).mono fun _ _ ⟨h, g⟩ => ⟨h, g.symm⟩), hK _ ?_⟩; clear hK K)
        repeat (refine wpSteps_step (fun K hK => ?_); go_simp; refine hK _ ?_; clear hK K)
        refine wpSteps_nil ?_
        change wpTail _ _ _ _ _ _ w3.drew
        have hA4 := hA3.drew
        clear hA3 s0 s1 s2 s3 ct cu c4 ft f4
        generalize w3.drew = w4 at *
        have f4 := regB_free hA4.hr 4
        have c4 := regB_cell hA4.hr 4 (by decide)
        unfold wpTail
        go_wp2_with fail
        refine ⟨fun h => (by cases h), ?_⟩
        unfold wpTail
        go_wp2_with fail
        go_meet
        case rel => exact ⟨setR g 4 (bits .andNot .i64 (g 4) (lo n 8)), hA4.set 4 _ (by decide), rfl, rfl⟩
      · -- 18
        have hc := moved_any 18 t u n (g t) (g u)
        go_upto_region 14 with (fail)
        refine wp_region_order (fun w' => w'.cell? ⟨w.heap.size, 1, none⟩ = some (.int .i64 t)) [(0, true), (1, true), (2, false), (3, false), (4, false), (5, false), (6, false), (7, false), (8, false), (9, false), (10, false)] [(11, true), (12, false), (13, false)] (by kernel_rfl) (by kernel_rfl) (fun _ _ _ _ _ h => h) s1 ?_
        simp only [List.map_cons, List.map_nil, opOf, List.getD_cons_zero, List.getD_cons_succ]
        refine wpSteps_held (.pointer (some ⟨w.heap.size, 1, none⟩)) rfl (fun w' hw' => by go_simp) ?_
        refine wpSteps_held (.int .i64 t) rfl (fun w' hw' => by go_simp) ?_
        repeat (refine wpSteps_step (fun K hK => ?_); go_simp; refine hK _ ?_; clear hK K)
        refine wpSteps_nil ?_
        change wpTail _ _ _ _ _ _ w3.drew
        have hA4 := hA3.drew
        clear hA3 s0 s1 s2 s3 ct cu c4 ft f4
        generalize w3.drew = w4 at *
        unfold wpTail
        go_wp2_with (go_at_call 108; with_reducible refine (hc _).mono ?_; rintro e w5 ⟨rfl, hb⟩; have hA5 := hA4.call hb; clear hb)
        refine ⟨fun _ => hA5.steps.2.1, ?_⟩
        have ft := regB_free hA5.hr t
        have ct := regB_cell hA5.hr t ht
        unfold wpTail
        go_wp2_with fail
        refine ⟨fun h => (by cases h), ?_⟩
        unfold wpTail
        go_wp2_with fail
        refine ⟨fun h => (by cases h), ?_⟩
        unfold wpTail
        go_wp2_with fail
        go_meet
        case rel => exact ⟨setR g t (movedV 18 n (g t) (g u)), hA5.set t _ ht, rfl, rfl⟩
      · -- 19
        have hc := moved_any 19 t u n (g t) (g u)
        go_upto_region 14 with (fail)
        refine wp_region_order (fun w' => w'.cell? ⟨w.heap.size, 1, none⟩ = some (.int .i64 t)) [(0, true), (1, true), (2, false), (3, false), (4, false), (5, false), (6, false), (7, false), (8, false), (9, false), (10, false)] [(11, true), (12, false), (13, false)] (by kernel_rfl) (by kernel_rfl) (fun _ _ _ _ _ h => h) s1 ?_
        simp only [List.map_cons, List.map_nil, opOf, List.getD_cons_zero, List.getD_cons_succ]
        refine wpSteps_held (.pointer (some ⟨w.heap.size, 1, none⟩)) rfl (fun w' hw' => by go_simp) ?_
        refine wpSteps_held (.int .i64 t) rfl (fun w' hw' => by go_simp) ?_
        repeat (refine wpSteps_step (fun K hK => ?_); go_simp; refine hK _ ?_; clear hK K)
        refine wpSteps_nil ?_
        change wpTail _ _ _ _ _ _ w3.drew
        have hA4 := hA3.drew
        clear hA3 s0 s1 s2 s3 ct cu c4 ft f4
        generalize w3.drew = w4 at *
        unfold wpTail
        go_wp2_with (go_at_call 108; with_reducible refine (hc _).mono ?_; rintro e w5 ⟨rfl, hb⟩; have hA5 := hA4.call hb; clear hb)
        refine ⟨fun _ => hA5.steps.2.1, ?_⟩
        have ft := regB_free hA5.hr t
        have ct := regB_cell hA5.hr t ht
        unfold wpTail
        go_wp2_with fail
        refine ⟨fun h => (by cases h), ?_⟩
        unfold wpTail
        go_wp2_with fail
        refine ⟨fun h => (by cases h), ?_⟩
        unfold wpTail
        go_wp2_with fail
        go_meet
        case rel => exact ⟨setR g t (movedV 19 n (g t) (g u)), hA5.set t _ ht, rfl, rfl⟩
      · -- 20
        have hc := moved_any 20 t u n (g t) (g u)
        go_upto_region 14 with (fail)
        refine wp_region_order (fun w' => w'.cell? ⟨w.heap.size, 1, none⟩ = some (.int .i64 t)) [(0, true), (1, true), (2, false), (3, false), (4, false), (5, false), (6, false), (7, false), (8, false), (9, false), (10, false)] [(11, true), (12, false), (13, false)] (by kernel_rfl) (by kernel_rfl) (fun _ _ _ _ _ h => h) s1 ?_
        simp only [List.map_cons, List.map_nil, opOf, List.getD_cons_zero, List.getD_cons_succ]
        refine wpSteps_held (.pointer (some ⟨w.heap.size, 1, none⟩)) rfl (fun w' hw' => by go_simp) ?_
        refine wpSteps_held (.int .i64 t) rfl (fun w' hw' => by go_simp) ?_
        repeat (refine wpSteps_step (fun K hK => ?_); go_simp; refine hK _ ?_; clear hK K)
        refine wpSteps_nil ?_
        change wpTail _ _ _ _ _ _ w3.drew
        have hA4 := hA3.drew
        clear hA3 s0 s1 s2 s3 ct cu c4 ft f4
        generalize w3.drew = w4 at *
        unfold wpTail
        go_wp2_with (go_at_call 108; with_reducible refine (hc _).mono ?_; rintro e w5 ⟨rfl, hb⟩; have hA5 := hA4.call hb; clear hb)
        refine ⟨fun _ => hA5.steps.2.1, ?_⟩
        have ft := regB_free hA5.hr t
        have ct := regB_cell hA5.hr t ht
        unfold wpTail
        go_wp2_with fail
        refine ⟨fun h => (by cases h), ?_⟩
        unfold wpTail
        go_wp2_with fail
        refine ⟨fun h => (by cases h), ?_⟩
        unfold wpTail
        go_wp2_with fail
        go_meet
        case rel => exact ⟨setR g t (movedV 20 n (g t) (g u)), hA5.set t _ ht, rfl, rfl⟩
      · -- 21
        have hc := moved_any 21 t u n (g t) (g u)
        go_upto_region 14 with (fail)
        refine wp_region_order (fun w' => w'.cell? ⟨w.heap.size, 1, none⟩ = some (.int .i64 t)) [(0, true), (1, true), (2, false), (3, false), (4, false), (5, false), (6, false), (7, false), (8, false), (9, false), (10, false)] [(11, true), (12, false), (13, false)] (by kernel_rfl) (by kernel_rfl) (fun _ _ _ _ _ h => h) s1 ?_
        simp only [List.map_cons, List.map_nil, opOf, List.getD_cons_zero, List.getD_cons_succ]
        refine wpSteps_held (.pointer (some ⟨w.heap.size, 1, none⟩)) rfl (fun w' hw' => by go_simp) ?_
        refine wpSteps_held (.int .i64 t) rfl (fun w' hw' => by go_simp) ?_
        repeat (refine wpSteps_step (fun K hK => ?_); go_simp; refine hK _ ?_; clear hK K)
        refine wpSteps_nil ?_
        change wpTail _ _ _ _ _ _ w3.drew
        have hA4 := hA3.drew
        clear hA3 s0 s1 s2 s3 ct cu c4 ft f4
        generalize w3.drew = w4 at *
        unfold wpTail
        go_wp2_with (go_at_call 108; with_reducible refine (hc _).mono ?_; rintro e w5 ⟨rfl, hb⟩; have hA5 := hA4.call hb; clear hb)
        refine ⟨fun _ => hA5.steps.2.1, ?_⟩
        have ft := regB_free hA5.hr t
        have ct := regB_cell hA5.hr t ht
        unfold wpTail
        go_wp2_with fail
        refine ⟨fun h => (by cases h), ?_⟩
        unfold wpTail
        go_wp2_with fail
        refine ⟨fun h => (by cases h), ?_⟩
        unfold wpTail
        go_wp2_with fail
        go_meet
        case rel => exact ⟨setR g t (movedV 21 n (g t) (g u)), hA5.set t _ ht, rfl, rfl⟩
      · -- 22
        have hc := moved_any 22 t u n (g t) (g u)
        go_upto_region 14 with (fail)
        refine wp_region_order (fun w' => w'.cell? ⟨w.heap.size, 1, none⟩ = some (.int .i64 t)) [(0, true), (1, true), (2, false), (3, false), (4, false), (5, false), (6, false), (7, false), (8, false), (9, false), (10, false)] [(11, true), (12, false), (13, false)] (by kernel_rfl) (by kernel_rfl) (fun _ _ _ _ _ h => h) s1 ?_
        simp only [List.map_cons, List.map_nil, opOf, List.getD_cons_zero, List.getD_cons_succ]
        refine wpSteps_held (.pointer (some ⟨w.heap.size, 1, none⟩)) rfl (fun w' hw' => by go_simp) ?_
        refine wpSteps_held (.int .i64 t) rfl (fun w' hw' => by go_simp) ?_
        repeat (refine wpSteps_step (fun K hK => ?_); go_simp; refine hK _ ?_; clear hK K)
        refine wpSteps_nil ?_
        change wpTail _ _ _ _ _ _ w3.drew
        have hA4 := hA3.drew
        clear hA3 s0 s1 s2 s3 ct cu c4 ft f4
        generalize w3.drew = w4 at *
        unfold wpTail
        go_wp2_with (go_at_call 108; with_reducible refine (hc _).mono ?_; rintro e w5 ⟨rfl, hb⟩; have hA5 := hA4.call hb; clear hb)
        refine ⟨fun _ => hA5.steps.2.1, ?_⟩
        have ft := regB_free hA5.hr t
        have ct := regB_cell hA5.hr t ht
        unfold wpTail
        go_wp2_with fail
        refine ⟨fun h => (by cases h), ?_⟩
        unfold wpTail
        go_wp2_with fail
        refine ⟨fun h => (by cases h), ?_⟩
        unfold wpTail
        go_wp2_with fail
        go_meet
        case rel => exact ⟨setR g t (movedV 22 n (g t) (g u)), hA5.set t _ ht, rfl, rfl⟩
      · -- 23
        have hc := moved_any 23 t u n (g t) (g u)
        go_upto_region 14 with (fail)
        refine wp_region_order (fun w' => w'.cell? ⟨w.heap.size, 1, none⟩ = some (.int .i64 t)) [(0, true), (1, true), (2, false), (3, false), (4, false), (5, false), (6, false), (7, false), (8, false), (9, false), (10, false)] [(11, true), (12, false), (13, false)] (by kernel_rfl) (by kernel_rfl) (fun _ _ _ _ _ h => h) s1 ?_
        simp only [List.map_cons, List.map_nil, opOf, List.getD_cons_zero, List.getD_cons_succ]
        refine wpSteps_held (.pointer (some ⟨w.heap.size, 1, none⟩)) rfl (fun w' hw' => by go_simp) ?_
        refine wpSteps_held (.int .i64 t) rfl (fun w' hw' => by go_simp) ?_
        repeat (refine wpSteps_step (fun K hK => ?_); go_simp; refine hK _ ?_; clear hK K)
        refine wpSteps_nil ?_
        change wpTail _ _ _ _ _ _ w3.drew
        have hA4 := hA3.drew
        clear hA3 s0 s1 s2 s3 ct cu c4 ft f4
        generalize w3.drew = w4 at *
        unfold wpTail
        go_wp2_with (go_at_call 108; with_reducible refine (hc _).mono ?_; rintro e w5 ⟨rfl, hb⟩; have hA5 := hA4.call hb; clear hb)
        refine ⟨fun _ => hA5.steps.2.1, ?_⟩
        have ft := regB_free hA5.hr t
        have ct := regB_cell hA5.hr t ht
        unfold wpTail
        go_wp2_with fail
        refine ⟨fun h => (by cases h), ?_⟩
        unfold wpTail
        go_wp2_with fail
        refine ⟨fun h => (by cases h), ?_⟩
        unfold wpTail
        go_wp2_with fail
        go_meet
        case rel => exact ⟨setR g t (movedV 23 n (g t) (g u)), hA5.set t _ ht, rfl, rfl⟩
      · -- 24
        obtain ⟨r0, r1, r2, r3, r4, r5, r6, r7, r8⟩ := regB_cells hA3.hr
        go_upto_region 39 with (fail)
        refine wp_region_order (fun w' => w'.cell? ⟨w.heap.size, 2, none⟩ = some (.int .i64 u) ∧ w'.cell? ⟨w.heap.size + 1, 4, none⟩ = some (.int .i64 (g 4))) [(0, false), (3, false), (4, false), (5, false), (1, true), (2, true), (6, true), (7, true), (8, true), (9, true), (10, true), (11, true)] [(12, true), (13, false)] (by kernel_rfl) (by kernel_rfl) (fun _ _ _ _ _ h => h) ⟨s2, c4⟩ ?_
        simp only [List.map_cons, List.map_nil, opOf, List.getD_cons_zero, List.getD_cons_succ]
        repeat (refine wpSteps_step (fun K hK => ?_); go_simp; refine hK _ ?_; clear hK K)
        (refine wpSteps_step (fun K hK => ?_); go_simp; refine ⟨_, ((low8_any _ _).mono fun _ _ ⟨h, g⟩ => ⟨h, g.symm⟩), hK _ ?_⟩; clear hK K)
        refine wpSteps_held (.pointer (some ⟨w.heap.size + 1, 4, none⟩)) rfl (fun w' hw' => by go_simp) ?_
        simp only [Act.put, List.setIfInBounds_toArray, List.set_cons_zero, List.set_cons_succ]
        refine wpSteps_held (.int .i64 (g 4)) rfl (fun w' hw' => by obtain ⟨h1, h2⟩ := hw'; go_simp) ?_
        simp only [Act.put, List.setIfInBounds_toArray, List.set_cons_zero, List.set_cons_succ]
        refine wpSteps_held (.int .i64 (bits .and .i64 (g 4) (lo n 8))) rfl (fun w' hw' => by go_simp) ?_
        simp only [Act.put, List.setIfInBounds_toArray, List.set_cons_zero, List.set_cons_succ]
        refine wpSteps_held (.bool (!(bits .and .i64 (g 4) (lo n 8) == 0))) rfl (fun w' hw' => by go_simp; rfl) ?_
        simp only [Act.put, List.setIfInBounds_toArray, List.set_cons_zero, List.set_cons_succ]
        refine wpSteps_held (.pointer (some ⟨w.heap.size, 2, none⟩)) rfl (fun w' hw' => by go_simp) ?_
        simp only [Act.put, List.setIfInBounds_toArray, List.set_cons_zero, List.set_cons_succ]
        refine wpSteps_held (.int .i64 u) rfl (fun w' hw' => by obtain ⟨h1, h2⟩ := hw'; go_simp) ?_
        simp only [Act.put, List.setIfInBounds_toArray, List.set_cons_zero, List.set_cons_succ]
        refine wpSteps_held (.bool ((u : Int) == 1)) rfl (fun w' hw' => by go_simp) ?_
        simp only [Act.put, List.setIfInBounds_toArray, List.set_cons_zero, List.set_cons_succ]
        refine wpSteps_held (.bool ((!(bits .and .i64 (g 4) (lo n 8) == 0)) != ((u : Int) == 1))) rfl (fun w' hw' => by go_simp; generalize (bits .and .i64 (g 4) (lo n 8) == 0) = p; generalize ((u : Int) == 1) = q; cases p <;> cases q <;> rfl) ?_
        simp only [Act.put, List.setIfInBounds_toArray, List.set_cons_zero, List.set_cons_succ]
        refine wpSteps_nil ?_
        change wpTail _ _ _ _ _ _ w3.drew
        have hA4 := hA3.drew
        have hb := regB_row hA4.hz g
        have hbel := below_rowR hA4.bel (arr9 g) (by omega : w.heap.size ≤ w.heap.size + 2)
        clear hA3 s0 s1 s2 s3 ct cu c4 ft f4 r0 r1 r2 r3 r4 r5 r6 r7 r8
        generalize w3.drew = w4 at *
        unfold wpTail
        go_wp2_with (refine wpList_store9 rfl 27 _ _ rfl (w.heap.size + 2) rfl (g) rfl 27 (fun _ => 0) ?_ is9R ?_; with_reducible exact hA4.hz)
        have k2 : (w4.setRow (w.heap.size + 2) (arr9 g)).cell? ⟨w.heap.size, 2, none⟩ = some (.int .i64 u) := by rw [cell_setRow_other _ _ _ _ (by simp)]; exact hA4.steps.2.2.1
        have k4 : (w4.setRow (w.heap.size + 2) (arr9 g)).cell? ⟨w.heap.size + 1, 4, none⟩ = some (.int .i64 (g 4)) := by rw [cell_setRow_other _ _ _ _ (by simp)]; exact regB_cell hA4.hr 4 (by decide)
        refine ⟨fun _ => ⟨k2, k4⟩, ?_⟩
        clear k2 k4 hA4
        generalize w4.setRow (w.heap.size + 2) (arr9 g) = w5 at *
        unfold wpTail
        go_wp2_with fail
        refine ⟨fun h => (by cases h), ?_⟩
        unfold wpTail
        go_wp2_with fail
        exact bodyPost_ret (results9b rfl is9R (w.heap.size + 2) _ rfl hb _ rfl) rfl ⟨by rw [do24, end24]; rfl, hbel⟩
      · obtain ⟨h1, h2, h3, h4, h5, h6, h7, h8, h9, h10, h11, h12, h13, h14, h15, h16, h17, h18, h19, h20, h21, h22, h23, h24⟩ := hd
        go_wp2_with fail
        go_meet
        case rel => exact ⟨_, hA3, (by unfold doF moves; simp [h1, h2, h3, h4, h5, h6, h7, h8, h9, h10, h11, h12, h13, h14, h15, h16, h17, h18, h19, h20, h21, h22, h23, h24]), (by unfold endB; simp [h24])⟩
end Go.Proofs.Ythhihmggaddlmaa
