/- Contracts of package core's small functions: register, fixed, current, address. -/
import Derived.Test.YthhihmggaddlmaaAluFlags
import Derived.Test.YthhihmggaddlmaaChecked
import Derived.Test.YthhihmggaddlmaaCoreMath
import Derived.Test.YthhihmggaddlmaaLin
import Derived.Below
import Derived.BigQuiet
import Derived.ChangeMaps5
import Derived.Deep.DeepCutAuto
import Derived.Deep.Draws
import Derived.Deep.MidRow
import Derived.Deep.OwnRows
import Derived.Deep.QuietTactic
import Derived.Deep.RegionHeld3
import Derived.Deep.RegionWith
import Derived.Deep.Slices
import Derived.Deep.WholeRow
import Derived.Lib.Hide
import Derived.Lib.SmallJoins
import Derived.OpenShut
import Derived.OrdersHeld
import Derived.OwnWalk
import Derived.RowKit3
import Derived.StillTactics
import Derived.StillTail
import Derived.StillTailTactics
import Derived.WalkKit
namespace Go.Proofs.Ythhihmggaddlmaa
open Go.RowKit
set_option maxRecDepth 100000

theorem isReg_any (r : Int) (w : World) :
    Calls Try.prog 90 #[.int .i64 r] w fun e w' => e = .returned (.bool (isReg r)) ∧ w = w' := by
  go_enter Try.func90, Try.ntmps90
  go_wp2
  all_goals
    go_ret
    refine ⟨?_, rfl⟩
    simp_all [isReg]
    try omega
theorem fixed_any (p : Int) (w : World) :
    Calls Try.prog 102 #[.int .i64 p] w fun e w' => e = .returned (.int .i64 (fixedAt p)) ∧ w = w' := by
  by_cases h : p < 6 ∨ 11 < p
  · have e : fixedAt p = 0 := by unfold fixedAt; repeat' split
                                 all_goals first | omega | rfl
    rw [e]
    have q6 : (p == 6) = false := by simp; omega
    have q7 : (p == 7) = false := by simp; omega
    have q8 : (p == 8) = false := by simp; omega
    have q9 : (p == 9) = false := by simp; omega
    have q10 : (p == 10) = false := by simp; omega
    have q11 : (p == 11) = false := by simp; omega
    go_enter Try.func102, Try.ntmps102
    go_wp2
    go_ret
    exact ⟨rfl, rfl⟩
  · rcases (by omega : p = 6 ∨ p = 7 ∨ p = 8 ∨ p = 9 ∨ p = 10 ∨ p = 11) with rfl | rfl | rfl | rfl | rfl | rfl
    all_goals
      go_enter Try.func102, Try.ntmps102
      go_wp2
      go_ret
      exact ⟨rfl, rfl⟩
theorem current_any (a : Option Addr) (len cap : Nat) (f : Nat → Int) (op pl : Int) (n : Bool) (w : World) :
    Calls Try.prog 95 #[.slice a len cap, .agg (core12 f op pl n)] w fun e w' => e = .returned (.bool (decide (0 ≤ pl) && decide (pl < (len : Int)))) ∧ Below w.heap.size w w' := by
  have h0 : coreB (w.alloc (.cells (core12 f op pl n) 29)) w.heap.size 29 f op pl n := rowB_new w _ _
  have b0 := (boxes1 w (.cells (core12 f op pl n) 29)).2.1
  have c2 := coreB_pl h0
  go_enter Try.func95, Try.ntmps95
  go_upto_region 1 with (fail)
  generalize w.alloc (.cells (core12 f op pl n) 29) = w1 at *
  clear h0
  cases h1 : decide (0 ≤ pl) <;> cases h2 : decide (pl < (len : Int))
  all_goals
    go_wp2_with fail
    go_ret
    exact ⟨by rw [h1, h2]; rfl, b0⟩
theorem agR : isAg Try.prog 27 9 := ⟨⟨_, Try.underlying27, rfl⟩, by kernel_rfl⟩
theorem agK : isAg Try.prog 29 12 := ⟨⟨_, Try.underlying29, rfl⟩, by kernel_rfl⟩
theorem agB : isAg Try.prog 34 3 := ⟨⟨_, Try.underlying34, rfl⟩, by kernel_rfl⟩
theorem agC : isAg Try.prog 84 4 := ⟨⟨_, Try.underlying84, rfl⟩, by kernel_rfl⟩
theorem agP : isAg Try.prog 25 5 := ⟨⟨_, Try.underlying25, rfl⟩, by kernel_rfl⟩
/-- A function's two results, the second one, registers, in a variable. -/
theorem results9c {P : Program} {fn : Func} {p q : Tmp} {ty : TypeId} (h : fn.results = #[.tmp q, .cell p ty]) (h9 : is9 P ty)
    (g : Nat) (tmps : Array Value) (hp : tmps.getD p undef = .pointer (some ⟨g, 0, none⟩)) {w : World} {t : TypeId} {f : Nat → Int} (hb : regB w g t f) (b : Value) (hq : tmps.getD q undef = b) :
    (results fn tmps).run P w = .ok (.tuple #[b, .agg (arr9 f)]) w := by
  obtain ⟨⟨e, hu⟩, hi⟩ := h9
  have hl := run_loadVar_row (P := P) w g t ty (arr9 f) (0, 0) _ hb hu rfl hi
  rw [Array.getD_eq_getD_getElem?] at hp hq
  simp only [results, h]
  simp [hp, hq, asAddr, hl]

set_option maxHeartbeats 4000000 in
theorem address_any (p : Int) (f : Nat → Int) (hf : fits f) (w : World) :
    Calls Try.prog 91 #[.int .i64 p, .agg (arr9 f)] w fun e w' => e = .returned (.tuple #[.int .i64 (placeA p f), .agg (arr9 (placeR p f))]) ∧ Below w.heap.size w w' := by
  have f7 := hf 7
  have f8 := hf 8
  have f3 : 0 ≤ f 3 ∧ f 3 < 256 := ⟨(hf 3).1, (hf 3).2.2 (by decide) (by decide)⟩
  have l3 := lo8_bd (f 3 + 1)
  clear hf
  obtain ⟨k0, k1, bW, sW⟩ := boxes2 w (.cells (arr9 f) 27) (.cells (arr9 fun _ => 0) 27)
  have k0 : regB _ _ _ _ := k0
  have k1 : regB _ _ _ _ := k1
  have lo16 := fun n w => low_any n 16 w
  have lo8 := fun n w => low_any n 8 w
  rw [show wd 16 = 16 from rfl] at lo16
  rw [show wd 8 = 8 from rfl] at lo8
  rcases (by omega : p = 0 ∨ p = 4 ∨ p = 5 ∨ p = 1 ∨ p = 2 ∨ p = 3 ∨ (p ≠ 0 ∧ p ≠ 4 ∧ p ≠ 5 ∧ p ≠ 1 ∧ p ≠ 2 ∧ p ≠ 3)) with rfl | rfl | rfl | rfl | rfl | rfl | hp
  · rw [show placeA 0 f = f 7 from rfl, show placeR 0 f = setR f 7 (lo (f 7 + 1) 16) from rfl]
    go_enter Try.func91, Try.ntmps91
    go_upto_region 1 with (fail)
    rw [zero9]
    generalize (w.alloc (.cells (arr9 f) 27)).alloc (.cells (arr9 fun _ => 0) 27) = w1 at *
    have c7 := regB_cell k0 7 (by decide)
    have z7 := regB_free k0 7
    go_upto_region 5 with (go_at_call 61; refine (lo16 _ _).mono ?_; rintro e w' ⟨rfl, rfl⟩)
    have hA := regB_set k0 7 (lo (f 7 + 1) 16) (by decide)
    have hB := regB_other k1 ⟨w.heap.size, 7, none⟩ (.int .i64 (lo (f 7 + 1) 16)) (by simp)
    have bB := bW.setCell (p := ⟨w.heap.size, 7, none⟩) (Nat.le_refl _) (.int .i64 (lo (f 7 + 1) 16))
    clear k0 k1 bW c7 z7
    generalize w1.setCell ⟨w.heap.size, 7, none⟩ (.int .i64 (lo (f 7 + 1) 16)) = w2 at *
    obtain ⟨r0, r1, r2, r3, r4, r5, r6, r7, r8⟩ := regB_cells hA
    go_still_tail 3, (by kernel_rfl)
    change wpList _ _ _ _ _ w2.drew
    have hZ : regB w2.drew (w.heap.size + 1) 27 (fun _ => 0) := hB
    go_wp2_with (refine wpList_store9 rfl 27 _ _ rfl (w.heap.size + 1) rfl (setR f 7 (lo (f 7 + 1) 16)) rfl 27 (fun _ => 0) ?_ is9R ?_; exact hZ)
    exact bodyPost_ret (results9c rfl is9R (w.heap.size + 1) _ rfl (regB_row hZ (setR f 7 (lo (f 7 + 1) 16))) _ rfl) rfl ⟨rfl, below_rowR bB.drew _ (by omega)⟩
  · rw [show placeA 4 f = 256 + f 3 from rfl, show placeR 4 f = setR f 3 (lo (f 3 - 1) 8) from rfl]
    go_enter Try.func91, Try.ntmps91
    go_upto_region 1 with (fail)
    rw [zero9]
    generalize (w.alloc (.cells (arr9 f) 27)).alloc (.cells (arr9 fun _ => 0) 27) = w1 at *
    have c3 := regB_cell k0 3 (by decide)
    have z3 := regB_free k0 3
    go_upto_region 9 with (go_at_call 61; refine (lo8 _ _).mono ?_; rintro e w' ⟨rfl, rfl⟩)
    have hA := regB_set k0 3 (lo (f 3 - 1) 8) (by decide)
    have hB := regB_other k1 ⟨w.heap.size, 3, none⟩ (.int .i64 (lo (f 3 - 1) 8)) (by simp)
    have bB := bW.setCell (p := ⟨w.heap.size, 3, none⟩) (Nat.le_refl _) (.int .i64 (lo (f 3 - 1) 8))
    clear k0 k1 bW c3 z3
    generalize w1.setCell ⟨w.heap.size, 3, none⟩ (.int .i64 (lo (f 3 - 1) 8)) = w2 at *
    obtain ⟨r0, r1, r2, r3, r4, r5, r6, r7, r8⟩ := regB_cells hA
    go_still_tail 3, (by kernel_rfl)
    change wpList _ _ _ _ _ w2.drew
    have hZ : regB w2.drew (w.heap.size + 1) 27 (fun _ => 0) := hB
    go_wp2_with (refine wpList_store9 rfl 27 _ _ rfl (w.heap.size + 1) rfl (setR f 3 (lo (f 3 - 1) 8)) rfl 27 (fun _ => 0) ?_ is9R ?_; exact hZ)
    exact bodyPost_ret (results9c rfl is9R (w.heap.size + 1) _ rfl (regB_row hZ (setR f 3 (lo (f 3 - 1) 8))) _ rfl) rfl ⟨rfl, below_rowR bB.drew _ (by omega)⟩
  · have hw5 : IntKind.i64.wrap (256 + lo (f 3 + 1) 8) = 256 + lo (f 3 + 1) 8 := IntWalk.i64_in _ (by omega)
    rw [show placeA 5 f = 256 + lo (f 3 + 1) 8 from rfl, show placeR 5 f = setR f 3 (lo (f 3 + 1) 8) from rfl]
    go_enter Try.func91, Try.ntmps91
    go_upto_region 1 with (fail)
    rw [zero9]
    generalize (w.alloc (.cells (arr9 f) 27)).alloc (.cells (arr9 fun _ => 0) 27) = w1 at *
    have c3 := regB_cell k0 3 (by decide)
    have z3 := regB_free k0 3
    go_upto_region 12 with (go_at_call 61; refine (lo8 _ _).mono ?_; rintro e w' ⟨rfl, rfl⟩)
    have hA := regB_set k0 3 (lo (f 3 + 1) 8) (by decide)
    have hB := regB_other k1 ⟨w.heap.size, 3, none⟩ (.int .i64 (lo (f 3 + 1) 8)) (by simp)
    have bB := bW.setCell (p := ⟨w.heap.size, 3, none⟩) (Nat.le_refl _) (.int .i64 (lo (f 3 + 1) 8))
    clear k0 k1 bW c3 z3
    generalize w1.setCell ⟨w.heap.size, 3, none⟩ (.int .i64 (lo (f 3 + 1) 8)) = w2 at *
    obtain ⟨r0, r1, r2, r3, r4, r5, r6, r7, r8⟩ := regB_cells hA
    rw [setR_same] at r3
    go_still_tail 5, (by kernel_rfl)
    change wpList _ _ _ _ _ w2.drew
    have hZ : regB w2.drew (w.heap.size + 1) 27 (fun _ => 0) := hB
    go_wp2_with (refine wpList_store9 rfl 27 _ _ rfl (w.heap.size + 1) rfl (setR f 3 (lo (f 3 + 1) 8)) rfl 27 (fun _ => 0) ?_ is9R ?_; exact hZ)
    exact bodyPost_ret (results9c rfl is9R (w.heap.size + 1) _ rfl (regB_row hZ (setR f 3 (lo (f 3 + 1) 8))) _ rfl) rfl ⟨rfl, below_rowR bB.drew _ (by omega)⟩
  · rw [show placeA 1 f = f 7 from rfl, show placeR 1 f = f from rfl]
    go_enter Try.func91, Try.ntmps91
    go_upto_region 1 with (fail)
    rw [zero9]
    generalize (w.alloc (.cells (arr9 f) 27)).alloc (.cells (arr9 fun _ => 0) 27) = w1 at *
    have hA := k0
    have hB := k1
    have bB := bW
    clear k0 k1 bW
    generalize hw12 : w1 = w2 at *
    clear hw12
    go_upto_region 14 with (fail)
    obtain ⟨r0, r1, r2, r3, r4, r5, r6, r7, r8⟩ := regB_cells hA
    go_still_tail 4, (by kernel_rfl)
    change wpList _ _ _ _ _ w2.drew
    have hZ : regB w2.drew (w.heap.size + 1) 27 (fun _ => 0) := hB
    go_wp2_with (refine wpList_store9 rfl 27 _ _ rfl (w.heap.size + 1) rfl (f) rfl 27 (fun _ => 0) ?_ is9R ?_; exact hZ)
    exact bodyPost_ret (results9c rfl is9R (w.heap.size + 1) _ rfl (regB_row hZ (f)) _ rfl) rfl ⟨rfl, below_rowR bB.drew _ (by omega)⟩
  · rw [show placeA 2 f = f 8 from rfl, show placeR 2 f = f from rfl]
    go_enter Try.func91, Try.ntmps91
    go_upto_region 1 with (fail)
    rw [zero9]
    generalize (w.alloc (.cells (arr9 f) 27)).alloc (.cells (arr9 fun _ => 0) 27) = w1 at *
    have hA := k0
    have hB := k1
    have bB := bW
    clear k0 k1 bW
    generalize hw12 : w1 = w2 at *
    clear hw12
    go_upto_region 16 with (fail)
    obtain ⟨r0, r1, r2, r3, r4, r5, r6, r7, r8⟩ := regB_cells hA
    go_still_tail 4, (by kernel_rfl)
    change wpList _ _ _ _ _ w2.drew
    have hZ : regB w2.drew (w.heap.size + 1) 27 (fun _ => 0) := hB
    go_wp2_with (refine wpList_store9 rfl 27 _ _ rfl (w.heap.size + 1) rfl (f) rfl 27 (fun _ => 0) ?_ is9R ?_; exact hZ)
    exact bodyPost_ret (results9c rfl is9R (w.heap.size + 1) _ rfl (regB_row hZ (f)) _ rfl) rfl ⟨rfl, below_rowR bB.drew _ (by omega)⟩
  · have hw3 : IntKind.i64.wrap (f 8 + 1) = f 8 + 1 := IntWalk.i64_in _ (by omega)
    rw [show placeA 3 f = lo (f 8 + 1) 16 from rfl, show placeR 3 f = f from rfl]
    go_enter Try.func91, Try.ntmps91
    go_upto_region 1 with (fail)
    rw [zero9]
    generalize (w.alloc (.cells (arr9 f) 27)).alloc (.cells (arr9 fun _ => 0) 27) = w1 at *
    have hA := k0
    have hB := k1
    have bB := bW
    clear k0 k1 bW
    generalize hw12 : w1 = w2 at *
    clear hw12
    go_upto_region 18 with (fail)
    obtain ⟨r0, r1, r2, r3, r4, r5, r6, r7, r8⟩ := regB_cells hA
    refine wp_region_mix (fun _ => True) [(0, 0), (1, 0), (2, 0), (3, 0), (4, 0), (5, 0), (6, 2)] (by kernel_rfl) (by kernel_rfl) (fun _ _ _ _ _ h => h) ?_
    simp only [List.map_cons, List.map_nil, opOf, List.getD_cons_zero, List.getD_cons_succ]
    change wpMix _ _ _ _ _ _ w2.drew
    have hZ : regB w2.drew (w.heap.size + 1) 27 (fun _ => 0) := hB
    have hA : regB w2.drew w.heap.size 27 (f) := hA
    have bB := bB.drew
    generalize w2.drew = w3 at *
    clear r0 r1 r2 r3 r4 r5 r6 r7 r8
    obtain ⟨r0, r1, r2, r3, r4, r5, r6, r7, r8⟩ := regB_cells hA
    (refine wpMix_still (fun K hK => ?_); go_simp; refine hK _ ?_; clear hK K)
    (refine wpMix_still (fun K hK => ?_); go_simp; refine hK _ ?_; clear hK K)
    (refine wpMix_still (fun K hK => ?_); go_simp; refine hK _ ?_; clear hK K)
    (refine wpMix_still (fun K hK => ?_); go_simp; refine ⟨_, ((lo16 _ _).mono fun _ _ ⟨h, g⟩ => ⟨h, g.symm⟩), hK _ ?_⟩; clear hK K)
    (refine wpMix_still (fun K hK => ?_); go_simp; refine hK _ ?_; clear hK K)
    (refine wpMix_still (fun K hK => ?_); go_simp; refine hK _ ?_; clear hK K)
    refine wpMix_call ?_
    go_wp2_with (refine wpList_store9 rfl 27 _ _ rfl (w.heap.size + 1) rfl (f) rfl 27 (fun _ => 0) ?_ is9R ?_; exact hZ)
    refine ⟨fun h => (by cases h), ?_⟩
    refine wpMix_nil ?_
    go_wp2_with fail
    exact bodyPost_ret (results9c rfl is9R (w.heap.size + 1) _ rfl (regB_row hZ (f)) _ rfl) rfl ⟨rfl, below_rowR bB _ (by omega)⟩
  · obtain ⟨h0, h4, h5, h1, h2, h3⟩ := hp
    have q0 : (p == 0) = false := by simpa using h0
    have q4 : (p == 4) = false := by simpa using h4
    have q5 : (p == 5) = false := by simpa using h5
    have q1 : (p == 1) = false := by simpa using h1
    have q2 : (p == 2) = false := by simpa using h2
    have q3 : (p == 3) = false := by simpa using h3
    rw [show placeA p f = fixedAt p from (by unfold placeA; rw [if_neg h0, if_neg h4, if_neg h5, if_neg h1, if_neg h2, if_neg h3]), show placeR p f = f from (by unfold placeR; rw [if_neg h0, if_neg h4, if_neg h5])]
    go_enter Try.func91, Try.ntmps91
    go_upto_region 1 with (fail)
    rw [zero9]
    generalize (w.alloc (.cells (arr9 f) 27)).alloc (.cells (arr9 fun _ => 0) 27) = w1 at *
    have hA := k0
    have hB := k1
    have bB := bW
    clear k0 k1 bW
    generalize hw12 : w1 = w2 at *
    clear hw12
    clear h0 h1 h2 h3 h4 h5
    go_upto_region 19 with (fail)
    obtain ⟨r0, r1, r2, r3, r4, r5, r6, r7, r8⟩ := regB_cells hA
    refine wp_region_mix (fun _ => True) [(0, 0), (1, 0), (2, 0), (3, 0), (4, 2)] (by kernel_rfl) (by kernel_rfl) (fun _ _ _ _ _ h => h) ?_
    simp only [List.map_cons, List.map_nil, opOf, List.getD_cons_zero, List.getD_cons_succ]
    change wpMix _ _ _ _ _ _ w2.drew
    have hZ : regB w2.drew (w.heap.size + 1) 27 (fun _ => 0) := hB
    have hA : regB w2.drew w.heap.size 27 (f) := hA
    have bB := bB.drew
    generalize w2.drew = w3 at *
    clear r0 r1 r2 r3 r4 r5 r6 r7 r8
    obtain ⟨r0, r1, r2, r3, r4, r5, r6, r7, r8⟩ := regB_cells hA
    (refine wpMix_still (fun K hK => ?_); go_simp; refine hK _ ?_; clear hK K)
    (refine wpMix_still (fun K hK => ?_); go_simp; refine ⟨_, ((fixed_any _ _).mono fun _ _ ⟨h, g⟩ => ⟨h, g.symm⟩), hK _ ?_⟩; clear hK K)
    (refine wpMix_still (fun K hK => ?_); go_simp; refine hK _ ?_; clear hK K)
    (refine wpMix_still (fun K hK => ?_); go_simp; refine hK _ ?_; clear hK K)
    refine wpMix_call ?_
    go_wp2_with (refine wpList_store9 rfl 27 _ _ rfl (w.heap.size + 1) rfl (f) rfl 27 (fun _ => 0) ?_ is9R ?_; exact hZ)
    refine ⟨fun h => (by cases h), ?_⟩
    refine wpMix_nil ?_
    go_wp2_with fail
    exact bodyPost_ret (results9c rfl is9R (w.heap.size + 1) _ rfl (regB_row hZ (f)) _ rfl) rfl ⟨rfl, below_rowR bB _ (by omega)⟩
end Go.Proofs.Ythhihmggaddlmaa
