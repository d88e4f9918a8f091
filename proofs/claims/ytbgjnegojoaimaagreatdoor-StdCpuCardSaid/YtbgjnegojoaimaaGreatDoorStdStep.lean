/- The museum's processor as the reference's text: steps (all that the processor has but SIf). -/
import Derived.Test.YtbgjnegojoaimaaGreatDoorStdText
namespace Go.Proofs.YtbgjnegojoaimaaGreatDoor
open Go.RowKit

set_option maxRecDepth 100000 in
theorem stepT1_any (t u n : Int) (w : World) :
    Calls Tryz.prog 39 #[.agg #[.int .i64 1, .int .i64 t, .int .i64 u, .int .i64 n], .func (.func 37) #[] #[]] w fun e w' => e = .returned (.string ((⟨#[109]⟩ ++ regT t) ++ regT u)) ∧ Below w.heap.size w w' := by
  have hE : ∀ (args : Array Value) (w : World), (callFunc 37 args).run Tryz.prog w = .ok (.enter 37 args) w := enters_of Tryz.func37 (by kernel_rfl) rfl
  obtain ⟨k0, bW, sW⟩ := boxes1 w (.cells #[.int .i64 1, .int .i64 t, .int .i64 u, .int .i64 n] 59)
  have k0 : rowB _ _ _ _ := k0
  have s0 := rowB_cell k0 0 (v := .int .i64 1) rfl
  have s1 := rowB_cell k0 1 (v := .int .i64 t) rfl
  have s2 := rowB_cell k0 2 (v := .int .i64 u) rfl
  have s3 := rowB_cell k0 3 (v := .int .i64 n) rfl
  go_enter Tryz.func39, Tryz.ntmps39
  go_upto_region 1 with (fail)
  generalize w.alloc (.cells #[.int .i64 1, .int .i64 t, .int .i64 u, .int .i64 n] 59) = w1 at *
  go_upto_region 2 with (fail)
  go_cut [6] (fun s wx => s = .string ⟨#[109]⟩ ∧ wx = w1)
  case first =>
    go_wp2_with (go_at_call 38; refine (limitS_any _ _ _ _).mono ?_; rintro e w' ⟨rfl, rfl⟩)
    go_meet
    case rel => exact ⟨by kernel_rfl, rfl⟩
  case rest =>
  obtain ⟨rfl, hwc⟩ := hcut
  subst hwc
  go_upto_region 22 with (fail)
  refine wp_region_mix (fun _ => True) [(0, 0), (1, 0), (2, 0), (3, 0), (4, 0), (5, 0), (6, 0), (7, 0), (8, 0), (9, 0), (10, 0), (11, 0)] (by kernel_rfl) (by kernel_rfl) (fun _ _ _ _ _ h => h) ?_
  simp only [List.map_cons, List.map_nil, opOf, List.getD_cons_zero, List.getD_cons_succ]
  change wpMix _ _ _ _ _ _ wc.drew
  have s1 : wc.drew.cell? ⟨w.heap.size, 1, none⟩ = some (.int .i64 t) := s1
  have s2 : wc.drew.cell? ⟨w.heap.size, 2, none⟩ = some (.int .i64 u) := s2
  have bW := bW.drew
  generalize wc.drew = w2 at *
  have z1 := regT_size t
  have z2 := regT_size u
  (refine wpMix_still (fun K hK => ?_); go_simp; refine hK _ ?_; clear hK K)
  (refine wpMix_still (fun K hK => ?_); go_simp; refine hK _ ?_; clear hK K)
  (refine wpMix_still (fun K hK => ?_); go_simp; refine hK _ ?_; clear hK K)
  (refine wpMix_still (fun K hK => ?_); go_simp; refine hK _ ?_; clear hK K)
  (refine wpMix_still (fun K hK => ?_); go_simp; refine ⟨_, ((regT_any _ _).mono fun _ _ ⟨h, g⟩ => ⟨h, g.symm⟩), hK _ ?_⟩; clear hK K)
  (refine wpMix_still (fun K hK => ?_); go_simp; refine hK _ ?_; clear hK K)
  (refine wpMix_still (fun K hK => ?_); go_simp; refine hK _ ?_; clear hK K)
  (refine wpMix_still (fun K hK => ?_); go_simp; refine hK _ ?_; clear hK K)
  (refine wpMix_still (fun K hK => ?_); go_simp; refine hK _ ?_; clear hK K)
  (refine wpMix_still (fun K hK => ?_); go_simp; refine ⟨_, ((regT_any _ _).mono fun _ _ ⟨h, g⟩ => ⟨h, g.symm⟩), hK _ ?_⟩; clear hK K)
  (refine wpMix_still (fun K hK => ?_); go_simp; refine hK _ ?_; clear hK K)
  (refine wpMix_still (fun K hK => ?_); go_simp; refine hK _ ?_; clear hK K)
  refine wpMix_nil ?_
  go_wp2_with fail
  go_ret
  exact ⟨rfl, bW⟩
set_option maxRecDepth 100000 in
theorem stepT4_any (t u n : Int) (w : World) :
    Calls Tryz.prog 39 #[.agg #[.int .i64 4, .int .i64 t, .int .i64 u, .int .i64 n], .func (.func 37) #[] #[]] w fun e w' => e = .returned (.string ((⟨#[43]⟩ ++ regT t) ++ regT u)) ∧ Below w.heap.size w w' := by
  have hE : ∀ (args : Array Value) (w : World), (callFunc 37 args).run Tryz.prog w = .ok (.enter 37 args) w := enters_of Tryz.func37 (by kernel_rfl) rfl
  obtain ⟨k0, bW, sW⟩ := boxes1 w (.cells #[.int .i64 4, .int .i64 t, .int .i64 u, .int .i64 n] 59)
  have k0 : rowB _ _ _ _ := k0
  have s0 := rowB_cell k0 0 (v := .int .i64 4) rfl
  have s1 := rowB_cell k0 1 (v := .int .i64 t) rfl
  have s2 := rowB_cell k0 2 (v := .int .i64 u) rfl
  have s3 := rowB_cell k0 3 (v := .int .i64 n) rfl
  go_enter Tryz.func39, Tryz.ntmps39
  go_upto_region 1 with (fail)
  generalize w.alloc (.cells #[.int .i64 4, .int .i64 t, .int .i64 u, .int .i64 n] 59) = w1 at *
  go_upto_region 2 with (fail)
  go_cut [6] (fun s wx => s = .string ⟨#[43]⟩ ∧ wx = w1)
  case first =>
    go_wp2_with (go_at_call 38; refine (limitS_any _ _ _ _).mono ?_; rintro e w' ⟨rfl, rfl⟩)
    go_meet
    case rel => exact ⟨by kernel_rfl, rfl⟩
  case rest =>
  obtain ⟨rfl, hwc⟩ := hcut
  subst hwc
  go_upto_region 22 with (fail)
  refine wp_region_mix (fun _ => True) [(0, 0), (1, 0), (2, 0), (3, 0), (4, 0), (5, 0), (6, 0), (7, 0), (8, 0), (9, 0), (10, 0), (11, 0)] (by kernel_rfl) (by kernel_rfl) (fun _ _ _ _ _ h => h) ?_
  simp only [List.map_cons, List.map_nil, opOf, List.getD_cons_zero, List.getD_cons_succ]
  change wpMix _ _ _ _ _ _ wc.drew
  have s1 : wc.drew.cell? ⟨w.heap.size, 1, none⟩ = some (.int .i64 t) := s1
  have s2 : wc.drew.cell? ⟨w.heap.size, 2, none⟩ = some (.int .i64 u) := s2
  have bW := bW.drew
  generalize wc.drew = w2 at *
  have z1 := regT_size t
  have z2 := regT_size u
  (refine wpMix_still (fun K hK => ?_); go_simp; refine hK _ ?_; clear hK K)
  (refine wpMix_still (fun K hK => ?_); go_simp; refine hK _ ?_; clear hK K)
  (refine wpMix_still (fun K hK => ?_); go_simp; refine hK _ ?_; clear hK K)
  (refine wpMix_still (fun K hK => ?_); go_simp; refine hK _ ?_; clear hK K)
  (refine wpMix_still (fun K hK => ?_); go_simp; refine ⟨_, ((regT_any _ _).mono fun _ _ ⟨h, g⟩ => ⟨h, g.symm⟩), hK _ ?_⟩; clear hK K)
  (refine wpMix_still (fun K hK => ?_); go_simp; refine hK _ ?_; clear hK K)
  (refine wpMix_still (fun K hK => ?_); go_simp; refine hK _ ?_; clear hK K)
  (refine wpMix_still (fun K hK => ?_); go_simp; refine hK _ ?_; clear hK K)
  (refine wpMix_still (fun K hK => ?_); go_simp; refine hK _ ?_; clear hK K)
  (refine wpMix_still (fun K hK => ?_); go_simp; refine ⟨_, ((regT_any _ _).mono fun _ _ ⟨h, g⟩ => ⟨h, g.symm⟩), hK _ ?_⟩; clear hK K)
  (refine wpMix_still (fun K hK => ?_); go_simp; refine hK _ ?_; clear hK K)
  (refine wpMix_still (fun K hK => ?_); go_simp; refine hK _ ?_; clear hK K)
  refine wpMix_nil ?_
  go_wp2_with fail
  go_ret
  exact ⟨rfl, bW⟩
set_option maxRecDepth 100000 in
theorem stepT5_any (t u n : Int) (w : World) :
    Calls Tryz.prog 39 #[.agg #[.int .i64 5, .int .i64 t, .int .i64 u, .int .i64 n], .func (.func 37) #[] #[]] w fun e w' => e = .returned (.string ((⟨#[126]⟩ ++ regT t) ++ regT u)) ∧ Below w.heap.size w w' := by
  have hE : ∀ (args : Array Value) (w : World), (callFunc 37 args).run Tryz.prog w = .ok (.enter 37 args) w := enters_of Tryz.func37 (by kernel_rfl) rfl
  obtain ⟨k0, bW, sW⟩ := boxes1 w (.cells #[.int .i64 5, .int .i64 t, .int .i64 u, .int .i64 n] 59)
  have k0 : rowB _ _ _ _ := k0
  have s0 := rowB_cell k0 0 (v := .int .i64 5) rfl
  have s1 := rowB_cell k0 1 (v := .int .i64 t) rfl
  have s2 := rowB_cell k0 2 (v := .int .i64 u) rfl
  have s3 := rowB_cell k0 3 (v := .int .i64 n) rfl
  go_enter Tryz.func39, Tryz.ntmps39
  go_upto_region 1 with (fail)
  generalize w.alloc (.cells #[.int .i64 5, .int .i64 t, .int .i64 u, .int .i64 n] 59) = w1 at *
  go_upto_region 2 with (fail)
  go_cut [6] (fun s wx => s = .string ⟨#[126]⟩ ∧ wx = w1)
  case first =>
    go_wp2_with (go_at_call 38; refine (limitS_any _ _ _ _).mono ?_; rintro e w' ⟨rfl, rfl⟩)
    go_meet
    case rel => exact ⟨by kernel_rfl, rfl⟩
  case rest =>
  obtain ⟨rfl, hwc⟩ := hcut
  subst hwc
  go_upto_region 22 with (fail)
  refine wp_region_mix (fun _ => True) [(0, 0), (1, 0), (2, 0), (3, 0), (4, 0), (5, 0), (6, 0), (7, 0), (8, 0), (9, 0), (10, 0), (11, 0)] (by kernel_rfl) (by kernel_rfl) (fun _ _ _ _ _ h => h) ?_
  simp only [List.map_cons, List.map_nil, opOf, List.getD_cons_zero, List.getD_cons_succ]
  change wpMix _ _ _ _ _ _ wc.drew
  have s1 : wc.drew.cell? ⟨w.heap.size, 1, none⟩ = some (.int .i64 t) := s1
  have s2 : wc.drew.cell? ⟨w.heap.size, 2, none⟩ = some (.int .i64 u) := s2
  have bW := bW.drew
  generalize wc.drew = w2 at *
  have z1 := regT_size t
  have z2 := regT_size u
  (refine wpMix_still (fun K hK => ?_); go_simp; refine hK _ ?_; clear hK K)
  (refine wpMix_still (fun K hK => ?_); go_simp; refine hK _ ?_; clear hK K)
  (refine wpMix_still (fun K hK => ?_); go_simp; refine hK _ ?_; clear hK K)
  (refine wpMix_still (fun K hK => ?_); go_simp; refine hK _ ?_; clear hK K)
  (refine wpMix_still (fun K hK => ?_); go_simp; refine ⟨_, ((regT_any _ _).mono fun _ _ ⟨h, g⟩ => ⟨h, g.symm⟩), hK _ ?_⟩; clear hK K)
  (refine wpMix_still (fun K hK => ?_); go_simp; refine hK _ ?_; clear hK K)
  (refine wpMix_still (fun K hK => ?_); go_simp; refine hK _ ?_; clear hK K)
  (refine wpMix_still (fun K hK => ?_); go_simp; refine hK _ ?_; clear hK K)
  (refine wpMix_still (fun K hK => ?_); go_simp; refine hK _ ?_; clear hK K)
  (refine wpMix_still (fun K hK => ?_); go_simp; refine ⟨_, ((regT_any _ _).mono fun _ _ ⟨h, g⟩ => ⟨h, g.symm⟩), hK _ ?_⟩; clear hK K)
  (refine wpMix_still (fun K hK => ?_); go_simp; refine hK _ ?_; clear hK K)
  (refine wpMix_still (fun K hK => ?_); go_simp; refine hK _ ?_; clear hK K)
  refine wpMix_nil ?_
  go_wp2_with fail
  go_ret
  exact ⟨rfl, bW⟩
set_option maxRecDepth 100000 in
theorem stepT6_any (t u n : Int) (w : World) :
    Calls Tryz.prog 39 #[.agg #[.int .i64 6, .int .i64 t, .int .i64 u, .int .i64 n], .func (.func 37) #[] #[]] w fun e w' => e = .returned (.string ((⟨#[61]⟩ ++ regT t) ++ regT u)) ∧ Below w.heap.size w w' := by
  have hE : ∀ (args : Array Value) (w : World), (callFunc 37 args).run Tryz.prog w = .ok (.enter 37 args) w := enters_of Tryz.func37 (by kernel_rfl) rfl
  obtain ⟨k0, bW, sW⟩ := boxes1 w (.cells #[.int .i64 6, .int .i64 t, .int .i64 u, .int .i64 n] 59)
  have k0 : rowB _ _ _ _ := k0
  have s0 := rowB_cell k0 0 (v := .int .i64 6) rfl
  have s1 := rowB_cell k0 1 (v := .int .i64 t) rfl
  have s2 := rowB_cell k0 2 (v := .int .i64 u) rfl
  have s3 := rowB_cell k0 3 (v := .int .i64 n) rfl
  go_enter Tryz.func39, Tryz.ntmps39
  go_upto_region 1 with (fail)
  generalize w.alloc (.cells #[.int .i64 6, .int .i64 t, .int .i64 u, .int .i64 n] 59) = w1 at *
  go_upto_region 2 with (fail)
  go_cut [6] (fun s wx => s = .string ⟨#[61]⟩ ∧ wx = w1)
  case first =>
    go_wp2_with (go_at_call 38; refine (limitS_any _ _ _ _).mono ?_; rintro e w' ⟨rfl, rfl⟩)
    go_meet
    case rel => exact ⟨by kernel_rfl, rfl⟩
  case rest =>
  obtain ⟨rfl, hwc⟩ := hcut
  subst hwc
  go_upto_region 22 with (fail)
  refine wp_region_mix (fun _ => True) [(0, 0), (1, 0), (2, 0), (3, 0), (4, 0), (5, 0), (6, 0), (7, 0), (8, 0), (9, 0), (10, 0), (11, 0)] (by kernel_rfl) (by kernel_rfl) (fun _ _ _ _ _ h => h) ?_
  simp only [List.map_cons, List.map_nil, opOf, List.getD_cons_zero, List.getD_cons_succ]
  change wpMix _ _ _ _ _ _ wc.drew
  have s1 : wc.drew.cell? ⟨w.heap.size, 1, none⟩ = some (.int .i64 t) := s1
  have s2 : wc.drew.cell? ⟨w.heap.size, 2, none⟩ = some (.int .i64 u) := s2
  have bW := bW.drew
  generalize wc.drew = w2 at *
  have z1 := regT_size t
  have z2 := regT_size u
  (refine wpMix_still (fun K hK => ?_); go_simp; refine hK _ ?_; clear hK K)
  (refine wpMix_still (fun K hK => ?_); go_simp; refine hK _ ?_; clear hK K)
  (refine wpMix_still (fun K hK => ?_); go_simp; refine hK _ ?_; clear hK K)
  (refine wpMix_still (fun K hK => ?_); go_simp; refine hK _ ?_; clear hK K)
  (refine wpMix_still (fun K hK => ?_); go_simp; refine ⟨_, ((regT_any _ _).mono fun _ _ ⟨h, g⟩ => ⟨h, g.symm⟩), hK _ ?_⟩; clear hK K)
  (refine wpMix_still (fun K hK => ?_); go_simp; refine hK _ ?_; clear hK K)
  (refine wpMix_still (fun K hK => ?_); go_simp; refine hK _ ?_; clear hK K)
  (refine wpMix_still (fun K hK => ?_); go_simp; refine hK _ ?_; clear hK K)
  (refine wpMix_still (fun K hK => ?_); go_simp; refine hK _ ?_; clear hK K)
  (refine wpMix_still (fun K hK => ?_); go_simp; refine ⟨_, ((regT_any _ _).mono fun _ _ ⟨h, g⟩ => ⟨h, g.symm⟩), hK _ ?_⟩; clear hK K)
  (refine wpMix_still (fun K hK => ?_); go_simp; refine hK _ ?_; clear hK K)
  (refine wpMix_still (fun K hK => ?_); go_simp; refine hK _ ?_; clear hK K)
  refine wpMix_nil ?_
  go_wp2_with fail
  go_ret
  exact ⟨rfl, bW⟩
set_option maxRecDepth 100000 in
theorem stepT7_any (t u n : Int) (w : World) :
    Calls Tryz.prog 39 #[.agg #[.int .i64 7, .int .i64 t, .int .i64 u, .int .i64 n], .func (.func 37) #[] #[]] w fun e w' => e = .returned (.string ((⟨#[38]⟩ ++ regT t) ++ regT u)) ∧ Below w.heap.size w w' := by
  have hE : ∀ (args : Array Value) (w : World), (callFunc 37 args).run Tryz.prog w = .ok (.enter 37 args) w := enters_of Tryz.func37 (by kernel_rfl) rfl
  obtain ⟨k0, bW, sW⟩ := boxes1 w (.cells #[.int .i64 7, .int .i64 t, .int .i64 u, .int .i64 n] 59)
  have k0 : rowB _ _ _ _ := k0
  have s0 := rowB_cell k0 0 (v := .int .i64 7) rfl
  have s1 := rowB_cell k0 1 (v := .int .i64 t) rfl
  have s2 := rowB_cell k0 2 (v := .int .i64 u) rfl
  have s3 := rowB_cell k0 3 (v := .int .i64 n) rfl
  go_enter Tryz.func39, Tryz.ntmps39
  go_upto_region 1 with (fail)
  generalize w.alloc (.cells #[.int .i64 7, .int .i64 t, .int .i64 u, .int .i64 n] 59) = w1 at *
  go_upto_region 2 with (fail)
  go_cut [6] (fun s wx => s = .string ⟨#[38]⟩ ∧ wx = w1)
  case first =>
    go_wp2_with (go_at_call 38; refine (limitS_any _ _ _ _).mono ?_; rintro e w' ⟨rfl, rfl⟩)
    go_meet
    case rel => exact ⟨by kernel_rfl, rfl⟩
  case rest =>
  obtain ⟨rfl, hwc⟩ := hcut
  subst hwc
  go_upto_region 22 with (fail)
  refine wp_region_mix (fun _ => True) [(0, 0), (1, 0), (2, 0), (3, 0), (4, 0), (5, 0), (6, 0), (7, 0), (8, 0), (9, 0), (10, 0), (11, 0)] (by kernel_rfl) (by kernel_rfl) (fun _ _ _ _ _ h => h) ?_
  simp only [List.map_cons, List.map_nil, opOf, List.getD_cons_zero, List.getD_cons_succ]
  change wpMix _ _ _ _ _ _ wc.drew
  have s1 : wc.drew.cell? ⟨w.heap.size, 1, none⟩ = some (.int .i64 t) := s1
  have s2 : wc.drew.cell? ⟨w.heap.size, 2, none⟩ = some (.int .i64 u) := s2
  have bW := bW.drew
  generalize wc.drew = w2 at *
  have z1 := regT_size t
  have z2 := regT_size u
  (refine wpMix_still (fun K hK => ?_); go_simp; refine hK _ ?_; clear hK K)
  (refine wpMix_still (fun K hK => ?_); go_simp; refine hK _ ?_; clear hK K)
  (refine wpMix_still (fun K hK => ?_); go_simp; refine hK _ ?_; clear hK K)
  (refine wpMix_still (fun K hK => ?_); go_simp; refine hK _ ?_; clear hK K)
  (refine wpMix_still (fun K hK => ?_); go_simp; refine ⟨_, ((regT_any _ _).mono fun _ _ ⟨h, g⟩ => ⟨h, g.symm⟩), hK _ ?_⟩; clear hK K)
  (refine wpMix_still (fun K hK => ?_); go_simp; refine hK _ ?_; clear hK K)
  (refine wpMix_still (fun K hK => ?_); go_simp; refine hK _ ?_; clear hK K)
  (refine wpMix_still (fun K hK => ?_); go_simp; refine hK _ ?_; clear hK K)
  (refine wpMix_still (fun K hK => ?_); go_simp; refine hK _ ?_; clear hK K)
  (refine wpMix_still (fun K hK => ?_); go_simp; refine ⟨_, ((regT_any _ _).mono fun _ _ ⟨h, g⟩ => ⟨h, g.symm⟩), hK _ ?_⟩; clear hK K)
  (refine wpMix_still (fun K hK => ?_); go_simp; refine hK _ ?_; clear hK K)
  (refine wpMix_still (fun K hK => ?_); go_simp; refine hK _ ?_; clear hK K)
  refine wpMix_nil ?_
  go_wp2_with fail
  go_ret
  exact ⟨rfl, bW⟩
set_option maxRecDepth 100000 in
theorem stepT8_any (t u n : Int) (w : World) :
    Calls Tryz.prog 39 #[.agg #[.int .i64 8, .int .i64 t, .int .i64 u, .int .i64 n], .func (.func 37) #[] #[]] w fun e w' => e = .returned (.string ((⟨#[124]⟩ ++ regT t) ++ regT u)) ∧ Below w.heap.size w w' := by
  have hE : ∀ (args : Array Value) (w : World), (callFunc 37 args).run Tryz.prog w = .ok (.enter 37 args) w := enters_of Tryz.func37 (by kernel_rfl) rfl
  obtain ⟨k0, bW, sW⟩ := boxes1 w (.cells #[.int .i64 8, .int .i64 t, .int .i64 u, .int .i64 n] 59)
  have k0 : rowB _ _ _ _ := k0
  have s0 := rowB_cell k0 0 (v := .int .i64 8) rfl
  have s1 := rowB_cell k0 1 (v := .int .i64 t) rfl
  have s2 := rowB_cell k0 2 (v := .int .i64 u) rfl
  have s3 := rowB_cell k0 3 (v := .int .i64 n) rfl
  go_enter Tryz.func39, Tryz.ntmps39
  go_upto_region 1 with (fail)
  generalize w.alloc (.cells #[.int .i64 8, .int .i64 t, .int .i64 u, .int .i64 n] 59) = w1 at *
  go_upto_region 2 with (fail)
  go_cut [6] (fun s wx => s = .string ⟨#[124]⟩ ∧ wx = w1)
  case first =>
    go_wp2_with (go_at_call 38; refine (limitS_any _ _ _ _).mono ?_; rintro e w' ⟨rfl, rfl⟩)
    go_meet
    case rel => exact ⟨by kernel_rfl, rfl⟩
  case rest =>
  obtain ⟨rfl, hwc⟩ := hcut
  subst hwc
  go_upto_region 22 with (fail)
  refine wp_region_mix (fun _ => True) [(0, 0), (1, 0), (2, 0), (3, 0), (4, 0), (5, 0), (6, 0), (7, 0), (8, 0), (9, 0), (10, 0), (11, 0)] (by kernel_rfl) (by kernel_rfl) (fun _ _ _ _ _ h => h) ?_
  simp only [List.map_cons, List.map_nil, opOf, List.getD_cons_zero, List.getD_cons_succ]
  change wpMix _ _ _ _ _ _ wc.drew
  have s1 : wc.drew.cell? ⟨w.heap.size, 1, none⟩ = some (.int .i64 t) := s1
  have s2 : wc.drew.cell? ⟨w.heap.size, 2, none⟩ = some (.int .i64 u) := s2
  have bW := bW.drew
  generalize wc.drew = w2 at *
  have z1 := regT_size t
  have z2 := regT_size u
  (refine wpMix_still (fun K hK => ?_); go_simp; refine hK _ ?_; clear hK K)
  (refine wpMix_still (fun K hK => ?_); go_simp; refine hK _ ?_; clear hK K)
  (refine wpMix_still (fun K hK => ?_); go_simp; refine hK _ ?_; clear hK K)
  (refine wpMix_still (fun K hK => ?_); go_simp; refine hK _ ?_; clear hK K)
  (refine wpMix_still (fun K hK => ?_); go_simp; refine ⟨_, ((regT_any _ _).mono fun _ _ ⟨h, g⟩ => ⟨h, g.symm⟩), hK _ ?_⟩; clear hK K)
  (refine wpMix_still (fun K hK => ?_); go_simp; refine hK _ ?_; clear hK K)
  (refine wpMix_still (fun K hK => ?_); go_simp; refine hK _ ?_; clear hK K)
  (refine wpMix_still (fun K hK => ?_); go_simp; refine hK _ ?_; clear hK K)
  (refine wpMix_still (fun K hK => ?_); go_simp; refine hK _ ?_; clear hK K)
  (refine wpMix_still (fun K hK => ?_); go_simp; refine ⟨_, ((regT_any _ _).mono fun _ _ ⟨h, g⟩ => ⟨h, g.symm⟩), hK _ ?_⟩; clear hK K)
  (refine wpMix_still (fun K hK => ?_); go_simp; refine hK _ ?_; clear hK K)
  (refine wpMix_still (fun K hK => ?_); go_simp; refine hK _ ?_; clear hK K)
  refine wpMix_nil ?_
  go_wp2_with fail
  go_ret
  exact ⟨rfl, bW⟩
set_option maxRecDepth 100000 in
theorem stepT9_any (t u n : Int) (w : World) :
    Calls Tryz.prog 39 #[.agg #[.int .i64 9, .int .i64 t, .int .i64 u, .int .i64 n], .func (.func 37) #[] #[]] w fun e w' => e = .returned (.string ((⟨#[94]⟩ ++ regT t) ++ regT u)) ∧ Below w.heap.size w w' := by
  have hE : ∀ (args : Array Value) (w : World), (callFunc 37 args).run Tryz.prog w = .ok (.enter 37 args) w := enters_of Tryz.func37 (by kernel_rfl) rfl
  obtain ⟨k0, bW, sW⟩ := boxes1 w (.cells #[.int .i64 9, .int .i64 t, .int .i64 u, .int .i64 n] 59)
  have k0 : rowB _ _ _ _ := k0
  have s0 := rowB_cell k0 0 (v := .int .i64 9) rfl
  have s1 := rowB_cell k0 1 (v := .int .i64 t) rfl
  have s2 := rowB_cell k0 2 (v := .int .i64 u) rfl
  have s3 := rowB_cell k0 3 (v := .int .i64 n) rfl
  go_enter Tryz.func39, Tryz.ntmps39
  go_upto_region 1 with (fail)
  generalize w.alloc (.cells #[.int .i64 9, .int .i64 t, .int .i64 u, .int .i64 n] 59) = w1 at *
  go_upto_region 2 with (fail)
  go_cut [6] (fun s wx => s = .string ⟨#[94]⟩ ∧ wx = w1)
  case first =>
    go_wp2_with (go_at_call 38; refine (limitS_any _ _ _ _).mono ?_; rintro e w' ⟨rfl, rfl⟩)
    go_meet
    case rel => exact ⟨by kernel_rfl, rfl⟩
  case rest =>
  obtain ⟨rfl, hwc⟩ := hcut
  subst hwc
  go_upto_region 22 with (fail)
  refine wp_region_mix (fun _ => True) [(0, 0), (1, 0), (2, 0), (3, 0), (4, 0), (5, 0), (6, 0), (7, 0), (8, 0), (9, 0), (10, 0), (11, 0)] (by kernel_rfl) (by kernel_rfl) (fun _ _ _ _ _ h => h) ?_
  simp only [List.map_cons, List.map_nil, opOf, List.getD_cons_zero, List.getD_cons_succ]
  change wpMix _ _ _ _ _ _ wc.drew
  have s1 : wc.drew.cell? ⟨w.heap.size, 1, none⟩ = some (.int .i64 t) := s1
  have s2 : wc.drew.cell? ⟨w.heap.size, 2, none⟩ = some (.int .i64 u) := s2
  have bW := bW.drew
  generalize wc.drew = w2 at *
  have z1 := regT_size t
  have z2 := regT_size u
  (refine wpMix_still (fun K hK => ?_); go_simp; refine hK _ ?_; clear hK K)
  (refine wpMix_still (fun K hK => ?_); go_simp; refine hK _ ?_; clear hK K)
  (refine wpMix_still (fun K hK => ?_); go_simp; refine hK _ ?_; clear hK K)
  (refine wpMix_still (fun K hK => ?_); go_simp; refine hK _ ?_; clear hK K)
  (refine wpMix_still (fun K hK => ?_); go_simp; refine ⟨_, ((regT_any _ _).mono fun _ _ ⟨h, g⟩ => ⟨h, g.symm⟩), hK _ ?_⟩; clear hK K)
  (refine wpMix_still (fun K hK => ?_); go_simp; refine hK _ ?_; clear hK K)
  (refine wpMix_still (fun K hK => ?_); go_simp; refine hK _ ?_; clear hK K)
  (refine wpMix_still (fun K hK => ?_); go_simp; refine hK _ ?_; clear hK K)
  (refine wpMix_still (fun K hK => ?_); go_simp; refine hK _ ?_; clear hK K)
  (refine wpMix_still (fun K hK => ?_); go_simp; refine ⟨_, ((regT_any _ _).mono fun _ _ ⟨h, g⟩ => ⟨h, g.symm⟩), hK _ ?_⟩; clear hK K)
  (refine wpMix_still (fun K hK => ?_); go_simp; refine hK _ ?_; clear hK K)
  (refine wpMix_still (fun K hK => ?_); go_simp; refine hK _ ?_; clear hK K)
  refine wpMix_nil ?_
  go_wp2_with fail
  go_ret
  exact ⟨rfl, bW⟩
set_option maxRecDepth 100000 in
theorem stepT18_any (t u n : Int) (w : World) :
    Calls Tryz.prog 39 #[.agg #[.int .i64 18, .int .i64 t, .int .i64 u, .int .i64 n], .func (.func 37) #[] #[]] w fun e w' => e = .returned (.string ((⟨#[108]⟩ ++ regT t) ++ regT u)) ∧ Below w.heap.size w w' := by
  have hE : ∀ (args : Array Value) (w : World), (callFunc 37 args).run Tryz.prog w = .ok (.enter 37 args) w := enters_of Tryz.func37 (by kernel_rfl) rfl
  obtain ⟨k0, bW, sW⟩ := boxes1 w (.cells #[.int .i64 18, .int .i64 t, .int .i64 u, .int .i64 n] 59)
  have k0 : rowB _ _ _ _ := k0
  have s0 := rowB_cell k0 0 (v := .int .i64 18) rfl
  have s1 := rowB_cell k0 1 (v := .int .i64 t) rfl
  have s2 := rowB_cell k0 2 (v := .int .i64 u) rfl
  have s3 := rowB_cell k0 3 (v := .int .i64 n) rfl
  go_enter Tryz.func39, Tryz.ntmps39
  go_upto_region 1 with (fail)
  generalize w.alloc (.cells #[.int .i64 18, .int .i64 t, .int .i64 u, .int .i64 n] 59) = w1 at *
  go_upto_region 2 with (fail)
  go_cut [6] (fun s wx => s = .string ⟨#[108]⟩ ∧ wx = w1)
  case first =>
    go_wp2_with (go_at_call 38; refine (limitS_any _ _ _ _).mono ?_; rintro e w' ⟨rfl, rfl⟩)
    go_meet
    case rel => exact ⟨by kernel_rfl, rfl⟩
  case rest =>
  obtain ⟨rfl, hwc⟩ := hcut
  subst hwc
  go_upto_region 22 with (fail)
  refine wp_region_mix (fun _ => True) [(0, 0), (1, 0), (2, 0), (3, 0), (4, 0), (5, 0), (6, 0), (7, 0), (8, 0), (9, 0), (10, 0), (11, 0)] (by kernel_rfl) (by kernel_rfl) (fun _ _ _ _ _ h => h) ?_
  simp only [List.map_cons, List.map_nil, opOf, List.getD_cons_zero, List.getD_cons_succ]
  change wpMix _ _ _ _ _ _ wc.drew
  have s1 : wc.drew.cell? ⟨w.heap.size, 1, none⟩ = some (.int .i64 t) := s1
  have s2 : wc.drew.cell? ⟨w.heap.size, 2, none⟩ = some (.int .i64 u) := s2
  have bW := bW.drew
  generalize wc.drew = w2 at *
  have z1 := regT_size t
  have z2 := regT_size u
  (refine wpMix_still (fun K hK => ?_); go_simp; refine hK _ ?_; clear hK K)
  (refine wpMix_still (fun K hK => ?_); go_simp; refine hK _ ?_; clear hK K)
  (refine wpMix_still (fun K hK => ?_); go_simp; refine hK _ ?_; clear hK K)
  (refine wpMix_still (fun K hK => ?_); go_simp; refine hK _ ?_; clear hK K)
  (refine wpMix_still (fun K hK => ?_); go_simp; refine ⟨_, ((regT_any _ _).mono fun _ _ ⟨h, g⟩ => ⟨h, g.symm⟩), hK _ ?_⟩; clear hK K)
  (refine wpMix_still (fun K hK => ?_); go_simp; refine hK _ ?_; clear hK K)
  (refine wpMix_still (fun K hK => ?_); go_simp; refine hK _ ?_; clear hK K)
  (refine wpMix_still (fun K hK => ?_); go_simp; refine hK _ ?_; clear hK K)
  (refine wpMix_still (fun K hK => ?_); go_simp; refine hK _ ?_; clear hK K)
  (refine wpMix_still (fun K hK => ?_); go_simp; refine ⟨_, ((regT_any _ _).mono fun _ _ ⟨h, g⟩ => ⟨h, g.symm⟩), hK _ ?_⟩; clear hK K)
  (refine wpMix_still (fun K hK => ?_); go_simp; refine hK _ ?_; clear hK K)
  (refine wpMix_still (fun K hK => ?_); go_simp; refine hK _ ?_; clear hK K)
  refine wpMix_nil ?_
  go_wp2_with fail
  go_ret
  exact ⟨rfl, bW⟩
set_option maxRecDepth 100000 in
theorem stepT19_any (t u n : Int) (w : World) :
    Calls Tryz.prog 39 #[.agg #[.int .i64 19, .int .i64 t, .int .i64 u, .int .i64 n], .func (.func 37) #[] #[]] w fun e w' => e = .returned (.string ((⟨#[104]⟩ ++ regT t) ++ regT u)) ∧ Below w.heap.size w w' := by
  have hE : ∀ (args : Array Value) (w : World), (callFunc 37 args).run Tryz.prog w = .ok (.enter 37 args) w := enters_of Tryz.func37 (by kernel_rfl) rfl
  obtain ⟨k0, bW, sW⟩ := boxes1 w (.cells #[.int .i64 19, .int .i64 t, .int .i64 u, .int .i64 n] 59)
  have k0 : rowB _ _ _ _ := k0
  have s0 := rowB_cell k0 0 (v := .int .i64 19) rfl
  have s1 := rowB_cell k0 1 (v := .int .i64 t) rfl
  have s2 := rowB_cell k0 2 (v := .int .i64 u) rfl
  have s3 := rowB_cell k0 3 (v := .int .i64 n) rfl
  go_enter Tryz.func39, Tryz.ntmps39
  go_upto_region 1 with (fail)
  generalize w.alloc (.cells #[.int .i64 19, .int .i64 t, .int .i64 u, .int .i64 n] 59) = w1 at *
  go_upto_region 2 with (fail)
  go_cut [6] (fun s wx => s = .string ⟨#[104]⟩ ∧ wx = w1)
  case first =>
    go_wp2_with (go_at_call 38; refine (limitS_any _ _ _ _).mono ?_; rintro e w' ⟨rfl, rfl⟩)
    go_meet
    case rel => exact ⟨by kernel_rfl, rfl⟩
  case rest =>
  obtain ⟨rfl, hwc⟩ := hcut
  subst hwc
  go_upto_region 22 with (fail)
  refine wp_region_mix (fun _ => True) [(0, 0), (1, 0), (2, 0), (3, 0), (4, 0), (5, 0), (6, 0), (7, 0), (8, 0), (9, 0), (10, 0), (11, 0)] (by kernel_rfl) (by kernel_rfl) (fun _ _ _ _ _ h => h) ?_
  simp only [List.map_cons, List.map_nil, opOf, List.getD_cons_zero, List.getD_cons_succ]
  change wpMix _ _ _ _ _ _ wc.drew
  have s1 : wc.drew.cell? ⟨w.heap.size, 1, none⟩ = some (.int .i64 t) := s1
  have s2 : wc.drew.cell? ⟨w.heap.size, 2, none⟩ = some (.int .i64 u) := s2
  have bW := bW.drew
  generalize wc.drew = w2 at *
  have z1 := regT_size t
  have z2 := regT_size u
  (refine wpMix_still (fun K hK => ?_); go_simp; refine hK _ ?_; clear hK K)
  (refine wpMix_still (fun K hK => ?_); go_simp; refine hK _ ?_; clear hK K)
  (refine wpMix_still (fun K hK => ?_); go_simp; refine hK _ ?_; clear hK K)
  (refine wpMix_still (fun K hK => ?_); go_simp; refine hK _ ?_; clear hK K)
  (refine wpMix_still (fun K hK => ?_); go_simp; refine ⟨_, ((regT_any _ _).mono fun _ _ ⟨h, g⟩ => ⟨h, g.symm⟩), hK _ ?_⟩; clear hK K)
  (refine wpMix_still (fun K hK => ?_); go_simp; refine hK _ ?_; clear hK K)
  (refine wpMix_still (fun K hK => ?_); go_simp; refine hK _ ?_; clear hK K)
  (refine wpMix_still (fun K hK => ?_); go_simp; refine hK _ ?_; clear hK K)
  (refine wpMix_still (fun K hK => ?_); go_simp; refine hK _ ?_; clear hK K)
  (refine wpMix_still (fun K hK => ?_); go_simp; refine ⟨_, ((regT_any _ _).mono fun _ _ ⟨h, g⟩ => ⟨h, g.symm⟩), hK _ ?_⟩; clear hK K)
  (refine wpMix_still (fun K hK => ?_); go_simp; refine hK _ ?_; clear hK K)
  (refine wpMix_still (fun K hK => ?_); go_simp; refine hK _ ?_; clear hK K)
  refine wpMix_nil ?_
  go_wp2_with fail
  go_ret
  exact ⟨rfl, bW⟩
set_option maxRecDepth 100000 in
theorem stepT20_any (t u n : Int) (w : World) :
    Calls Tryz.prog 39 #[.agg #[.int .i64 20, .int .i64 t, .int .i64 u, .int .i64 n], .func (.func 37) #[] #[]] w fun e w' => e = .returned (.string ((⟨#[103]⟩ ++ regT t) ++ regT u)) ∧ Below w.heap.size w w' := by
  have hE : ∀ (args : Array Value) (w : World), (callFunc 37 args).run Tryz.prog w = .ok (.enter 37 args) w := enters_of Tryz.func37 (by kernel_rfl) rfl
  obtain ⟨k0, bW, sW⟩ := boxes1 w (.cells #[.int .i64 20, .int .i64 t, .int .i64 u, .int .i64 n] 59)
  have k0 : rowB _ _ _ _ := k0
  have s0 := rowB_cell k0 0 (v := .int .i64 20) rfl
  have s1 := rowB_cell k0 1 (v := .int .i64 t) rfl
  have s2 := rowB_cell k0 2 (v := .int .i64 u) rfl
  have s3 := rowB_cell k0 3 (v := .int .i64 n) rfl
  go_enter Tryz.func39, Tryz.ntmps39
  go_upto_region 1 with (fail)
  generalize w.alloc (.cells #[.int .i64 20, .int .i64 t, .int .i64 u, .int .i64 n] 59) = w1 at *
  go_upto_region 2 with (fail)
  go_cut [6] (fun s wx => s = .string ⟨#[103]⟩ ∧ wx = w1)
  case first =>
    go_wp2_with (go_at_call 38; refine (limitS_any _ _ _ _).mono ?_; rintro e w' ⟨rfl, rfl⟩)
    go_meet
    case rel => exact ⟨by kernel_rfl, rfl⟩
  case rest =>
  obtain ⟨rfl, hwc⟩ := hcut
  subst hwc
  go_upto_region 22 with (fail)
  refine wp_region_mix (fun _ => True) [(0, 0), (1, 0), (2, 0), (3, 0), (4, 0), (5, 0), (6, 0), (7, 0), (8, 0), (9, 0), (10, 0), (11, 0)] (by kernel_rfl) (by kernel_rfl) (fun _ _ _ _ _ h => h) ?_
  simp only [List.map_cons, List.map_nil, opOf, List.getD_cons_zero, List.getD_cons_succ]
  change wpMix _ _ _ _ _ _ wc.drew
  have s1 : wc.drew.cell? ⟨w.heap.size, 1, none⟩ = some (.int .i64 t) := s1
  have s2 : wc.drew.cell? ⟨w.heap.size, 2, none⟩ = some (.int .i64 u) := s2
  have bW := bW.drew
  generalize wc.drew = w2 at *
  have z1 := regT_size t
  have z2 := regT_size u
  (refine wpMix_still (fun K hK => ?_); go_simp; refine hK _ ?_; clear hK K)
  (refine wpMix_still (fun K hK => ?_); go_simp; refine hK _ ?_; clear hK K)
  (refine wpMix_still (fun K hK => ?_); go_simp; refine hK _ ?_; clear hK K)
  (refine wpMix_still (fun K hK => ?_); go_simp; refine hK _ ?_; clear hK K)
  (refine wpMix_still (fun K hK => ?_); go_simp; refine ⟨_, ((regT_any _ _).mono fun _ _ ⟨h, g⟩ => ⟨h, g.symm⟩), hK _ ?_⟩; clear hK K)
  (refine wpMix_still (fun K hK => ?_); go_simp; refine hK _ ?_; clear hK K)
  (refine wpMix_still (fun K hK => ?_); go_simp; refine hK _ ?_; clear hK K)
  (refine wpMix_still (fun K hK => ?_); go_simp; refine hK _ ?_; clear hK K)
  (refine wpMix_still (fun K hK => ?_); go_simp; refine hK _ ?_; clear hK K)
  (refine wpMix_still (fun K hK => ?_); go_simp; refine ⟨_, ((regT_any _ _).mono fun _ _ ⟨h, g⟩ => ⟨h, g.symm⟩), hK _ ?_⟩; clear hK K)
  (refine wpMix_still (fun K hK => ?_); go_simp; refine hK _ ?_; clear hK K)
  (refine wpMix_still (fun K hK => ?_); go_simp; refine hK _ ?_; clear hK K)
  refine wpMix_nil ?_
  go_wp2_with fail
  go_ret
  exact ⟨rfl, bW⟩
set_option maxRecDepth 100000 in
theorem stepT21_any (t u n : Int) (w : World) :
    Calls Tryz.prog 39 #[.agg #[.int .i64 21, .int .i64 t, .int .i64 u, .int .i64 n], .func (.func 37) #[] #[]] w fun e w' => e = .returned (.string ((⟨#[71]⟩ ++ regT t) ++ regT u)) ∧ Below w.heap.size w w' := by
  have hE : ∀ (args : Array Value) (w : World), (callFunc 37 args).run Tryz.prog w = .ok (.enter 37 args) w := enters_of Tryz.func37 (by kernel_rfl) rfl
  obtain ⟨k0, bW, sW⟩ := boxes1 w (.cells #[.int .i64 21, .int .i64 t, .int .i64 u, .int .i64 n] 59)
  have k0 : rowB _ _ _ _ := k0
  have s0 := rowB_cell k0 0 (v := .int .i64 21) rfl
  have s1 := rowB_cell k0 1 (v := .int .i64 t) rfl
  have s2 := rowB_cell k0 2 (v := .int .i64 u) rfl
  have s3 := rowB_cell k0 3 (v := .int .i64 n) rfl
  go_enter Tryz.func39, Tryz.ntmps39
  go_upto_region 1 with (fail)
  generalize w.alloc (.cells #[.int .i64 21, .int .i64 t, .int .i64 u, .int .i64 n] 59) = w1 at *
  go_upto_region 2 with (fail)
  go_cut [6] (fun s wx => s = .string ⟨#[71]⟩ ∧ wx = w1)
  case first =>
    go_wp2_with (go_at_call 38; refine (limitS_any _ _ _ _).mono ?_; rintro e w' ⟨rfl, rfl⟩)
    go_meet
    case rel => exact ⟨by kernel_rfl, rfl⟩
  case rest =>
  obtain ⟨rfl, hwc⟩ := hcut
  subst hwc
  go_upto_region 22 with (fail)
  refine wp_region_mix (fun _ => True) [(0, 0), (1, 0), (2, 0), (3, 0), (4, 0), (5, 0), (6, 0), (7, 0), (8, 0), (9, 0), (10, 0), (11, 0)] (by kernel_rfl) (by kernel_rfl) (fun _ _ _ _ _ h => h) ?_
  simp only [List.map_cons, List.map_nil, opOf, List.getD_cons_zero, List.getD_cons_succ]
  change wpMix _ _ _ _ _ _ wc.drew
  have s1 : wc.drew.cell? ⟨w.heap.size, 1, none⟩ = some (.int .i64 t) := s1
  have s2 : wc.drew.cell? ⟨w.heap.size, 2, none⟩ = some (.int .i64 u) := s2
  have bW := bW.drew
  generalize wc.drew = w2 at *
  have z1 := regT_size t
  have z2 := regT_size u
  (refine wpMix_still (fun K hK => ?_); go_simp; refine hK _ ?_; clear hK K)
  (refine wpMix_still (fun K hK => ?_); go_simp; refine hK _ ?_; clear hK K)
  (refine wpMix_still (fun K hK => ?_); go_simp; refine hK _ ?_; clear hK K)
  (refine wpMix_still (fun K hK => ?_); go_simp; refine hK _ ?_; clear hK K)
  (refine wpMix_still (fun K hK => ?_); go_simp; refine ⟨_, ((regT_any _ _).mono fun _ _ ⟨h, g⟩ => ⟨h, g.symm⟩), hK _ ?_⟩; clear hK K)
  (refine wpMix_still (fun K hK => ?_); go_simp; refine hK _ ?_; clear hK K)
  (refine wpMix_still (fun K hK => ?_); go_simp; refine hK _ ?_; clear hK K)
  (refine wpMix_still (fun K hK => ?_); go_simp; refine hK _ ?_; clear hK K)
  (refine wpMix_still (fun K hK => ?_); go_simp; refine hK _ ?_; clear hK K)
  (refine wpMix_still (fun K hK => ?_); go_simp; refine ⟨_, ((regT_any _ _).mono fun _ _ ⟨h, g⟩ => ⟨h, g.symm⟩), hK _ ?_⟩; clear hK K)
  (refine wpMix_still (fun K hK => ?_); go_simp; refine hK _ ?_; clear hK K)
  (refine wpMix_still (fun K hK => ?_); go_simp; refine hK _ ?_; clear hK K)
  refine wpMix_nil ?_
  go_wp2_with fail
  go_ret
  exact ⟨rfl, bW⟩
set_option maxRecDepth 100000 in
theorem stepT22_any (t u n : Int) (w : World) :
    Calls Tryz.prog 39 #[.agg #[.int .i64 22, .int .i64 t, .int .i64 u, .int .i64 n], .func (.func 37) #[] #[]] w fun e w' => e = .returned (.string ((⟨#[105]⟩ ++ regT t) ++ regT u)) ∧ Below w.heap.size w w' := by
  have hE : ∀ (args : Array Value) (w : World), (callFunc 37 args).run Tryz.prog w = .ok (.enter 37 args) w := enters_of Tryz.func37 (by kernel_rfl) rfl
  obtain ⟨k0, bW, sW⟩ := boxes1 w (.cells #[.int .i64 22, .int .i64 t, .int .i64 u, .int .i64 n] 59)
  have k0 : rowB _ _ _ _ := k0
  have s0 := rowB_cell k0 0 (v := .int .i64 22) rfl
  have s1 := rowB_cell k0 1 (v := .int .i64 t) rfl
  have s2 := rowB_cell k0 2 (v := .int .i64 u) rfl
  have s3 := rowB_cell k0 3 (v := .int .i64 n) rfl
  go_enter Tryz.func39, Tryz.ntmps39
  go_upto_region 1 with (fail)
  generalize w.alloc (.cells #[.int .i64 22, .int .i64 t, .int .i64 u, .int .i64 n] 59) = w1 at *
  go_upto_region 2 with (fail)
  go_cut [6] (fun s wx => s = .string ⟨#[105]⟩ ∧ wx = w1)
  case first =>
    go_wp2_with (go_at_call 38; refine (limitS_any _ _ _ _).mono ?_; rintro e w' ⟨rfl, rfl⟩)
    go_meet
    case rel => exact ⟨by kernel_rfl, rfl⟩
  case rest =>
  obtain ⟨rfl, hwc⟩ := hcut
  subst hwc
  go_upto_region 22 with (fail)
  refine wp_region_mix (fun _ => True) [(0, 0), (1, 0), (2, 0), (3, 0), (4, 0), (5, 0), (6, 0), (7, 0), (8, 0), (9, 0), (10, 0), (11, 0)] (by kernel_rfl) (by kernel_rfl) (fun _ _ _ _ _ h => h) ?_
  simp only [List.map_cons, List.map_nil, opOf, List.getD_cons_zero, List.getD_cons_succ]
  change wpMix _ _ _ _ _ _ wc.drew
  have s1 : wc.drew.cell? ⟨w.heap.size, 1, none⟩ = some (.int .i64 t) := s1
  have s2 : wc.drew.cell? ⟨w.heap.size, 2, none⟩ = some (.int .i64 u) := s2
  have bW := bW.drew
  generalize wc.drew = w2 at *
  have z1 := regT_size t
  have z2 := regT_size u
  (refine wpMix_still (fun K hK => ?_); go_simp; refine hK _ ?_; clear hK K)
  (refine wpMix_still (fun K hK => ?_); go_simp; refine hK _ ?_; clear hK K)
  (refine wpMix_still (fun K hK => ?_); go_simp; refine hK _ ?_; clear hK K)
  (refine wpMix_still (fun K hK => ?_); go_simp; refine hK _ ?_; clear hK K)
  (refine wpMix_still (fun K hK => ?_); go_simp; refine ⟨_, ((regT_any _ _).mono fun _ _ ⟨h, g⟩ => ⟨h, g.symm⟩), hK _ ?_⟩; clear hK K)
  (refine wpMix_still (fun K hK => ?_); go_simp; refine hK _ ?_; clear hK K)
  (refine wpMix_still (fun K hK => ?_); go_simp; refine hK _ ?_; clear hK K)
  (refine wpMix_still (fun K hK => ?_); go_simp; refine hK _ ?_; clear hK K)
  (refine wpMix_still (fun K hK => ?_); go_simp; refine hK _ ?_; clear hK K)
  (refine wpMix_still (fun K hK => ?_); go_simp; refine ⟨_, ((regT_any _ _).mono fun _ _ ⟨h, g⟩ => ⟨h, g.symm⟩), hK _ ?_⟩; clear hK K)
  (refine wpMix_still (fun K hK => ?_); go_simp; refine hK _ ?_; clear hK K)
  (refine wpMix_still (fun K hK => ?_); go_simp; refine hK _ ?_; clear hK K)
  refine wpMix_nil ?_
  go_wp2_with fail
  go_ret
  exact ⟨rfl, bW⟩
set_option maxRecDepth 100000 in
theorem stepT23_any (t u n : Int) (w : World) :
    Calls Tryz.prog 39 #[.agg #[.int .i64 23, .int .i64 t, .int .i64 u, .int .i64 n], .func (.func 37) #[] #[]] w fun e w' => e = .returned (.string ((⟨#[114]⟩ ++ regT t) ++ regT u)) ∧ Below w.heap.size w w' := by
  have hE : ∀ (args : Array Value) (w : World), (callFunc 37 args).run Tryz.prog w = .ok (.enter 37 args) w := enters_of Tryz.func37 (by kernel_rfl) rfl
  obtain ⟨k0, bW, sW⟩ := boxes1 w (.cells #[.int .i64 23, .int .i64 t, .int .i64 u, .int .i64 n] 59)
  have k0 : rowB _ _ _ _ := k0
  have s0 := rowB_cell k0 0 (v := .int .i64 23) rfl
  have s1 := rowB_cell k0 1 (v := .int .i64 t) rfl
  have s2 := rowB_cell k0 2 (v := .int .i64 u) rfl
  have s3 := rowB_cell k0 3 (v := .int .i64 n) rfl
  go_enter Tryz.func39, Tryz.ntmps39
  go_upto_region 1 with (fail)
  generalize w.alloc (.cells #[.int .i64 23, .int .i64 t, .int .i64 u, .int .i64 n] 59) = w1 at *
  go_upto_region 2 with (fail)
  go_cut [6] (fun s wx => s = .string ⟨#[114]⟩ ∧ wx = w1)
  case first =>
    go_wp2_with (go_at_call 38; refine (limitS_any _ _ _ _).mono ?_; rintro e w' ⟨rfl, rfl⟩)
    go_meet
    case rel => exact ⟨by kernel_rfl, rfl⟩
  case rest =>
  obtain ⟨rfl, hwc⟩ := hcut
  subst hwc
  go_upto_region 22 with (fail)
  refine wp_region_mix (fun _ => True) [(0, 0), (1, 0), (2, 0), (3, 0), (4, 0), (5, 0), (6, 0), (7, 0), (8, 0), (9, 0), (10, 0), (11, 0)] (by kernel_rfl) (by kernel_rfl) (fun _ _ _ _ _ h => h) ?_
  simp only [List.map_cons, List.map_nil, opOf, List.getD_cons_zero, List.getD_cons_succ]
  change wpMix _ _ _ _ _ _ wc.drew
  have s1 : wc.drew.cell? ⟨w.heap.size, 1, none⟩ = some (.int .i64 t) := s1
  have s2 : wc.drew.cell? ⟨w.heap.size, 2, none⟩ = some (.int .i64 u) := s2
  have bW := bW.drew
  generalize wc.drew = w2 at *
  have z1 := regT_size t
  have z2 := regT_size u
  (refine wpMix_still (fun K hK => ?_); go_simp; refine hK _ ?_; clear hK K)
  (refine wpMix_still (fun K hK => ?_); go_simp; refine hK _ ?_; clear hK K)
  (refine wpMix_still (fun K hK => ?_); go_simp; refine hK _ ?_; clear hK K)
  (refine wpMix_still (fun K hK => ?_); go_simp; refine hK _ ?_; clear hK K)
  (refine wpMix_still (fun K hK => ?_); go_simp; refine ⟨_, ((regT_any _ _).mono fun _ _ ⟨h, g⟩ => ⟨h, g.symm⟩), hK _ ?_⟩; clear hK K)
  (refine wpMix_still (fun K hK => ?_); go_simp; refine hK _ ?_; clear hK K)
  (refine wpMix_still (fun K hK => ?_); go_simp; refine hK _ ?_; clear hK K)
  (refine wpMix_still (fun K hK => ?_); go_simp; refine hK _ ?_; clear hK K)
  (refine wpMix_still (fun K hK => ?_); go_simp; refine hK _ ?_; clear hK K)
  (refine wpMix_still (fun K hK => ?_); go_simp; refine ⟨_, ((regT_any _ _).mono fun _ _ ⟨h, g⟩ => ⟨h, g.symm⟩), hK _ ?_⟩; clear hK K)
  (refine wpMix_still (fun K hK => ?_); go_simp; refine hK _ ?_; clear hK K)
  (refine wpMix_still (fun K hK => ?_); go_simp; refine hK _ ?_; clear hK K)
  refine wpMix_nil ?_
  go_wp2_with fail
  go_ret
  exact ⟨rfl, bW⟩
set_option maxRecDepth 100000 in
theorem stepT3_any (t u n : Int) (w : World) :
    Calls Tryz.prog 39 #[.agg #[.int .i64 3, .int .i64 t, .int .i64 u, .int .i64 n], .func (.func 37) #[] #[]] w fun e w' => e = .returned (.string (⟨#[122]⟩ ++ regT t)) ∧ Below w.heap.size w w' := by
  have hE : ∀ (args : Array Value) (w : World), (callFunc 37 args).run Tryz.prog w = .ok (.enter 37 args) w := enters_of Tryz.func37 (by kernel_rfl) rfl
  obtain ⟨k0, bW, sW⟩ := boxes1 w (.cells #[.int .i64 3, .int .i64 t, .int .i64 u, .int .i64 n] 59)
  have k0 : rowB _ _ _ _ := k0
  have s0 := rowB_cell k0 0 (v := .int .i64 3) rfl
  have s1 := rowB_cell k0 1 (v := .int .i64 t) rfl
  have s2 := rowB_cell k0 2 (v := .int .i64 u) rfl
  have s3 := rowB_cell k0 3 (v := .int .i64 n) rfl
  go_enter Tryz.func39, Tryz.ntmps39
  go_upto_region 1 with (fail)
  generalize w.alloc (.cells #[.int .i64 3, .int .i64 t, .int .i64 u, .int .i64 n] 59) = w1 at *
  go_upto_region 2 with (fail)
  go_cut [6] (fun s wx => s = .string ⟨#[122]⟩ ∧ wx = w1)
  case first =>
    go_wp2_with (go_at_call 38; refine (limitS_any _ _ _ _).mono ?_; rintro e w' ⟨rfl, rfl⟩)
    go_meet
    case rel => exact ⟨by kernel_rfl, rfl⟩
  case rest =>
  obtain ⟨rfl, hwc⟩ := hcut
  subst hwc
  have z1 := regT_size t
  go_wp2_with (go_at_call 37; refine (regT_any _ _).mono ?_; rintro e w' ⟨rfl, rfl⟩)
  go_ret
  exact ⟨rfl, bW⟩
set_option maxRecDepth 100000 in
theorem stepT10_any (t u n : Int) (w : World) :
    Calls Tryz.prog 39 #[.agg #[.int .i64 10, .int .i64 t, .int .i64 u, .int .i64 n], .func (.func 37) #[] #[]] w fun e w' => e = .returned (.string (⟨#[117]⟩ ++ regT t)) ∧ Below w.heap.size w w' := by
  have hE : ∀ (args : Array Value) (w : World), (callFunc 37 args).run Tryz.prog w = .ok (.enter 37 args) w := enters_of Tryz.func37 (by kernel_rfl) rfl
  obtain ⟨k0, bW, sW⟩ := boxes1 w (.cells #[.int .i64 10, .int .i64 t, .int .i64 u, .int .i64 n] 59)
  have k0 : rowB _ _ _ _ := k0
  have s0 := rowB_cell k0 0 (v := .int .i64 10) rfl
  have s1 := rowB_cell k0 1 (v := .int .i64 t) rfl
  have s2 := rowB_cell k0 2 (v := .int .i64 u) rfl
  have s3 := rowB_cell k0 3 (v := .int .i64 n) rfl
  go_enter Tryz.func39, Tryz.ntmps39
  go_upto_region 1 with (fail)
  generalize w.alloc (.cells #[.int .i64 10, .int .i64 t, .int .i64 u, .int .i64 n] 59) = w1 at *
  go_upto_region 2 with (fail)
  go_cut [6] (fun s wx => s = .string ⟨#[117]⟩ ∧ wx = w1)
  case first =>
    go_wp2_with (go_at_call 38; refine (limitS_any _ _ _ _).mono ?_; rintro e w' ⟨rfl, rfl⟩)
    go_meet
    case rel => exact ⟨by kernel_rfl, rfl⟩
  case rest =>
  obtain ⟨rfl, hwc⟩ := hcut
  subst hwc
  have z1 := regT_size t
  go_wp2_with (go_at_call 37; refine (regT_any _ _).mono ?_; rintro e w' ⟨rfl, rfl⟩)
  go_ret
  exact ⟨rfl, bW⟩
set_option maxRecDepth 100000 in
theorem stepT11_any (t u n : Int) (w : World) :
    Calls Tryz.prog 39 #[.agg #[.int .i64 11, .int .i64 t, .int .i64 u, .int .i64 n], .func (.func 37) #[] #[]] w fun e w' => e = .returned (.string (⟨#[100]⟩ ++ regT t)) ∧ Below w.heap.size w w' := by
  have hE : ∀ (args : Array Value) (w : World), (callFunc 37 args).run Tryz.prog w = .ok (.enter 37 args) w := enters_of Tryz.func37 (by kernel_rfl) rfl
  obtain ⟨k0, bW, sW⟩ := boxes1 w (.cells #[.int .i64 11, .int .i64 t, .int .i64 u, .int .i64 n] 59)
  have k0 : rowB _ _ _ _ := k0
  have s0 := rowB_cell k0 0 (v := .int .i64 11) rfl
  have s1 := rowB_cell k0 1 (v := .int .i64 t) rfl
  have s2 := rowB_cell k0 2 (v := .int .i64 u) rfl
  have s3 := rowB_cell k0 3 (v := .int .i64 n) rfl
  go_enter Tryz.func39, Tryz.ntmps39
  go_upto_region 1 with (fail)
  generalize w.alloc (.cells #[.int .i64 11, .int .i64 t, .int .i64 u, .int .i64 n] 59) = w1 at *
  go_upto_region 2 with (fail)
  go_cut [6] (fun s wx => s = .string ⟨#[100]⟩ ∧ wx = w1)
  case first =>
    go_wp2_with (go_at_call 38; refine (limitS_any _ _ _ _).mono ?_; rintro e w' ⟨rfl, rfl⟩)
    go_meet
    case rel => exact ⟨by kernel_rfl, rfl⟩
  case rest =>
  obtain ⟨rfl, hwc⟩ := hcut
  subst hwc
  have z1 := regT_size t
  go_wp2_with (go_at_call 37; refine (regT_any _ _).mono ?_; rintro e w' ⟨rfl, rfl⟩)
  go_ret
  exact ⟨rfl, bW⟩
set_option maxRecDepth 100000 in
theorem stepT12_any (t u n : Int) (w : World) :
    Calls Tryz.prog 39 #[.agg #[.int .i64 12, .int .i64 t, .int .i64 u, .int .i64 n], .func (.func 37) #[] #[]] w fun e w' => e = .returned (.string (⟨#[60]⟩ ++ regT t)) ∧ Below w.heap.size w w' := by
  have hE : ∀ (args : Array Value) (w : World), (callFunc 37 args).run Tryz.prog w = .ok (.enter 37 args) w := enters_of Tryz.func37 (by kernel_rfl) rfl
  obtain ⟨k0, bW, sW⟩ := boxes1 w (.cells #[.int .i64 12, .int .i64 t, .int .i64 u, .int .i64 n] 59)
  have k0 : rowB _ _ _ _ := k0
  have s0 := rowB_cell k0 0 (v := .int .i64 12) rfl
  have s1 := rowB_cell k0 1 (v := .int .i64 t) rfl
  have s2 := rowB_cell k0 2 (v := .int .i64 u) rfl
  have s3 := rowB_cell k0 3 (v := .int .i64 n) rfl
  go_enter Tryz.func39, Tryz.ntmps39
  go_upto_region 1 with (fail)
  generalize w.alloc (.cells #[.int .i64 12, .int .i64 t, .int .i64 u, .int .i64 n] 59) = w1 at *
  go_upto_region 2 with (fail)
  go_cut [6] (fun s wx => s = .string ⟨#[60]⟩ ∧ wx = w1)
  case first =>
    go_wp2_with (go_at_call 38; refine (limitS_any _ _ _ _).mono ?_; rintro e w' ⟨rfl, rfl⟩)
    go_meet
    case rel => exact ⟨by kernel_rfl, rfl⟩
  case rest =>
  obtain ⟨rfl, hwc⟩ := hcut
  subst hwc
  have z1 := regT_size t
  go_wp2_with (go_at_call 37; refine (regT_any _ _).mono ?_; rintro e w' ⟨rfl, rfl⟩)
  go_ret
  exact ⟨rfl, bW⟩
set_option maxRecDepth 100000 in
theorem stepT13_any (t u n : Int) (w : World) :
    Calls Tryz.prog 39 #[.agg #[.int .i64 13, .int .i64 t, .int .i64 u, .int .i64 n], .func (.func 37) #[] #[]] w fun e w' => e = .returned (.string (⟨#[62]⟩ ++ regT t)) ∧ Below w.heap.size w w' := by
  have hE : ∀ (args : Array Value) (w : World), (callFunc 37 args).run Tryz.prog w = .ok (.enter 37 args) w := enters_of Tryz.func37 (by kernel_rfl) rfl
  obtain ⟨k0, bW, sW⟩ := boxes1 w (.cells #[.int .i64 13, .int .i64 t, .int .i64 u, .int .i64 n] 59)
  have k0 : rowB _ _ _ _ := k0
  have s0 := rowB_cell k0 0 (v := .int .i64 13) rfl
  have s1 := rowB_cell k0 1 (v := .int .i64 t) rfl
  have s2 := rowB_cell k0 2 (v := .int .i64 u) rfl
  have s3 := rowB_cell k0 3 (v := .int .i64 n) rfl
  go_enter Tryz.func39, Tryz.ntmps39
  go_upto_region 1 with (fail)
  generalize w.alloc (.cells #[.int .i64 13, .int .i64 t, .int .i64 u, .int .i64 n] 59) = w1 at *
  go_upto_region 2 with (fail)
  go_cut [6] (fun s wx => s = .string ⟨#[62]⟩ ∧ wx = w1)
  case first =>
    go_wp2_with (go_at_call 38; refine (limitS_any _ _ _ _).mono ?_; rintro e w' ⟨rfl, rfl⟩)
    go_meet
    case rel => exact ⟨by kernel_rfl, rfl⟩
  case rest =>
  obtain ⟨rfl, hwc⟩ := hcut
  subst hwc
  have z1 := regT_size t
  go_wp2_with (go_at_call 37; refine (regT_any _ _).mono ?_; rintro e w' ⟨rfl, rfl⟩)
  go_ret
  exact ⟨rfl, bW⟩
set_option maxRecDepth 100000 in
theorem stepT14_any (t u n : Int) (w : World) :
    Calls Tryz.prog 39 #[.agg #[.int .i64 14, .int .i64 t, .int .i64 u, .int .i64 n], .func (.func 37) #[] #[]] w fun e w' => e = .returned (.string (⟨#[91]⟩ ++ regT t)) ∧ Below w.heap.size w w' := by
  have hE : ∀ (args : Array Value) (w : World), (callFunc 37 args).run Tryz.prog w = .ok (.enter 37 args) w := enters_of Tryz.func37 (by kernel_rfl) rfl
  obtain ⟨k0, bW, sW⟩ := boxes1 w (.cells #[.int .i64 14, .int .i64 t, .int .i64 u, .int .i64 n] 59)
  have k0 : rowB _ _ _ _ := k0
  have s0 := rowB_cell k0 0 (v := .int .i64 14) rfl
  have s1 := rowB_cell k0 1 (v := .int .i64 t) rfl
  have s2 := rowB_cell k0 2 (v := .int .i64 u) rfl
  have s3 := rowB_cell k0 3 (v := .int .i64 n) rfl
  go_enter Tryz.func39, Tryz.ntmps39
  go_upto_region 1 with (fail)
  generalize w.alloc (.cells #[.int .i64 14, .int .i64 t, .int .i64 u, .int .i64 n] 59) = w1 at *
  go_upto_region 2 with (fail)
  go_cut [6] (fun s wx => s = .string ⟨#[91]⟩ ∧ wx = w1)
  case first =>
    go_wp2_with (go_at_call 38; refine (limitS_any _ _ _ _).mono ?_; rintro e w' ⟨rfl, rfl⟩)
    go_meet
    case rel => exact ⟨by kernel_rfl, rfl⟩
  case rest =>
  obtain ⟨rfl, hwc⟩ := hcut
  subst hwc
  have z1 := regT_size t
  go_wp2_with (go_at_call 37; refine (regT_any _ _).mono ?_; rintro e w' ⟨rfl, rfl⟩)
  go_ret
  exact ⟨rfl, bW⟩
set_option maxRecDepth 100000 in
theorem stepT15_any (t u n : Int) (w : World) :
    Calls Tryz.prog 39 #[.agg #[.int .i64 15, .int .i64 t, .int .i64 u, .int .i64 n], .func (.func 37) #[] #[]] w fun e w' => e = .returned (.string (⟨#[93]⟩ ++ regT t)) ∧ Below w.heap.size w w' := by
  have hE : ∀ (args : Array Value) (w : World), (callFunc 37 args).run Tryz.prog w = .ok (.enter 37 args) w := enters_of Tryz.func37 (by kernel_rfl) rfl
  obtain ⟨k0, bW, sW⟩ := boxes1 w (.cells #[.int .i64 15, .int .i64 t, .int .i64 u, .int .i64 n] 59)
  have k0 : rowB _ _ _ _ := k0
  have s0 := rowB_cell k0 0 (v := .int .i64 15) rfl
  have s1 := rowB_cell k0 1 (v := .int .i64 t) rfl
  have s2 := rowB_cell k0 2 (v := .int .i64 u) rfl
  have s3 := rowB_cell k0 3 (v := .int .i64 n) rfl
  go_enter Tryz.func39, Tryz.ntmps39
  go_upto_region 1 with (fail)
  generalize w.alloc (.cells #[.int .i64 15, .int .i64 t, .int .i64 u, .int .i64 n] 59) = w1 at *
  go_upto_region 2 with (fail)
  go_cut [6] (fun s wx => s = .string ⟨#[93]⟩ ∧ wx = w1)
  case first =>
    go_wp2_with (go_at_call 38; refine (limitS_any _ _ _ _).mono ?_; rintro e w' ⟨rfl, rfl⟩)
    go_meet
    case rel => exact ⟨by kernel_rfl, rfl⟩
  case rest =>
  obtain ⟨rfl, hwc⟩ := hcut
  subst hwc
  have z1 := regT_size t
  go_wp2_with (go_at_call 37; refine (regT_any _ _).mono ?_; rintro e w' ⟨rfl, rfl⟩)
  go_ret
  exact ⟨rfl, bW⟩
set_option maxRecDepth 100000 in
theorem stepT16_1 (t u : Int) (w : World) :
    Calls Tryz.prog 39 #[.agg #[.int .i64 16, .int .i64 t, .int .i64 u, .int .i64 1], .func (.func 37) #[] #[]] w fun e w' => e = .returned (.string (⟨#[115]⟩ ++ ⟨#[49]⟩)) ∧ Below w.heap.size w w' := by
  have hE : ∀ (args : Array Value) (w : World), (callFunc 37 args).run Tryz.prog w = .ok (.enter 37 args) w := enters_of Tryz.func37 (by kernel_rfl) rfl
  obtain ⟨k0, bW, sW⟩ := boxes1 w (.cells #[.int .i64 16, .int .i64 t, .int .i64 u, .int .i64 1] 59)
  have k0 : rowB _ _ _ _ := k0
  have s0 := rowB_cell k0 0 (v := .int .i64 16) rfl
  have s1 := rowB_cell k0 1 (v := .int .i64 t) rfl
  have s2 := rowB_cell k0 2 (v := .int .i64 u) rfl
  have s3 := rowB_cell k0 3 (v := .int .i64 1) rfl
  go_enter Tryz.func39, Tryz.ntmps39
  go_upto_region 1 with (fail)
  generalize w.alloc (.cells #[.int .i64 16, .int .i64 t, .int .i64 u, .int .i64 1] 59) = w1 at *
  go_upto_region 2 with (fail)
  go_cut [6] (fun s wx => s = .string ⟨#[115]⟩ ∧ wx = w1)
  case first =>
    go_wp2_with (go_at_call 38; refine (limitS_any _ _ _ _).mono ?_; rintro e w' ⟨rfl, rfl⟩)
    go_meet
    case rel => exact ⟨by kernel_rfl, rfl⟩
  case rest =>
  obtain ⟨rfl, hwc⟩ := hcut
  subst hwc
  have hU : Utf8.encode 49 = ⟨#[49]⟩ := by kernel_rfl
  go_wp2_with fail
  go_ret
  exact ⟨by kernel_rfl, bW⟩
set_option maxRecDepth 100000 in
theorem stepT16_4 (t u : Int) (w : World) :
    Calls Tryz.prog 39 #[.agg #[.int .i64 16, .int .i64 t, .int .i64 u, .int .i64 4], .func (.func 37) #[] #[]] w fun e w' => e = .returned (.string (⟨#[115]⟩ ++ ⟨#[52]⟩)) ∧ Below w.heap.size w w' := by
  have hE : ∀ (args : Array Value) (w : World), (callFunc 37 args).run Tryz.prog w = .ok (.enter 37 args) w := enters_of Tryz.func37 (by kernel_rfl) rfl
  obtain ⟨k0, bW, sW⟩ := boxes1 w (.cells #[.int .i64 16, .int .i64 t, .int .i64 u, .int .i64 4] 59)
  have k0 : rowB _ _ _ _ := k0
  have s0 := rowB_cell k0 0 (v := .int .i64 16) rfl
  have s1 := rowB_cell k0 1 (v := .int .i64 t) rfl
  have s2 := rowB_cell k0 2 (v := .int .i64 u) rfl
  have s3 := rowB_cell k0 3 (v := .int .i64 4) rfl
  go_enter Tryz.func39, Tryz.ntmps39
  go_upto_region 1 with (fail)
  generalize w.alloc (.cells #[.int .i64 16, .int .i64 t, .int .i64 u, .int .i64 4] 59) = w1 at *
  go_upto_region 2 with (fail)
  go_cut [6] (fun s wx => s = .string ⟨#[115]⟩ ∧ wx = w1)
  case first =>
    go_wp2_with (go_at_call 38; refine (limitS_any _ _ _ _).mono ?_; rintro e w' ⟨rfl, rfl⟩)
    go_meet
    case rel => exact ⟨by kernel_rfl, rfl⟩
  case rest =>
  obtain ⟨rfl, hwc⟩ := hcut
  subst hwc
  have hU : Utf8.encode 52 = ⟨#[52]⟩ := by kernel_rfl
  go_wp2_with fail
  go_ret
  exact ⟨by kernel_rfl, bW⟩
set_option maxRecDepth 100000 in
theorem stepT17_1 (t u : Int) (w : World) :
    Calls Tryz.prog 39 #[.agg #[.int .i64 17, .int .i64 t, .int .i64 u, .int .i64 1], .func (.func 37) #[] #[]] w fun e w' => e = .returned (.string (⟨#[99]⟩ ++ ⟨#[49]⟩)) ∧ Below w.heap.size w w' := by
  have hE : ∀ (args : Array Value) (w : World), (callFunc 37 args).run Tryz.prog w = .ok (.enter 37 args) w := enters_of Tryz.func37 (by kernel_rfl) rfl
  obtain ⟨k0, bW, sW⟩ := boxes1 w (.cells #[.int .i64 17, .int .i64 t, .int .i64 u, .int .i64 1] 59)
  have k0 : rowB _ _ _ _ := k0
  have s0 := rowB_cell k0 0 (v := .int .i64 17) rfl
  have s1 := rowB_cell k0 1 (v := .int .i64 t) rfl
  have s2 := rowB_cell k0 2 (v := .int .i64 u) rfl
  have s3 := rowB_cell k0 3 (v := .int .i64 1) rfl
  go_enter Tryz.func39, Tryz.ntmps39
  go_upto_region 1 with (fail)
  generalize w.alloc (.cells #[.int .i64 17, .int .i64 t, .int .i64 u, .int .i64 1] 59) = w1 at *
  go_upto_region 2 with (fail)
  go_cut [6] (fun s wx => s = .string ⟨#[99]⟩ ∧ wx = w1)
  case first =>
    go_wp2_with (go_at_call 38; refine (limitS_any _ _ _ _).mono ?_; rintro e w' ⟨rfl, rfl⟩)
    go_meet
    case rel => exact ⟨by kernel_rfl, rfl⟩
  case rest =>
  obtain ⟨rfl, hwc⟩ := hcut
  subst hwc
  have hU : Utf8.encode 49 = ⟨#[49]⟩ := by kernel_rfl
  go_wp2_with fail
  go_ret
  exact ⟨by kernel_rfl, bW⟩
set_option maxRecDepth 100000 in
theorem stepT17_4 (t u : Int) (w : World) :
    Calls Tryz.prog 39 #[.agg #[.int .i64 17, .int .i64 t, .int .i64 u, .int .i64 4], .func (.func 37) #[] #[]] w fun e w' => e = .returned (.string (⟨#[99]⟩ ++ ⟨#[52]⟩)) ∧ Below w.heap.size w w' := by
  have hE : ∀ (args : Array Value) (w : World), (callFunc 37 args).run Tryz.prog w = .ok (.enter 37 args) w := enters_of Tryz.func37 (by kernel_rfl) rfl
  obtain ⟨k0, bW, sW⟩ := boxes1 w (.cells #[.int .i64 17, .int .i64 t, .int .i64 u, .int .i64 4] 59)
  have k0 : rowB _ _ _ _ := k0
  have s0 := rowB_cell k0 0 (v := .int .i64 17) rfl
  have s1 := rowB_cell k0 1 (v := .int .i64 t) rfl
  have s2 := rowB_cell k0 2 (v := .int .i64 u) rfl
  have s3 := rowB_cell k0 3 (v := .int .i64 4) rfl
  go_enter Tryz.func39, Tryz.ntmps39
  go_upto_region 1 with (fail)
  generalize w.alloc (.cells #[.int .i64 17, .int .i64 t, .int .i64 u, .int .i64 4] 59) = w1 at *
  go_upto_region 2 with (fail)
  go_cut [6] (fun s wx => s = .string ⟨#[99]⟩ ∧ wx = w1)
  case first =>
    go_wp2_with (go_at_call 38; refine (limitS_any _ _ _ _).mono ?_; rintro e w' ⟨rfl, rfl⟩)
    go_meet
    case rel => exact ⟨by kernel_rfl, rfl⟩
  case rest =>
  obtain ⟨rfl, hwc⟩ := hcut
  subst hwc
  have hU : Utf8.encode 52 = ⟨#[52]⟩ := by kernel_rfl
  go_wp2_with fail
  go_ret
  exact ⟨by kernel_rfl, bW⟩
set_option maxRecDepth 100000 in
theorem stepT2_0 (t u : Int) (w : World) :
    Calls Tryz.prog 39 #[.agg #[.int .i64 2, .int .i64 t, .int .i64 u, .int .i64 0], .func (.func 37) #[] #[]] w fun e w' => e = .returned (.string (⟨#[48]⟩ ++ regT t)) ∧ Below w.heap.size w w' := by
  have hE : ∀ (args : Array Value) (w : World), (callFunc 37 args).run Tryz.prog w = .ok (.enter 37 args) w := enters_of Tryz.func37 (by kernel_rfl) rfl
  obtain ⟨k0, bW, sW⟩ := boxes1 w (.cells #[.int .i64 2, .int .i64 t, .int .i64 u, .int .i64 0] 59)
  have k0 : rowB _ _ _ _ := k0
  have s0 := rowB_cell k0 0 (v := .int .i64 2) rfl
  have s1 := rowB_cell k0 1 (v := .int .i64 t) rfl
  have s2 := rowB_cell k0 2 (v := .int .i64 u) rfl
  have s3 := rowB_cell k0 3 (v := .int .i64 0) rfl
  go_enter Tryz.func39, Tryz.ntmps39
  go_upto_region 1 with (fail)
  generalize w.alloc (.cells #[.int .i64 2, .int .i64 t, .int .i64 u, .int .i64 0] 59) = w1 at *
  go_upto_region 2 with (fail)
  go_cut [6] (fun s wx => s = .string ⟨#[48]⟩ ∧ wx = w1)
  case first =>
    go_wp2_with (go_at_call 38; refine (limitS_any _ _ _ _).mono ?_; rintro e w' ⟨rfl, rfl⟩)
    go_meet
    case rel => exact ⟨by kernel_rfl, rfl⟩
  case rest =>
  obtain ⟨rfl, hwc⟩ := hcut
  subst hwc
  have hU : Utf8.encode (IntKind.i32.wrap (IntKind.i64.wrap 48)) = ⟨#[48]⟩ := by kernel_rfl
  go_upto_region 7 with (fail)
  refine wp_region_mix (fun _ => True) [(0, 0), (1, 0), (2, 0), (3, 0), (4, 0), (5, 0), (6, 0), (7, 0), (8, 0), (9, 0), (10, 0)] (by kernel_rfl) (by kernel_rfl) (fun _ _ _ _ _ h => h) ?_
  simp only [List.map_cons, List.map_nil, opOf, List.getD_cons_zero, List.getD_cons_succ]
  change wpMix _ _ _ _ _ _ wc.drew
  have s1 : wc.drew.cell? ⟨w.heap.size, 1, none⟩ = some (.int .i64 t) := s1
  have s3 : wc.drew.cell? ⟨w.heap.size, 3, none⟩ = some (.int .i64 0) := s3
  have bW := bW.drew
  generalize wc.drew = w2 at *
  have z1 := regT_size t
  (refine wpMix_still (fun K hK => ?_); go_simp; refine hK _ ?_; clear hK K)
  (refine wpMix_still (fun K hK => ?_); go_simp; refine hK _ ?_; clear hK K)
  (refine wpMix_still (fun K hK => ?_); go_simp; refine hK _ ?_; clear hK K)
  (refine wpMix_still (fun K hK => ?_); go_simp; refine hK _ ?_; clear hK K)
  (refine wpMix_still (fun K hK => ?_); go_simp; refine hK _ ?_; clear hK K)
  (refine wpMix_still (fun K hK => ?_); go_simp; refine hK _ ?_; clear hK K)
  (refine wpMix_still (fun K hK => ?_); go_simp; refine hK _ ?_; clear hK K)
  (refine wpMix_still (fun K hK => ?_); go_simp; refine hK _ ?_; clear hK K)
  (refine wpMix_still (fun K hK => ?_); go_simp; refine ⟨_, ((regT_any _ _).mono fun _ _ ⟨h, g⟩ => ⟨h, g.symm⟩), hK _ ?_⟩; clear hK K)
  (refine wpMix_still (fun K hK => ?_); go_simp; refine hK _ ?_; clear hK K)
  (refine wpMix_still (fun K hK => ?_); go_simp; refine hK _ ?_; clear hK K)
  refine wpMix_nil ?_
  go_wp2_with fail
  go_ret
  exact ⟨rfl, bW⟩
set_option maxRecDepth 100000 in
theorem stepT2_255 (u : Int) (w : World) :
    Calls Tryz.prog 39 #[.agg #[.int .i64 2, .int .i64 3, .int .i64 u, .int .i64 255], .func (.func 37) #[] #[]] w fun e w' => e = .returned (.string (⟨#[57, 83]⟩)) ∧ Below w.heap.size w w' := by
  have hE : ∀ (args : Array Value) (w : World), (callFunc 37 args).run Tryz.prog w = .ok (.enter 37 args) w := enters_of Tryz.func37 (by kernel_rfl) rfl
  obtain ⟨k0, bW, sW⟩ := boxes1 w (.cells #[.int .i64 2, .int .i64 3, .int .i64 u, .int .i64 255] 59)
  have k0 : rowB _ _ _ _ := k0
  have s0 := rowB_cell k0 0 (v := .int .i64 2) rfl
  have s1 := rowB_cell k0 1 (v := .int .i64 3) rfl
  have s2 := rowB_cell k0 2 (v := .int .i64 u) rfl
  have s3 := rowB_cell k0 3 (v := .int .i64 255) rfl
  go_enter Tryz.func39, Tryz.ntmps39
  go_upto_region 1 with (fail)
  generalize w.alloc (.cells #[.int .i64 2, .int .i64 3, .int .i64 u, .int .i64 255] 59) = w1 at *
  go_upto_region 2 with (fail)
  go_cut [6] (fun s wx => s = .string ⟨#[48]⟩ ∧ wx = w1)
  case first =>
    go_wp2_with (go_at_call 38; refine (limitS_any _ _ _ _).mono ?_; rintro e w' ⟨rfl, rfl⟩)
    go_meet
    case rel => exact ⟨by kernel_rfl, rfl⟩
  case rest =>
  obtain ⟨rfl, hwc⟩ := hcut
  subst hwc
  go_wp2_with fail
  go_ret
  exact ⟨rfl, bW⟩
end Go.Proofs.YtbgjnegojoaimaaGreatDoor
