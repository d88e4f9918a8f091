/- A part of the proof of ChipBanks: ChFact. -/
import Derived.Test.YtakaebjojgeehaaChipBanksK01
import Derived.Test.YtakaebjojgeehaaChipBanksK02
import Derived.Test.YtakaebjojgeehaaChipBanksK03
import Derived.Test.YtakaebjojgeehaaChipBanksK04
import Derived.Test.YtakaebjojgeehaaChipBanksK05
import Derived.Test.YtakaebjojgeehaaChipBanksK06
import Derived.Test.YtakaebjojgeehaaChipBanksK07
import Derived.Test.YtakaebjojgeehaaChipBanksK08
import Derived.Test.YtakaebjojgeehaaChipBanksK09
import Derived.Test.YtakaebjojgeehaaChipBanksK10
import Derived.Test.YtakaebjojgeehaaChipBanksK11
import Derived.Test.YtakaebjojgeehaaChipBanksK12
import Derived.Test.YtakaebjojgeehaaChipBanksK13
import Derived.Test.YtakaebjojgeehaaChipBanksK14
import Derived.Test.YtakaebjojgeehaaChipBanksK15
import Derived.Test.YtakaebjojgeehaaChipBanksK16
import Derived.Test.YtakaebjojgeehaaChipBanksK17
import Derived.Test.YtakaebjojgeehaaChipBanksK18
import Derived.Test.YtakaebjojgeehaaChipBanksK19
import Derived.Test.YtakaebjojgeehaaChipBanksK20
import Derived.Test.YtakaebjojgeehaaChipBanksK21
import Derived.Test.YtakaebjojgeehaaChipBanksK22
import Derived.Test.YtakaebjojgeehaaChipBanksK23
import Derived.Test.YtakaebjojgeehaaChipBanksK24
import Derived.Test.YtakaebjojgeehaaChipBanksK25
import Derived.Test.YtakaebjojgeehaaChipBanksK26
import Derived.Test.YtakaebjojgeehaaChipBanksK27
import Derived.Test.YtakaebjojgeehaaChipBanksK28
import Derived.Test.YtakaebjojgeehaaChipBanksK29
import Derived.Test.YtakaebjojgeehaaChipBanksK30
import Derived.Test.YtakaebjojgeehaaChipBanksK31
import Derived.Test.YtakaebjojgeehaaChipBanksK32
import Derived.Test.YtakaebjojgeehaaChipBanksK33
import Derived.Test.YtakaebjojgeehaaChipBanksK34
import Derived.Test.YtakaebjojgeehaaChipBanksK35
import Derived.Test.YtakaebjojgeehaaChipBanksK36
import Derived.Test.YtakaebjojgeehaaChipBanksK37
import Derived.Test.YtakaebjojgeehaaChipBanksK38
import Derived.Test.YtakaebjojgeehaaChipBanksK39
import Derived.Test.YtakaebjojgeehaaChipBanksK40
import Derived.Test.YtakaebjojgeehaaChipBanksK41
import Derived.Test.YtakaebjojgeehaaChipBanksK42
import Derived.Test.YtakaebjojgeehaaChipBanksK43
import Derived.Test.YtakaebjojgeehaaChipBanksK44
import Derived.Test.YtakaebjojgeehaaChipBanksK45
import Derived.Test.YtakaebjojgeehaaChipBanksK46
import Derived.Test.YtakaebjojgeehaaChipBanksK47
import Derived.Test.YtakaebjojgeehaaChipBanksK48
import Derived.Test.YtakaebjojgeehaaChipBanksK49
import Derived.Test.YtakaebjojgeehaaChipBanksK50
import Derived.Test.YtakaebjojgeehaaChipBanksK51
import Derived.Test.YtakaebjojgeehaaChipBanksK52
import Derived.Below
import Derived.BigQuiet
import Derived.ChangeMaps5
import Derived.Deep.AppendSrc
import Derived.Deep.DeepAppendWide
import Derived.Deep.DeepCutAuto
import Derived.Deep.Draws
import Derived.Deep.MidRow
import Derived.Deep.OwnRows
import Derived.Deep.QuietTactic
import Derived.Deep.RegionHeld3
import Derived.Deep.RegionWith
import Derived.Deep.Slices
import Derived.Deep.WholeRow
import Derived.Laws.CopyOwn
import Derived.Laws.OwnMore
import Derived.Lib.Bytealg
import Derived.Lib.Hide
import Derived.Lib.IndexAny
import Derived.Lib.SmallJoins
import Derived.Lib.Walk
import Derived.Maps.AppendAt
import Derived.OpenShut
import Derived.OrdersHeld
import Derived.OwnWalk
import Derived.RowKit3
import Derived.Shelf.Abstract
import Derived.StillTactics
import Derived.StillTail
import Derived.StillTailTactics
import Derived.Test.YtakaebjojgeehaaChecked
import Derived.WalkKit
namespace Go.Proofs.Ytakaebjojgeehaa
open Go.RowKit
set_option maxRecDepth 100000
theorem factNew_any (w : World) : Calls Try.prog 11 #[.agg #[.string ⟨#[97]⟩, .int .i64 0, .int .i64 0, .int .i64 4, .slice none 0 0]] w fun e w' => ∃ vx vm, e = .returned (.agg #[vx, vm]) ∧ isArg w' vx [] ∧ isByt w' vm [0, 0, 0, 0] ∧ Below w.heap.size w w' := by
  refine (chNew_any ⟨#[97]⟩ 0 0 4 (.slice none 0 0) [] w (isByt_none w) (by decide) (by decide)).mono ?_
  rintro e w' ⟨u, rfl, ⟨vx, vm, rfl, h1, h2⟩, hb⟩
  exact ⟨vx, vm, rfl, h1, h2, hb⟩
theorem factWrite_any (vx vm : Value) (w : World) (h : isArg w vx []) (hm : isByt w vm [0, 0, 0, 0]) : Calls Try.prog 14 #[.agg #[.string ⟨#[97]⟩, .int .i64 0, .int .i64 0, .int .i64 4, .slice none 0 0], .agg #[vx, vm], .int .i64 2, .int .i64 9] w fun e w' => ∃ vx vm, e = .returned (.agg #[vx, vm]) ∧ isArg w' vx [] ∧ isByt w' vm [0, 0, 9, 0] ∧ Below w.heap.size w w' := by
  refine (chWrite_any ⟨#[97]⟩ 0 0 4 none 0 0 vx vm [] [0, 0, 0, 0] 2 9 (by decide) w h hm (fun x hx => by cases hx) (by decide) (by decide) (by decide) (by decide)).mono ?_
  rintro e w' ⟨u, rfl, ⟨vx, vm, rfl, h1, h2⟩, hb⟩
  exact ⟨vx, vm, rfl, h1, h2, hb⟩
theorem factRead_any (vx vm : Value) (w : World) (h : isArg w vx []) (hm : isByt w vm [0, 0, 9, 0]) : Calls Try.prog 15 #[.agg #[.string ⟨#[97]⟩, .int .i64 0, .int .i64 0, .int .i64 4, .slice none 0 0], .agg #[vx, vm], .int .i64 2] w fun e w' => ∃ vx vm, e = .returned (.tuple #[.agg #[vx, vm], .int .i64 9]) ∧ vx.oneCell' = true ∧ vm.oneCell' = true ∧ Below w.heap.size w w' := by
  refine (chRead_any ⟨#[97]⟩ 0 0 4 none 0 0 vx vm [] [0, 0, 9, 0] 2 (by decide) w h hm (fun x hx => by cases hx) (by decide) (by decide) (by decide) (by decide)).mono ?_
  rintro e w' ⟨u, rfl, ⟨vx, vm, rfl, h1, h2⟩, hb⟩
  exact ⟨vx, vm, rfl, isArg_one h1, isByt_one h2, hb⟩
theorem factCheck_any (w : World) : Calls Try.prog 7 #[.agg #[.string ⟨#[97]⟩, .int .i64 0, .int .i64 0, .int .i64 4, .slice none 0 0]] w fun e w' => e = .returned (.int .i64 0) ∧ Below w.heap.size w w' := by
  have e : chErr ⟨#[97]⟩ 0 0 4 0 = 0 := by decide +kernel
  have := chCheck_any ⟨#[97]⟩ 0 0 4 none 0 0 (by decide) (by decide) (by decide) w
  rw [e] at this
  exact this
set_option maxHeartbeats 1000000 in
theorem chipsK_any (w : World) : Calls Try.prog 17 #[] w fun e w' => e = .returned (.bool true) ∧ Below w.heap.size w w' := by
  have k0 := rowB_new w 24 #[.string ⟨#[97]⟩, .int .i64 0, .int .i64 0, .int .i64 4, .slice none 0 0]
  have bW := (boxes1 w (.cells #[.string ⟨#[97]⟩, .int .i64 0, .int .i64 0, .int .i64 4, .slice none 0 0] 24)).2.1
  go_enter Try.func17, Try.ntmps17
  go_upto_region 2 with (fail)
  change Code.wp _ _ _ _ (w.alloc (.cells #[.string ⟨#[97]⟩, .int .i64 0, .int .i64 0, .int .i64 4, .slice none 0 0] 24))
  generalize w.alloc (.cells #[.string ⟨#[97]⟩, .int .i64 0, .int .i64 0, .int .i64 4, .slice none 0 0] 24) = w1 at *
  have bz := bW.size
  refine wp_region_treeN (fun w' => Below w1.heap.size w1 w') [0, 1, 2, 6, 7, 8, 11] [3, 4, 5, 9, 10] (.rd 0 (.rd 1 (.rd 2 (.two 3 (.two 4 (.two 5 (.rd 6 (.rd 7 (.rd 8 (.one 9 (.one 10 (.mix [(11, 0)])))))) 9 (.one 5 (.rd 6 (.rd 7 (.rd 8 (.one 10 (.mix [(11, 0)]))))))) 9 (.one 4 (.one 5 (.rd 6 (.rd 7 (.rd 8 (.one 10 (.mix [(11, 0)])))))))) 9 (.one 3 (.one 4 (.one 5 (.rd 6 (.rd 7 (.rd 8 (.one 10 (.mix [(11, 0)])))))))))))) (by kernel_rfl) (by kernel_rfl) (fun _ _ _ _ _ h => h) ?_
  simp only [Tr.put, List.map_cons, List.map_nil, opOf, List.getD_cons_zero, List.getD_cons_succ]
  change wpTr _ _ _ _ _ _ w1.drew
  have hS := (Below.refl w1.heap.size w1).drew
  generalize w1.drew = u0 at *
  refine wpTr_held (.agg #[.string ⟨#[97]⟩, .int .i64 0, .int .i64 0, .int .i64 4, .slice none 0 0]) rfl hS (fun w' hw' => exec_rowR 24 _ rfl w.heap.size rfl 24 #[.string ⟨#[97]⟩, .int .i64 0, .int .i64 0, .int .i64 4, .slice none 0 0] (rowB_below k0 hw' (rowB_lt k0)) agCh) ?_
  simp only [Act.put, List.setIfInBounds_toArray, List.set_cons_zero, List.set_cons_succ]
  refine wpTr_held (.agg #[.string ⟨#[97]⟩, .int .i64 0, .int .i64 0, .int .i64 4, .slice none 0 0]) rfl hS (fun w' hw' => exec_rowR 24 _ rfl w.heap.size rfl 24 #[.string ⟨#[97]⟩, .int .i64 0, .int .i64 0, .int .i64 4, .slice none 0 0] (rowB_below k0 hw' (rowB_lt k0)) agCh) ?_
  simp only [Act.put, List.setIfInBounds_toArray, List.set_cons_zero, List.set_cons_succ]
  refine wpTr_held (.agg #[.string ⟨#[97]⟩, .int .i64 0, .int .i64 0, .int .i64 4, .slice none 0 0]) rfl hS (fun w' hw' => exec_rowR 24 _ rfl w.heap.size rfl 24 #[.string ⟨#[97]⟩, .int .i64 0, .int .i64 0, .int .i64 4, .slice none 0 0] (rowB_below k0 hw' (rowB_lt k0)) agCh) ?_
  simp only [Act.put, List.setIfInBounds_toArray, List.set_cons_zero, List.set_cons_succ]
  refine wpTr_two ?_ ?_
  · go_wp2_with (go_at_call 11; refine (factNew_any _).mono ?_; rintro e u0_3 ⟨vA, mA, rfl, hA, hMA, hb⟩)
    replace hS := hS.trans (hb.mono hS.size)
    try replace nP := rowB_below nP hb (rowB_lt nP)
    first | refine ⟨hS, ?_⟩ | refine ⟨fun _ => hS, ?_⟩
    refine wpTr_two ?_ ?_
    · go_wp2_with (go_at_call 14; refine (factWrite_any _ _ _ hA hMA).mono ?_; rintro e u0_3_4 ⟨vB, mB, rfl, hB, hMB, hb⟩)
      replace hS := hS.trans (hb.mono hS.size)
      try replace nP := rowB_below nP hb (rowB_lt nP)
      first | refine ⟨hS, ?_⟩ | refine ⟨fun _ => hS, ?_⟩
      refine wpTr_two ?_ ?_
      · go_wp2_with (go_at_call 15; refine (factRead_any _ _ _ hB hMB).mono ?_; rintro e u0_3_4_5 ⟨vC, mC, rfl, hC, hMC, hb⟩)
        replace hS := hS.trans (hb.mono hS.size)
        try replace nP := rowB_below nP hb (rowB_lt nP)
        first | refine ⟨hS, ?_⟩ | refine ⟨fun _ => hS, ?_⟩
        refine wpTr_held (.tuple #[.agg #[vC, mC], .int .i64 9]) rfl hS (fun w' hw' => by go_simp) ?_
        simp only [Act.put, List.setIfInBounds_toArray, List.set_cons_zero, List.set_cons_succ]
        refine wpTr_held (.agg #[vC, mC]) rfl hS (fun w' hw' => by go_simp) ?_
        simp only [Act.put, List.setIfInBounds_toArray, List.set_cons_zero, List.set_cons_succ]
        refine wpTr_held (.int .i64 9) rfl hS (fun w' hw' => by go_simp) ?_
        simp only [Act.put, List.setIfInBounds_toArray, List.set_cons_zero, List.set_cons_succ]
        refine wpTr_one ?_
        go_wp2_with fail
        have hpS := hS.size
        have nP := rowB_new u0_3_4_5 34 #[.slice none 0 0, .slice none 0 0]
        have hb : Below u0_3_4_5.heap.size u0_3_4_5 (u0_3_4_5.alloc (.cells #[.slice none 0 0, .slice none 0 0] 34)) := (Below.refl _ _).alloc (Nat.le_refl _) _
        replace hS := hS.trans (hb.mono hS.size)
        try replace hA := isArg_below hA hb (Nat.le_refl _)
        try replace hMA := isByt_below hMA hb (Nat.le_refl _)
        try replace hB := isArg_below hB hb (Nat.le_refl _)
        try replace hMB := isByt_below hMB hb (Nat.le_refl _)
        generalize u0_3_4_5.alloc (.cells #[.slice none 0 0, .slice none 0 0] 34) = u0_3_4_5_9 at *
        clear hb
        generalize u0_3_4_5.heap.size = p at *
        first | refine ⟨hS, ?_⟩ | refine ⟨fun _ => hS, ?_⟩
        refine wpTr_one ?_
        go_wp2_with (refine wpList_storeR rfl 34 _ _ rfl p rfl #[vC, mC] rfl (two_one hC hMC) 34 #[.slice none 0 0, .slice none 0 0] rfl ?_ agDv ?_; with_reducible exact nP)
        have hZ := below_rowR hS #[vC, mC] hpS
        replace hS := hZ
        first | refine ⟨hS, ?_⟩ | refine ⟨fun _ => hS, ?_⟩
        refine wpTr_mix ?_
        (refine wpMix_still (fun K hK => ?_); go_simp; refine hK _ ?_; clear hK K)
        refine wpMix_nil ?_
        have kC := rowB_below k0 hS (rowB_lt k0)
        have bX := bW.trans (hS.mono bW.size)
        go_wp2_with (first
          | (refine wpList_loadRg rfl 24 _ rfl w.heap.size rfl 24 #[.string ⟨#[97]⟩, .int .i64 0, .int .i64 0, .int .i64 4, .slice none 0 0] ?_ agCh ?_; with_reducible exact kC)
          | (go_at_call 7; refine (factCheck_any _).mono ?_; rintro e wz ⟨rfl, hbz⟩; have bZ := bX.trans (hbz.mono bX.size)))
        go_ret
        exact ⟨rfl, bZ⟩
      · go_wp2_with fail
        have hpS := hS.size
        have nP := rowB_new u0_3_4 34 #[.slice none 0 0, .slice none 0 0]
        have hb : Below u0_3_4.heap.size u0_3_4 (u0_3_4.alloc (.cells #[.slice none 0 0, .slice none 0 0] 34)) := (Below.refl _ _).alloc (Nat.le_refl _) _
        replace hS := hS.trans (hb.mono hS.size)
        try replace hA := isArg_below hA hb (Nat.le_refl _)
        try replace hMA := isByt_below hMA hb (Nat.le_refl _)
        try replace hB := isArg_below hB hb (Nat.le_refl _)
        try replace hMB := isByt_below hMB hb (Nat.le_refl _)
        generalize u0_3_4.alloc (.cells #[.slice none 0 0, .slice none 0 0] 34) = u0_3_4_9 at *
        clear hb
        generalize u0_3_4.heap.size = p at *
        first | refine ⟨hS, ?_⟩ | refine ⟨fun _ => hS, ?_⟩
        refine wpTr_one ?_
        go_wp2_with (go_at_call 15; refine (factRead_any _ _ _ hB hMB).mono ?_; rintro e u0_3_4_9_5 ⟨vC, mC, rfl, hC, hMC, hb⟩)
        replace hS := hS.trans (hb.mono hS.size)
        try replace nP := rowB_below nP hb (rowB_lt nP)
        first | refine ⟨hS, ?_⟩ | refine ⟨fun _ => hS, ?_⟩
        refine wpTr_held (.tuple #[.agg #[vC, mC], .int .i64 9]) rfl hS (fun w' hw' => by go_simp) ?_
        simp only [Act.put, List.setIfInBounds_toArray, List.set_cons_zero, List.set_cons_succ]
        refine wpTr_held (.agg #[vC, mC]) rfl hS (fun w' hw' => by go_simp) ?_
        simp only [Act.put, List.setIfInBounds_toArray, List.set_cons_zero, List.set_cons_succ]
        refine wpTr_held (.int .i64 9) rfl hS (fun w' hw' => by go_simp) ?_
        simp only [Act.put, List.setIfInBounds_toArray, List.set_cons_zero, List.set_cons_succ]
        refine wpTr_one ?_
        go_wp2_with (refine wpList_storeR rfl 34 _ _ rfl p rfl #[vC, mC] rfl (two_one hC hMC) 34 #[.slice none 0 0, .slice none 0 0] rfl ?_ agDv ?_; with_reducible exact nP)
        have hZ := below_rowR hS #[vC, mC] hpS
        replace hS := hZ
        first | refine ⟨hS, ?_⟩ | refine ⟨fun _ => hS, ?_⟩
        refine wpTr_mix ?_
        (refine wpMix_still (fun K hK => ?_); go_simp; refine hK _ ?_; clear hK K)
        refine wpMix_nil ?_
        have kC := rowB_below k0 hS (rowB_lt k0)
        have bX := bW.trans (hS.mono bW.size)
        go_wp2_with (first
          | (refine wpList_loadRg rfl 24 _ rfl w.heap.size rfl 24 #[.string ⟨#[97]⟩, .int .i64 0, .int .i64 0, .int .i64 4, .slice none 0 0] ?_ agCh ?_; with_reducible exact kC)
          | (go_at_call 7; refine (factCheck_any _).mono ?_; rintro e wz ⟨rfl, hbz⟩; have bZ := bX.trans (hbz.mono bX.size)))
        go_ret
        exact ⟨rfl, bZ⟩
    · go_wp2_with fail
      have hpS := hS.size
      have nP := rowB_new u0_3 34 #[.slice none 0 0, .slice none 0 0]
      have hb : Below u0_3.heap.size u0_3 (u0_3.alloc (.cells #[.slice none 0 0, .slice none 0 0] 34)) := (Below.refl _ _).alloc (Nat.le_refl _) _
      replace hS := hS.trans (hb.mono hS.size)
      try replace hA := isArg_below hA hb (Nat.le_refl _)
      try replace hMA := isByt_below hMA hb (Nat.le_refl _)
      try replace hB := isArg_below hB hb (Nat.le_refl _)
      try replace hMB := isByt_below hMB hb (Nat.le_refl _)
      generalize u0_3.alloc (.cells #[.slice none 0 0, .slice none 0 0] 34) = u0_3_9 at *
      clear hb
      generalize u0_3.heap.size = p at *
      first | refine ⟨hS, ?_⟩ | refine ⟨fun _ => hS, ?_⟩
      refine wpTr_one ?_
      go_wp2_with (go_at_call 14; refine (factWrite_any _ _ _ hA hMA).mono ?_; rintro e u0_3_9_4 ⟨vB, mB, rfl, hB, hMB, hb⟩)
      replace hS := hS.trans (hb.mono hS.size)
      try replace nP := rowB_below nP hb (rowB_lt nP)
      first | refine ⟨hS, ?_⟩ | refine ⟨fun _ => hS, ?_⟩
      refine wpTr_one ?_
      go_wp2_with (go_at_call 15; refine (factRead_any _ _ _ hB hMB).mono ?_; rintro e u0_3_9_4_5 ⟨vC, mC, rfl, hC, hMC, hb⟩)
      replace hS := hS.trans (hb.mono hS.size)
      try replace nP := rowB_below nP hb (rowB_lt nP)
      first | refine ⟨hS, ?_⟩ | refine ⟨fun _ => hS, ?_⟩
      refine wpTr_held (.tuple #[.agg #[vC, mC], .int .i64 9]) rfl hS (fun w' hw' => by go_simp) ?_
      simp only [Act.put, List.setIfInBounds_toArray, List.set_cons_zero, List.set_cons_succ]
      refine wpTr_held (.agg #[vC, mC]) rfl hS (fun w' hw' => by go_simp) ?_
      simp only [Act.put, List.setIfInBounds_toArray, List.set_cons_zero, List.set_cons_succ]
      refine wpTr_held (.int .i64 9) rfl hS (fun w' hw' => by go_simp) ?_
      simp only [Act.put, List.setIfInBounds_toArray, List.set_cons_zero, List.set_cons_succ]
      refine wpTr_one ?_
      go_wp2_with (refine wpList_storeR rfl 34 _ _ rfl p rfl #[vC, mC] rfl (two_one hC hMC) 34 #[.slice none 0 0, .slice none 0 0] rfl ?_ agDv ?_; with_reducible exact nP)
      have hZ := below_rowR hS #[vC, mC] hpS
      replace hS := hZ
      first | refine ⟨hS, ?_⟩ | refine ⟨fun _ => hS, ?_⟩
      refine wpTr_mix ?_
      (refine wpMix_still (fun K hK => ?_); go_simp; refine hK _ ?_; clear hK K)
      refine wpMix_nil ?_
      have kC := rowB_below k0 hS (rowB_lt k0)
      have bX := bW.trans (hS.mono bW.size)
      go_wp2_with (first
        | (refine wpList_loadRg rfl 24 _ rfl w.heap.size rfl 24 #[.string ⟨#[97]⟩, .int .i64 0, .int .i64 0, .int .i64 4, .slice none 0 0] ?_ agCh ?_; with_reducible exact kC)
        | (go_at_call 7; refine (factCheck_any _).mono ?_; rintro e wz ⟨rfl, hbz⟩; have bZ := bX.trans (hbz.mono bX.size)))
      go_ret
      exact ⟨rfl, bZ⟩
  · go_wp2_with fail
    have hpS := hS.size
    have nP := rowB_new u0 34 #[.slice none 0 0, .slice none 0 0]
    have hb : Below u0.heap.size u0 (u0.alloc (.cells #[.slice none 0 0, .slice none 0 0] 34)) := (Below.refl _ _).alloc (Nat.le_refl _) _
    replace hS := hS.trans (hb.mono hS.size)
    try replace hA := isArg_below hA hb (Nat.le_refl _)
    try replace hMA := isByt_below hMA hb (Nat.le_refl _)
    try replace hB := isArg_below hB hb (Nat.le_refl _)
    try replace hMB := isByt_below hMB hb (Nat.le_refl _)
    generalize u0.alloc (.cells #[.slice none 0 0, .slice none 0 0] 34) = u0_9 at *
    clear hb
    generalize u0.heap.size = p at *
    first | refine ⟨hS, ?_⟩ | refine ⟨fun _ => hS, ?_⟩
    refine wpTr_one ?_
    go_wp2_with (go_at_call 11; refine (factNew_any _).mono ?_; rintro e u0_9_3 ⟨vA, mA, rfl, hA, hMA, hb⟩)
    replace hS := hS.trans (hb.mono hS.size)
    try replace nP := rowB_below nP hb (rowB_lt nP)
    first | refine ⟨hS, ?_⟩ | refine ⟨fun _ => hS, ?_⟩
    refine wpTr_one ?_
    go_wp2_with (go_at_call 14; refine (factWrite_any _ _ _ hA hMA).mono ?_; rintro e u0_9_3_4 ⟨vB, mB, rfl, hB, hMB, hb⟩)
    replace hS := hS.trans (hb.mono hS.size)
    try replace nP := rowB_below nP hb (rowB_lt nP)
    first | refine ⟨hS, ?_⟩ | refine ⟨fun _ => hS, ?_⟩
    refine wpTr_one ?_
    go_wp2_with (go_at_call 15; refine (factRead_any _ _ _ hB hMB).mono ?_; rintro e u0_9_3_4_5 ⟨vC, mC, rfl, hC, hMC, hb⟩)
    replace hS := hS.trans (hb.mono hS.size)
    try replace nP := rowB_below nP hb (rowB_lt nP)
    first | refine ⟨hS, ?_⟩ | refine ⟨fun _ => hS, ?_⟩
    refine wpTr_held (.tuple #[.agg #[vC, mC], .int .i64 9]) rfl hS (fun w' hw' => by go_simp) ?_
    simp only [Act.put, List.setIfInBounds_toArray, List.set_cons_zero, List.set_cons_succ]
    refine wpTr_held (.agg #[vC, mC]) rfl hS (fun w' hw' => by go_simp) ?_
    simp only [Act.put, List.setIfInBounds_toArray, List.set_cons_zero, List.set_cons_succ]
    refine wpTr_held (.int .i64 9) rfl hS (fun w' hw' => by go_simp) ?_
    simp only [Act.put, List.setIfInBounds_toArray, List.set_cons_zero, List.set_cons_succ]
    refine wpTr_one ?_
    go_wp2_with (refine wpList_storeR rfl 34 _ _ rfl p rfl #[vC, mC] rfl (two_one hC hMC) 34 #[.slice none 0 0, .slice none 0 0] rfl ?_ agDv ?_; with_reducible exact nP)
    have hZ := below_rowR hS #[vC, mC] hpS
    replace hS := hZ
    first | refine ⟨hS, ?_⟩ | refine ⟨fun _ => hS, ?_⟩
    refine wpTr_mix ?_
    (refine wpMix_still (fun K hK => ?_); go_simp; refine hK _ ?_; clear hK K)
    refine wpMix_nil ?_
    have kC := rowB_below k0 hS (rowB_lt k0)
    have bX := bW.trans (hS.mono bW.size)
    go_wp2_with (first
      | (refine wpList_loadRg rfl 24 _ rfl w.heap.size rfl 24 #[.string ⟨#[97]⟩, .int .i64 0, .int .i64 0, .int .i64 4, .slice none 0 0] ?_ agCh ?_; with_reducible exact kC)
      | (go_at_call 7; refine (factCheck_any _).mono ?_; rintro e wz ⟨rfl, hbz⟩; have bZ := bX.trans (hbz.mono bX.size)))
    go_ret
    exact ⟨rfl, bZ⟩
end Go.Proofs.Ytakaebjojgeehaa
