/- The contract of the reference's Asked. -/
import Derived.Test.YthhihmggaddlmaaChecked
import Derived.Test.YthhihmggaddlmaaCoreAsk
import Derived.Test.YthhihmggaddlmaaCoreRefA
import Derived.Below
import Derived.BigQuiet
import Derived.ChangeMaps5
import Derived.Deep.CutBlock
import Derived.Deep.DeepCutAuto
import Derived.Deep.Draws
import Derived.Deep.MidRow
import Derived.Deep.OwnRows
import Derived.Deep.QuietTactic
import Derived.Deep.RegionHeld3
import Derived.Deep.RegionLaw
import Derived.Deep.RegionWith
import Derived.Deep.Slices
import Derived.Deep.WholeRow
import Derived.Lib.Hide
import Derived.Lib.SmallJoins
import Derived.OpenShut
import Derived.OrdersHeld
import Derived.OwnWalk
import Derived.RowKit3
import Derived.SizedLaws
import Derived.StillTactics
import Derived.StillTail
import Derived.StillTailTactics
import Derived.WalkKit
namespace Go.Proofs.Ythhihmggaddlmaa
open Go.RowKit
set_option maxRecDepth 100000

theorem isReg_nar (r : Int) : isReg r = (nar r || wideB r) := by
  rw [Bool.eq_iff_iff]
  unfold isReg nar wideB
  simp
  omega

set_option maxRecDepth 100000 in
set_option maxHeartbeats 4000000 in
theorem askedRef_any (c : Cp) (v0 v1 v2 v3 : Value) (f : Nat → Int) (op pl : Int) (n q : Bool) (w : World) (h : cpuArg w v0 v1 v2 v3 c) :
    Calls Try.prog 13 #[.agg (cpu5 c.name v0 v1 v2 v3), .agg (core12 f op pl n), .bool q] w fun e w' =>
      e = .returned (.tuple #[.agg (askCore c (fitR f) op pl n q), .agg (askBus c (fitR f) op pl n q)]) ∧ Below w.heap.size w w' := by
  have hW := askW.start w (cpu5 c.name v0 v1 v2 v3) (core12 f op pl n)
  have hft := fittedRef_any f
  have hF := fits_fit f
  obtain ⟨F, hFe⟩ : ∃ F, F = fitR f := ⟨_, rfl⟩
  rw [← hFe] at hft hF ⊢
  clear hFe
  obtain ⟨M, hM⟩ : ∃ M, M = meets c F op pl n q := ⟨_, rfl⟩
  obtain ⟨X, hX⟩ : ∃ X, X = doneC c M.1 M.2.1 := ⟨_, rfl⟩
  have HC := Lib.hid (show askCore c F op pl n q = if X.bus = 0 then coreM F M else coreM (placeR X.place F) M by rw [hX, hM]; rfl)
  have HB := Lib.hid (show askBus c F op pl n q = if X.bus = 0 then bus3 0 0 0 else bus3 X.bus (placeA X.place F) (dataA X F) by rw [hX, hM]; rfl)
  have HA := Lib.hid h
  have HX := Lib.hid hX
  have HN := Lib.hid (fun ho => hM.trans (meetsFst c F op pl n q ho))
  have HI := Lib.hid (show op = -1 → M = intr c.irq.length c.nmi.length F op pl n q from fun ho => by rw [hM]; unfold meets; rw [if_pos ho])
  obtain ⟨_, _, h2, h3, _⟩ := h
  obtain ⟨a2, p2, rfl, _, _⟩ := isArr_form h2
  obtain ⟨a3, p3, rfl, _, _⟩ := isArr_form h3
  clear hM hX h2 h3
  generalize c.irq.length = l2 at *
  generalize c.nmi.length = l3 at *
  go_enter Try.func13, Try.ntmps13
  go_upto_region 1 with (fail)
  change Code.wp _ _ _ _ ((((w.alloc (.cells (cpu5 c.name v0 v1 (.slice a2 l2 p2) (.slice a3 l3 p3)) 25)).alloc (.cells (core12 f op pl n) 29)).alloc (.cells (core12 (fun _ => 0) 0 0 false) 29)).alloc (.cells (bus3 0 0 0) 34))
  generalize (((w.alloc (.cells (cpu5 c.name v0 v1 (.slice a2 l2 p2) (.slice a3 l3 p3)) 25)).alloc (.cells (core12 f op pl n) 29)).alloc (.cells (core12 (fun _ => 0) 0 0 false) 29)).alloc (.cells (bus3 0 0 0) 34) = w1 at *
  go_upto_region 2 with (first
      | (refine wpList_loadH rfl 27 _ rfl (w.heap.size + 1) rfl (arr9 f) 29 (core12 f op pl n) ?_ (core12_head _ _ _ _) agR ?_; with_reducible exact hW.hk)
      | (go_at_call 51; refine (hft _).mono ?_; rintro e w2 ⟨rfl, hb2⟩; have hW2 := hW.call hb2)
      | (refine wpList_storeH rfl 27 _ _ rfl (w.heap.size + 1) rfl (arr9 F) rfl (arr9_one _) 29 (core12 f op pl n) ?_ (show 9 ≤ 12 by decide) agR ?_; with_reducible exact hW2.hk))
  have hW3 := hW2.puts (arr9 F).toList
  rw [core12_puts] at hW3
  generalize w2.setCells (w.heap.size + 1) 0 (arr9 F).toList = w3 at *
  clear hW hW2 hb2 hft
  have c9 := coreB_op hW3.hk
  go_upto_if 18 with (fail)
  go_cut [] (fun wx => askW w wx (cpu5 c.name v0 v1 (.slice a2 l2 p2) (.slice a3 l3 p3)) (coreM F M) ∧ M.1 ≠ -1)
  case first =>
    by_cases ho : op = -1
    · subst ho
      have hM := HI.out rfl
      have c11 := coreB_nm hW3.hk
      have c4 := coreB_reg hW3.hk 4 (by decide)
      have h4 := fits4 hF
      have e3 := rowB_cell hW3.hp 3 (v := .slice a2 l2 p2) rfl
      have e4 := rowB_cell hW3.hp 4 (v := .slice a3 l3 p3) rfl
      have z9 := rowB_free hW3.hk 9
      have z10 := rowB_free hW3.hk 10
      have z11 := rowB_free hW3.hk 11
      have c10 := coreB_pl hW3.hk
      by_cases hA : n = true ∧ 0 < l3
      · have HM := Lib.hid (hM.trans (by unfold intr; rw [if_pos hA]) : M = (257, 0, false))
        obtain ⟨rfl, hl⟩ := hA
        clear hM
        go_wp2_with fail
        go_meet
        case rel =>
          rw [HM.out]
          exact ⟨(((hW3.setNear 9 _ (coreB_setOp hW3.hk 257)).setNear 10 _ (coreB_setPl (coreB_setOp hW3.hk 257) 0)).setNear 11 _ (coreB_setNm (coreB_setPl (coreB_setOp hW3.hk 257) 0) false)), by decide⟩
      · have hn : n = false ∨ (n = true ∧ l3 = 0) := by
          cases n
          · exact .inl rfl
          · exact .inr ⟨rfl, by rcases Nat.eq_zero_or_pos l3 with h | h; exact h; exact absurd ⟨rfl, h⟩ hA⟩
        have hd4 : Int.tdiv (F 4) 4 = F 4 / 4 := by rw [Int.tdiv_eq_ediv_of_nonneg h4.1]
        have hm4 : Int.tmod (F 4 / 4) 2 = F 4 / 4 % 2 := by rw [Int.tmod_eq_emod_of_nonneg (by omega)]
        by_cases hB : q = true ∧ F 4 / 4 % 2 = 0 ∧ 0 < l2
        · have HM := Lib.hid (hM.trans (by unfold intr; rw [if_neg hA, if_pos hB]) : M = (256, 0, n))
          obtain ⟨rfl, hf4, hl⟩ := hB
          rw [hf4] at hm4
          clear hM hA hf4
          rcases hn with rfl | ⟨rfl, rfl⟩
          all_goals
            go_wp2_with fail
            go_meet
            case rel =>
              rw [HM.out]
              exact ⟨((hW3.setNear 9 _ (coreB_setOp hW3.hk 256)).setNear 10 _ (coreB_setPl (coreB_setOp hW3.hk 256) 0)), by decide⟩
        · have HM := Lib.hid (hM.trans (by unfold intr; rw [if_neg hA, if_neg hB]) : M = (-1, pl, n))
          have hq : q = false ∨ (q = true ∧ F 4 / 4 % 2 = 1) ∨ (q = true ∧ F 4 / 4 % 2 = 0 ∧ l2 = 0) := by
            cases q
            · exact .inl rfl
            · rcases (by omega : F 4 / 4 % 2 = 0 ∨ F 4 / 4 % 2 = 1) with h | h
              · exact .inr (.inr ⟨rfl, h, by rcases Nat.eq_zero_or_pos l2 with h' | h'; exact h'; exact absurd ⟨rfl, h, h'⟩ hB⟩)
              · exact .inr (.inl ⟨rfl, h⟩)
          have HX2 := Lib.hid (HX.out.trans (by rw [HM.out]; rfl) : X = ⟨1, 0, 0, []⟩)
          have c7 := coreB_reg hW3.hk 7 (by decide)
          have z7 := rowB_free hW3.hk 7
          have f7 := hF 7
          have hm7 : Int.tmod (F 7 + 1) 65536 = lo (F 7 + 1) 16 := by rw [lo16_eq, Int.tmod_eq_emod_of_nonneg (by omega)]
          clear hM hA hB
          rcases hn with rfl | ⟨rfl, rfl⟩ <;> rcases hq with rfl | ⟨rfl, hf4⟩ | ⟨rfl, hf4, rfl⟩
          all_goals
            try rw [hf4] at hm4
            try clear hf4
            go_upto_region 4 with (fail)
          · have hW4 := hW3.alloc (.cells (bus3 1 (F 7) 0) 34)
            have nB := rowB_new w3 34 (bus3 1 (F 7) 0)
            have lY := hW3.size
            change Code.wp _ _ _ _ (w3.alloc (.cells (bus3 1 (F 7) 0) 34))
            generalize w3.alloc (.cells (bus3 1 (F 7) 0) 34) = w4 at *
            generalize w3.heap.size = y at *
            have hW5 := hW4.setNear 7 _ (coreB_setReg hW4.hk 7 (lo (F 7 + 1) 16) (by decide))
            have nB5 := rowB_other nB ⟨w.heap.size + 1, 7, none⟩ (.int .i64 (lo (F 7 + 1) 16)) (by show w.heap.size + 1 ≠ y; omega)
            have c7 := coreB_reg hW4.hk 7 (by decide)
            have z7 := rowB_free hW4.hk 7
            go_upto_region 5 with (fail)
            generalize w4.setCell ⟨w.heap.size + 1, 7, none⟩ (.int .i64 (lo (F 7 + 1) 16)) = wz at *
            clear hW4 nB c7 z7
            refine wp_region_mix (fun w' => rowB w' (w.heap.size + 1) 29 (core12 (setR F 7 (lo (F 7 + 1) 16)) (-1) pl false) ∧ rowB w' y 34 (bus3 1 (F 7) 0)) [(0, 1), (1, 1), (2, 3), (3, 2)] (by kernel_rfl) (by kernel_rfl) (fun _ _ _ _ _ h => h) ?_
            simp only [List.map_cons, List.map_nil, opOf, List.getD_cons_zero, List.getD_cons_succ]
            change wpMix _ _ _ _ _ _ wz.drew
            have hW11 := hW5.drew
            have nB11 : rowB wz.drew y 34 (bus3 1 (F 7) 0) := nB5
            generalize wz.drew = w11 at *
            refine wpMix_held (.agg (core12 (setR F 7 (lo (F 7 + 1) 16)) (-1) pl false)) rfl ⟨hW11.hk, nB11⟩ (fun w' hw' => exec_rowR 29 _ rfl (w.heap.size + 1) rfl 29 (core12 (setR F 7 (lo (F 7 + 1) 16)) (-1) pl false) hw'.1 agK) ?_
            simp only [Act.put, List.setIfInBounds_toArray, List.set_cons_zero, List.set_cons_succ]
            refine wpMix_held (.agg (bus3 1 (F 7) 0)) rfl ⟨hW11.hk, nB11⟩ (fun w' hw' => exec_rowR 34 _ rfl y rfl 34 (bus3 1 (F 7) 0) hw'.2 agB) ?_
            simp only [Act.put, List.setIfInBounds_toArray, List.set_cons_zero, List.set_cons_succ]
            refine wpMix_call ?_
            go_wp2_with (refine wpList_storeR rfl 29 _ _ rfl (w.heap.size + 2) rfl (core12 (setR F 7 (lo (F 7 + 1) 16)) (-1) pl false) rfl (core12_one _ _ _ _) 29 (core12 (fun _ => 0) 0 0 false) rfl ?_ agK ?_; with_reducible exact hW11.hr)
            first | refine ⟨fun _ => ⟨rowB_row_other hW11.hk _ (by omega), rowB_row_other nB11 _ (by omega)⟩, ?_⟩ | refine ⟨⟨rowB_row_other hW11.hk _ (by omega), rowB_row_other nB11 _ (by omega)⟩, ?_⟩
            have r1 := rowB_row hW11.hr (core12 (setR F 7 (lo (F 7 + 1) 16)) (-1) pl false)
            have r2 := rowB_row_other hW11.hb (core12 (setR F 7 (lo (F 7 + 1) 16)) (-1) pl false) (show w.heap.size + 2 ≠ w.heap.size + 3 by omega)
            have r3 := rowB_row_other r1 (bus3 1 (F 7) 0) (show w.heap.size + 3 ≠ w.heap.size + 2 by omega)
            have r4 := rowB_row r2 (bus3 1 (F 7) 0)
            refine wpMix_call ?_
            go_wp2_with (refine wpList_storeR rfl 34 _ _ rfl (w.heap.size + 3) rfl (bus3 1 (F 7) 0) rfl (bus3_one _ _ _) 34 (bus3 0 0 0) rfl ?_ agB ?_; with_reducible exact r2)
            try refine ⟨fun h => (by cases h), ?_⟩
            refine wpMix_nil ?_
            go_wp2_with fail
            refine bodyPost_ret (resultsRR rfl (w.heap.size + 2) (w.heap.size + 3) _ rfl rfl r3 r4 agK agB) rfl ⟨?_, below_rowR (below_rowR hW11.bel _ (by omega)) _ (by omega)⟩
            rw [HC.out, HB.out, HX2.out, HM.out]
            rfl
          · have hW4 := hW3.alloc (.cells (bus3 1 (F 7) 0) 34)
            have nB := rowB_new w3 34 (bus3 1 (F 7) 0)
            have lY := hW3.size
            change Code.wp _ _ _ _ (w3.alloc (.cells (bus3 1 (F 7) 0) 34))
            generalize w3.alloc (.cells (bus3 1 (F 7) 0) 34) = w4 at *
            generalize w3.heap.size = y at *
            have hW5 := hW4.setNear 7 _ (coreB_setReg hW4.hk 7 (lo (F 7 + 1) 16) (by decide))
            have nB5 := rowB_other nB ⟨w.heap.size + 1, 7, none⟩ (.int .i64 (lo (F 7 + 1) 16)) (by show w.heap.size + 1 ≠ y; omega)
            have c7 := coreB_reg hW4.hk 7 (by decide)
            have z7 := rowB_free hW4.hk 7
            go_upto_region 5 with (fail)
            generalize w4.setCell ⟨w.heap.size + 1, 7, none⟩ (.int .i64 (lo (F 7 + 1) 16)) = wz at *
            clear hW4 nB c7 z7
            refine wp_region_mix (fun w' => rowB w' (w.heap.size + 1) 29 (core12 (setR F 7 (lo (F 7 + 1) 16)) (-1) pl false) ∧ rowB w' y 34 (bus3 1 (F 7) 0)) [(0, 1), (1, 1), (2, 3), (3, 2)] (by kernel_rfl) (by kernel_rfl) (fun _ _ _ _ _ h => h) ?_
            simp only [List.map_cons, List.map_nil, opOf, List.getD_cons_zero, List.getD_cons_succ]
            change wpMix _ _ _ _ _ _ wz.drew
            have hW11 := hW5.drew
            have nB11 : rowB wz.drew y 34 (bus3 1 (F 7) 0) := nB5
            generalize wz.drew = w11 at *
            refine wpMix_held (.agg (core12 (setR F 7 (lo (F 7 + 1) 16)) (-1) pl false)) rfl ⟨hW11.hk, nB11⟩ (fun w' hw' => exec_rowR 29 _ rfl (w.heap.size + 1) rfl 29 (core12 (setR F 7 (lo (F 7 + 1) 16)) (-1) pl false) hw'.1 agK) ?_
            simp only [Act.put, List.setIfInBounds_toArray, List.set_cons_zero, List.set_cons_succ]
            refine wpMix_held (.agg (bus3 1 (F 7) 0)) rfl ⟨hW11.hk, nB11⟩ (fun w' hw' => exec_rowR 34 _ rfl y rfl 34 (bus3 1 (F 7) 0) hw'.2 agB) ?_
            simp only [Act.put, List.setIfInBounds_toArray, List.set_cons_zero, List.set_cons_succ]
            refine wpMix_call ?_
            go_wp2_with (refine wpList_storeR rfl 29 _ _ rfl (w.heap.size + 2) rfl (core12 (setR F 7 (lo (F 7 + 1) 16)) (-1) pl false) rfl (core12_one _ _ _ _) 29 (core12 (fun _ => 0) 0 0 false) rfl ?_ agK ?_; with_reducible exact hW11.hr)
            first | refine ⟨fun _ => ⟨rowB_row_other hW11.hk _ (by omega), rowB_row_other nB11 _ (by omega)⟩, ?_⟩ | refine ⟨⟨rowB_row_other hW11.hk _ (by omega), rowB_row_other nB11 _ (by omega)⟩, ?_⟩
            have r1 := rowB_row hW11.hr (core12 (setR F 7 (lo (F 7 + 1) 16)) (-1) pl false)
            have r2 := rowB_row_other hW11.hb (core12 (setR F 7 (lo (F 7 + 1) 16)) (-1) pl false) (show w.heap.size + 2 ≠ w.heap.size + 3 by omega)
            have r3 := rowB_row_other r1 (bus3 1 (F 7) 0) (show w.heap.size + 3 ≠ w.heap.size + 2 by omega)
            have r4 := rowB_row r2 (bus3 1 (F 7) 0)
            refine wpMix_call ?_
            go_wp2_with (refine wpList_storeR rfl 34 _ _ rfl (w.heap.size + 3) rfl (bus3 1 (F 7) 0) rfl (bus3_one _ _ _) 34 (bus3 0 0 0) rfl ?_ agB ?_; with_reducible exact r2)
            try refine ⟨fun h => (by cases h), ?_⟩
            refine wpMix_nil ?_
            go_wp2_with fail
            refine bodyPost_ret (resultsRR rfl (w.heap.size + 2) (w.heap.size + 3) _ rfl rfl r3 r4 agK agB) rfl ⟨?_, below_rowR (below_rowR hW11.bel _ (by omega)) _ (by omega)⟩
            rw [HC.out, HB.out, HX2.out, HM.out]
            rfl
          · have hW4 := hW3.alloc (.cells (bus3 1 (F 7) 0) 34)
            have nB := rowB_new w3 34 (bus3 1 (F 7) 0)
            have lY := hW3.size
            change Code.wp _ _ _ _ (w3.alloc (.cells (bus3 1 (F 7) 0) 34))
            generalize w3.alloc (.cells (bus3 1 (F 7) 0) 34) = w4 at *
            generalize w3.heap.size = y at *
            have hW5 := hW4.setNear 7 _ (coreB_setReg hW4.hk 7 (lo (F 7 + 1) 16) (by decide))
            have nB5 := rowB_other nB ⟨w.heap.size + 1, 7, none⟩ (.int .i64 (lo (F 7 + 1) 16)) (by show w.heap.size + 1 ≠ y; omega)
            have c7 := coreB_reg hW4.hk 7 (by decide)
            have z7 := rowB_free hW4.hk 7
            go_upto_region 5 with (fail)
            generalize w4.setCell ⟨w.heap.size + 1, 7, none⟩ (.int .i64 (lo (F 7 + 1) 16)) = wz at *
            clear hW4 nB c7 z7
            refine wp_region_mix (fun w' => rowB w' (w.heap.size + 1) 29 (core12 (setR F 7 (lo (F 7 + 1) 16)) (-1) pl false) ∧ rowB w' y 34 (bus3 1 (F 7) 0)) [(0, 1), (1, 1), (2, 3), (3, 2)] (by kernel_rfl) (by kernel_rfl) (fun _ _ _ _ _ h => h) ?_
            simp only [List.map_cons, List.map_nil, opOf, List.getD_cons_zero, List.getD_cons_succ]
            change wpMix _ _ _ _ _ _ wz.drew
            have hW11 := hW5.drew
            have nB11 : rowB wz.drew y 34 (bus3 1 (F 7) 0) := nB5
            generalize wz.drew = w11 at *
            refine wpMix_held (.agg (core12 (setR F 7 (lo (F 7 + 1) 16)) (-1) pl false)) rfl ⟨hW11.hk, nB11⟩ (fun w' hw' => exec_rowR 29 _ rfl (w.heap.size + 1) rfl 29 (core12 (setR F 7 (lo (F 7 + 1) 16)) (-1) pl false) hw'.1 agK) ?_
            simp only [Act.put, List.setIfInBounds_toArray, List.set_cons_zero, List.set_cons_succ]
            refine wpMix_held (.agg (bus3 1 (F 7) 0)) rfl ⟨hW11.hk, nB11⟩ (fun w' hw' => exec_rowR 34 _ rfl y rfl 34 (bus3 1 (F 7) 0) hw'.2 agB) ?_
            simp only [Act.put, List.setIfInBounds_toArray, List.set_cons_zero, List.set_cons_succ]
            refine wpMix_call ?_
            go_wp2_with (refine wpList_storeR rfl 29 _ _ rfl (w.heap.size + 2) rfl (core12 (setR F 7 (lo (F 7 + 1) 16)) (-1) pl false) rfl (core12_one _ _ _ _) 29 (core12 (fun _ => 0) 0 0 false) rfl ?_ agK ?_; with_reducible exact hW11.hr)
            first | refine ⟨fun _ => ⟨rowB_row_other hW11.hk _ (by omega), rowB_row_other nB11 _ (by omega)⟩, ?_⟩ | refine ⟨⟨rowB_row_other hW11.hk _ (by omega), rowB_row_other nB11 _ (by omega)⟩, ?_⟩
            have r1 := rowB_row hW11.hr (core12 (setR F 7 (lo (F 7 + 1) 16)) (-1) pl false)
            have r2 := rowB_row_other hW11.hb (core12 (setR F 7 (lo (F 7 + 1) 16)) (-1) pl false) (show w.heap.size + 2 ≠ w.heap.size + 3 by omega)
            have r3 := rowB_row_other r1 (bus3 1 (F 7) 0) (show w.heap.size + 3 ≠ w.heap.size + 2 by omega)
            have r4 := rowB_row r2 (bus3 1 (F 7) 0)
            refine wpMix_call ?_
            go_wp2_with (refine wpList_storeR rfl 34 _ _ rfl (w.heap.size + 3) rfl (bus3 1 (F 7) 0) rfl (bus3_one _ _ _) 34 (bus3 0 0 0) rfl ?_ agB ?_; with_reducible exact r2)
            try refine ⟨fun h => (by cases h), ?_⟩
            refine wpMix_nil ?_
            go_wp2_with fail
            refine bodyPost_ret (resultsRR rfl (w.heap.size + 2) (w.heap.size + 3) _ rfl rfl r3 r4 agK agB) rfl ⟨?_, below_rowR (below_rowR hW11.bel _ (by omega)) _ (by omega)⟩
            rw [HC.out, HB.out, HX2.out, HM.out]
            rfl
          · have hW4 := hW3.alloc (.cells (bus3 1 (F 7) 0) 34)
            have nB := rowB_new w3 34 (bus3 1 (F 7) 0)
            have lY := hW3.size
            change Code.wp _ _ _ _ (w3.alloc (.cells (bus3 1 (F 7) 0) 34))
            generalize w3.alloc (.cells (bus3 1 (F 7) 0) 34) = w4 at *
            generalize w3.heap.size = y at *
            have hW5 := hW4.setNear 7 _ (coreB_setReg hW4.hk 7 (lo (F 7 + 1) 16) (by decide))
            have nB5 := rowB_other nB ⟨w.heap.size + 1, 7, none⟩ (.int .i64 (lo (F 7 + 1) 16)) (by show w.heap.size + 1 ≠ y; omega)
            have c7 := coreB_reg hW4.hk 7 (by decide)
            have z7 := rowB_free hW4.hk 7
            go_upto_region 5 with (fail)
            generalize w4.setCell ⟨w.heap.size + 1, 7, none⟩ (.int .i64 (lo (F 7 + 1) 16)) = wz at *
            clear hW4 nB c7 z7
            refine wp_region_mix (fun w' => rowB w' (w.heap.size + 1) 29 (core12 (setR F 7 (lo (F 7 + 1) 16)) (-1) pl true) ∧ rowB w' y 34 (bus3 1 (F 7) 0)) [(0, 1), (1, 1), (2, 3), (3, 2)] (by kernel_rfl) (by kernel_rfl) (fun _ _ _ _ _ h => h) ?_
            simp only [List.map_cons, List.map_nil, opOf, List.getD_cons_zero, List.getD_cons_succ]
            change wpMix _ _ _ _ _ _ wz.drew
            have hW11 := hW5.drew
            have nB11 : rowB wz.drew y 34 (bus3 1 (F 7) 0) := nB5
            generalize wz.drew = w11 at *
            refine wpMix_held (.agg (core12 (setR F 7 (lo (F 7 + 1) 16)) (-1) pl true)) rfl ⟨hW11.hk, nB11⟩ (fun w' hw' => exec_rowR 29 _ rfl (w.heap.size + 1) rfl 29 (core12 (setR F 7 (lo (F 7 + 1) 16)) (-1) pl true) hw'.1 agK) ?_
            simp only [Act.put, List.setIfInBounds_toArray, List.set_cons_zero, List.set_cons_succ]
            refine wpMix_held (.agg (bus3 1 (F 7) 0)) rfl ⟨hW11.hk, nB11⟩ (fun w' hw' => exec_rowR 34 _ rfl y rfl 34 (bus3 1 (F 7) 0) hw'.2 agB) ?_
            simp only [Act.put, List.setIfInBounds_toArray, List.set_cons_zero, List.set_cons_succ]
            refine wpMix_call ?_
            go_wp2_with (refine wpList_storeR rfl 29 _ _ rfl (w.heap.size + 2) rfl (core12 (setR F 7 (lo (F 7 + 1) 16)) (-1) pl true) rfl (core12_one _ _ _ _) 29 (core12 (fun _ => 0) 0 0 false) rfl ?_ agK ?_; with_reducible exact hW11.hr)
            first | refine ⟨fun _ => ⟨rowB_row_other hW11.hk _ (by omega), rowB_row_other nB11 _ (by omega)⟩, ?_⟩ | refine ⟨⟨rowB_row_other hW11.hk _ (by omega), rowB_row_other nB11 _ (by omega)⟩, ?_⟩
            have r1 := rowB_row hW11.hr (core12 (setR F 7 (lo (F 7 + 1) 16)) (-1) pl true)
            have r2 := rowB_row_other hW11.hb (core12 (setR F 7 (lo (F 7 + 1) 16)) (-1) pl true) (show w.heap.size + 2 ≠ w.heap.size + 3 by omega)
            have r3 := rowB_row_other r1 (bus3 1 (F 7) 0) (show w.heap.size + 3 ≠ w.heap.size + 2 by omega)
            have r4 := rowB_row r2 (bus3 1 (F 7) 0)
            refine wpMix_call ?_
            go_wp2_with (refine wpList_storeR rfl 34 _ _ rfl (w.heap.size + 3) rfl (bus3 1 (F 7) 0) rfl (bus3_one _ _ _) 34 (bus3 0 0 0) rfl ?_ agB ?_; with_reducible exact r2)
            try refine ⟨fun h => (by cases h), ?_⟩
            refine wpMix_nil ?_
            go_wp2_with fail
            refine bodyPost_ret (resultsRR rfl (w.heap.size + 2) (w.heap.size + 3) _ rfl rfl r3 r4 agK agB) rfl ⟨?_, below_rowR (below_rowR hW11.bel _ (by omega)) _ (by omega)⟩
            rw [HC.out, HB.out, HX2.out, HM.out]
            rfl
          · have hW4 := hW3.alloc (.cells (bus3 1 (F 7) 0) 34)
            have nB := rowB_new w3 34 (bus3 1 (F 7) 0)
            have lY := hW3.size
            change Code.wp _ _ _ _ (w3.alloc (.cells (bus3 1 (F 7) 0) 34))
            generalize w3.alloc (.cells (bus3 1 (F 7) 0) 34) = w4 at *
            generalize w3.heap.size = y at *
            have hW5 := hW4.setNear 7 _ (coreB_setReg hW4.hk 7 (lo (F 7 + 1) 16) (by decide))
            have nB5 := rowB_other nB ⟨w.heap.size + 1, 7, none⟩ (.int .i64 (lo (F 7 + 1) 16)) (by show w.heap.size + 1 ≠ y; omega)
            have c7 := coreB_reg hW4.hk 7 (by decide)
            have z7 := rowB_free hW4.hk 7
            go_upto_region 5 with (fail)
            generalize w4.setCell ⟨w.heap.size + 1, 7, none⟩ (.int .i64 (lo (F 7 + 1) 16)) = wz at *
            clear hW4 nB c7 z7
            refine wp_region_mix (fun w' => rowB w' (w.heap.size + 1) 29 (core12 (setR F 7 (lo (F 7 + 1) 16)) (-1) pl true) ∧ rowB w' y 34 (bus3 1 (F 7) 0)) [(0, 1), (1, 1), (2, 3), (3, 2)] (by kernel_rfl) (by kernel_rfl) (fun _ _ _ _ _ h => h) ?_
            simp only [List.map_cons, List.map_nil, opOf, List.getD_cons_zero, List.getD_cons_succ]
            change wpMix _ _ _ _ _ _ wz.drew
            have hW11 := hW5.drew
            have nB11 : rowB wz.drew y 34 (bus3 1 (F 7) 0) := nB5
            generalize wz.drew = w11 at *
            refine wpMix_held (.agg (core12 (setR F 7 (lo (F 7 + 1) 16)) (-1) pl true)) rfl ⟨hW11.hk, nB11⟩ (fun w' hw' => exec_rowR 29 _ rfl (w.heap.size + 1) rfl 29 (core12 (setR F 7 (lo (F 7 + 1) 16)) (-1) pl true) hw'.1 agK) ?_
            simp only [Act.put, List.setIfInBounds_toArray, List.set_cons_zero, List.set_cons_succ]
            refine wpMix_held (.agg (bus3 1 (F 7) 0)) rfl ⟨hW11.hk, nB11⟩ (fun w' hw' => exec_rowR 34 _ rfl y rfl 34 (bus3 1 (F 7) 0) hw'.2 agB) ?_
            simp only [Act.put, List.setIfInBounds_toArray, List.set_cons_zero, List.set_cons_succ]
            refine wpMix_call ?_
            go_wp2_with (refine wpList_storeR rfl 29 _ _ rfl (w.heap.size + 2) rfl (core12 (setR F 7 (lo (F 7 + 1) 16)) (-1) pl true) rfl (core12_one _ _ _ _) 29 (core12 (fun _ => 0) 0 0 false) rfl ?_ agK ?_; with_reducible exact hW11.hr)
            first | refine ⟨fun _ => ⟨rowB_row_other hW11.hk _ (by omega), rowB_row_other nB11 _ (by omega)⟩, ?_⟩ | refine ⟨⟨rowB_row_other hW11.hk _ (by omega), rowB_row_other nB11 _ (by omega)⟩, ?_⟩
            have r1 := rowB_row hW11.hr (core12 (setR F 7 (lo (F 7 + 1) 16)) (-1) pl true)
            have r2 := rowB_row_other hW11.hb (core12 (setR F 7 (lo (F 7 + 1) 16)) (-1) pl true) (show w.heap.size + 2 ≠ w.heap.size + 3 by omega)
            have r3 := rowB_row_other r1 (bus3 1 (F 7) 0) (show w.heap.size + 3 ≠ w.heap.size + 2 by omega)
            have r4 := rowB_row r2 (bus3 1 (F 7) 0)
            refine wpMix_call ?_
            go_wp2_with (refine wpList_storeR rfl 34 _ _ rfl (w.heap.size + 3) rfl (bus3 1 (F 7) 0) rfl (bus3_one _ _ _) 34 (bus3 0 0 0) rfl ?_ agB ?_; with_reducible exact r2)
            try refine ⟨fun h => (by cases h), ?_⟩
            refine wpMix_nil ?_
            go_wp2_with fail
            refine bodyPost_ret (resultsRR rfl (w.heap.size + 2) (w.heap.size + 3) _ rfl rfl r3 r4 agK agB) rfl ⟨?_, below_rowR (below_rowR hW11.bel _ (by omega)) _ (by omega)⟩
            rw [HC.out, HB.out, HX2.out, HM.out]
            rfl
          · have hW4 := hW3.alloc (.cells (bus3 1 (F 7) 0) 34)
            have nB := rowB_new w3 34 (bus3 1 (F 7) 0)
            have lY := hW3.size
            change Code.wp _ _ _ _ (w3.alloc (.cells (bus3 1 (F 7) 0) 34))
            generalize w3.alloc (.cells (bus3 1 (F 7) 0) 34) = w4 at *
            generalize w3.heap.size = y at *
            have hW5 := hW4.setNear 7 _ (coreB_setReg hW4.hk 7 (lo (F 7 + 1) 16) (by decide))
            have nB5 := rowB_other nB ⟨w.heap.size + 1, 7, none⟩ (.int .i64 (lo (F 7 + 1) 16)) (by show w.heap.size + 1 ≠ y; omega)
            have c7 := coreB_reg hW4.hk 7 (by decide)
            have z7 := rowB_free hW4.hk 7
            go_upto_region 5 with (fail)
            generalize w4.setCell ⟨w.heap.size + 1, 7, none⟩ (.int .i64 (lo (F 7 + 1) 16)) = wz at *
            clear hW4 nB c7 z7
            refine wp_region_mix (fun w' => rowB w' (w.heap.size + 1) 29 (core12 (setR F 7 (lo (F 7 + 1) 16)) (-1) pl true) ∧ rowB w' y 34 (bus3 1 (F 7) 0)) [(0, 1), (1, 1), (2, 3), (3, 2)] (by kernel_rfl) (by kernel_rfl) (fun _ _ _ _ _ h => h) ?_
            simp only [List.map_cons, List.map_nil, opOf, List.getD_cons_zero, List.getD_cons_succ]
            change wpMix _ _ _ _ _ _ wz.drew
            have hW11 := hW5.drew
            have nB11 : rowB wz.drew y 34 (bus3 1 (F 7) 0) := nB5
            generalize wz.drew = w11 at *
            refine wpMix_held (.agg (core12 (setR F 7 (lo (F 7 + 1) 16)) (-1) pl true)) rfl ⟨hW11.hk, nB11⟩ (fun w' hw' => exec_rowR 29 _ rfl (w.heap.size + 1) rfl 29 (core12 (setR F 7 (lo (F 7 + 1) 16)) (-1) pl true) hw'.1 agK) ?_
            simp only [Act.put, List.setIfInBounds_toArray, List.set_cons_zero, List.set_cons_succ]
            refine wpMix_held (.agg (bus3 1 (F 7) 0)) rfl ⟨hW11.hk, nB11⟩ (fun w' hw' => exec_rowR 34 _ rfl y rfl 34 (bus3 1 (F 7) 0) hw'.2 agB) ?_
            simp only [Act.put, List.setIfInBounds_toArray, List.set_cons_zero, List.set_cons_succ]
            refine wpMix_call ?_
            go_wp2_with (refine wpList_storeR rfl 29 _ _ rfl (w.heap.size + 2) rfl (core12 (setR F 7 (lo (F 7 + 1) 16)) (-1) pl true) rfl (core12_one _ _ _ _) 29 (core12 (fun _ => 0) 0 0 false) rfl ?_ agK ?_; with_reducible exact hW11.hr)
            first | refine ⟨fun _ => ⟨rowB_row_other hW11.hk _ (by omega), rowB_row_other nB11 _ (by omega)⟩, ?_⟩ | refine ⟨⟨rowB_row_other hW11.hk _ (by omega), rowB_row_other nB11 _ (by omega)⟩, ?_⟩
            have r1 := rowB_row hW11.hr (core12 (setR F 7 (lo (F 7 + 1) 16)) (-1) pl true)
            have r2 := rowB_row_other hW11.hb (core12 (setR F 7 (lo (F 7 + 1) 16)) (-1) pl true) (show w.heap.size + 2 ≠ w.heap.size + 3 by omega)
            have r3 := rowB_row_other r1 (bus3 1 (F 7) 0) (show w.heap.size + 3 ≠ w.heap.size + 2 by omega)
            have r4 := rowB_row r2 (bus3 1 (F 7) 0)
            refine wpMix_call ?_
            go_wp2_with (refine wpList_storeR rfl 34 _ _ rfl (w.heap.size + 3) rfl (bus3 1 (F 7) 0) rfl (bus3_one _ _ _) 34 (bus3 0 0 0) rfl ?_ agB ?_; with_reducible exact r2)
            try refine ⟨fun h => (by cases h), ?_⟩
            refine wpMix_nil ?_
            go_wp2_with fail
            refine bodyPost_ret (resultsRR rfl (w.heap.size + 2) (w.heap.size + 3) _ rfl rfl r3 r4 agK agB) rfl ⟨?_, below_rowR (below_rowR hW11.bel _ (by omega)) _ (by omega)⟩
            rw [HC.out, HB.out, HX2.out, HM.out]
            rfl
    · have hob : (op == -1) = false := by simpa using ho
      have hM := HN.out ho
      have HM := Lib.hid hM
      clear hM
      go_wp2_with fail
      go_meet
      case rel => rw [HM.out]; exact ⟨hW3, ho⟩
  case rest =>
    clear hW3 c9 HI HN
    obtain ⟨o1, pl1, n1⟩ := M
    obtain ⟨hW, ho1⟩ := hcut
    have hW : askW w wc (cpu5 c.name v0 v1 (.slice a2 l2 p2) (.slice a3 l3 p3)) (core12 F o1 pl1 n1) := hW
    have ho1 : o1 ≠ -1 := ho1
    have HXE := Lib.hid (HX.out.trans (show doneC c o1 pl1 = cycAt (cyclesOf c o1) pl1 by unfold doneC; rw [if_neg ho1]) : X = cycAt (cyclesOf c o1) pl1)
    have hcy := cyclesR_any c v0 v1 _ _ o1 w wc HA.out hW.bel
    clear HX HA ho1
    generalize cyclesOf c o1 = l at *
    have g9 := coreB_op hW.hk
    go_upto_region 11 with (first
      | (refine wpList_loadR rfl 25 _ rfl (w.heap.size) rfl 25 (cpu5 c.name v0 v1 (.slice a2 l2 p2) (.slice a3 l3 p3)) ?_ agP ?_; with_reducible exact hW.hp)
      | (go_at_call 52; with_reducible refine hcy.mono ?_; rintro e w4 ⟨u, rfl, hu, hb4⟩; have hW4 := hW.call hb4; have HU := Lib.hid hu; obtain ⟨ua, ucap, rfl, _, hform⟩ := cyc_form hu; have HF := Lib.hid hform; clear hu hform hcy))
    clear hW hb4 g9
    have g10 := coreB_pl hW4.hk
    obtain ⟨D, hD⟩ : ∃ D, D = (X.bus == 0) := ⟨_, rfl⟩
    go_cut [84] (fun b wx => b = .bool D ∧ wx = w4)
    case first =>
      cases hcur : curB l pl1
      · have hz : X = ⟨0, 0, 0, []⟩ := HXE.out.trans (by unfold cycAt; rw [hcur]; rfl)
        have HD := Lib.hid (show D = true by rw [hD, hz]; rfl)
        have hor : decide (pl1 < 0) = true ∨ (decide (pl1 < 0) = false ∧ decide ((l.length : Int) ≤ pl1) = true) := by
          unfold curB at hcur
          by_cases h : pl1 < 0
          · exact .inl (by simpa using h)
          · refine .inr ⟨by simpa using h, ?_⟩
            have : ¬ (0 ≤ pl1 ∧ pl1 < (l.length : Int)) := by simpa using hcur
            simp
            omega
        clear hcur hz hD
        rcases hor with h1 | ⟨h1, h2⟩
        all_goals
          go_wp2_with fail
          go_meet
          case rel => exact ⟨by rw [HD.out], rfl⟩
      · have h12 : 0 ≤ pl1 ∧ pl1 < (l.length : Int) := by
          unfold curB at hcur
          simpa using hcur
        obtain ⟨k, rfl⟩ : ∃ k : Nat, pl1 = (k : Int) := ⟨pl1.toNat, by omega⟩
        have hk : k < l.length := by omega
        obtain ⟨x, hx, _⟩ := drop_at hk
        have hxe : X = x := HXE.out.trans (by unfold cycAt; rw [if_pos hcur, Int.toNat_natCast, List.getD_eq_getElem?_getD, hx]; rfl)
        subst hxe
        obtain ⟨b, off, rfl, sa, sc, hcell, _⟩ := HF.out k X hx
        obtain ⟨x0, x1, x2, x3⟩ := hcell w4 hW4.bel
        have HD := Lib.hid hD
        have h1 : decide ((k : Int) < 0) = false := decide_eq_false (by omega)
        have h2 : decide (l.length ≤ k) = false := decide_eq_false (by omega)
        clear hcell hx hcur h12 hD x1 x2 x3
        go_wp2_with fail
        go_meet
        case rel => exact ⟨by rw [HD.out], rfl⟩
    case rest =>
    obtain ⟨rfl, hwc⟩ := hcut
    subst hwc
    cases D
    · have hcur : curB l pl1 = true := by
        cases hc : curB l pl1
        · rw [HXE.out] at hD
          unfold cycAt at hD
          rw [hc] at hD
          cases hD
        · rfl
      have HZ := Lib.hid (show ¬ X.bus = 0 by intro h; rw [h] at hD; cases hD)
      have h12 : 0 ≤ pl1 ∧ pl1 < (l.length : Int) := by
        unfold curB at hcur
        simpa using hcur
      obtain ⟨k, rfl⟩ : ∃ k : Nat, pl1 = (k : Int) := ⟨pl1.toNat, by omega⟩
      have hk : k < l.length := by omega
      obtain ⟨x, hx, _⟩ := drop_at hk
      have hxe : X = x := HXE.out.trans (by unfold cycAt; rw [if_pos hcur, Int.toNat_natCast, List.getD_eq_getElem?_getD, hx]; rfl)
      subst hxe
      obtain ⟨b, off, rfl, sa, sc, hcell, _⟩ := HF.out k X hx
      obtain ⟨x0, x1, x2, x3⟩ := hcell wc hW4.bel
      have g10 := coreB_pl hW4.hk
      clear hcell hx hcur h12 hD HXE HU HF
      go_upto_region 14 with (fail)
      have nX := rowB_new wc 84 (cyc4 X.bus X.place X.reg (.slice sa X.steps.length sc))
      have lX := hW4.size
      have hW5 := hW4.alloc (.cells (cyc4 X.bus X.place X.reg (.slice sa X.steps.length sc)) 84)
      change Code.wp _ _ _ _ (wc.alloc (.cells (cyc4 X.bus X.place X.reg (.slice sa X.steps.length sc)) 84))
      clear hW x0 x1 x2 x3 g10
      generalize wc.alloc (.cells (cyc4 X.bus X.place X.reg (.slice sa X.steps.length sc)) 84) = w5 at *
      generalize wc.heap.size = x at *
      have x0 := rowB_cell nX 0 (v := .int .i64 X.bus) rfl
      go_upto_region 15 with (fail)
      have nB := rowB_new w5 34 (bus3 X.bus 0 0)
      have lY : x < w5.heap.size := rowB_lt nX
      have hW6 := hW5.alloc (.cells (bus3 X.bus 0 0) 34)
      have nX6 := rowB_alloc nX (.cells (bus3 X.bus 0 0) 34)
      change Code.wp _ _ _ _ (w5.alloc (.cells (bus3 X.bus 0 0) 34))
      generalize w5.alloc (.cells (bus3 X.bus 0 0) 34) = w6 at *
      generalize w5.heap.size = y at *
      clear hW5 nX x0
      have x0 := rowB_cell nX6 0 (v := .int .i64 X.bus) rfl
      have x2 := rowB_cell nX6 2 (v := .int .i64 X.reg) rfl
      obtain ⟨D, hD⟩ : ∃ D, D = ((X.bus == 2) && isReg X.reg) := ⟨_, rfl⟩
      go_cut [107] (fun b wx => b = .bool D ∧ wx = w6)
      case first =>
        rw [isReg_nar] at hD
        by_cases h2 : X.bus = 2
        · have h2b : (X.bus == 2) = true := by simpa using h2
          have HD := Lib.hid (show D = (nar X.reg || wideB X.reg) by rw [hD, h2b]; rfl)
          clear h2 hD
          cases hn : nar X.reg
          all_goals
            go_wp2_with (first
              | (go_at_call 53; refine (narrowA_any _ _).mono ?_; rintro e w' ⟨rfl, rfl⟩; rw [hn])
              | (go_at_call 54; refine (wideRef_any _ _).mono ?_; rintro e w' ⟨rfl, rfl⟩))
            go_meet
            case rel => exact ⟨by rw [HD.out, hn]; rfl, rfl⟩
        · have h2b : (X.bus == 2) = false := by simpa using h2
          have HD := Lib.hid (show D = false by rw [hD, h2b]; rfl)
          clear h2 hD
          go_wp2_with fail
          go_meet
          case rel => exact ⟨by rw [HD.out], rfl⟩
      case rest =>
      obtain ⟨rfl, hwc⟩ := hcut
      subst hwc
      go_upto_if 107 with (fail)
      go_cut [] (fun wx => askW w wx (cpu5 c.name v0 v1 (.slice a2 l2 p2) (.slice a3 l3 p3)) (core12 F o1 k n1) ∧ rowB wx x 84 (cyc4 X.bus X.place X.reg (.slice sa X.steps.length sc)) ∧ rowB wx y 34 (bus3 X.bus 0 (dataA X F)))
      case first =>
        cases D
        · have HD := Lib.hid (show dataA X F = 0 by
            unfold dataA
            rw [if_neg]
            rintro ⟨h1, h2⟩
            rw [h1, h2] at hD
            cases hD)
          clear hD
          go_wp2_with fail
          go_meet
          case rel => rw [HD.out]; exact ⟨hW6, nX6, nB⟩
        · have hD2 : X.bus = 2 ∧ isReg X.reg = true := by simpa using hD.symm
          have HD := Lib.hid (show dataA X F = lo (F X.reg.toNat) 8 by unfold dataA; rw [if_pos hD2])
          have hr2 : 0 ≤ X.reg ∧ X.reg < 9 := by have := hD2.2; unfold isReg at this; simpa using this
          clear hD hD2
          obtain ⟨j, hj⟩ : ∃ j : Nat, X.reg = (j : Int) := ⟨X.reg.toNat, by omega⟩
          have hj9 : j < 9 := by omega
          have ck := coreB_reg hW6.hk j hj9
          rw [hj] at HD x2
          clear hr2
          have b2 := rowB_cell nB 2 (v := .int .i64 0) rfl
          have z2 := rowB_free nB 2
          have hm : Int.tmod (F j) 256 = lo (F j) 8 := by rw [lo8_eq, Int.tmod_eq_emod_of_nonneg (hF j).1]
          clear hj
          go_wp2_with fail
          go_meet
          case rel =>
            rw [HD.out, Int.toNat_natCast]
            exact ⟨hW6.setFar (by omega) _, rowB_other nX6 _ _ (by show y ≠ x; omega), rowB_eq (rowB_set nB 2 _) rfl⟩
      case rest =>
        clear hW6 nX6 nB x0 x2
        obtain ⟨hW7, nX7, nB7⟩ := hcut
        have x1 := rowB_cell nX7 1 (v := .int .i64 X.place) rfl
        have hadr := addressR_any X.place F hF
        clear nX7
        obtain ⟨G, hG⟩ : ∃ G, G = placeR X.place F := ⟨_, rfl⟩
        obtain ⟨A, hA⟩ : ∃ A, A = placeA X.place F := ⟨_, rfl⟩
        obtain ⟨D2, hD2⟩ : ∃ D2, D2 = dataA X F := ⟨_, rfl⟩
        rw [← hG, ← hA] at hadr
        rw [← hD2] at nB7
        have HC2 := Lib.hid (HC.out.trans (by rw [if_neg HZ.out, ← hG]) : askCore c F op pl n q = coreM G (o1, (k : Int), n1))
        have HB2 := Lib.hid (HB.out.trans (by rw [if_neg HZ.out, ← hA, ← hD2]) : askBus c F op pl n q = bus3 X.bus A D2)
        clear HC HB hG hA hD2 HZ
        go_upto_region 18 with (first
      | (refine wpList_loadH rfl 27 _ rfl (w.heap.size + 1) rfl (arr9 F) 29 (core12 F o1 k n1) ?_ (core12_head _ _ _ _) agR ?_; with_reducible exact hW7.hk)
      | (go_at_call 55; with_reducible refine (hadr _).mono ?_; rintro e w8 ⟨rfl, hb8⟩; have hW8 := hW7.call hb8; have nB8 := rowB_below nB7 hb8 (rowB_lt nB7); have z1 := rowB_free nB8 1; have b1 := rowB_cell nB8 1 (v := .int .i64 0) rfl; have hW9 := hW8.setFar (k := 1) (show w.heap.size + 3 < y by omega) (.int .i64 A))
      | (refine wpList_storeH rfl 27 _ _ rfl (w.heap.size + 1) rfl (arr9 G) rfl (arr9_one _) 29 (core12 F o1 k n1) ?_ (show 9 ≤ 12 by decide) agR ?_; with_reducible exact hW9.hk))
        have hW10 := hW9.puts (arr9 G).toList
        rw [core12_puts] at hW10
        have nB9 : rowB (w8.setCell ⟨y, 1, none⟩ (.int .i64 A)) y 34 (bus3 X.bus A D2) := rowB_eq (rowB_set nB8 1 (.int .i64 A)) rfl
        have nB10 := rowB_puts_other nB9 (show w.heap.size + 1 ≠ y by omega) 0 (arr9 G).toList
        generalize (w8.setCell ⟨y, 1, none⟩ (.int .i64 A)).setCells (w.heap.size + 1) 0 (arr9 G).toList = wz at *
        clear hW7 nB7 hW8 nB8 z1 b1 hW9 nB9 hb8 hadr x1
        refine wp_region_mix (fun w' => rowB w' (w.heap.size + 1) 29 (core12 G o1 k n1) ∧ rowB w' y 34 (bus3 X.bus A D2)) [(0, 1), (1, 1), (2, 3), (3, 2)] (by kernel_rfl) (by kernel_rfl) (fun _ _ _ _ _ h => h) ?_
        simp only [List.map_cons, List.map_nil, opOf, List.getD_cons_zero, List.getD_cons_succ]
        change wpMix _ _ _ _ _ _ wz.drew
        have hW11 := hW10.drew
        have nB11 : rowB wz.drew y 34 (bus3 X.bus A D2) := nB10
        generalize wz.drew = w11 at *
        refine wpMix_held (.agg (core12 G o1 k n1)) rfl ⟨hW11.hk, nB11⟩ (fun w' hw' => exec_rowR 29 _ rfl (w.heap.size + 1) rfl 29 (core12 G o1 k n1) hw'.1 agK) ?_
        simp only [Act.put, List.setIfInBounds_toArray, List.set_cons_zero, List.set_cons_succ]
        refine wpMix_held (.agg (bus3 X.bus A D2)) rfl ⟨hW11.hk, nB11⟩ (fun w' hw' => exec_rowR 34 _ rfl y rfl 34 (bus3 X.bus A D2) hw'.2 agB) ?_
        simp only [Act.put, List.setIfInBounds_toArray, List.set_cons_zero, List.set_cons_succ]
        refine wpMix_call ?_
        go_wp2_with (refine wpList_storeR rfl 29 _ _ rfl (w.heap.size + 2) rfl (core12 G o1 k n1) rfl (core12_one _ _ _ _) 29 (core12 (fun _ => 0) 0 0 false) rfl ?_ agK ?_; with_reducible exact hW11.hr)
        first | refine ⟨fun _ => ⟨rowB_row_other hW11.hk _ (by omega), rowB_row_other nB11 _ (by omega)⟩, ?_⟩ | refine ⟨⟨rowB_row_other hW11.hk _ (by omega), rowB_row_other nB11 _ (by omega)⟩, ?_⟩
        have r1 := rowB_row hW11.hr (core12 G o1 k n1)
        have r2 := rowB_row_other hW11.hb (core12 G o1 k n1) (show w.heap.size + 2 ≠ w.heap.size + 3 by omega)
        have r3 := rowB_row_other r1 (bus3 X.bus A D2) (show w.heap.size + 3 ≠ w.heap.size + 2 by omega)
        have r4 := rowB_row r2 (bus3 X.bus A D2)
        refine wpMix_call ?_
        go_wp2_with (refine wpList_storeR rfl 34 _ _ rfl (w.heap.size + 3) rfl (bus3 X.bus A D2) rfl (bus3_one _ _ _) 34 (bus3 0 0 0) rfl ?_ agB ?_; with_reducible exact r2)
        try refine ⟨fun h => (by cases h), ?_⟩
        refine wpMix_nil ?_
        go_wp2_with fail
        refine bodyPost_ret (resultsRR rfl (w.heap.size + 2) (w.heap.size + 3) _ rfl rfl r3 r4 agK agB) rfl ⟨?_, below_rowR (below_rowR hW11.bel _ (by omega)) _ (by omega)⟩
        rw [HC2.out, HB2.out]
        rfl
    · have hz : X.bus = 0 := by simpa using hD.symm
      have HZ := Lib.hid hz
      clear hz hD
      have r1 := rowB_row hW4.hr (core12 F o1 pl1 n1)
      have r2 := rowB_row_other hW4.hb (core12 F o1 pl1 n1) (show w.heap.size + 2 ≠ w.heap.size + 3 by omega)
      have r3 := rowB_row_other r1 (bus3 0 0 0) (show w.heap.size + 3 ≠ w.heap.size + 2 by omega)
      have r4 := rowB_row r2 (bus3 0 0 0)
      go_wp2_with (first
      | (refine wpList_loadR rfl 29 _ rfl (w.heap.size + 1) rfl 29 (core12 F o1 pl1 n1) ?_ agK ?_; with_reducible exact hW4.hk)
      | (refine wpList_storeR rfl 29 _ _ rfl (w.heap.size + 2) rfl (core12 F o1 pl1 n1) rfl (core12_one _ _ _ _) 29 (core12 (fun _ => 0) 0 0 false) rfl ?_ agK ?_; with_reducible exact hW4.hr)
      | (refine wpList_storeR rfl 34 _ _ rfl (w.heap.size + 3) rfl (bus3 0 0 0) rfl (bus3_one _ _ _) 34 (bus3 0 0 0) rfl ?_ agB ?_; with_reducible exact r2))
      refine bodyPost_ret (resultsRR rfl (w.heap.size + 2) (w.heap.size + 3) _ rfl rfl r3 r4 agK agB) rfl ⟨?_, below_rowR (below_rowR hW4.bel _ (by omega)) _ (by omega)⟩
      rw [HC.out, HB.out, if_pos HZ.out, if_pos HZ.out]
      rfl
end Go.Proofs.Ythhihmggaddlmaa
