/- A part of the proof of ChipTicks: SerCb. -/
import Derived.Test.YtakaebjojgeehaaGreatChipTicksK01
import Derived.Test.YtakaebjojgeehaaGreatChipTicksK02
import Derived.Test.YtakaebjojgeehaaGreatChipTicksK03
import Derived.Test.YtakaebjojgeehaaGreatChipTicksK04
import Derived.Test.YtakaebjojgeehaaGreatChipTicksK05
import Derived.Test.YtakaebjojgeehaaGreatChipTicksK38
import Derived.Below
import Derived.BigQuiet
import Derived.ChangeMaps5
import Derived.Deep.DeepCutAuto
import Derived.Deep.Draws
import Derived.Deep.MidRow
import Derived.Deep.OwnRows
import Derived.Deep.QuietTactic
import Derived.Deep.RegionHeld3
import Derived.Deep.RegionWith
import Derived.Deep.Slices
import Derived.Deep.WholeRow
import Derived.Lib.Hide
import Derived.Lib.SmallJoins
import Derived.OpenShut
import Derived.OrdersHeld
import Derived.OwnWalk
import Derived.RowKit3
import Derived.StillTactics
import Derived.StillTail
import Derived.StillTailTactics
import Derived.Test.YtakaebjojgeehaaGreatChecked
import Derived.WalkKit
namespace Go.Proofs.YtakaebjojgeehaaGreat
open Go.RowKit
set_option maxRecDepth 100000
set_option maxHeartbeats 1000000 in
theorem srSkip_any (v vm : Value) (l : List Int) (j : Int) (w : World) (h : isArg w v l) (hj : -9223372036854775808 ≤ j ∧ j ≤ 9223372036854775807) :
    Calls Tryz.prog 31 #[.agg #[v, vm], .int .i64 j] w fun e w' => ∃ v, e = .returned v ∧ devO w.heap.size w' v ((Sr.of l).skip j).ns ∧ Below w.heap.size w w' := by
  obtain ⟨k0, k1, bW, sW⟩ := boxes2 w (.cells #[v, vm] 27) (.cells #[.slice none 0 0, .slice none 0 0] 27)
  have k0 : rowB _ _ _ _ := k0
  have k1 : rowB _ _ _ _ := k1
  have h2 := isArg_below h bW (Nat.le_refl _)
  have hload := srLoad_any v vm l _ h2
  have hfit := Sr.of_fit l
  generalize Sr.of l = s at *
  obtain ⟨d, c, r, t, o, k, n, z⟩ := s
  dsimp only [Sr.cs] at *
  have hc := hfit.c
  have hn := hfit.n
  dsimp only at hc hn
  rcases (by omega : j ≤ 0 ∨ (0 < j ∧ ¬ 0 < c) ∨ (0 < j ∧ j < c) ∨ (0 < j ∧ 0 < c ∧ c ≤ j)) with h1 | ⟨h1, h3⟩ | ⟨h1, h3⟩ | ⟨h1, h3, h4⟩
  · have e : (⟨d, c, r, t, o, k, n, z⟩ : Sr).skip j = ⟨d, c, r, t, o, k, n, z⟩ := by exact Sr.skip_none (by omega)
    rw [e]
    clear e
    have hd0 : decide (j ≤ 0) = true := decide_eq_true (by omega)
    dsimp only [Sr.ns]
    go_enter Tryz.func31, Tryz.ntmps31
    go_upto_region 4 with (go_at_call 81; refine hload.mono ?_; rintro e w1 ⟨rfl, hb⟩; have bX := bW.trans (hb.mono bW.size); have r1 := rowB_below k1 hb (rowB_lt k1); have hs := hb.size; rw [sW] at hs; clear hb hload)
    have nP := rowB_new w1 87 #[.int .i64 d, .int .i64 c, .int .i64 r, .int .i64 t, .int .i64 o, .int .i64 k, .int .i64 n, .int .i64 z]
    replace r1 := rowB_alloc r1 (.cells #[.int .i64 d, .int .i64 c, .int .i64 r, .int .i64 t, .int .i64 o, .int .i64 k, .int .i64 n, .int .i64 z] 87)
    replace bX := bX.alloc (by omega) (.cells #[.int .i64 d, .int .i64 c, .int .i64 r, .int .i64 t, .int .i64 o, .int .i64 k, .int .i64 n, .int .i64 z] 87)
    have hlt := rowB_lt nP
    obtain ⟨y, hy⟩ : ∃ y, w1.heap.size = y := ⟨_, rfl⟩
    rw [hy] at nP hlt hs
    have HY := Lib.hid hy
    change Code.wp _ _ _ _ (w1.alloc (.cells #[.int .i64 d, .int .i64 c, .int .i64 r, .int .i64 t, .int .i64 o, .int .i64 k, .int .i64 n, .int .i64 z] 87))
    rw [hy]
    clear hy HY
    generalize w1.alloc (.cells #[.int .i64 d, .int .i64 c, .int .i64 r, .int .i64 t, .int .i64 o, .int .i64 k, .int .i64 n, .int .i64 z] 87) = w2 at *
    obtain ⟨e0, e1, e2, e3, e4, e5, e6, e7, z0, z1, z2, z3, z4, z5, z6, z7⟩ := srCells nP
    go_upto_region 7 with (first
        | (go_at_call 82; refine (srBusy_any ⟨_, _, _, _, _, _, _, _⟩ _).mono ?_; rintro e wb ⟨rfl, hb⟩; replace nP := rowB_below nP hb (rowB_lt nP); replace r1 := rowB_below r1 hb (rowB_lt r1); replace bX := bX.trans (hb.mono bX.size); replace hlt := rowB_lt nP; clear hb e0 e1 e2 e3 e4 e5 e6 e7 z0 z1 z2 z3 z4 z5 z6 z7; obtain ⟨e0, e1, e2, e3, e4, e5, e6, e7, z0, z1, z2, z3, z4, z5, z6, z7⟩ := srCells nP)
        | (refine wpList_loadRg rfl 87 _ rfl y rfl 87 #[.int .i64 d, .int .i64 c, .int .i64 r, .int .i64 t, .int .i64 o, .int .i64 k, .int .i64 n, .int .i64 z] ?_ agSr ?_; with_reducible exact nP)
  )
    go_wp2_with (first
        | (refine wpList_loadR rfl 87 _ rfl y rfl 87 #[.int .i64 d, .int .i64 c, .int .i64 r, .int .i64 t, .int .i64 o, .int .i64 k, .int .i64 n, .int .i64 z] ?_ agSr ?_; with_reducible exact nP)
        | (go_at_call 84; refine (srDev_any ⟨_, _, _, _, _, _, _, _⟩ _).mono ?_; rintro e w3 ⟨u, rfl, ⟨g, rfl, hg, hr⟩, hb⟩; have r2 := rowB_below r1 hb (rowB_lt r1); dsimp only [Sr.ns, List.length] at hr; have l2 := rowB_lt r1; replace bX := bX.trans (hb.mono bX.size))
        | (refine wpList_storeR rfl 27 _ _ rfl (w.heap.size + 1) rfl #[.slice (some ⟨g, 0, none⟩) 8 8, .slice none 0 0] rfl (dev2_one _ _ _ _ _ _) 27 #[.slice none 0 0, .slice none 0 0] rfl ?_ agDv ?_; with_reducible exact r2)
  )
    refine bodyPost_ret (resultsR rfl (w.heap.size + 1) _ rfl (rowB_row r2 _) agDv) rfl ?_
    exact ⟨_, rfl, ⟨g, rfl, by omega, rowB_row_other hr _ (by omega)⟩, below_rowR bX _ (by omega)⟩
  · have e : (⟨d, c, r, t, o, k, n, z⟩ : Sr).skip j = ⟨d, c, r, t, o, k, n, z⟩ := by exact Sr.skip_none (by show ¬ (_ ∧ 0 < c); omega)
    rw [e]
    clear e
    have hd0 : decide (j ≤ 0) = false := decide_eq_false (by omega)
    have hd1 : decide (0 < c) = false := decide_eq_false (by omega)
    dsimp only [Sr.ns]
    go_enter Tryz.func31, Tryz.ntmps31
    go_upto_region 4 with (go_at_call 81; refine hload.mono ?_; rintro e w1 ⟨rfl, hb⟩; have bX := bW.trans (hb.mono bW.size); have r1 := rowB_below k1 hb (rowB_lt k1); have hs := hb.size; rw [sW] at hs; clear hb hload)
    have nP := rowB_new w1 87 #[.int .i64 d, .int .i64 c, .int .i64 r, .int .i64 t, .int .i64 o, .int .i64 k, .int .i64 n, .int .i64 z]
    replace r1 := rowB_alloc r1 (.cells #[.int .i64 d, .int .i64 c, .int .i64 r, .int .i64 t, .int .i64 o, .int .i64 k, .int .i64 n, .int .i64 z] 87)
    replace bX := bX.alloc (by omega) (.cells #[.int .i64 d, .int .i64 c, .int .i64 r, .int .i64 t, .int .i64 o, .int .i64 k, .int .i64 n, .int .i64 z] 87)
    have hlt := rowB_lt nP
    obtain ⟨y, hy⟩ : ∃ y, w1.heap.size = y := ⟨_, rfl⟩
    rw [hy] at nP hlt hs
    have HY := Lib.hid hy
    change Code.wp _ _ _ _ (w1.alloc (.cells #[.int .i64 d, .int .i64 c, .int .i64 r, .int .i64 t, .int .i64 o, .int .i64 k, .int .i64 n, .int .i64 z] 87))
    rw [hy]
    clear hy HY
    generalize w1.alloc (.cells #[.int .i64 d, .int .i64 c, .int .i64 r, .int .i64 t, .int .i64 o, .int .i64 k, .int .i64 n, .int .i64 z] 87) = w2 at *
    obtain ⟨e0, e1, e2, e3, e4, e5, e6, e7, z0, z1, z2, z3, z4, z5, z6, z7⟩ := srCells nP
    go_upto_region 7 with (first
        | (go_at_call 82; refine (srBusy_any ⟨_, _, _, _, _, _, _, _⟩ _).mono ?_; rintro e wb ⟨rfl, hb⟩; replace nP := rowB_below nP hb (rowB_lt nP); replace r1 := rowB_below r1 hb (rowB_lt r1); replace bX := bX.trans (hb.mono bX.size); replace hlt := rowB_lt nP; clear hb e0 e1 e2 e3 e4 e5 e6 e7 z0 z1 z2 z3 z4 z5 z6 z7; obtain ⟨e0, e1, e2, e3, e4, e5, e6, e7, z0, z1, z2, z3, z4, z5, z6, z7⟩ := srCells nP)
        | (refine wpList_loadRg rfl 87 _ rfl y rfl 87 #[.int .i64 d, .int .i64 c, .int .i64 r, .int .i64 t, .int .i64 o, .int .i64 k, .int .i64 n, .int .i64 z] ?_ agSr ?_; with_reducible exact nP)
  )
    go_wp2_with (first
        | (refine wpList_loadR rfl 87 _ rfl y rfl 87 #[.int .i64 d, .int .i64 c, .int .i64 r, .int .i64 t, .int .i64 o, .int .i64 k, .int .i64 n, .int .i64 z] ?_ agSr ?_; with_reducible exact nP)
        | (go_at_call 84; refine (srDev_any ⟨_, _, _, _, _, _, _, _⟩ _).mono ?_; rintro e w3 ⟨u, rfl, ⟨g, rfl, hg, hr⟩, hb⟩; have r2 := rowB_below r1 hb (rowB_lt r1); dsimp only [Sr.ns, List.length] at hr; have l2 := rowB_lt r1; replace bX := bX.trans (hb.mono bX.size))
        | (refine wpList_storeR rfl 27 _ _ rfl (w.heap.size + 1) rfl #[.slice (some ⟨g, 0, none⟩) 8 8, .slice none 0 0] rfl (dev2_one _ _ _ _ _ _) 27 #[.slice none 0 0, .slice none 0 0] rfl ?_ agDv ?_; with_reducible exact r2)
  )
    refine bodyPost_ret (resultsR rfl (w.heap.size + 1) _ rfl (rowB_row r2 _) agDv) rfl ?_
    exact ⟨_, rfl, ⟨g, rfl, by omega, rowB_row_other hr _ (by omega)⟩, below_rowR bX _ (by omega)⟩
  · have e : (⟨d, c, r, t, o, k, n, z⟩ : Sr).skip j = ⟨d, c - j, r, t, o, k, n, z⟩ := by exact Sr.skip_down (by omega) h3
    rw [e]
    clear e
    have hd0 : decide (j ≤ 0) = false := decide_eq_false (by omega)
    have hd1 : decide (0 < c) = true := decide_eq_true (by omega)
    have hd2 : decide (j < c) = true := decide_eq_true (by omega)
    have hw : wrap64 (c - j) = c - j := IntWalk.wrap64_in _ (by omega)
    dsimp only [Sr.ns]
    go_enter Tryz.func31, Tryz.ntmps31
    go_upto_region 4 with (go_at_call 81; refine hload.mono ?_; rintro e w1 ⟨rfl, hb⟩; have bX := bW.trans (hb.mono bW.size); have r1 := rowB_below k1 hb (rowB_lt k1); have hs := hb.size; rw [sW] at hs; clear hb hload)
    have nP := rowB_new w1 87 #[.int .i64 d, .int .i64 c, .int .i64 r, .int .i64 t, .int .i64 o, .int .i64 k, .int .i64 n, .int .i64 z]
    replace r1 := rowB_alloc r1 (.cells #[.int .i64 d, .int .i64 c, .int .i64 r, .int .i64 t, .int .i64 o, .int .i64 k, .int .i64 n, .int .i64 z] 87)
    replace bX := bX.alloc (by omega) (.cells #[.int .i64 d, .int .i64 c, .int .i64 r, .int .i64 t, .int .i64 o, .int .i64 k, .int .i64 n, .int .i64 z] 87)
    have hlt := rowB_lt nP
    obtain ⟨y, hy⟩ : ∃ y, w1.heap.size = y := ⟨_, rfl⟩
    rw [hy] at nP hlt hs
    have HY := Lib.hid hy
    change Code.wp _ _ _ _ (w1.alloc (.cells #[.int .i64 d, .int .i64 c, .int .i64 r, .int .i64 t, .int .i64 o, .int .i64 k, .int .i64 n, .int .i64 z] 87))
    rw [hy]
    clear hy HY
    generalize w1.alloc (.cells #[.int .i64 d, .int .i64 c, .int .i64 r, .int .i64 t, .int .i64 o, .int .i64 k, .int .i64 n, .int .i64 z] 87) = w2 at *
    obtain ⟨e0, e1, e2, e3, e4, e5, e6, e7, z0, z1, z2, z3, z4, z5, z6, z7⟩ := srCells nP
    go_upto_region 7 with (first
        | (go_at_call 82; refine (srBusy_any ⟨_, _, _, _, _, _, _, _⟩ _).mono ?_; rintro e wb ⟨rfl, hb⟩; replace nP := rowB_below nP hb (rowB_lt nP); replace r1 := rowB_below r1 hb (rowB_lt r1); replace bX := bX.trans (hb.mono bX.size); replace hlt := rowB_lt nP; clear hb e0 e1 e2 e3 e4 e5 e6 e7 z0 z1 z2 z3 z4 z5 z6 z7; obtain ⟨e0, e1, e2, e3, e4, e5, e6, e7, z0, z1, z2, z3, z4, z5, z6, z7⟩ := srCells nP)
        | (refine wpList_loadRg rfl 87 _ rfl y rfl 87 #[.int .i64 d, .int .i64 c, .int .i64 r, .int .i64 t, .int .i64 o, .int .i64 k, .int .i64 n, .int .i64 z] ?_ agSr ?_; with_reducible exact nP)
  )
    replace nP : rowB _ y 87 #[.int .i64 d, .int .i64 (c - j), .int .i64 r, .int .i64 t, .int .i64 o, .int .i64 k, .int .i64 n, .int .i64 z] := (rowB_set nP 1 (.int .i64 (c - j)))
    replace r1 := (rowB_other r1 ⟨y, 1, none⟩ (.int .i64 (c - j)) (show y ≠ _ by omega))
    replace bX := (Below.setCell bX (p := ⟨y, 1, none⟩) (show w.heap.size ≤ y by omega) (.int .i64 (c - j)))
    go_wp2_with (first
        | (refine wpList_loadR rfl 87 _ rfl y rfl 87 #[.int .i64 d, .int .i64 (c - j), .int .i64 r, .int .i64 t, .int .i64 o, .int .i64 k, .int .i64 n, .int .i64 z] ?_ agSr ?_; with_reducible exact nP)
        | (go_at_call 84; refine (srDev_any ⟨_, _, _, _, _, _, _, _⟩ _).mono ?_; rintro e w3 ⟨u, rfl, ⟨g, rfl, hg, hr⟩, hb⟩; have r2 := rowB_below r1 hb (rowB_lt r1); dsimp only [Sr.ns, List.length] at hr; have l2 := rowB_lt r1; replace bX := bX.trans (hb.mono bX.size))
        | (refine wpList_storeR rfl 27 _ _ rfl (w.heap.size + 1) rfl #[.slice (some ⟨g, 0, none⟩) 8 8, .slice none 0 0] rfl (dev2_one _ _ _ _ _ _) 27 #[.slice none 0 0, .slice none 0 0] rfl ?_ agDv ?_; with_reducible exact r2)
  )
    refine bodyPost_ret (resultsR rfl (w.heap.size + 1) _ rfl (rowB_row r2 _) agDv) rfl ?_
    exact ⟨_, rfl, ⟨g, rfl, by omega, rowB_row_other hr _ (by omega)⟩, below_rowR bX _ (by omega)⟩
  · obtain ⟨D, hD⟩ : ∃ D, lo (n + 1) 20 = D := ⟨_, rfl⟩
    have e : (⟨d, c, r, t, o, k, n, z⟩ : Sr).skip j = ⟨d, 0, r, t, o, k, D, d⟩ := by exact (Sr.skip_sent h3 h4).trans (by rw [hD])
    rw [e]
    clear e
    have hd0 : decide (j ≤ 0) = false := decide_eq_false (by omega)
    have hd1 : decide (0 < c) = true := decide_eq_true (by omega)
    have hd2 : decide (j < c) = false := decide_eq_false (by omega)
    have hw : wrap64 (n + 1) = n + 1 := IntWalk.wrap64_in _ (by omega)
    have e20 : lo (n + 1) (wd 20) = D := hD
    dsimp only [Sr.ns]
    go_enter Tryz.func31, Tryz.ntmps31
    go_upto_region 4 with (go_at_call 81; refine hload.mono ?_; rintro e w1 ⟨rfl, hb⟩; have bX := bW.trans (hb.mono bW.size); have r1 := rowB_below k1 hb (rowB_lt k1); have hs := hb.size; rw [sW] at hs; clear hb hload)
    have nP := rowB_new w1 87 #[.int .i64 d, .int .i64 c, .int .i64 r, .int .i64 t, .int .i64 o, .int .i64 k, .int .i64 n, .int .i64 z]
    replace r1 := rowB_alloc r1 (.cells #[.int .i64 d, .int .i64 c, .int .i64 r, .int .i64 t, .int .i64 o, .int .i64 k, .int .i64 n, .int .i64 z] 87)
    replace bX := bX.alloc (by omega) (.cells #[.int .i64 d, .int .i64 c, .int .i64 r, .int .i64 t, .int .i64 o, .int .i64 k, .int .i64 n, .int .i64 z] 87)
    have hlt := rowB_lt nP
    obtain ⟨y, hy⟩ : ∃ y, w1.heap.size = y := ⟨_, rfl⟩
    rw [hy] at nP hlt hs
    have HY := Lib.hid hy
    change Code.wp _ _ _ _ (w1.alloc (.cells #[.int .i64 d, .int .i64 c, .int .i64 r, .int .i64 t, .int .i64 o, .int .i64 k, .int .i64 n, .int .i64 z] 87))
    rw [hy]
    clear hy HY
    generalize w1.alloc (.cells #[.int .i64 d, .int .i64 c, .int .i64 r, .int .i64 t, .int .i64 o, .int .i64 k, .int .i64 n, .int .i64 z] 87) = w2 at *
    obtain ⟨e0, e1, e2, e3, e4, e5, e6, e7, z0, z1, z2, z3, z4, z5, z6, z7⟩ := srCells nP
    go_upto_region 3 with (first
        | (go_at_call 82; refine (srBusy_any ⟨_, _, _, _, _, _, _, _⟩ _).mono ?_; rintro e wb ⟨rfl, hb⟩; replace nP := rowB_below nP hb (rowB_lt nP); replace r1 := rowB_below r1 hb (rowB_lt r1); replace bX := bX.trans (hb.mono bX.size); replace hlt := rowB_lt nP; clear hb e0 e1 e2 e3 e4 e5 e6 e7 z0 z1 z2 z3 z4 z5 z6 z7; obtain ⟨e0, e1, e2, e3, e4, e5, e6, e7, z0, z1, z2, z3, z4, z5, z6, z7⟩ := srCells nP)
        | (refine wpList_loadRg rfl 87 _ rfl y rfl 87 #[.int .i64 d, .int .i64 c, .int .i64 r, .int .i64 t, .int .i64 o, .int .i64 k, .int .i64 n, .int .i64 z] ?_ agSr ?_; with_reducible exact nP)
  )
    replace nP : rowB _ y 87 #[.int .i64 d, .int .i64 0, .int .i64 r, .int .i64 t, .int .i64 o, .int .i64 k, .int .i64 n, .int .i64 z] := (rowB_set nP 1 (.int .i64 0))
    replace r1 := (rowB_other r1 ⟨y, 1, none⟩ (.int .i64 0) (show y ≠ _ by omega))
    replace bX := (Below.setCell bX (p := ⟨y, 1, none⟩) (show w.heap.size ≤ y by omega) (.int .i64 0))
    clear e0 e1 e2 e3 e4 e5 e6 e7 z0 z1 z2 z3 z4 z5 z6 z7
    change Code.wp _ _ _ _ (wb.setCell ⟨y, 1, none⟩ (.int .i64 0))
    generalize wb.setCell ⟨y, 1, none⟩ (.int .i64 0) = wc at *
    have hS : rowB wc.drew y _ _ := nP
    replace r1 : rowB wc.drew _ _ _ := r1
    replace bX := bX.drew
    clear nP
    refine wp_region_mix (fun w' => rowB w' y 87 #[.int .i64 d, .int .i64 0, .int .i64 r, .int .i64 t, .int .i64 o, .int .i64 k, .int .i64 n, .int .i64 z]) [(0, 0), (1, 0), (2, 0), (4, 1), (5, 1), (3, 3), (6, 0), (7, 2), (8, 0), (9, 2)] (by kernel_rfl) (by kernel_rfl) (fun _ _ _ _ _ h => h) ?_
    simp only [List.map_cons, List.map_nil, opOf, List.getD_cons_zero, List.getD_cons_succ]
    change wpMix _ _ _ _ _ _ wc.drew
    obtain ⟨e0, e1, e2, e3, e4, e5, e6, e7, z0, z1, z2, z3, z4, z5, z6, z7⟩ := srCells hS
    generalize wc.drew = w2 at *
    (refine wpMix_still (fun K hK => ?_); go_simp; refine hK _ ?_; clear hK K)
    (refine wpMix_still (fun K hK => ?_); go_simp; refine hK _ ?_; clear hK K)
    (refine wpMix_still (fun K hK => ?_); go_simp; refine hK _ ?_; clear hK K)
    refine wpMix_held (.pointer (some ⟨y, 0, none⟩)) rfl hS (fun w' hw' => by go_simp) ?_
    simp only [Act.put, List.setIfInBounds_toArray, List.set_cons_zero, List.set_cons_succ]
    refine wpMix_held (.int .i64 d) rfl hS (fun w' hw' => by have c := rowB_cell hw' 0 (v := .int .i64 d) rfl; go_simp) ?_
    simp only [Act.put, List.setIfInBounds_toArray, List.set_cons_zero, List.set_cons_succ]
    refine wpMix_call ?_
    go_wp2_with (go_at_call 83; refine (low_any _ _ _).mono ?_; rintro e w' ⟨rfl, rfl⟩; rw [e20])
    first | refine ⟨fun _ => hS, ?_⟩ | refine ⟨hS, ?_⟩ | refine And.intro (fun _ => hS) ?_
    (refine wpMix_still (fun K hK => ?_); go_simp; refine hK _ ?_; clear hK K)
    refine wpMix_call ?_
    go_wp2_with fail
    try refine ⟨fun h => (by cases h), ?_⟩
    (refine wpMix_still (fun K hK => ?_); go_simp; refine hK _ ?_; clear hK K)
    refine wpMix_call ?_
    go_wp2_with fail
    try refine ⟨fun h => (by cases h), ?_⟩
    refine wpMix_nil ?_
    have nP := hS
    replace nP : rowB _ y 87 #[.int .i64 d, .int .i64 0, .int .i64 r, .int .i64 t, .int .i64 o, .int .i64 k, .int .i64 D, .int .i64 d] := (rowB_set (rowB_set nP 6 (.int .i64 D)) 7 (.int .i64 d))
    replace r1 := (rowB_other (rowB_other r1 ⟨y, 6, none⟩ (.int .i64 D) (show y ≠ _ by omega)) ⟨y, 7, none⟩ (.int .i64 d) (show y ≠ _ by omega))
    replace bX := (Below.setCell (Below.setCell bX (p := ⟨y, 6, none⟩) (show w.heap.size ≤ y by omega) (.int .i64 D)) (p := ⟨y, 7, none⟩) (show w.heap.size ≤ y by omega) (.int .i64 d))
    go_wp2_with (first
        | (refine wpList_loadR rfl 87 _ rfl y rfl 87 #[.int .i64 d, .int .i64 0, .int .i64 r, .int .i64 t, .int .i64 o, .int .i64 k, .int .i64 D, .int .i64 d] ?_ agSr ?_; with_reducible exact nP)
        | (go_at_call 84; refine (srDev_any ⟨_, _, _, _, _, _, _, _⟩ _).mono ?_; rintro e w3 ⟨u, rfl, ⟨g, rfl, hg, hr⟩, hb⟩; have r2 := rowB_below r1 hb (rowB_lt r1); dsimp only [Sr.ns, List.length] at hr; have l2 := rowB_lt r1; replace bX := bX.trans (hb.mono bX.size))
        | (refine wpList_storeR rfl 27 _ _ rfl (w.heap.size + 1) rfl #[.slice (some ⟨g, 0, none⟩) 8 8, .slice none 0 0] rfl (dev2_one _ _ _ _ _ _) 27 #[.slice none 0 0, .slice none 0 0] rfl ?_ agDv ?_; with_reducible exact r2)
  )
    refine bodyPost_ret (resultsR rfl (w.heap.size + 1) _ rfl (rowB_row r2 _) agDv) rfl ?_
    exact ⟨_, rfl, ⟨g, rfl, by omega, rowB_row_other hr _ (by omega)⟩, below_rowR bX _ (by omega)⟩
end Go.Proofs.YtakaebjojgeehaaGreat
