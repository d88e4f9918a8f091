/- A part of the proof of ChipBanks: SerCa. -/
import Derived.Test.YtakaebjojgeehaaChipBanksK01
import Derived.Test.YtakaebjojgeehaaChipBanksK02
import Derived.Test.YtakaebjojgeehaaChipBanksK03
import Derived.Test.YtakaebjojgeehaaChipBanksK04
import Derived.Test.YtakaebjojgeehaaChipBanksK05
import Derived.Test.YtakaebjojgeehaaChipBanksK07
import Derived.Test.YtakaebjojgeehaaChipBanksK08
import Derived.Test.YtakaebjojgeehaaChipBanksK09
import Derived.Test.YtakaebjojgeehaaChipBanksK26
import Derived.Test.YtakaebjojgeehaaChipBanksK44
import Derived.Below
import Derived.BigQuiet
import Derived.ChangeMaps5
import Derived.Deep.DeepCutAuto
import Derived.Deep.Draws
import Derived.Deep.MidRow
import Derived.Deep.OwnRows
import Derived.Deep.QuietTactic
import Derived.Deep.RegionHeld3
import Derived.Deep.RegionWith
import Derived.Deep.Slices
import Derived.Deep.WholeRow
import Derived.Lib.Hide
import Derived.Lib.SmallJoins
import Derived.OpenShut
import Derived.OrdersHeld
import Derived.OwnWalk
import Derived.RowKit3
import Derived.StillTactics
import Derived.StillTail
import Derived.StillTailTactics
import Derived.Test.YtakaebjojgeehaaChecked
import Derived.WalkKit
namespace Go.Proofs.Ytakaebjojgeehaa
open Go.RowKit
set_option maxRecDepth 100000
set_option maxHeartbeats 1000000 in
theorem srRead_any (v vm : Value) (l : List Int) (a : Int) (w : World) (h : isArg w v l) :
    Calls Try.prog 45 #[.agg #[v, vm], .int .i64 a] w fun e w' => ∃ v, e = .returned (.tuple #[v, .int .i64 ((Sr.of l).reg a)]) ∧ devO w.heap.size w' v ((Sr.of l).read a).ns ∧ Below w.heap.size w w' := by
  obtain ⟨k0, k1, bW, sW⟩ := boxes2 w (.cells #[v, vm] 34) (.cells #[.slice none 0 0, .slice none 0 0] 34)
  have k0 : rowB _ _ _ _ := k0
  have k1 : rowB _ _ _ _ := k1
  have h2 := isArg_below h bW (Nat.le_refl _)
  have hload := srLoad_any v vm l _ h2
  have hfit := Sr.of_fit l
  generalize Sr.of l = s at *
  obtain ⟨d, c, r, t, o, k, n, z⟩ := s
  dsimp only [Sr.cs] at *
  rcases (by omega : a = 0 ∨ a = 1 ∨ a = 2 ∨ (a ≠ 0 ∧ a ≠ 1 ∧ a ≠ 2)) with rfl | rfl | rfl | ⟨n0, n1, n2⟩
  · have e : (⟨d, c, r, t, o, k, n, z⟩ : Sr).reg 0 = r := by rfl
    rw [e]
    clear e
    have e : (⟨d, c, r, t, o, k, n, z⟩ : Sr).read 0 = ⟨d, c, r, 0, o, k, n, z⟩ := by rfl
    rw [e]
    clear e
    dsimp only [Sr.ns]
    go_enter Try.func45, Try.ntmps45
    go_upto_region 2 with (go_at_call 69; refine hload.mono ?_; rintro e w1 ⟨rfl, hb⟩; have bX := bW.trans (hb.mono bW.size); have r1 := rowB_below k1 hb (rowB_lt k1); have hs := hb.size; rw [sW] at hs; clear hb hload)
    have nP := rowB_new w1 65 #[.int .i64 d, .int .i64 c, .int .i64 r, .int .i64 t, .int .i64 o, .int .i64 k, .int .i64 n, .int .i64 z]
    replace r1 := rowB_alloc r1 (.cells #[.int .i64 d, .int .i64 c, .int .i64 r, .int .i64 t, .int .i64 o, .int .i64 k, .int .i64 n, .int .i64 z] 65)
    replace bX := bX.alloc (by omega) (.cells #[.int .i64 d, .int .i64 c, .int .i64 r, .int .i64 t, .int .i64 o, .int .i64 k, .int .i64 n, .int .i64 z] 65)
    have hlt := rowB_lt nP
    obtain ⟨y, hy⟩ : ∃ y, w1.heap.size = y := ⟨_, rfl⟩
    rw [hy] at nP hlt hs
    have HY := Lib.hid hy
    change Code.wp _ _ _ _ (w1.alloc (.cells #[.int .i64 d, .int .i64 c, .int .i64 r, .int .i64 t, .int .i64 o, .int .i64 k, .int .i64 n, .int .i64 z] 65))
    rw [hy]
    clear hy HY
    generalize w1.alloc (.cells #[.int .i64 d, .int .i64 c, .int .i64 r, .int .i64 t, .int .i64 o, .int .i64 k, .int .i64 n, .int .i64 z] 65) = w2 at *
    obtain ⟨e0, e1, e2, e3, e4, e5, e6, e7, z0, z1, z2, z3, z4, z5, z6, z7⟩ := srCells nP
    go_upto_region 10 with fail
    replace nP : rowB _ y 65 #[.int .i64 d, .int .i64 c, .int .i64 r, .int .i64 0, .int .i64 o, .int .i64 k, .int .i64 n, .int .i64 z] := (rowB_set nP 3 (.int .i64 0))
    replace r1 := (rowB_other r1 ⟨y, 3, none⟩ (.int .i64 0) (show y ≠ _ by omega))
    replace bX := (Below.setCell bX (p := ⟨y, 3, none⟩) (show w.heap.size ≤ y by omega) (.int .i64 0))
    go_wp2_with (first
        | (refine wpList_loadR rfl 65 _ rfl y rfl 65 #[.int .i64 d, .int .i64 c, .int .i64 r, .int .i64 0, .int .i64 o, .int .i64 k, .int .i64 n, .int .i64 z] ?_ agSr ?_; with_reducible exact nP)
        | (go_at_call 58; refine (srDev_any ⟨_, _, _, _, _, _, _, _⟩ _).mono ?_; rintro e w3 ⟨u, rfl, ⟨g, rfl, hg, hr⟩, hb⟩; have r2 := rowB_below r1 hb (rowB_lt r1); dsimp only [Sr.ns, List.length] at hr; have l2 := rowB_lt r1; replace bX := bX.trans (hb.mono bX.size))
        | (refine wpList_storeR rfl 34 _ _ rfl (w.heap.size + 1) rfl #[.slice (some ⟨g, 0, none⟩) 8 8, .slice none 0 0] rfl (dev2_one _ _ _ _ _ _) 34 #[.slice none 0 0, .slice none 0 0] rfl ?_ agDv ?_; with_reducible exact r2)
  )
    refine bodyPost_ret (resultsRT rfl (w.heap.size + 1) _ rfl (rowB_row r2 _) agDv rfl) rfl ?_
    exact ⟨_, rfl, ⟨g, rfl, by omega, rowB_row_other hr _ (by omega)⟩, below_rowR bX _ (by omega)⟩
  · have hst := srStatus_any ⟨d, c, r, t, o, k, n, z⟩ hfit
    obtain ⟨X, hX⟩ : ∃ X, (⟨d, c, r, t, o, k, n, z⟩ : Sr).status = X := ⟨_, rfl⟩
    rw [hX] at hst
    dsimp only [Sr.cs] at hst
    have e : (⟨d, c, r, t, o, k, n, z⟩ : Sr).reg 1 = X := by exact hX
    rw [e]
    clear e
    clear hX
    have e : (⟨d, c, r, t, o, k, n, z⟩ : Sr).read 1 = ⟨d, c, r, t, 0, k, n, z⟩ := by rfl
    rw [e]
    clear e
    dsimp only [Sr.ns]
    go_enter Try.func45, Try.ntmps45
    go_upto_region 2 with (go_at_call 69; refine hload.mono ?_; rintro e w1 ⟨rfl, hb⟩; have bX := bW.trans (hb.mono bW.size); have r1 := rowB_below k1 hb (rowB_lt k1); have hs := hb.size; rw [sW] at hs; clear hb hload)
    have nP := rowB_new w1 65 #[.int .i64 d, .int .i64 c, .int .i64 r, .int .i64 t, .int .i64 o, .int .i64 k, .int .i64 n, .int .i64 z]
    replace r1 := rowB_alloc r1 (.cells #[.int .i64 d, .int .i64 c, .int .i64 r, .int .i64 t, .int .i64 o, .int .i64 k, .int .i64 n, .int .i64 z] 65)
    replace bX := bX.alloc (by omega) (.cells #[.int .i64 d, .int .i64 c, .int .i64 r, .int .i64 t, .int .i64 o, .int .i64 k, .int .i64 n, .int .i64 z] 65)
    have hlt := rowB_lt nP
    obtain ⟨y, hy⟩ : ∃ y, w1.heap.size = y := ⟨_, rfl⟩
    rw [hy] at nP hlt hs
    have HY := Lib.hid hy
    change Code.wp _ _ _ _ (w1.alloc (.cells #[.int .i64 d, .int .i64 c, .int .i64 r, .int .i64 t, .int .i64 o, .int .i64 k, .int .i64 n, .int .i64 z] 65))
    rw [hy]
    clear hy HY
    generalize w1.alloc (.cells #[.int .i64 d, .int .i64 c, .int .i64 r, .int .i64 t, .int .i64 o, .int .i64 k, .int .i64 n, .int .i64 z] 65) = w2 at *
    obtain ⟨e0, e1, e2, e3, e4, e5, e6, e7, z0, z1, z2, z3, z4, z5, z6, z7⟩ := srCells nP
    go_upto_region 10 with (first
        | (go_at_call 77; refine (hst _).mono ?_; rintro e wb ⟨rfl, hb⟩; replace nP := rowB_below nP hb (rowB_lt nP); replace r1 := rowB_below r1 hb (rowB_lt r1); replace bX := bX.trans (hb.mono bX.size); replace hlt := rowB_lt nP; clear hb e0 e1 e2 e3 e4 e5 e6 e7 z0 z1 z2 z3 z4 z5 z6 z7; obtain ⟨e0, e1, e2, e3, e4, e5, e6, e7, z0, z1, z2, z3, z4, z5, z6, z7⟩ := srCells nP)
        | (refine wpList_loadR rfl 65 _ rfl y rfl 65 #[.int .i64 d, .int .i64 c, .int .i64 r, .int .i64 t, .int .i64 o, .int .i64 k, .int .i64 n, .int .i64 z] ?_ agSr ?_; with_reducible exact nP)
  )
    replace nP : rowB _ y 65 #[.int .i64 d, .int .i64 c, .int .i64 r, .int .i64 t, .int .i64 0, .int .i64 k, .int .i64 n, .int .i64 z] := (rowB_set nP 4 (.int .i64 0))
    replace r1 := (rowB_other r1 ⟨y, 4, none⟩ (.int .i64 0) (show y ≠ _ by omega))
    replace bX := (Below.setCell bX (p := ⟨y, 4, none⟩) (show w.heap.size ≤ y by omega) (.int .i64 0))
    go_wp2_with (first
        | (refine wpList_loadR rfl 65 _ rfl y rfl 65 #[.int .i64 d, .int .i64 c, .int .i64 r, .int .i64 t, .int .i64 0, .int .i64 k, .int .i64 n, .int .i64 z] ?_ agSr ?_; with_reducible exact nP)
        | (go_at_call 58; refine (srDev_any ⟨_, _, _, _, _, _, _, _⟩ _).mono ?_; rintro e w3 ⟨u, rfl, ⟨g, rfl, hg, hr⟩, hb⟩; have r2 := rowB_below r1 hb (rowB_lt r1); dsimp only [Sr.ns, List.length] at hr; have l2 := rowB_lt r1; replace bX := bX.trans (hb.mono bX.size))
        | (refine wpList_storeR rfl 34 _ _ rfl (w.heap.size + 1) rfl #[.slice (some ⟨g, 0, none⟩) 8 8, .slice none 0 0] rfl (dev2_one _ _ _ _ _ _) 34 #[.slice none 0 0, .slice none 0 0] rfl ?_ agDv ?_; with_reducible exact r2)
  )
    refine bodyPost_ret (resultsRT rfl (w.heap.size + 1) _ rfl (rowB_row r2 _) agDv rfl) rfl ?_
    exact ⟨_, rfl, ⟨g, rfl, by omega, rowB_row_other hr _ (by omega)⟩, below_rowR bX _ (by omega)⟩
  · have e : (⟨d, c, r, t, o, k, n, z⟩ : Sr).reg 2 = k := by rfl
    rw [e]
    clear e
    have e : (⟨d, c, r, t, o, k, n, z⟩ : Sr).read 2 = ⟨d, c, r, t, o, k, n, z⟩ := by rfl
    rw [e]
    clear e
    dsimp only [Sr.ns]
    go_enter Try.func45, Try.ntmps45
    go_upto_region 2 with (go_at_call 69; refine hload.mono ?_; rintro e w1 ⟨rfl, hb⟩; have bX := bW.trans (hb.mono bW.size); have r1 := rowB_below k1 hb (rowB_lt k1); have hs := hb.size; rw [sW] at hs; clear hb hload)
    have nP := rowB_new w1 65 #[.int .i64 d, .int .i64 c, .int .i64 r, .int .i64 t, .int .i64 o, .int .i64 k, .int .i64 n, .int .i64 z]
    replace r1 := rowB_alloc r1 (.cells #[.int .i64 d, .int .i64 c, .int .i64 r, .int .i64 t, .int .i64 o, .int .i64 k, .int .i64 n, .int .i64 z] 65)
    replace bX := bX.alloc (by omega) (.cells #[.int .i64 d, .int .i64 c, .int .i64 r, .int .i64 t, .int .i64 o, .int .i64 k, .int .i64 n, .int .i64 z] 65)
    have hlt := rowB_lt nP
    obtain ⟨y, hy⟩ : ∃ y, w1.heap.size = y := ⟨_, rfl⟩
    rw [hy] at nP hlt hs
    have HY := Lib.hid hy
    change Code.wp _ _ _ _ (w1.alloc (.cells #[.int .i64 d, .int .i64 c, .int .i64 r, .int .i64 t, .int .i64 o, .int .i64 k, .int .i64 n, .int .i64 z] 65))
    rw [hy]
    clear hy HY
    generalize w1.alloc (.cells #[.int .i64 d, .int .i64 c, .int .i64 r, .int .i64 t, .int .i64 o, .int .i64 k, .int .i64 n, .int .i64 z] 65) = w2 at *
    obtain ⟨e0, e1, e2, e3, e4, e5, e6, e7, z0, z1, z2, z3, z4, z5, z6, z7⟩ := srCells nP
    go_upto_region 10 with fail
    go_wp2_with (first
        | (refine wpList_loadR rfl 65 _ rfl y rfl 65 #[.int .i64 d, .int .i64 c, .int .i64 r, .int .i64 t, .int .i64 o, .int .i64 k, .int .i64 n, .int .i64 z] ?_ agSr ?_; with_reducible exact nP)
        | (go_at_call 58; refine (srDev_any ⟨_, _, _, _, _, _, _, _⟩ _).mono ?_; rintro e w3 ⟨u, rfl, ⟨g, rfl, hg, hr⟩, hb⟩; have r2 := rowB_below r1 hb (rowB_lt r1); dsimp only [Sr.ns, List.length] at hr; have l2 := rowB_lt r1; replace bX := bX.trans (hb.mono bX.size))
        | (refine wpList_storeR rfl 34 _ _ rfl (w.heap.size + 1) rfl #[.slice (some ⟨g, 0, none⟩) 8 8, .slice none 0 0] rfl (dev2_one _ _ _ _ _ _) 34 #[.slice none 0 0, .slice none 0 0] rfl ?_ agDv ?_; with_reducible exact r2)
  )
    refine bodyPost_ret (resultsRT rfl (w.heap.size + 1) _ rfl (rowB_row r2 _) agDv rfl) rfl ?_
    exact ⟨_, rfl, ⟨g, rfl, by omega, rowB_row_other hr _ (by omega)⟩, below_rowR bX _ (by omega)⟩
  · have e : (⟨d, c, r, t, o, k, n, z⟩ : Sr).reg a = 0 := by unfold Sr.reg; rw [if_neg n0, if_neg n1, if_neg n2]
    rw [e]
    clear e
    have e : (⟨d, c, r, t, o, k, n, z⟩ : Sr).read a = ⟨d, c, r, t, o, k, n, z⟩ := by unfold Sr.read; rw [if_neg n0, if_neg n1]
    rw [e]
    clear e
    dsimp only [Sr.ns]
    have q0 : (a == 0) = false := by simpa using n0
    have q1 : (a == 1) = false := by simpa using n1
    have q2 : (a == 2) = false := by simpa using n2
    clear n0 n1 n2
    go_enter Try.func45, Try.ntmps45
    go_upto_region 2 with (go_at_call 69; refine hload.mono ?_; rintro e w1 ⟨rfl, hb⟩; have bX := bW.trans (hb.mono bW.size); have r1 := rowB_below k1 hb (rowB_lt k1); have hs := hb.size; rw [sW] at hs; clear hb hload)
    have nP := rowB_new w1 65 #[.int .i64 d, .int .i64 c, .int .i64 r, .int .i64 t, .int .i64 o, .int .i64 k, .int .i64 n, .int .i64 z]
    replace r1 := rowB_alloc r1 (.cells #[.int .i64 d, .int .i64 c, .int .i64 r, .int .i64 t, .int .i64 o, .int .i64 k, .int .i64 n, .int .i64 z] 65)
    replace bX := bX.alloc (by omega) (.cells #[.int .i64 d, .int .i64 c, .int .i64 r, .int .i64 t, .int .i64 o, .int .i64 k, .int .i64 n, .int .i64 z] 65)
    have hlt := rowB_lt nP
    obtain ⟨y, hy⟩ : ∃ y, w1.heap.size = y := ⟨_, rfl⟩
    rw [hy] at nP hlt hs
    have HY := Lib.hid hy
    change Code.wp _ _ _ _ (w1.alloc (.cells #[.int .i64 d, .int .i64 c, .int .i64 r, .int .i64 t, .int .i64 o, .int .i64 k, .int .i64 n, .int .i64 z] 65))
    rw [hy]
    clear hy HY
    generalize w1.alloc (.cells #[.int .i64 d, .int .i64 c, .int .i64 r, .int .i64 t, .int .i64 o, .int .i64 k, .int .i64 n, .int .i64 z] 65) = w2 at *
    obtain ⟨e0, e1, e2, e3, e4, e5, e6, e7, z0, z1, z2, z3, z4, z5, z6, z7⟩ := srCells nP
    go_upto_region 10 with fail
    go_wp2_with (first
        | (refine wpList_loadR rfl 65 _ rfl y rfl 65 #[.int .i64 d, .int .i64 c, .int .i64 r, .int .i64 t, .int .i64 o, .int .i64 k, .int .i64 n, .int .i64 z] ?_ agSr ?_; with_reducible exact nP)
        | (go_at_call 58; refine (srDev_any ⟨_, _, _, _, _, _, _, _⟩ _).mono ?_; rintro e w3 ⟨u, rfl, ⟨g, rfl, hg, hr⟩, hb⟩; have r2 := rowB_below r1 hb (rowB_lt r1); dsimp only [Sr.ns, List.length] at hr; have l2 := rowB_lt r1; replace bX := bX.trans (hb.mono bX.size))
        | (refine wpList_storeR rfl 34 _ _ rfl (w.heap.size + 1) rfl #[.slice (some ⟨g, 0, none⟩) 8 8, .slice none 0 0] rfl (dev2_one _ _ _ _ _ _) 34 #[.slice none 0 0, .slice none 0 0] rfl ?_ agDv ?_; with_reducible exact r2)
  )
    refine bodyPost_ret (resultsRT rfl (w.heap.size + 1) _ rfl (rowB_row r2 _) agDv rfl) rfl ?_
    exact ⟨_, rfl, ⟨g, rfl, by omega, rowB_row_other hr _ (by omega)⟩, below_rowR bX _ (by omega)⟩
set_option maxHeartbeats 1000000 in
theorem srWrite_any (v vm : Value) (l : List Int) (a : Int) (x : Int) (w : World) (h : isArg w v l) :
    Calls Try.prog 38 #[.agg #[v, vm], .int .i64 a, .int .i64 x] w fun e w' => ∃ v, e = .returned v ∧ devO w.heap.size w' v ((Sr.of l).write a x).ns ∧ Below w.heap.size w w' := by
  obtain ⟨k0, k1, bW, sW⟩ := boxes2 w (.cells #[v, vm] 34) (.cells #[.slice none 0 0, .slice none 0 0] 34)
  have k0 : rowB _ _ _ _ := k0
  have k1 : rowB _ _ _ _ := k1
  have h2 := isArg_below h bW (Nat.le_refl _)
  have hload := srLoad_any v vm l _ h2
  have hfit := Sr.of_fit l
  generalize Sr.of l = s at *
  obtain ⟨d, c, r, t, o, k, n, z⟩ := s
  dsimp only [Sr.cs] at *
  have e8 : lo x (wd 8) = lo x 8 := rfl
  have e2w : lo x (wd 2) = lo x 2 := rfl
  rcases (by omega : (a = 0 ∧ 0 < c) ∨ (a = 0 ∧ ¬ 0 < c) ∨ a = 2 ∨ (a ≠ 0 ∧ a ≠ 2)) with ⟨rfl, hc⟩ | ⟨rfl, hc⟩ | rfl | ⟨n0, n2⟩
  · have e : (⟨d, c, r, t, o, k, n, z⟩ : Sr).write 0 x = ⟨d, c, r, t, o, k, n, z⟩ := by exact if_pos hc
    rw [e]
    clear e
    dsimp only [Sr.ns]
    have hd : decide (0 < c) = true := decide_eq_true hc
    clear hc
    go_enter Try.func38, Try.ntmps38
    go_upto_region 2 with (go_at_call 69; refine hload.mono ?_; rintro e w1 ⟨rfl, hb⟩; have bX := bW.trans (hb.mono bW.size); have r1 := rowB_below k1 hb (rowB_lt k1); have hs := hb.size; rw [sW] at hs; clear hb hload)
    have nP := rowB_new w1 65 #[.int .i64 d, .int .i64 c, .int .i64 r, .int .i64 t, .int .i64 o, .int .i64 k, .int .i64 n, .int .i64 z]
    replace r1 := rowB_alloc r1 (.cells #[.int .i64 d, .int .i64 c, .int .i64 r, .int .i64 t, .int .i64 o, .int .i64 k, .int .i64 n, .int .i64 z] 65)
    replace bX := bX.alloc (by omega) (.cells #[.int .i64 d, .int .i64 c, .int .i64 r, .int .i64 t, .int .i64 o, .int .i64 k, .int .i64 n, .int .i64 z] 65)
    have hlt := rowB_lt nP
    obtain ⟨y, hy⟩ : ∃ y, w1.heap.size = y := ⟨_, rfl⟩
    rw [hy] at nP hlt hs
    have HY := Lib.hid hy
    change Code.wp _ _ _ _ (w1.alloc (.cells #[.int .i64 d, .int .i64 c, .int .i64 r, .int .i64 t, .int .i64 o, .int .i64 k, .int .i64 n, .int .i64 z] 65))
    rw [hy]
    clear hy HY
    generalize w1.alloc (.cells #[.int .i64 d, .int .i64 c, .int .i64 r, .int .i64 t, .int .i64 o, .int .i64 k, .int .i64 n, .int .i64 z] 65) = w2 at *
    obtain ⟨e0, e1, e2, e3, e4, e5, e6, e7, z0, z1, z2, z3, z4, z5, z6, z7⟩ := srCells nP
    go_upto_region 8 with (first
        | (go_at_call 16; refine (low_any _ _ _).mono ?_; rintro e w' ⟨rfl, rfl⟩; rw [e8])
        | (go_at_call 70; refine (srBusy_any ⟨_, _, _, _, _, _, _, _⟩ _).mono ?_; rintro e wb ⟨rfl, hb⟩; replace nP := rowB_below nP hb (rowB_lt nP); replace r1 := rowB_below r1 hb (rowB_lt r1); replace bX := bX.trans (hb.mono bX.size); replace hlt := rowB_lt nP; clear hb e0 e1 e2 e3 e4 e5 e6 e7 z0 z1 z2 z3 z4 z5 z6 z7; obtain ⟨e0, e1, e2, e3, e4, e5, e6, e7, z0, z1, z2, z3, z4, z5, z6, z7⟩ := srCells nP)
        | (refine wpList_loadR rfl 65 _ rfl y rfl 65 #[.int .i64 d, .int .i64 c, .int .i64 r, .int .i64 t, .int .i64 o, .int .i64 k, .int .i64 n, .int .i64 z] ?_ agSr ?_; with_reducible exact nP)
  )
    go_wp2_with (first
        | (refine wpList_loadR rfl 65 _ rfl y rfl 65 #[.int .i64 d, .int .i64 c, .int .i64 r, .int .i64 t, .int .i64 o, .int .i64 k, .int .i64 n, .int .i64 z] ?_ agSr ?_; with_reducible exact nP)
        | (go_at_call 58; refine (srDev_any ⟨_, _, _, _, _, _, _, _⟩ _).mono ?_; rintro e w3 ⟨u, rfl, ⟨g, rfl, hg, hr⟩, hb⟩; have r2 := rowB_below r1 hb (rowB_lt r1); dsimp only [Sr.ns, List.length] at hr; have l2 := rowB_lt r1; replace bX := bX.trans (hb.mono bX.size))
        | (refine wpList_storeR rfl 34 _ _ rfl (w.heap.size + 1) rfl #[.slice (some ⟨g, 0, none⟩) 8 8, .slice none 0 0] rfl (dev2_one _ _ _ _ _ _) 34 #[.slice none 0 0, .slice none 0 0] rfl ?_ agDv ?_; with_reducible exact r2)
  )
    refine bodyPost_ret (resultsR rfl (w.heap.size + 1) _ rfl (rowB_row r2 _) agDv) rfl ?_
    exact ⟨_, rfl, ⟨g, rfl, by omega, rowB_row_other hr _ (by omega)⟩, below_rowR bX _ (by omega)⟩
  · obtain ⟨D, hD⟩ : ∃ D, lo x 8 = D := ⟨_, rfl⟩
    have e : (⟨d, c, r, t, o, k, n, z⟩ : Sr).write 0 x = ⟨D, 40, r, t, o, k, n, z⟩ := by unfold Sr.write; rw [if_pos rfl, if_neg hc, hD]
    rw [e]
    clear e
    rw [hD] at e8
    clear hD
    dsimp only [Sr.ns]
    have hd : decide (0 < c) = false := decide_eq_false hc
    clear hc
    go_enter Try.func38, Try.ntmps38
    go_upto_region 2 with (go_at_call 69; refine hload.mono ?_; rintro e w1 ⟨rfl, hb⟩; have bX := bW.trans (hb.mono bW.size); have r1 := rowB_below k1 hb (rowB_lt k1); have hs := hb.size; rw [sW] at hs; clear hb hload)
    have nP := rowB_new w1 65 #[.int .i64 d, .int .i64 c, .int .i64 r, .int .i64 t, .int .i64 o, .int .i64 k, .int .i64 n, .int .i64 z]
    replace r1 := rowB_alloc r1 (.cells #[.int .i64 d, .int .i64 c, .int .i64 r, .int .i64 t, .int .i64 o, .int .i64 k, .int .i64 n, .int .i64 z] 65)
    replace bX := bX.alloc (by omega) (.cells #[.int .i64 d, .int .i64 c, .int .i64 r, .int .i64 t, .int .i64 o, .int .i64 k, .int .i64 n, .int .i64 z] 65)
    have hlt := rowB_lt nP
    obtain ⟨y, hy⟩ : ∃ y, w1.heap.size = y := ⟨_, rfl⟩
    rw [hy] at nP hlt hs
    have HY := Lib.hid hy
    change Code.wp _ _ _ _ (w1.alloc (.cells #[.int .i64 d, .int .i64 c, .int .i64 r, .int .i64 t, .int .i64 o, .int .i64 k, .int .i64 n, .int .i64 z] 65))
    rw [hy]
    clear hy HY
    generalize w1.alloc (.cells #[.int .i64 d, .int .i64 c, .int .i64 r, .int .i64 t, .int .i64 o, .int .i64 k, .int .i64 n, .int .i64 z] 65) = w2 at *
    obtain ⟨e0, e1, e2, e3, e4, e5, e6, e7, z0, z1, z2, z3, z4, z5, z6, z7⟩ := srCells nP
    go_upto_region 8 with (first
        | (go_at_call 16; refine (low_any _ _ _).mono ?_; rintro e w' ⟨rfl, rfl⟩; rw [e8])
        | (go_at_call 70; refine (srBusy_any ⟨_, _, _, _, _, _, _, _⟩ _).mono ?_; rintro e wb ⟨rfl, hb⟩; replace nP := rowB_below nP hb (rowB_lt nP); replace r1 := rowB_below r1 hb (rowB_lt r1); replace bX := bX.trans (hb.mono bX.size); replace hlt := rowB_lt nP; clear hb e0 e1 e2 e3 e4 e5 e6 e7 z0 z1 z2 z3 z4 z5 z6 z7; obtain ⟨e0, e1, e2, e3, e4, e5, e6, e7, z0, z1, z2, z3, z4, z5, z6, z7⟩ := srCells nP)
        | (refine wpList_loadR rfl 65 _ rfl y rfl 65 #[.int .i64 d, .int .i64 c, .int .i64 r, .int .i64 t, .int .i64 o, .int .i64 k, .int .i64 n, .int .i64 z] ?_ agSr ?_; with_reducible exact nP)
  )
    replace nP : rowB _ y 65 #[.int .i64 D, .int .i64 40, .int .i64 r, .int .i64 t, .int .i64 o, .int .i64 k, .int .i64 n, .int .i64 z] := (rowB_set (rowB_set nP 0 (.int .i64 D)) 1 (.int .i64 40))
    replace r1 := (rowB_other (rowB_other r1 ⟨y, 0, none⟩ (.int .i64 D) (show y ≠ _ by omega)) ⟨y, 1, none⟩ (.int .i64 40) (show y ≠ _ by omega))
    replace bX := (Below.setCell (Below.setCell bX (p := ⟨y, 0, none⟩) (show w.heap.size ≤ y by omega) (.int .i64 D)) (p := ⟨y, 1, none⟩) (show w.heap.size ≤ y by omega) (.int .i64 40))
    go_wp2_with (first
        | (refine wpList_loadR rfl 65 _ rfl y rfl 65 #[.int .i64 D, .int .i64 40, .int .i64 r, .int .i64 t, .int .i64 o, .int .i64 k, .int .i64 n, .int .i64 z] ?_ agSr ?_; with_reducible exact nP)
        | (go_at_call 58; refine (srDev_any ⟨_, _, _, _, _, _, _, _⟩ _).mono ?_; rintro e w3 ⟨u, rfl, ⟨g, rfl, hg, hr⟩, hb⟩; have r2 := rowB_below r1 hb (rowB_lt r1); dsimp only [Sr.ns, List.length] at hr; have l2 := rowB_lt r1; replace bX := bX.trans (hb.mono bX.size))
        | (refine wpList_storeR rfl 34 _ _ rfl (w.heap.size + 1) rfl #[.slice (some ⟨g, 0, none⟩) 8 8, .slice none 0 0] rfl (dev2_one _ _ _ _ _ _) 34 #[.slice none 0 0, .slice none 0 0] rfl ?_ agDv ?_; with_reducible exact r2)
  )
    refine bodyPost_ret (resultsR rfl (w.heap.size + 1) _ rfl (rowB_row r2 _) agDv) rfl ?_
    exact ⟨_, rfl, ⟨g, rfl, by omega, rowB_row_other hr _ (by omega)⟩, below_rowR bX _ (by omega)⟩
  · obtain ⟨K, hK⟩ : ∃ K, lo x 2 = K := ⟨_, rfl⟩
    have e : (⟨d, c, r, t, o, k, n, z⟩ : Sr).write 2 x = ⟨d, c, r, t, o, K, n, z⟩ := by unfold Sr.write; rw [if_neg (by decide), if_pos rfl, hK]
    rw [e]
    clear e
    rw [hK] at e2w
    clear hK
    dsimp only [Sr.ns]
    go_enter Try.func38, Try.ntmps38
    go_upto_region 2 with (go_at_call 69; refine hload.mono ?_; rintro e w1 ⟨rfl, hb⟩; have bX := bW.trans (hb.mono bW.size); have r1 := rowB_below k1 hb (rowB_lt k1); have hs := hb.size; rw [sW] at hs; clear hb hload)
    have nP := rowB_new w1 65 #[.int .i64 d, .int .i64 c, .int .i64 r, .int .i64 t, .int .i64 o, .int .i64 k, .int .i64 n, .int .i64 z]
    replace r1 := rowB_alloc r1 (.cells #[.int .i64 d, .int .i64 c, .int .i64 r, .int .i64 t, .int .i64 o, .int .i64 k, .int .i64 n, .int .i64 z] 65)
    replace bX := bX.alloc (by omega) (.cells #[.int .i64 d, .int .i64 c, .int .i64 r, .int .i64 t, .int .i64 o, .int .i64 k, .int .i64 n, .int .i64 z] 65)
    have hlt := rowB_lt nP
    obtain ⟨y, hy⟩ : ∃ y, w1.heap.size = y := ⟨_, rfl⟩
    rw [hy] at nP hlt hs
    have HY := Lib.hid hy
    change Code.wp _ _ _ _ (w1.alloc (.cells #[.int .i64 d, .int .i64 c, .int .i64 r, .int .i64 t, .int .i64 o, .int .i64 k, .int .i64 n, .int .i64 z] 65))
    rw [hy]
    clear hy HY
    generalize w1.alloc (.cells #[.int .i64 d, .int .i64 c, .int .i64 r, .int .i64 t, .int .i64 o, .int .i64 k, .int .i64 n, .int .i64 z] 65) = w2 at *
    obtain ⟨e0, e1, e2, e3, e4, e5, e6, e7, z0, z1, z2, z3, z4, z5, z6, z7⟩ := srCells nP
    go_upto_region 8 with (go_at_call 16; refine (low_any _ _ _).mono ?_; rintro e w' ⟨rfl, rfl⟩; rw [e2w])
    replace nP : rowB _ y 65 #[.int .i64 d, .int .i64 c, .int .i64 r, .int .i64 t, .int .i64 o, .int .i64 K, .int .i64 n, .int .i64 z] := (rowB_set nP 5 (.int .i64 K))
    replace r1 := (rowB_other r1 ⟨y, 5, none⟩ (.int .i64 K) (show y ≠ _ by omega))
    replace bX := (Below.setCell bX (p := ⟨y, 5, none⟩) (show w.heap.size ≤ y by omega) (.int .i64 K))
    go_wp2_with (first
        | (refine wpList_loadR rfl 65 _ rfl y rfl 65 #[.int .i64 d, .int .i64 c, .int .i64 r, .int .i64 t, .int .i64 o, .int .i64 K, .int .i64 n, .int .i64 z] ?_ agSr ?_; with_reducible exact nP)
        | (go_at_call 58; refine (srDev_any ⟨_, _, _, _, _, _, _, _⟩ _).mono ?_; rintro e w3 ⟨u, rfl, ⟨g, rfl, hg, hr⟩, hb⟩; have r2 := rowB_below r1 hb (rowB_lt r1); dsimp only [Sr.ns, List.length] at hr; have l2 := rowB_lt r1; replace bX := bX.trans (hb.mono bX.size))
        | (refine wpList_storeR rfl 34 _ _ rfl (w.heap.size + 1) rfl #[.slice (some ⟨g, 0, none⟩) 8 8, .slice none 0 0] rfl (dev2_one _ _ _ _ _ _) 34 #[.slice none 0 0, .slice none 0 0] rfl ?_ agDv ?_; with_reducible exact r2)
  )
    refine bodyPost_ret (resultsR rfl (w.heap.size + 1) _ rfl (rowB_row r2 _) agDv) rfl ?_
    exact ⟨_, rfl, ⟨g, rfl, by omega, rowB_row_other hr _ (by omega)⟩, below_rowR bX _ (by omega)⟩
  · have e : (⟨d, c, r, t, o, k, n, z⟩ : Sr).write a x = ⟨d, c, r, t, o, k, n, z⟩ := by unfold Sr.write; rw [if_neg n0, if_neg n2]
    rw [e]
    clear e
    dsimp only [Sr.ns]
    have q0 : (a == 0) = false := by simpa using n0
    have q2 : (a == 2) = false := by simpa using n2
    clear n0 n2
    go_enter Try.func38, Try.ntmps38
    go_upto_region 2 with (go_at_call 69; refine hload.mono ?_; rintro e w1 ⟨rfl, hb⟩; have bX := bW.trans (hb.mono bW.size); have r1 := rowB_below k1 hb (rowB_lt k1); have hs := hb.size; rw [sW] at hs; clear hb hload)
    have nP := rowB_new w1 65 #[.int .i64 d, .int .i64 c, .int .i64 r, .int .i64 t, .int .i64 o, .int .i64 k, .int .i64 n, .int .i64 z]
    replace r1 := rowB_alloc r1 (.cells #[.int .i64 d, .int .i64 c, .int .i64 r, .int .i64 t, .int .i64 o, .int .i64 k, .int .i64 n, .int .i64 z] 65)
    replace bX := bX.alloc (by omega) (.cells #[.int .i64 d, .int .i64 c, .int .i64 r, .int .i64 t, .int .i64 o, .int .i64 k, .int .i64 n, .int .i64 z] 65)
    have hlt := rowB_lt nP
    obtain ⟨y, hy⟩ : ∃ y, w1.heap.size = y := ⟨_, rfl⟩
    rw [hy] at nP hlt hs
    have HY := Lib.hid hy
    change Code.wp _ _ _ _ (w1.alloc (.cells #[.int .i64 d, .int .i64 c, .int .i64 r, .int .i64 t, .int .i64 o, .int .i64 k, .int .i64 n, .int .i64 z] 65))
    rw [hy]
    clear hy HY
    generalize w1.alloc (.cells #[.int .i64 d, .int .i64 c, .int .i64 r, .int .i64 t, .int .i64 o, .int .i64 k, .int .i64 n, .int .i64 z] 65) = w2 at *
    obtain ⟨e0, e1, e2, e3, e4, e5, e6, e7, z0, z1, z2, z3, z4, z5, z6, z7⟩ := srCells nP
    go_upto_region 8 with fail
    go_wp2_with (first
        | (refine wpList_loadR rfl 65 _ rfl y rfl 65 #[.int .i64 d, .int .i64 c, .int .i64 r, .int .i64 t, .int .i64 o, .int .i64 k, .int .i64 n, .int .i64 z] ?_ agSr ?_; with_reducible exact nP)
        | (go_at_call 58; refine (srDev_any ⟨_, _, _, _, _, _, _, _⟩ _).mono ?_; rintro e w3 ⟨u, rfl, ⟨g, rfl, hg, hr⟩, hb⟩; have r2 := rowB_below r1 hb (rowB_lt r1); dsimp only [Sr.ns, List.length] at hr; have l2 := rowB_lt r1; replace bX := bX.trans (hb.mono bX.size))
        | (refine wpList_storeR rfl 34 _ _ rfl (w.heap.size + 1) rfl #[.slice (some ⟨g, 0, none⟩) 8 8, .slice none 0 0] rfl (dev2_one _ _ _ _ _ _) 34 #[.slice none 0 0, .slice none 0 0] rfl ?_ agDv ?_; with_reducible exact r2)
  )
    refine bodyPost_ret (resultsR rfl (w.heap.size + 1) _ rfl (rowB_row r2 _) agDv) rfl ?_
    exact ⟨_, rfl, ⟨g, rfl, by omega, rowB_row_other hr _ (by omega)⟩, below_rowR bX _ (by omega)⟩
end Go.Proofs.Ytakaebjojgeehaa
