/- A part of the proof of ChipTicks: SerRb. -/
import Derived.Test.YtakaebjojgeehaaGreatChipTicksK01
import Derived.Test.YtakaebjojgeehaaGreatChipTicksK02
import Derived.Test.YtakaebjojgeehaaGreatChipTicksK03
import Derived.Test.YtakaebjojgeehaaGreatChipTicksK04
import Derived.Test.YtakaebjojgeehaaGreatChipTicksK05
import Derived.Test.YtakaebjojgeehaaGreatChipTicksK06
import Derived.Test.YtakaebjojgeehaaGreatChipTicksK09
import Derived.Below
import Derived.BigQuiet
import Derived.ChangeMaps5
import Derived.Deep.DeepCutAuto
import Derived.Deep.Draws
import Derived.Deep.MidRow
import Derived.Deep.OwnRows
import Derived.Deep.QuietTactic
import Derived.Deep.RegionHeld3
import Derived.Deep.RegionWith
import Derived.Deep.Slices
import Derived.Deep.WholeRow
import Derived.Lib.Hide
import Derived.Lib.SmallJoins
import Derived.OpenShut
import Derived.OrdersHeld
import Derived.OwnWalk
import Derived.RowKit3
import Derived.StillTactics
import Derived.StillTail
import Derived.StillTailTactics
import Derived.Test.YtakaebjojgeehaaGreatChecked
import Derived.WalkKit
namespace Go.Proofs.YtakaebjojgeehaaGreat
open Go.RowKit
set_option maxRecDepth 100000
set_option maxHeartbeats 4000000 in
theorem tickedSer_any (nm : ByteArray) (b z : Int) (dat v vm : Value) (l : List Int) (w : World) (h : isArg w v l) :
    Calls Tryz.prog 7 #[.agg (chip5 nm 5 b z dat), .agg #[v, vm]] w fun e w' => ∃ u, e = .returned u ∧ devO w.heap.size w' u ((Sr.of l).skip 1).ns ∧ Below w.heap.size w w' := by
  obtain ⟨k0, k1, k2, bW, sW⟩ := boxes3 w (.cells #[.string nm, .int .i64 5, .int .i64 b, .int .i64 z, dat] 24) (.cells #[v, vm] 27) (.cells #[.slice none 0 0, .slice none 0 0] 27)
  have k0 : rowB _ _ _ _ := k0
  have k1 : rowB _ _ _ _ := k1
  have k2 : rowB _ _ _ _ := k2
  have h2 := isArg_below h bW (Nat.le_refl _)
  have hF := formedSer_any nm b z dat v vm l _ h2
  rw [fmSer] at hF
  have hfit := Sr.of_fit l
  generalize Sr.of l = s at *
  obtain ⟨d, c, r, t, o, k, n, f⟩ := s
  obtain ⟨⟨b0, B0⟩, ⟨b1, B1⟩, ⟨b2, B2⟩, ⟨b3, B3⟩, ⟨b4, B4⟩, ⟨b5, B5⟩, ⟨b6, B6⟩, ⟨b7, B7⟩⟩ := hfit
  dsimp only [Sr.ns, chip5] at *
  rcases (by omega : ¬ 0 < c ∨ 1 < c ∨ c = 1) with hc | hc | rfl
  · have e : (⟨d, c, r, t, o, k, n, f⟩ : Sr).skip 1 = ⟨d, c, r, t, o, k, n, f⟩ := by exact Sr.skip_none (by show ¬ (_ ∧ 0 < c); omega)
    rw [e]
    clear e
    have hd : decide (0 < c) = false := decide_eq_false (by omega)
    go_enter Tryz.func7, Tryz.ntmps7
    go_upto_region 2 with (first
      | (go_at_call 6; refine hF.mono ?_; rintro e w2 ⟨u, rfl, ⟨g, rfl, hg, hr⟩, hb⟩; have q0 := rowB_below k0 hb (rowB_lt k0); have q1 := rowB_below k1 hb (rowB_lt k1); have q2 := rowB_below k2 hb (rowB_lt k2); rw [sW] at hg; have bX := bW.trans (hb.mono bW.size))
      | (refine wpList_storeR rfl 27 _ _ rfl (w.heap.size + 1) rfl #[.slice (some ⟨g, 0, none⟩) 8 8, .slice none 0 0] rfl (dev2_one _ _ _ _ _ _) 27 #[v, vm] rfl ?_ agDv ?_; with_reducible exact q1))
    replace hr : rowB w2 g 3 #[.int .i64 d, .int .i64 c, .int .i64 r, .int .i64 t, .int .i64 o, .int .i64 k, .int .i64 n, .int .i64 f] := hr
    replace q0 := rowB_row_other q0 #[.slice (some ⟨g, 0, none⟩) 8 8, .slice none 0 0] (show w.heap.size + 1 ≠ w.heap.size by omega)
    replace q2 := rowB_row_other q2 #[.slice (some ⟨g, 0, none⟩) 8 8, .slice none 0 0] (show w.heap.size + 1 ≠ w.heap.size + 2 by omega)
    replace hr := rowB_row_other hr #[.slice (some ⟨g, 0, none⟩) 8 8, .slice none 0 0] (show w.heap.size + 1 ≠ g by omega)
    replace q1 := rowB_row q1 #[.slice (some ⟨g, 0, none⟩) 8 8, .slice none 0 0]
    replace bX := below_rowR bX #[.slice (some ⟨g, 0, none⟩) 8 8, .slice none 0 0] (show w.heap.size ≤ w.heap.size + 1 by omega)
    generalize w2.setRow (w.heap.size + 1) #[.slice (some ⟨g, 0, none⟩) 8 8, .slice none 0 0] = w3 at *
    clear hb hF k0 k1 k2 bW sW h2
    have hk := rowB_cell q0 1 (v := .int .i64 5) rfl
    obtain ⟨d0, d1, y0, y1⟩ := dcells2 q1
    have e0 := rowB_cell hr 0 (v := .int .i64 (d)) rfl
    have z0 := rowB_free hr 0
    have e1 := rowB_cell hr 1 (v := .int .i64 (c)) rfl
    have z1 := rowB_free hr 1
    have e2 := rowB_cell hr 2 (v := .int .i64 (r)) rfl
    have z2 := rowB_free hr 2
    have e3 := rowB_cell hr 3 (v := .int .i64 (t)) rfl
    have z3 := rowB_free hr 3
    have e4 := rowB_cell hr 4 (v := .int .i64 (o)) rfl
    have z4 := rowB_free hr 4
    have e5 := rowB_cell hr 5 (v := .int .i64 (k)) rfl
    have z5 := rowB_free hr 5
    have e6 := rowB_cell hr 6 (v := .int .i64 (n)) rfl
    have z6 := rowB_free hr 6
    have e7 := rowB_cell hr 7 (v := .int .i64 (f)) rfl
    have z7 := rowB_free hr 7
    have r1 := q1
    have r2 := q2
    have rg : rowB _ g 3 #[.int .i64 (d), .int .i64 (c), .int .i64 (r), .int .i64 (t), .int .i64 (o), .int .i64 (k), .int .i64 (n), .int .i64 (f)] := hr
    have bY := bX
    go_wp2_with (first
      | (refine wpList_loadR rfl 27 _ rfl (w.heap.size + 1) rfl 27 #[.slice (some ⟨g, 0, none⟩) 8 8, .slice none 0 0] ?_ agDv ?_; with_reducible exact r1)
      | (refine wpList_storeR rfl 27 _ _ rfl (w.heap.size + 2) rfl #[.slice (some ⟨g, 0, none⟩) 8 8, .slice none 0 0] rfl (dev2_one _ _ _ _ _ _) 27 #[.slice none 0 0, .slice none 0 0] rfl ?_ agDv ?_; with_reducible exact r2))
    refine bodyPost_ret (resultsR rfl (w.heap.size + 2) _ rfl (rowB_row r2 _) agDv) rfl ?_
    exact ⟨_, rfl, ⟨g, rfl, by omega, rowB_row_other rg _ (by omega)⟩, below_rowR bY _ (by omega)⟩
  · have e : (⟨d, c, r, t, o, k, n, f⟩ : Sr).skip 1 = ⟨d, c - 1, r, t, o, k, n, f⟩ := by exact Sr.skip_down (by decide) hc
    rw [e]
    clear e
    have hd : decide (0 < c) = true := decide_eq_true (by omega)
    have hw : wrap64 (c - 1) = c - 1 := IntWalk.wrap64_in _ (by omega)
    have hd2 : (c - 1 == 0) = false := by simp; omega
    go_enter Tryz.func7, Tryz.ntmps7
    go_upto_region 2 with (first
      | (go_at_call 6; refine hF.mono ?_; rintro e w2 ⟨u, rfl, ⟨g, rfl, hg, hr⟩, hb⟩; have q0 := rowB_below k0 hb (rowB_lt k0); have q1 := rowB_below k1 hb (rowB_lt k1); have q2 := rowB_below k2 hb (rowB_lt k2); rw [sW] at hg; have bX := bW.trans (hb.mono bW.size))
      | (refine wpList_storeR rfl 27 _ _ rfl (w.heap.size + 1) rfl #[.slice (some ⟨g, 0, none⟩) 8 8, .slice none 0 0] rfl (dev2_one _ _ _ _ _ _) 27 #[v, vm] rfl ?_ agDv ?_; with_reducible exact q1))
    replace hr : rowB w2 g 3 #[.int .i64 d, .int .i64 c, .int .i64 r, .int .i64 t, .int .i64 o, .int .i64 k, .int .i64 n, .int .i64 f] := hr
    replace q0 := rowB_row_other q0 #[.slice (some ⟨g, 0, none⟩) 8 8, .slice none 0 0] (show w.heap.size + 1 ≠ w.heap.size by omega)
    replace q2 := rowB_row_other q2 #[.slice (some ⟨g, 0, none⟩) 8 8, .slice none 0 0] (show w.heap.size + 1 ≠ w.heap.size + 2 by omega)
    replace hr := rowB_row_other hr #[.slice (some ⟨g, 0, none⟩) 8 8, .slice none 0 0] (show w.heap.size + 1 ≠ g by omega)
    replace q1 := rowB_row q1 #[.slice (some ⟨g, 0, none⟩) 8 8, .slice none 0 0]
    replace bX := below_rowR bX #[.slice (some ⟨g, 0, none⟩) 8 8, .slice none 0 0] (show w.heap.size ≤ w.heap.size + 1 by omega)
    generalize w2.setRow (w.heap.size + 1) #[.slice (some ⟨g, 0, none⟩) 8 8, .slice none 0 0] = w3 at *
    clear hb hF k0 k1 k2 bW sW h2
    have hk := rowB_cell q0 1 (v := .int .i64 5) rfl
    obtain ⟨d0, d1, y0, y1⟩ := dcells2 q1
    have e0 := rowB_cell hr 0 (v := .int .i64 (d)) rfl
    have z0 := rowB_free hr 0
    have e1 := rowB_cell hr 1 (v := .int .i64 (c)) rfl
    have z1 := rowB_free hr 1
    have e2 := rowB_cell hr 2 (v := .int .i64 (r)) rfl
    have z2 := rowB_free hr 2
    have e3 := rowB_cell hr 3 (v := .int .i64 (t)) rfl
    have z3 := rowB_free hr 3
    have e4 := rowB_cell hr 4 (v := .int .i64 (o)) rfl
    have z4 := rowB_free hr 4
    have e5 := rowB_cell hr 5 (v := .int .i64 (k)) rfl
    have z5 := rowB_free hr 5
    have e6 := rowB_cell hr 6 (v := .int .i64 (n)) rfl
    have z6 := rowB_free hr 6
    have e7 := rowB_cell hr 7 (v := .int .i64 (f)) rfl
    have z7 := rowB_free hr 7
    have r1 := (rowB_other q1 ⟨g, 1, none⟩ (.int .i64 (c - 1)) (show g ≠ _ by omega))
    have r2 := (rowB_other q2 ⟨g, 1, none⟩ (.int .i64 (c - 1)) (show g ≠ _ by omega))
    have rg : rowB _ g 3 #[.int .i64 (d), .int .i64 (c - 1), .int .i64 (r), .int .i64 (t), .int .i64 (o), .int .i64 (k), .int .i64 (n), .int .i64 (f)] := (rowB_set hr 1 (.int .i64 (c - 1)))
    have bY := (Below.setCell bX (p := ⟨g, 1, none⟩) (show w.heap.size ≤ g by omega) (.int .i64 (c - 1)))
    go_wp2_with (first
      | (refine wpList_loadR rfl 27 _ rfl (w.heap.size + 1) rfl 27 #[.slice (some ⟨g, 0, none⟩) 8 8, .slice none 0 0] ?_ agDv ?_; with_reducible exact r1)
      | (refine wpList_storeR rfl 27 _ _ rfl (w.heap.size + 2) rfl #[.slice (some ⟨g, 0, none⟩) 8 8, .slice none 0 0] rfl (dev2_one _ _ _ _ _ _) 27 #[.slice none 0 0, .slice none 0 0] rfl ?_ agDv ?_; with_reducible exact r2))
    refine bodyPost_ret (resultsR rfl (w.heap.size + 2) _ rfl (rowB_row r2 _) agDv) rfl ?_
    exact ⟨_, rfl, ⟨g, rfl, by omega, rowB_row_other rg _ (by omega)⟩, below_rowR bY _ (by omega)⟩
  · have e : (⟨d, 1, r, t, o, k, n, f⟩ : Sr).skip 1 = ⟨d, 0, r, t, o, k, (n + 1) % 1048576, d⟩ := by exact (Sr.skip_sent (by show (0 : Int) < 1; decide) (by show (1 : Int) ≤ 1; decide)).trans rfl
    rw [e]
    clear e
    have hw : wrap64 (n + 1) = n + 1 := IntWalk.wrap64_in _ (by omega)
    have hm : (n + 1).tmod 1048576 = (n + 1) % 1048576 := Int.tmod_eq_emod_of_nonneg (by omega)
    have hS : True := trivial
    go_enter Tryz.func7, Tryz.ntmps7
    go_upto_region 2 with (first
      | (go_at_call 6; refine hF.mono ?_; rintro e w2 ⟨u, rfl, ⟨g, rfl, hg, hr⟩, hb⟩; have q0 := rowB_below k0 hb (rowB_lt k0); have q1 := rowB_below k1 hb (rowB_lt k1); have q2 := rowB_below k2 hb (rowB_lt k2); rw [sW] at hg; have bX := bW.trans (hb.mono bW.size))
      | (refine wpList_storeR rfl 27 _ _ rfl (w.heap.size + 1) rfl #[.slice (some ⟨g, 0, none⟩) 8 8, .slice none 0 0] rfl (dev2_one _ _ _ _ _ _) 27 #[v, vm] rfl ?_ agDv ?_; with_reducible exact q1))
    replace hr : rowB w2 g 3 #[.int .i64 d, .int .i64 1, .int .i64 r, .int .i64 t, .int .i64 o, .int .i64 k, .int .i64 n, .int .i64 f] := hr
    replace q0 := rowB_row_other q0 #[.slice (some ⟨g, 0, none⟩) 8 8, .slice none 0 0] (show w.heap.size + 1 ≠ w.heap.size by omega)
    replace q2 := rowB_row_other q2 #[.slice (some ⟨g, 0, none⟩) 8 8, .slice none 0 0] (show w.heap.size + 1 ≠ w.heap.size + 2 by omega)
    replace hr := rowB_row_other hr #[.slice (some ⟨g, 0, none⟩) 8 8, .slice none 0 0] (show w.heap.size + 1 ≠ g by omega)
    replace q1 := rowB_row q1 #[.slice (some ⟨g, 0, none⟩) 8 8, .slice none 0 0]
    replace bX := below_rowR bX #[.slice (some ⟨g, 0, none⟩) 8 8, .slice none 0 0] (show w.heap.size ≤ w.heap.size + 1 by omega)
    generalize w2.setRow (w.heap.size + 1) #[.slice (some ⟨g, 0, none⟩) 8 8, .slice none 0 0] = w3 at *
    clear hb hF k0 k1 k2 bW sW h2
    have hk := rowB_cell q0 1 (v := .int .i64 5) rfl
    obtain ⟨d0, d1, y0, y1⟩ := dcells2 q1
    have e0 := rowB_cell hr 0 (v := .int .i64 (d)) rfl
    have z0 := rowB_free hr 0
    have e1 := rowB_cell hr 1 (v := .int .i64 (1)) rfl
    have z1 := rowB_free hr 1
    have e2 := rowB_cell hr 2 (v := .int .i64 (r)) rfl
    have z2 := rowB_free hr 2
    have e3 := rowB_cell hr 3 (v := .int .i64 (t)) rfl
    have z3 := rowB_free hr 3
    have e4 := rowB_cell hr 4 (v := .int .i64 (o)) rfl
    have z4 := rowB_free hr 4
    have e5 := rowB_cell hr 5 (v := .int .i64 (k)) rfl
    have z5 := rowB_free hr 5
    have e6 := rowB_cell hr 6 (v := .int .i64 (n)) rfl
    have z6 := rowB_free hr 6
    have e7 := rowB_cell hr 7 (v := .int .i64 (f)) rfl
    have z7 := rowB_free hr 7
    go_upto_region 15 with (fail)
    change Code.wp _ _ _ _ (w3.setCell ⟨g, 1, none⟩ (.int .i64 0))
    replace q1 := rowB_other q1 ⟨g, 1, none⟩ (.int .i64 0) (show g ≠ _ by omega)
    replace q2 := rowB_other q2 ⟨g, 1, none⟩ (.int .i64 0) (show g ≠ _ by omega)
    replace hr : rowB _ g 3 #[.int .i64 d, .int .i64 0, .int .i64 r, .int .i64 t, .int .i64 o, .int .i64 k, .int .i64 n, .int .i64 f] := rowB_set hr 1 (.int .i64 0)
    replace bX := Below.setCell bX (p := ⟨g, 1, none⟩) (show w.heap.size ≤ g by omega) (.int .i64 0)
    generalize w3.setCell ⟨g, 1, none⟩ (.int .i64 0) = w4 at *
    replace q1 : rowB w4.drew _ _ _ := q1
    replace q2 : rowB w4.drew _ _ _ := q2
    replace hr : rowB w4.drew _ _ _ := hr
    replace bX := bX.drew
    clear e0 e1 e2 e3 e4 e5 e6 e7 z0 z1 z2 z3 z4 z5 z6 z7 d0 d1 y0 y1 hk q0
    refine wp_region_mix (fun _ => True) [(0, 0), (1, 1), (2, 0), (3, 0), (4, 0), (5, 0), (6, 0), (7, 0), (8, 0), (9, 0), (10, 0), (11, 3), (12, 0), (13, 2)] (by kernel_rfl) (by kernel_rfl) (fun _ _ _ _ _ h => h) ?_
    simp only [List.map_cons, List.map_nil, opOf, List.getD_cons_zero, List.getD_cons_succ]
    change wpMix _ _ _ _ _ _ w4.drew
    generalize w4.drew = w5 at *
    have e0 := rowB_cell hr 0 (v := .int .i64 (d)) rfl
    have z0 := rowB_free hr 0
    have e1 := rowB_cell hr 1 (v := .int .i64 (0)) rfl
    have z1 := rowB_free hr 1
    have e2 := rowB_cell hr 2 (v := .int .i64 (r)) rfl
    have z2 := rowB_free hr 2
    have e3 := rowB_cell hr 3 (v := .int .i64 (t)) rfl
    have z3 := rowB_free hr 3
    have e4 := rowB_cell hr 4 (v := .int .i64 (o)) rfl
    have z4 := rowB_free hr 4
    have e5 := rowB_cell hr 5 (v := .int .i64 (k)) rfl
    have z5 := rowB_free hr 5
    have e6 := rowB_cell hr 6 (v := .int .i64 (n)) rfl
    have z6 := rowB_free hr 6
    have e7 := rowB_cell hr 7 (v := .int .i64 (f)) rfl
    have z7 := rowB_free hr 7
    (refine wpMix_still (fun K hK => ?_); go_simp; refine hK _ ?_; clear hK K)
    refine wpMix_held (.slice (some ⟨g, 0, none⟩) 8 8) rfl hS (fun w' hw' => by go_simp) ?_
    simp only [Act.put, List.setIfInBounds_toArray, List.set_cons_zero, List.set_cons_succ]
    (refine wpMix_still (fun K hK => ?_); go_simp; refine hK _ ?_; clear hK K)
    (refine wpMix_still (fun K hK => ?_); go_simp; refine hK _ ?_; clear hK K)
    (refine wpMix_still (fun K hK => ?_); go_simp; refine hK _ ?_; clear hK K)
    (refine wpMix_still (fun K hK => ?_); go_simp; refine hK _ ?_; clear hK K)
    (refine wpMix_still (fun K hK => ?_); go_simp; refine hK _ ?_; clear hK K)
    (refine wpMix_still (fun K hK => ?_); go_simp; refine hK _ ?_; clear hK K)
    (refine wpMix_still (fun K hK => ?_); go_simp; refine hK _ ?_; clear hK K)
    (refine wpMix_still (fun K hK => ?_); go_simp; refine hK _ ?_; clear hK K)
    (refine wpMix_still (fun K hK => ?_); go_simp; refine hK _ ?_; clear hK K)
    refine wpMix_call ?_
    go_wp2_with fail
    first | refine ⟨fun _ => hS, ?_⟩ | refine ⟨hS, ?_⟩ | refine And.intro (fun _ => hS) ?_
    (refine wpMix_still (fun K hK => ?_); go_simp; refine hK _ ?_; clear hK K)
    refine wpMix_call ?_
    go_wp2_with fail
    try refine ⟨fun h => (by cases h), ?_⟩
    refine wpMix_nil ?_
    obtain ⟨d0, d1, y0, y1⟩ := dcells2 q1
    have r1 := (rowB_other (rowB_other q1 ⟨g, 6, none⟩ (.int .i64 ((n + 1) % 1048576)) (show g ≠ _ by omega)) ⟨g, 7, none⟩ (.int .i64 (d)) (show g ≠ _ by omega))
    have r2 := (rowB_other (rowB_other q2 ⟨g, 6, none⟩ (.int .i64 ((n + 1) % 1048576)) (show g ≠ _ by omega)) ⟨g, 7, none⟩ (.int .i64 (d)) (show g ≠ _ by omega))
    have rg : rowB _ g 3 #[.int .i64 (d), .int .i64 (0), .int .i64 (r), .int .i64 (t), .int .i64 (o), .int .i64 (k), .int .i64 ((n + 1) % 1048576), .int .i64 (d)] := (rowB_set (rowB_set hr 6 (.int .i64 ((n + 1) % 1048576))) 7 (.int .i64 (d)))
    have bY := (Below.setCell (Below.setCell bX (p := ⟨g, 6, none⟩) (show w.heap.size ≤ g by omega) (.int .i64 ((n + 1) % 1048576))) (p := ⟨g, 7, none⟩) (show w.heap.size ≤ g by omega) (.int .i64 (d)))
    go_wp2_with (first
      | (refine wpList_loadR rfl 27 _ rfl (w.heap.size + 1) rfl 27 #[.slice (some ⟨g, 0, none⟩) 8 8, .slice none 0 0] ?_ agDv ?_; with_reducible exact r1)
      | (refine wpList_storeR rfl 27 _ _ rfl (w.heap.size + 2) rfl #[.slice (some ⟨g, 0, none⟩) 8 8, .slice none 0 0] rfl (dev2_one _ _ _ _ _ _) 27 #[.slice none 0 0, .slice none 0 0] rfl ?_ agDv ?_; with_reducible exact r2))
    refine bodyPost_ret (resultsR rfl (w.heap.size + 2) _ rfl (rowB_row r2 _) agDv) rfl ?_
    exact ⟨_, rfl, ⟨g, rfl, by omega, rowB_row_other rg _ (by omega)⟩, below_rowR bY _ (by omega)⟩
end Go.Proofs.YtakaebjojgeehaaGreat
