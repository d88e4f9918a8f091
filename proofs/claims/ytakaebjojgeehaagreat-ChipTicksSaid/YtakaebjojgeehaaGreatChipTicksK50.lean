/- A part of the proof of ChipTicks: TimR. -/
import Derived.Test.YtakaebjojgeehaaGreatChipTicksK01
import Derived.Test.YtakaebjojgeehaaGreatChipTicksK02
import Derived.Test.YtakaebjojgeehaaGreatChipTicksK03
import Derived.Test.YtakaebjojgeehaaGreatChipTicksK04
import Derived.Test.YtakaebjojgeehaaGreatChipTicksK05
import Derived.Test.YtakaebjojgeehaaGreatChipTicksK06
import Derived.Test.YtakaebjojgeehaaGreatChipTicksK07
import Derived.Test.YtakaebjojgeehaaGreatChipTicksK09
import Derived.Below
import Derived.BigQuiet
import Derived.ChangeMaps5
import Derived.Deep.DeepCutAuto
import Derived.Deep.Draws
import Derived.Deep.MidRow
import Derived.Deep.OwnRows
import Derived.Deep.QuietTactic
import Derived.Deep.RegionHeld3
import Derived.Deep.RegionWith
import Derived.Deep.Slices
import Derived.Deep.WholeRow
import Derived.Lib.Hide
import Derived.Lib.SmallJoins
import Derived.OpenShut
import Derived.OrdersHeld
import Derived.OwnWalk
import Derived.RowKit3
import Derived.StillTactics
import Derived.StillTail
import Derived.StillTailTactics
import Derived.Test.YtakaebjojgeehaaGreatChecked
import Derived.WalkKit
namespace Go.Proofs.YtakaebjojgeehaaGreat
open Go.RowKit
set_option maxRecDepth 100000
theorem fmTim (l : List Int) : fmN l msTim 4 = (Tm.of l).ns := rfl
set_option maxHeartbeats 1000000 in
theorem tickedTim_any (nm : ByteArray) (b z : Int) (dat v vm : Value) (l : List Int) (w : World) (h : isArg w v l) :
    Calls Tryz.prog 7 #[.agg (chip5 nm 3 b z dat), .agg #[v, vm]] w fun e w' => ∃ u, e = .returned u ∧ devO w.heap.size w' u ((Tm.of l).skip 1).ns ∧ Below w.heap.size w w' := by
  obtain ⟨k0, k1, k2, bW, sW⟩ := boxes3 w (.cells #[.string nm, .int .i64 3, .int .i64 b, .int .i64 z, dat] 24) (.cells #[v, vm] 27) (.cells #[.slice none 0 0, .slice none 0 0] 27)
  have k0 : rowB _ _ _ _ := k0
  have k1 : rowB _ _ _ _ := k1
  have k2 : rowB _ _ _ _ := k2
  have h2 := isArg_below h bW (Nat.le_refl _)
  have hF := formedTim_any nm b z dat v vm l _ h2
  rw [fmTim] at hF
  have hfit := Tm.of_fit l
  generalize Tm.of l = s at *
  obtain ⟨c, l', k, f⟩ := s
  obtain ⟨⟨f1, f2⟩, ⟨f3, f4⟩, ⟨f5, f6⟩, ⟨f7, f8⟩⟩ := hfit
  dsimp only [Tm.ns, chip5] at *
  have t2 : k.tmod 2 = k % 2 := Int.tmod_eq_emod_of_nonneg f5
  have t3 : k.tdiv 2 = k / 2 := Int.tdiv_eq_ediv_of_nonneg f5
  have t4 : (k / 2).tmod 2 = k / 2 % 2 := Int.tmod_eq_emod_of_nonneg (by omega)
  rcases (by omega : k % 2 = 0 ∨ (k % 2 = 1 ∧ 0 < c) ∨ (k % 2 = 1 ∧ c = 0 ∧ k / 2 % 2 = 1) ∨ (k % 2 = 1 ∧ c = 0 ∧ k / 2 % 2 = 0)) with h1 | ⟨h1, h3⟩ | ⟨h1, h3, h4⟩ | ⟨h1, h3, h4⟩
  · have e : (⟨c, l', k, f⟩ : Tm).skip 1 = ⟨c, l', k, f⟩ := if_neg (by show ¬ (0 < 1 ∧ k % 2 = 1); omega)
    rw [e]
    clear e
    rw [h1] at t2
    go_enter Tryz.func7, Tryz.ntmps7
    go_upto_region 2 with (first
      | (go_at_call 6; refine hF.mono ?_; rintro e w2 ⟨u, rfl, ⟨g, rfl, hg, hr⟩, hb⟩; have q0 := rowB_below k0 hb (rowB_lt k0); have q1 := rowB_below k1 hb (rowB_lt k1); have q2 := rowB_below k2 hb (rowB_lt k2); rw [sW] at hg; have bX := bW.trans (hb.mono bW.size))
      | (refine wpList_storeR rfl 27 _ _ rfl (w.heap.size + 1) rfl #[.slice (some ⟨g, 0, none⟩) 4 4, .slice none 0 0] rfl (dev2_one _ _ _ _ _ _) 27 #[v, vm] rfl ?_ agDv ?_; with_reducible exact q1))
    replace hr : rowB w2 g 3 #[.int .i64 c, .int .i64 l', .int .i64 k, .int .i64 f] := hr
    replace q0 := rowB_row_other q0 #[.slice (some ⟨g, 0, none⟩) 4 4, .slice none 0 0] (show w.heap.size + 1 ≠ w.heap.size by omega)
    replace q2 := rowB_row_other q2 #[.slice (some ⟨g, 0, none⟩) 4 4, .slice none 0 0] (show w.heap.size + 1 ≠ w.heap.size + 2 by omega)
    replace hr := rowB_row_other hr #[.slice (some ⟨g, 0, none⟩) 4 4, .slice none 0 0] (show w.heap.size + 1 ≠ g by omega)
    replace q1 := rowB_row q1 #[.slice (some ⟨g, 0, none⟩) 4 4, .slice none 0 0]
    replace bX := below_rowR bX #[.slice (some ⟨g, 0, none⟩) 4 4, .slice none 0 0] (show w.heap.size ≤ w.heap.size + 1 by omega)
    generalize w2.setRow (w.heap.size + 1) #[.slice (some ⟨g, 0, none⟩) 4 4, .slice none 0 0] = w3 at *
    clear hb hF k0 k1 k2 bW sW h2
    have hk := rowB_cell q0 1 (v := .int .i64 3) rfl
    obtain ⟨d0, d1, y0, y1⟩ := dcells2 q1
    obtain ⟨e0, e1, e2, e3, z0, z1, z2, z3⟩ := dcells4 hr
    have r1 := q1
    have r2 := q2
    have rg : rowB _ g 3 #[.int .i64 (c), .int .i64 (l'), .int .i64 (k), .int .i64 (f)] := hr
    have bY := bX
    go_wp2_with (first
      | (refine wpList_loadR rfl 27 _ rfl (w.heap.size + 1) rfl 27 #[.slice (some ⟨g, 0, none⟩) 4 4, .slice none 0 0] ?_ agDv ?_; with_reducible exact r1)
      | (refine wpList_storeR rfl 27 _ _ rfl (w.heap.size + 2) rfl #[.slice (some ⟨g, 0, none⟩) 4 4, .slice none 0 0] rfl (dev2_one _ _ _ _ _ _) 27 #[.slice none 0 0, .slice none 0 0] rfl ?_ agDv ?_; with_reducible exact r2))
    refine bodyPost_ret (resultsR rfl (w.heap.size + 2) _ rfl (rowB_row r2 _) agDv) rfl ?_
    exact ⟨_, rfl, ⟨g, rfl, by omega, rowB_row_other rg _ (by omega)⟩, below_rowR bY _ (by omega)⟩
  · have e : (⟨c, l', k, f⟩ : Tm).skip 1 = ⟨c - 1, l', k, f⟩ := (if_pos (by show 0 < 1 ∧ k % 2 = 1; omega)).trans (if_pos (by show 1 ≤ c; omega))
    rw [e]
    clear e
    rw [h1] at t2
    have hd : decide (0 < c) = true := decide_eq_true h3
    go_enter Tryz.func7, Tryz.ntmps7
    go_upto_region 2 with (first
      | (go_at_call 6; refine hF.mono ?_; rintro e w2 ⟨u, rfl, ⟨g, rfl, hg, hr⟩, hb⟩; have q0 := rowB_below k0 hb (rowB_lt k0); have q1 := rowB_below k1 hb (rowB_lt k1); have q2 := rowB_below k2 hb (rowB_lt k2); rw [sW] at hg; have bX := bW.trans (hb.mono bW.size))
      | (refine wpList_storeR rfl 27 _ _ rfl (w.heap.size + 1) rfl #[.slice (some ⟨g, 0, none⟩) 4 4, .slice none 0 0] rfl (dev2_one _ _ _ _ _ _) 27 #[v, vm] rfl ?_ agDv ?_; with_reducible exact q1))
    replace hr : rowB w2 g 3 #[.int .i64 c, .int .i64 l', .int .i64 k, .int .i64 f] := hr
    replace q0 := rowB_row_other q0 #[.slice (some ⟨g, 0, none⟩) 4 4, .slice none 0 0] (show w.heap.size + 1 ≠ w.heap.size by omega)
    replace q2 := rowB_row_other q2 #[.slice (some ⟨g, 0, none⟩) 4 4, .slice none 0 0] (show w.heap.size + 1 ≠ w.heap.size + 2 by omega)
    replace hr := rowB_row_other hr #[.slice (some ⟨g, 0, none⟩) 4 4, .slice none 0 0] (show w.heap.size + 1 ≠ g by omega)
    replace q1 := rowB_row q1 #[.slice (some ⟨g, 0, none⟩) 4 4, .slice none 0 0]
    replace bX := below_rowR bX #[.slice (some ⟨g, 0, none⟩) 4 4, .slice none 0 0] (show w.heap.size ≤ w.heap.size + 1 by omega)
    generalize w2.setRow (w.heap.size + 1) #[.slice (some ⟨g, 0, none⟩) 4 4, .slice none 0 0] = w3 at *
    clear hb hF k0 k1 k2 bW sW h2
    have hk := rowB_cell q0 1 (v := .int .i64 3) rfl
    obtain ⟨d0, d1, y0, y1⟩ := dcells2 q1
    obtain ⟨e0, e1, e2, e3, z0, z1, z2, z3⟩ := dcells4 hr
    have r1 := (rowB_other q1 ⟨g, 0, none⟩ (.int .i64 (c - 1)) (show g ≠ _ by omega))
    have r2 := (rowB_other q2 ⟨g, 0, none⟩ (.int .i64 (c - 1)) (show g ≠ _ by omega))
    have rg : rowB _ g 3 #[.int .i64 (c - 1), .int .i64 (l'), .int .i64 (k), .int .i64 (f)] := (rowB_set hr 0 (.int .i64 (c - 1)))
    have bY := (Below.setCell bX (p := ⟨g, 0, none⟩) (show w.heap.size ≤ g by omega) (.int .i64 (c - 1)))
    go_wp2_with (first
      | (refine wpList_loadR rfl 27 _ rfl (w.heap.size + 1) rfl 27 #[.slice (some ⟨g, 0, none⟩) 4 4, .slice none 0 0] ?_ agDv ?_; with_reducible exact r1)
      | (refine wpList_storeR rfl 27 _ _ rfl (w.heap.size + 2) rfl #[.slice (some ⟨g, 0, none⟩) 4 4, .slice none 0 0] rfl (dev2_one _ _ _ _ _ _) 27 #[.slice none 0 0, .slice none 0 0] rfl ?_ agDv ?_; with_reducible exact r2))
    refine bodyPost_ret (resultsR rfl (w.heap.size + 2) _ rfl (rowB_row r2 _) agDv) rfl ?_
    exact ⟨_, rfl, ⟨g, rfl, by omega, rowB_row_other rg _ (by omega)⟩, below_rowR bY _ (by omega)⟩
  · have e : (⟨c, l', k, f⟩ : Tm).skip 1 = ⟨l', l', k, 1⟩ := (if_pos (by show 0 < 1 ∧ k % 2 = 1; omega)).trans ((if_neg (by show ¬ 1 ≤ c; omega)).trans ((if_pos h4).trans (by subst h3; simp)))
    rw [e]
    clear e
    rw [h1] at t2
    subst h3
    rw [h4] at t4
    go_enter Tryz.func7, Tryz.ntmps7
    go_upto_region 2 with (first
      | (go_at_call 6; refine hF.mono ?_; rintro e w2 ⟨u, rfl, ⟨g, rfl, hg, hr⟩, hb⟩; have q0 := rowB_below k0 hb (rowB_lt k0); have q1 := rowB_below k1 hb (rowB_lt k1); have q2 := rowB_below k2 hb (rowB_lt k2); rw [sW] at hg; have bX := bW.trans (hb.mono bW.size))
      | (refine wpList_storeR rfl 27 _ _ rfl (w.heap.size + 1) rfl #[.slice (some ⟨g, 0, none⟩) 4 4, .slice none 0 0] rfl (dev2_one _ _ _ _ _ _) 27 #[v, vm] rfl ?_ agDv ?_; with_reducible exact q1))
    replace hr : rowB w2 g 3 #[.int .i64 0, .int .i64 l', .int .i64 k, .int .i64 f] := hr
    replace q0 := rowB_row_other q0 #[.slice (some ⟨g, 0, none⟩) 4 4, .slice none 0 0] (show w.heap.size + 1 ≠ w.heap.size by omega)
    replace q2 := rowB_row_other q2 #[.slice (some ⟨g, 0, none⟩) 4 4, .slice none 0 0] (show w.heap.size + 1 ≠ w.heap.size + 2 by omega)
    replace hr := rowB_row_other hr #[.slice (some ⟨g, 0, none⟩) 4 4, .slice none 0 0] (show w.heap.size + 1 ≠ g by omega)
    replace q1 := rowB_row q1 #[.slice (some ⟨g, 0, none⟩) 4 4, .slice none 0 0]
    replace bX := below_rowR bX #[.slice (some ⟨g, 0, none⟩) 4 4, .slice none 0 0] (show w.heap.size ≤ w.heap.size + 1 by omega)
    generalize w2.setRow (w.heap.size + 1) #[.slice (some ⟨g, 0, none⟩) 4 4, .slice none 0 0] = w3 at *
    clear hb hF k0 k1 k2 bW sW h2
    have hk := rowB_cell q0 1 (v := .int .i64 3) rfl
    obtain ⟨d0, d1, y0, y1⟩ := dcells2 q1
    obtain ⟨e0, e1, e2, e3, z0, z1, z2, z3⟩ := dcells4 hr
    have r1 := (rowB_other (rowB_other q1 ⟨g, 0, none⟩ (.int .i64 (l')) (show g ≠ _ by omega)) ⟨g, 3, none⟩ (.int .i64 (1)) (show g ≠ _ by omega))
    have r2 := (rowB_other (rowB_other q2 ⟨g, 0, none⟩ (.int .i64 (l')) (show g ≠ _ by omega)) ⟨g, 3, none⟩ (.int .i64 (1)) (show g ≠ _ by omega))
    have rg : rowB _ g 3 #[.int .i64 (l'), .int .i64 (l'), .int .i64 (k), .int .i64 (1)] := (rowB_set (rowB_set hr 0 (.int .i64 (l'))) 3 (.int .i64 (1)))
    have bY := (Below.setCell (Below.setCell bX (p := ⟨g, 0, none⟩) (show w.heap.size ≤ g by omega) (.int .i64 (l'))) (p := ⟨g, 3, none⟩) (show w.heap.size ≤ g by omega) (.int .i64 (1)))
    go_wp2_with (first
      | (refine wpList_loadR rfl 27 _ rfl (w.heap.size + 1) rfl 27 #[.slice (some ⟨g, 0, none⟩) 4 4, .slice none 0 0] ?_ agDv ?_; with_reducible exact r1)
      | (refine wpList_storeR rfl 27 _ _ rfl (w.heap.size + 2) rfl #[.slice (some ⟨g, 0, none⟩) 4 4, .slice none 0 0] rfl (dev2_one _ _ _ _ _ _) 27 #[.slice none 0 0, .slice none 0 0] rfl ?_ agDv ?_; with_reducible exact r2))
    refine bodyPost_ret (resultsR rfl (w.heap.size + 2) _ rfl (rowB_row r2 _) agDv) rfl ?_
    exact ⟨_, rfl, ⟨g, rfl, by omega, rowB_row_other rg _ (by omega)⟩, below_rowR bY _ (by omega)⟩
  · have e : (⟨c, l', k, f⟩ : Tm).skip 1 = ⟨0, l', k - 1, 1⟩ := (if_pos (by show 0 < 1 ∧ k % 2 = 1; omega)).trans ((if_neg (by show ¬ 1 ≤ c; omega)).trans ((if_neg (by show ¬ k / 2 % 2 = 1; omega)).trans (by show Tm.mk 0 l' (k - k % 2) 1 = _; rw [h1])))
    rw [e]
    clear e
    rw [h1] at t2
    subst h3
    rw [h4] at t4
    go_enter Tryz.func7, Tryz.ntmps7
    go_upto_region 2 with (first
      | (go_at_call 6; refine hF.mono ?_; rintro e w2 ⟨u, rfl, ⟨g, rfl, hg, hr⟩, hb⟩; have q0 := rowB_below k0 hb (rowB_lt k0); have q1 := rowB_below k1 hb (rowB_lt k1); have q2 := rowB_below k2 hb (rowB_lt k2); rw [sW] at hg; have bX := bW.trans (hb.mono bW.size))
      | (refine wpList_storeR rfl 27 _ _ rfl (w.heap.size + 1) rfl #[.slice (some ⟨g, 0, none⟩) 4 4, .slice none 0 0] rfl (dev2_one _ _ _ _ _ _) 27 #[v, vm] rfl ?_ agDv ?_; with_reducible exact q1))
    replace hr : rowB w2 g 3 #[.int .i64 0, .int .i64 l', .int .i64 k, .int .i64 f] := hr
    replace q0 := rowB_row_other q0 #[.slice (some ⟨g, 0, none⟩) 4 4, .slice none 0 0] (show w.heap.size + 1 ≠ w.heap.size by omega)
    replace q2 := rowB_row_other q2 #[.slice (some ⟨g, 0, none⟩) 4 4, .slice none 0 0] (show w.heap.size + 1 ≠ w.heap.size + 2 by omega)
    replace hr := rowB_row_other hr #[.slice (some ⟨g, 0, none⟩) 4 4, .slice none 0 0] (show w.heap.size + 1 ≠ g by omega)
    replace q1 := rowB_row q1 #[.slice (some ⟨g, 0, none⟩) 4 4, .slice none 0 0]
    replace bX := below_rowR bX #[.slice (some ⟨g, 0, none⟩) 4 4, .slice none 0 0] (show w.heap.size ≤ w.heap.size + 1 by omega)
    generalize w2.setRow (w.heap.size + 1) #[.slice (some ⟨g, 0, none⟩) 4 4, .slice none 0 0] = w3 at *
    clear hb hF k0 k1 k2 bW sW h2
    have hk := rowB_cell q0 1 (v := .int .i64 3) rfl
    obtain ⟨d0, d1, y0, y1⟩ := dcells2 q1
    obtain ⟨e0, e1, e2, e3, z0, z1, z2, z3⟩ := dcells4 hr
    have r1 := (rowB_other (rowB_other q1 ⟨g, 2, none⟩ (.int .i64 (k - 1)) (show g ≠ _ by omega)) ⟨g, 3, none⟩ (.int .i64 (1)) (show g ≠ _ by omega))
    have r2 := (rowB_other (rowB_other q2 ⟨g, 2, none⟩ (.int .i64 (k - 1)) (show g ≠ _ by omega)) ⟨g, 3, none⟩ (.int .i64 (1)) (show g ≠ _ by omega))
    have rg : rowB _ g 3 #[.int .i64 (0), .int .i64 (l'), .int .i64 (k - 1), .int .i64 (1)] := (rowB_set (rowB_set hr 2 (.int .i64 (k - 1))) 3 (.int .i64 (1)))
    have bY := (Below.setCell (Below.setCell bX (p := ⟨g, 2, none⟩) (show w.heap.size ≤ g by omega) (.int .i64 (k - 1))) (p := ⟨g, 3, none⟩) (show w.heap.size ≤ g by omega) (.int .i64 (1)))
    go_wp2_with (first
      | (refine wpList_loadR rfl 27 _ rfl (w.heap.size + 1) rfl 27 #[.slice (some ⟨g, 0, none⟩) 4 4, .slice none 0 0] ?_ agDv ?_; with_reducible exact r1)
      | (refine wpList_storeR rfl 27 _ _ rfl (w.heap.size + 2) rfl #[.slice (some ⟨g, 0, none⟩) 4 4, .slice none 0 0] rfl (dev2_one _ _ _ _ _ _) 27 #[.slice none 0 0, .slice none 0 0] rfl ?_ agDv ?_; with_reducible exact r2))
    refine bodyPost_ret (resultsR rfl (w.heap.size + 2) _ rfl (rowB_row r2 _) agDv) rfl ?_
    exact ⟨_, rfl, ⟨g, rfl, by omega, rowB_row_other rg _ (by omega)⟩, below_rowR bY _ (by omega)⟩
end Go.Proofs.YtakaebjojgeehaaGreat
