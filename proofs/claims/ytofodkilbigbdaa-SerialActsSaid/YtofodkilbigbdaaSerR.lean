/- What the reference says of serial chips. -/
import Derived.Test.YtofodkilbigbdaaChecked
import Derived.Test.YtofodkilbigbdaaDevForm
import Derived.Test.YtofodkilbigbdaaDevPick
import Derived.Test.YtofodkilbigbdaaSerMath
import Derived.Below
import Derived.BigQuiet
import Derived.ChangeMaps5
import Derived.Deep.DeepCutAuto
import Derived.Deep.Draws
import Derived.Deep.MidRow
import Derived.Deep.OwnRows
import Derived.Deep.QuietTactic
import Derived.Deep.RegionHeld3
import Derived.Deep.RegionWith
import Derived.Deep.Slices
import Derived.Deep.WholeRow
import Derived.Lib.Hide
import Derived.Lib.SmallJoins
import Derived.OpenShut
import Derived.OrdersHeld
import Derived.OwnWalk
import Derived.RowKit3
import Derived.StillTactics
import Derived.StillTail
import Derived.StillTailTactics
import Derived.WalkKit
namespace Go.Proofs.Ytofodkilbigbdaa
open Go.RowKit
set_option maxRecDepth 100000

theorem fmSer (l : List Int) : fmN l msSer 8 = (Sr.of l).ns := rfl
theorem freshSer_any (nm : ByteArray) (b z : Int) (dat : Value) (w : World) :
    Calls Try.prog 11 #[.agg (chip5 nm 5 b z dat)] w fun e w' => ∃ v, e = .returned v ∧ devO w.heap.size w' v [0, 0, 0, 0, 0, 0, 0, 0] ∧ Below w.heap.size w w' := by
  obtain ⟨k0, k1, bW, sW⟩ := boxes2 w (.cells #[.string nm, .int .i64 5, .int .i64 b, .int .i64 z, dat] 27) (.cells #[.slice none 0 0, .slice none 0 0] 25)
  have k1 : rowB _ _ _ _ := k1
  have hF := formedSer_any nm b z dat (.slice none 0 0) (.slice none 0 0) [] _ (isArg_none ((w.alloc (.cells #[.string nm, .int .i64 5, .int .i64 b, .int .i64 z, dat] 27)).alloc (.cells #[.slice none 0 0, .slice none 0 0] 25)))
  dsimp only [chip5] at *
  go_enter Try.func11, Try.ntmps11
  go_wp2_with (first
    | (go_at_call 24; refine hF.mono ?_; rintro e w2 ⟨u, rfl, ⟨g, rfl, hg, hr⟩, hb⟩; have q1 := rowB_below k1 hb (rowB_lt k1); rw [sW] at hg; have bX := bW.trans (hb.mono bW.size))
    | (refine wpList_storeR rfl 25 _ _ rfl (w.heap.size + 1) rfl #[.slice (some ⟨g, 0, none⟩) 8 8, .slice none 0 0] rfl (dev2_one _ _ _ _ _ _) 25 #[.slice none 0 0, .slice none 0 0] rfl ?_ agDv ?_; with_reducible exact q1))
  refine bodyPost_ret (resultsR rfl (w.heap.size + 1) _ rfl (rowB_row q1 _) agDv) rfl ?_
  exact ⟨_, rfl, ⟨g, rfl, by omega, rowB_row_other hr _ (by omega)⟩, below_rowR bX _ (by omega)⟩
set_option maxHeartbeats 1000000 in
theorem givenSer_any (nm : ByteArray) (b z : Int) (dat v vm : Value) (l : List Int) (x : Int) (w : World) (h : isArg w v l) :
    Calls Try.prog 17 #[.agg (chip5 nm 5 b z dat), .agg #[v, vm], .int .i64 x] w fun e w' => ∃ u, e = .returned u ∧ devO w.heap.size w' u ((Sr.of l).inp x).ns ∧ Below w.heap.size w w' := by
  obtain ⟨k0, k1, k2, bW, sW⟩ := boxes3 w (.cells #[.string nm, .int .i64 5, .int .i64 b, .int .i64 z, dat] 27) (.cells #[v, vm] 25) (.cells #[.slice none 0 0, .slice none 0 0] 25)
  have k0 : rowB _ _ _ _ := k0
  have k1 : rowB _ _ _ _ := k1
  have k2 : rowB _ _ _ _ := k2
  have h2 := isArg_below h bW (Nat.le_refl _)
  have hF := formedSer_any nm b z dat v vm l _ h2
  rw [fmSer] at hF
  have hfit := Sr.of_fit l
  generalize Sr.of l = s at *
  obtain ⟨d, c, r, t, o, k, n, f⟩ := s
  obtain ⟨⟨b0, B0⟩, ⟨b1, B1⟩, ⟨b2, B2⟩, ⟨b3, B3⟩, ⟨b4, B4⟩, ⟨b5, B5⟩, ⟨b6, B6⟩, ⟨b7, B7⟩⟩ := hfit
  dsimp only [Sr.ns, chip5] at *
  have hM := fun w => modR_any x 256 (by decide) (by decide) w
  by_cases ht : t = 1
  · have hd : (t == 1) = true := by simpa using ht
    have e : (⟨d, c, r, t, o, k, n, f⟩ : Sr).inp x = ⟨d, c, r, t, 1, k, n, f⟩ := by unfold Sr.inp; rw [if_pos ht]
    rw [e]
    clear e
    clear ht
    go_enter Try.func17, Try.ntmps17
    go_upto_region 2 with (first
      | (go_at_call 24; refine hF.mono ?_; rintro e w2 ⟨u, rfl, ⟨g, rfl, hg, hr⟩, hb⟩; have q0 := rowB_below k0 hb (rowB_lt k0); have q1 := rowB_below k1 hb (rowB_lt k1); have q2 := rowB_below k2 hb (rowB_lt k2); rw [sW] at hg; have bX := bW.trans (hb.mono bW.size))
      | (refine wpList_storeR rfl 25 _ _ rfl (w.heap.size + 1) rfl #[.slice (some ⟨g, 0, none⟩) 8 8, .slice none 0 0] rfl (dev2_one _ _ _ _ _ _) 25 #[v, vm] rfl ?_ agDv ?_; with_reducible exact q1))
    replace hr : rowB w2 g 3 #[.int .i64 d, .int .i64 c, .int .i64 r, .int .i64 t, .int .i64 o, .int .i64 k, .int .i64 n, .int .i64 f] := hr
    replace q0 := rowB_row_other q0 #[.slice (some ⟨g, 0, none⟩) 8 8, .slice none 0 0] (show w.heap.size + 1 ≠ w.heap.size by omega)
    replace q2 := rowB_row_other q2 #[.slice (some ⟨g, 0, none⟩) 8 8, .slice none 0 0] (show w.heap.size + 1 ≠ w.heap.size + 2 by omega)
    replace hr := rowB_row_other hr #[.slice (some ⟨g, 0, none⟩) 8 8, .slice none 0 0] (show w.heap.size + 1 ≠ g by omega)
    replace q1 := rowB_row q1 #[.slice (some ⟨g, 0, none⟩) 8 8, .slice none 0 0]
    replace bX := below_rowR bX #[.slice (some ⟨g, 0, none⟩) 8 8, .slice none 0 0] (show w.heap.size ≤ w.heap.size + 1 by omega)
    generalize w2.setRow (w.heap.size + 1) #[.slice (some ⟨g, 0, none⟩) 8 8, .slice none 0 0] = w3 at *
    clear hb hF k0 k1 k2 bW sW h2
    have hk := rowB_cell q0 1 (v := .int .i64 5) rfl
    obtain ⟨d0, d1, y0, y1⟩ := dcells2 q1
    have e0 := rowB_cell hr 0 (v := .int .i64 (d)) rfl
    have z0 := rowB_free hr 0
    have e1 := rowB_cell hr 1 (v := .int .i64 (c)) rfl
    have z1 := rowB_free hr 1
    have e2 := rowB_cell hr 2 (v := .int .i64 (r)) rfl
    have z2 := rowB_free hr 2
    have e3 := rowB_cell hr 3 (v := .int .i64 (t)) rfl
    have z3 := rowB_free hr 3
    have e4 := rowB_cell hr 4 (v := .int .i64 (o)) rfl
    have z4 := rowB_free hr 4
    have e5 := rowB_cell hr 5 (v := .int .i64 (k)) rfl
    have z5 := rowB_free hr 5
    have e6 := rowB_cell hr 6 (v := .int .i64 (n)) rfl
    have z6 := rowB_free hr 6
    have e7 := rowB_cell hr 7 (v := .int .i64 (f)) rfl
    have z7 := rowB_free hr 7
    have r1 := (rowB_other q1 ⟨g, 4, none⟩ (.int .i64 (1)) (show g ≠ _ by omega))
    have r2 := (rowB_other q2 ⟨g, 4, none⟩ (.int .i64 (1)) (show g ≠ _ by omega))
    have rg : rowB _ g 3 #[.int .i64 (d), .int .i64 (c), .int .i64 (r), .int .i64 (t), .int .i64 (1), .int .i64 (k), .int .i64 (n), .int .i64 (f)] := (rowB_set hr 4 (.int .i64 (1)))
    have bY := (Below.setCell bX (p := ⟨g, 4, none⟩) (show w.heap.size ≤ g by omega) (.int .i64 (1)))
    go_wp2_with (first
      | (go_at_call 40; refine (hM _).mono ?_; rintro e w' ⟨rfl, rfl⟩)
      | (refine wpList_loadR rfl 25 _ rfl (w.heap.size + 1) rfl 25 #[.slice (some ⟨g, 0, none⟩) 8 8, .slice none 0 0] ?_ agDv ?_; with_reducible exact r1)
      | (refine wpList_storeR rfl 25 _ _ rfl (w.heap.size + 2) rfl #[.slice (some ⟨g, 0, none⟩) 8 8, .slice none 0 0] rfl (dev2_one _ _ _ _ _ _) 25 #[.slice none 0 0, .slice none 0 0] rfl ?_ agDv ?_; with_reducible exact r2))
    refine bodyPost_ret (resultsR rfl (w.heap.size + 2) _ rfl (rowB_row r2 _) agDv) rfl ?_
    exact ⟨_, rfl, ⟨g, rfl, by omega, rowB_row_other rg _ (by omega)⟩, below_rowR bY _ (by omega)⟩
  · obtain ⟨D, hD⟩ : ∃ D, lo x 8 = D := ⟨_, rfl⟩
    have e : (⟨d, c, r, t, o, k, n, f⟩ : Sr).inp x = ⟨d, c, D, 1, o, k, n, f⟩ := by unfold Sr.inp; rw [if_neg ht, hD]
    rw [e]
    clear e
    have hm : x % 256 = D := hD
    rw [hm] at hM
    clear hm hD
    have hd : (t == 1) = false := by simpa using ht
    clear ht
    go_enter Try.func17, Try.ntmps17
    go_upto_region 2 with (first
      | (go_at_call 24; refine hF.mono ?_; rintro e w2 ⟨u, rfl, ⟨g, rfl, hg, hr⟩, hb⟩; have q0 := rowB_below k0 hb (rowB_lt k0); have q1 := rowB_below k1 hb (rowB_lt k1); have q2 := rowB_below k2 hb (rowB_lt k2); rw [sW] at hg; have bX := bW.trans (hb.mono bW.size))
      | (refine wpList_storeR rfl 25 _ _ rfl (w.heap.size + 1) rfl #[.slice (some ⟨g, 0, none⟩) 8 8, .slice none 0 0] rfl (dev2_one _ _ _ _ _ _) 25 #[v, vm] rfl ?_ agDv ?_; with_reducible exact q1))
    replace hr : rowB w2 g 3 #[.int .i64 d, .int .i64 c, .int .i64 r, .int .i64 t, .int .i64 o, .int .i64 k, .int .i64 n, .int .i64 f] := hr
    replace q0 := rowB_row_other q0 #[.slice (some ⟨g, 0, none⟩) 8 8, .slice none 0 0] (show w.heap.size + 1 ≠ w.heap.size by omega)
    replace q2 := rowB_row_other q2 #[.slice (some ⟨g, 0, none⟩) 8 8, .slice none 0 0] (show w.heap.size + 1 ≠ w.heap.size + 2 by omega)
    replace hr := rowB_row_other hr #[.slice (some ⟨g, 0, none⟩) 8 8, .slice none 0 0] (show w.heap.size + 1 ≠ g by omega)
    replace q1 := rowB_row q1 #[.slice (some ⟨g, 0, none⟩) 8 8, .slice none 0 0]
    replace bX := below_rowR bX #[.slice (some ⟨g, 0, none⟩) 8 8, .slice none 0 0] (show w.heap.size ≤ w.heap.size + 1 by omega)
    generalize w2.setRow (w.heap.size + 1) #[.slice (some ⟨g, 0, none⟩) 8 8, .slice none 0 0] = w3 at *
    clear hb hF k0 k1 k2 bW sW h2
    have hk := rowB_cell q0 1 (v := .int .i64 5) rfl
    obtain ⟨d0, d1, y0, y1⟩ := dcells2 q1
    have e0 := rowB_cell hr 0 (v := .int .i64 (d)) rfl
    have z0 := rowB_free hr 0
    have e1 := rowB_cell hr 1 (v := .int .i64 (c)) rfl
    have z1 := rowB_free hr 1
    have e2 := rowB_cell hr 2 (v := .int .i64 (r)) rfl
    have z2 := rowB_free hr 2
    have e3 := rowB_cell hr 3 (v := .int .i64 (t)) rfl
    have z3 := rowB_free hr 3
    have e4 := rowB_cell hr 4 (v := .int .i64 (o)) rfl
    have z4 := rowB_free hr 4
    have e5 := rowB_cell hr 5 (v := .int .i64 (k)) rfl
    have z5 := rowB_free hr 5
    have e6 := rowB_cell hr 6 (v := .int .i64 (n)) rfl
    have z6 := rowB_free hr 6
    have e7 := rowB_cell hr 7 (v := .int .i64 (f)) rfl
    have z7 := rowB_free hr 7
    have r1 := (rowB_other (rowB_other q1 ⟨g, 2, none⟩ (.int .i64 (D)) (show g ≠ _ by omega)) ⟨g, 3, none⟩ (.int .i64 (1)) (show g ≠ _ by omega))
    have r2 := (rowB_other (rowB_other q2 ⟨g, 2, none⟩ (.int .i64 (D)) (show g ≠ _ by omega)) ⟨g, 3, none⟩ (.int .i64 (1)) (show g ≠ _ by omega))
    have rg : rowB _ g 3 #[.int .i64 (d), .int .i64 (c), .int .i64 (D), .int .i64 (1), .int .i64 (o), .int .i64 (k), .int .i64 (n), .int .i64 (f)] := (rowB_set (rowB_set hr 2 (.int .i64 (D))) 3 (.int .i64 (1)))
    have bY := (Below.setCell (Below.setCell bX (p := ⟨g, 2, none⟩) (show w.heap.size ≤ g by omega) (.int .i64 (D))) (p := ⟨g, 3, none⟩) (show w.heap.size ≤ g by omega) (.int .i64 (1)))
    go_wp2_with (first
      | (go_at_call 40; refine (hM _).mono ?_; rintro e w' ⟨rfl, rfl⟩)
      | (refine wpList_loadR rfl 25 _ rfl (w.heap.size + 1) rfl 25 #[.slice (some ⟨g, 0, none⟩) 8 8, .slice none 0 0] ?_ agDv ?_; with_reducible exact r1)
      | (refine wpList_storeR rfl 25 _ _ rfl (w.heap.size + 2) rfl #[.slice (some ⟨g, 0, none⟩) 8 8, .slice none 0 0] rfl (dev2_one _ _ _ _ _ _) 25 #[.slice none 0 0, .slice none 0 0] rfl ?_ agDv ?_; with_reducible exact r2))
    refine bodyPost_ret (resultsR rfl (w.heap.size + 2) _ rfl (rowB_row r2 _) agDv) rfl ?_
    exact ⟨_, rfl, ⟨g, rfl, by omega, rowB_row_other rg _ (by omega)⟩, below_rowR bY _ (by omega)⟩
theorem showsSer_any (nm : ByteArray) (b z : Int) (dat v vm : Value) (l : List Int) (w : World) (h : isArg w v l) :
    Calls Try.prog 21 #[.agg (chip5 nm 5 b z dat), .agg #[v, vm]] w fun e w' => e = .returned (.int .i64 (Sr.of l).out) ∧ Below w.heap.size w w' := by
  obtain ⟨k0, k1, bW, sW⟩ := boxes2 w (.cells #[.string nm, .int .i64 5, .int .i64 b, .int .i64 z, dat] 27) (.cells #[v, vm] 25)
  have k0 : rowB _ _ _ _ := k0
  have k1 : rowB _ _ _ _ := k1
  have h2 := isArg_below h bW (Nat.le_refl _)
  have hF := formedSer_any nm b z dat v vm l _ h2
  rw [fmSer] at hF
  have hfit := Sr.of_fit l
  generalize Sr.of l = s at *
  obtain ⟨d, c, r, t, o, k, n, f⟩ := s
  obtain ⟨⟨b0, B0⟩, ⟨b1, B1⟩, ⟨b2, B2⟩, ⟨b3, B3⟩, ⟨b4, B4⟩, ⟨b5, B5⟩, ⟨b6, B6⟩, ⟨b7, B7⟩⟩ := hfit
  dsimp only [Sr.ns, chip5] at *
  have w1 : wrap64 (n * 256) = n * 256 := IntWalk.wrap64_in _ (by omega)
  have w2 : wrap64 (n * 256 + f) = n * 256 + f := IntWalk.wrap64_in _ (by omega)
  show Calls _ _ _ _ fun e w' => e = .returned (.int .i64 (n * 256 + f)) ∧ _
  go_enter Try.func21, Try.ntmps21
  go_upto_region 2 with (first
    | (go_at_call 24; refine hF.mono ?_; rintro e wf ⟨u, rfl, ⟨g, rfl, hg, hr⟩, hb⟩; have q0 := rowB_below k0 hb (rowB_lt k0); have q1 := rowB_below k1 hb (rowB_lt k1); rw [sW] at hg; have bX := bW.trans (hb.mono bW.size))
    | (refine wpList_storeR rfl 25 _ _ rfl (w.heap.size + 1) rfl #[.slice (some ⟨g, 0, none⟩) 8 8, .slice none 0 0] rfl (dev2_one _ _ _ _ _ _) 25 #[v, vm] rfl ?_ agDv ?_; with_reducible exact q1))
  replace hr : rowB wf g 3 #[.int .i64 d, .int .i64 c, .int .i64 r, .int .i64 t, .int .i64 o, .int .i64 k, .int .i64 n, .int .i64 f] := hr
  replace q0 := rowB_row_other q0 #[.slice (some ⟨g, 0, none⟩) 8 8, .slice none 0 0] (show w.heap.size + 1 ≠ w.heap.size by omega)
  replace hr := rowB_row_other hr #[.slice (some ⟨g, 0, none⟩) 8 8, .slice none 0 0] (show w.heap.size + 1 ≠ g by omega)
  replace q1 := rowB_row q1 #[.slice (some ⟨g, 0, none⟩) 8 8, .slice none 0 0]
  replace bX := below_rowR bX #[.slice (some ⟨g, 0, none⟩) 8 8, .slice none 0 0] (show w.heap.size ≤ w.heap.size + 1 by omega)
  generalize wf.setRow (w.heap.size + 1) #[.slice (some ⟨g, 0, none⟩) 8 8, .slice none 0 0] = w3 at *
  clear hb hF k0 k1 bW sW h2
  have hk := rowB_cell q0 1 (v := .int .i64 5) rfl
  obtain ⟨d0, d1, y0, y1⟩ := dcells2 q1
  have e0 := rowB_cell hr 0 (v := .int .i64 (d)) rfl
  have z0 := rowB_free hr 0
  have e1 := rowB_cell hr 1 (v := .int .i64 (c)) rfl
  have z1 := rowB_free hr 1
  have e2 := rowB_cell hr 2 (v := .int .i64 (r)) rfl
  have z2 := rowB_free hr 2
  have e3 := rowB_cell hr 3 (v := .int .i64 (t)) rfl
  have z3 := rowB_free hr 3
  have e4 := rowB_cell hr 4 (v := .int .i64 (o)) rfl
  have z4 := rowB_free hr 4
  have e5 := rowB_cell hr 5 (v := .int .i64 (k)) rfl
  have z5 := rowB_free hr 5
  have e6 := rowB_cell hr 6 (v := .int .i64 (n)) rfl
  have z6 := rowB_free hr 6
  have e7 := rowB_cell hr 7 (v := .int .i64 (f)) rfl
  have z7 := rowB_free hr 7
  go_wp2_with fail
  go_quiet (fail)
  go_wp2_with fail
  go_ret
  exact ⟨rfl, bX.trans ((below_drewN w3 nq _).mono bX.size)⟩
attribute [local go_sem ↓] run_devN in
set_option maxHeartbeats 1000000 in
theorem askingSer_any (nm : ByteArray) (b z : Int) (dat v vm : Value) (l : List Int) (w : World) (h : isArg w v l) :
    Calls Try.prog 19 #[.agg (chip5 nm 5 b z dat), .agg #[v, vm]] w fun e w' => e = .returned (.bool (Sr.of l).irq) ∧ Below w.heap.size w w' := by
  obtain ⟨k0, k1, bW, sW⟩ := boxes2 w (.cells #[.string nm, .int .i64 5, .int .i64 b, .int .i64 z, dat] 27) (.cells #[v, vm] 25)
  have k0 : rowB _ _ _ _ := k0
  have k1 : rowB _ _ _ _ := k1
  have h2 := isArg_below h bW (Nat.le_refl _)
  have hF := formedSer_any nm b z dat v vm l _ h2
  rw [fmSer] at hF
  have hfit := Sr.of_fit l
  generalize Sr.of l = s at *
  obtain ⟨d, c, r, t, o, k, n, f⟩ := s
  obtain ⟨⟨b0, B0⟩, ⟨b1, B1⟩, ⟨b2, B2⟩, ⟨b3, B3⟩, ⟨b4, B4⟩, ⟨b5, B5⟩, ⟨b6, B6⟩, ⟨b7, B7⟩⟩ := hfit
  dsimp only [Sr.ns, chip5] at *
  have hm : k.tmod 2 = k % 2 := Int.tmod_eq_emod_of_nonneg b5
  show Calls _ _ _ _ fun e w' => e = .returned (.bool ((decide (k % 2 = 1) && decide (t = 1)) || (decide (2 ≤ k) && decide (c = 0)))) ∧ _
  rcases (by omega : (k % 2 = 1 ∧ t = 1) ∨ (k % 2 = 1 ∧ t ≠ 1 ∧ 2 ≤ k) ∨ (k % 2 = 1 ∧ t ≠ 1 ∧ ¬ 2 ≤ k) ∨ (k % 2 = 0 ∧ 2 ≤ k) ∨ (k % 2 = 0 ∧ ¬ 2 ≤ k)) with ⟨h1, h3⟩ | ⟨h1, h3, h4⟩ | ⟨h1, h3, h4⟩ | ⟨h1, h4⟩ | ⟨h1, h4⟩
  · rw [decide_eq_true (show k % 2 = 1 by omega), decide_eq_true h3]
    rw [h1] at hm
    have hd : (t == 1) = true := by simpa using h3
    clear h1 h3
    go_enter Try.func19, Try.ntmps19
    go_upto_region 2 with (first
      | (go_at_call 24; refine hF.mono ?_; rintro e w2 ⟨u, rfl, ⟨g, rfl, hg, hr⟩, hb⟩; have q0 := rowB_below k0 hb (rowB_lt k0); have q1 := rowB_below k1 hb (rowB_lt k1); rw [sW] at hg; have bX := bW.trans (hb.mono bW.size)))
    replace hr : rowB w2 g 3 #[.int .i64 d, .int .i64 c, .int .i64 r, .int .i64 t, .int .i64 o, .int .i64 k, .int .i64 n, .int .i64 f] := hr
    obtain ⟨w3, rfl⟩ : ∃ w3, w3 = w2 := ⟨_, rfl⟩
    clear hb hF k0 k1 bW sW h2
    have hk := rowB_cell q0 1 (v := .int .i64 5) rfl
    have e0 := rowB_cell hr 0 (v := .int .i64 (d)) rfl
    have z0 := rowB_free hr 0
    have e1 := rowB_cell hr 1 (v := .int .i64 (c)) rfl
    have z1 := rowB_free hr 1
    have e2 := rowB_cell hr 2 (v := .int .i64 (r)) rfl
    have z2 := rowB_free hr 2
    have e3 := rowB_cell hr 3 (v := .int .i64 (t)) rfl
    have z3 := rowB_free hr 3
    have e4 := rowB_cell hr 4 (v := .int .i64 (o)) rfl
    have z4 := rowB_free hr 4
    have e5 := rowB_cell hr 5 (v := .int .i64 (k)) rfl
    have z5 := rowB_free hr 5
    have e6 := rowB_cell hr 6 (v := .int .i64 (n)) rfl
    have z6 := rowB_free hr 6
    have e7 := rowB_cell hr 7 (v := .int .i64 (f)) rfl
    have z7 := rowB_free hr 7
    go_wp2_with fail
    go_ret
    exact ⟨rfl, bX⟩
  · rw [decide_eq_true (show k % 2 = 1 by omega), decide_eq_false h3, decide_eq_true h4]
    rw [h1] at hm
    have hd2 : decide (2 ≤ k) = true := decide_eq_true h4
    have hd : (t == 1) = false := by simpa using h3
    clear h1 h3 h4
    have hB0 : (c == 0) = decide (c = 0) := rfl
    obtain ⟨B, hB⟩ : ∃ B, decide (c = 0) = B := ⟨_, rfl⟩
    rw [hB] at hB0
    rw [hB]
    clear hB
    go_enter Try.func19, Try.ntmps19
    go_upto_region 2 with (first
      | (go_at_call 24; refine hF.mono ?_; rintro e w2 ⟨u, rfl, ⟨g, rfl, hg, hr⟩, hb⟩; have q0 := rowB_below k0 hb (rowB_lt k0); have q1 := rowB_below k1 hb (rowB_lt k1); rw [sW] at hg; have bX := bW.trans (hb.mono bW.size)))
    replace hr : rowB w2 g 3 #[.int .i64 d, .int .i64 c, .int .i64 r, .int .i64 t, .int .i64 o, .int .i64 k, .int .i64 n, .int .i64 f] := hr
    obtain ⟨w3, rfl⟩ : ∃ w3, w3 = w2 := ⟨_, rfl⟩
    clear hb hF k0 k1 bW sW h2
    have hk := rowB_cell q0 1 (v := .int .i64 5) rfl
    have e0 := rowB_cell hr 0 (v := .int .i64 (d)) rfl
    have z0 := rowB_free hr 0
    have e1 := rowB_cell hr 1 (v := .int .i64 (c)) rfl
    have z1 := rowB_free hr 1
    have e2 := rowB_cell hr 2 (v := .int .i64 (r)) rfl
    have z2 := rowB_free hr 2
    have e3 := rowB_cell hr 3 (v := .int .i64 (t)) rfl
    have z3 := rowB_free hr 3
    have e4 := rowB_cell hr 4 (v := .int .i64 (o)) rfl
    have z4 := rowB_free hr 4
    have e5 := rowB_cell hr 5 (v := .int .i64 (k)) rfl
    have z5 := rowB_free hr 5
    have e6 := rowB_cell hr 6 (v := .int .i64 (n)) rfl
    have z6 := rowB_free hr 6
    have e7 := rowB_cell hr 7 (v := .int .i64 (f)) rfl
    have z7 := rowB_free hr 7
    go_wp2_with fail
    go_ret
    exact ⟨rfl, bX⟩
  · rw [decide_eq_true (show k % 2 = 1 by omega), decide_eq_false h3, decide_eq_false h4]
    rw [h1] at hm
    have hd2 : decide (2 ≤ k) = false := decide_eq_false h4
    have hd : (t == 1) = false := by simpa using h3
    clear h1 h3 h4
    go_enter Try.func19, Try.ntmps19
    go_upto_region 2 with (first
      | (go_at_call 24; refine hF.mono ?_; rintro e w2 ⟨u, rfl, ⟨g, rfl, hg, hr⟩, hb⟩; have q0 := rowB_below k0 hb (rowB_lt k0); have q1 := rowB_below k1 hb (rowB_lt k1); rw [sW] at hg; have bX := bW.trans (hb.mono bW.size)))
    replace hr : rowB w2 g 3 #[.int .i64 d, .int .i64 c, .int .i64 r, .int .i64 t, .int .i64 o, .int .i64 k, .int .i64 n, .int .i64 f] := hr
    obtain ⟨w3, rfl⟩ : ∃ w3, w3 = w2 := ⟨_, rfl⟩
    clear hb hF k0 k1 bW sW h2
    have hk := rowB_cell q0 1 (v := .int .i64 5) rfl
    have e0 := rowB_cell hr 0 (v := .int .i64 (d)) rfl
    have z0 := rowB_free hr 0
    have e1 := rowB_cell hr 1 (v := .int .i64 (c)) rfl
    have z1 := rowB_free hr 1
    have e2 := rowB_cell hr 2 (v := .int .i64 (r)) rfl
    have z2 := rowB_free hr 2
    have e3 := rowB_cell hr 3 (v := .int .i64 (t)) rfl
    have z3 := rowB_free hr 3
    have e4 := rowB_cell hr 4 (v := .int .i64 (o)) rfl
    have z4 := rowB_free hr 4
    have e5 := rowB_cell hr 5 (v := .int .i64 (k)) rfl
    have z5 := rowB_free hr 5
    have e6 := rowB_cell hr 6 (v := .int .i64 (n)) rfl
    have z6 := rowB_free hr 6
    have e7 := rowB_cell hr 7 (v := .int .i64 (f)) rfl
    have z7 := rowB_free hr 7
    go_wp2_with fail
    go_ret
    exact ⟨rfl, bX⟩
  · rw [decide_eq_false (show ¬ k % 2 = 1 by omega), decide_eq_true h4]
    rw [h1] at hm
    have hd2 : decide (2 ≤ k) = true := decide_eq_true h4
    clear h1 h4
    have hB0 : (c == 0) = decide (c = 0) := rfl
    obtain ⟨B, hB⟩ : ∃ B, decide (c = 0) = B := ⟨_, rfl⟩
    rw [hB] at hB0
    rw [hB]
    clear hB
    go_enter Try.func19, Try.ntmps19
    go_upto_region 2 with (first
      | (go_at_call 24; refine hF.mono ?_; rintro e w2 ⟨u, rfl, ⟨g, rfl, hg, hr⟩, hb⟩; have q0 := rowB_below k0 hb (rowB_lt k0); have q1 := rowB_below k1 hb (rowB_lt k1); rw [sW] at hg; have bX := bW.trans (hb.mono bW.size)))
    replace hr : rowB w2 g 3 #[.int .i64 d, .int .i64 c, .int .i64 r, .int .i64 t, .int .i64 o, .int .i64 k, .int .i64 n, .int .i64 f] := hr
    obtain ⟨w3, rfl⟩ : ∃ w3, w3 = w2 := ⟨_, rfl⟩
    clear hb hF k0 k1 bW sW h2
    have hk := rowB_cell q0 1 (v := .int .i64 5) rfl
    have e0 := rowB_cell hr 0 (v := .int .i64 (d)) rfl
    have z0 := rowB_free hr 0
    have e1 := rowB_cell hr 1 (v := .int .i64 (c)) rfl
    have z1 := rowB_free hr 1
    have e2 := rowB_cell hr 2 (v := .int .i64 (r)) rfl
    have z2 := rowB_free hr 2
    have e3 := rowB_cell hr 3 (v := .int .i64 (t)) rfl
    have z3 := rowB_free hr 3
    have e4 := rowB_cell hr 4 (v := .int .i64 (o)) rfl
    have z4 := rowB_free hr 4
    have e5 := rowB_cell hr 5 (v := .int .i64 (k)) rfl
    have z5 := rowB_free hr 5
    have e6 := rowB_cell hr 6 (v := .int .i64 (n)) rfl
    have z6 := rowB_free hr 6
    have e7 := rowB_cell hr 7 (v := .int .i64 (f)) rfl
    have z7 := rowB_free hr 7
    go_wp2_with fail
    go_ret
    exact ⟨rfl, bX⟩
  · rw [decide_eq_false (show ¬ k % 2 = 1 by omega), decide_eq_false h4]
    rw [h1] at hm
    have hd2 : decide (2 ≤ k) = false := decide_eq_false h4
    clear h1 h4
    go_enter Try.func19, Try.ntmps19
    go_upto_region 2 with (first
      | (go_at_call 24; refine hF.mono ?_; rintro e w2 ⟨u, rfl, ⟨g, rfl, hg, hr⟩, hb⟩; have q0 := rowB_below k0 hb (rowB_lt k0); have q1 := rowB_below k1 hb (rowB_lt k1); rw [sW] at hg; have bX := bW.trans (hb.mono bW.size)))
    replace hr : rowB w2 g 3 #[.int .i64 d, .int .i64 c, .int .i64 r, .int .i64 t, .int .i64 o, .int .i64 k, .int .i64 n, .int .i64 f] := hr
    obtain ⟨w3, rfl⟩ : ∃ w3, w3 = w2 := ⟨_, rfl⟩
    clear hb hF k0 k1 bW sW h2
    have hk := rowB_cell q0 1 (v := .int .i64 5) rfl
    have e0 := rowB_cell hr 0 (v := .int .i64 (d)) rfl
    have z0 := rowB_free hr 0
    have e1 := rowB_cell hr 1 (v := .int .i64 (c)) rfl
    have z1 := rowB_free hr 1
    have e2 := rowB_cell hr 2 (v := .int .i64 (r)) rfl
    have z2 := rowB_free hr 2
    have e3 := rowB_cell hr 3 (v := .int .i64 (t)) rfl
    have z3 := rowB_free hr 3
    have e4 := rowB_cell hr 4 (v := .int .i64 (o)) rfl
    have z4 := rowB_free hr 4
    have e5 := rowB_cell hr 5 (v := .int .i64 (k)) rfl
    have z5 := rowB_free hr 5
    have e6 := rowB_cell hr 6 (v := .int .i64 (n)) rfl
    have z6 := rowB_free hr 6
    have e7 := rowB_cell hr 7 (v := .int .i64 (f)) rfl
    have z7 := rowB_free hr 7
    go_wp2_with fail
    go_ret
    exact ⟨rfl, bX⟩
set_option maxHeartbeats 1000000 in
theorem restsSer_any (nm : ByteArray) (b z : Int) (dat v vm : Value) (l : List Int) (w : World) (h : isArg w v l) :
    Calls Try.prog 23 #[.agg (chip5 nm 5 b z dat), .agg #[v, vm]] w fun e w' => e = .returned (.int .i64 (Sr.of l).next) ∧ Below w.heap.size w w' := by
  obtain ⟨k0, k1, bW, sW⟩ := boxes2 w (.cells #[.string nm, .int .i64 5, .int .i64 b, .int .i64 z, dat] 27) (.cells #[v, vm] 25)
  have k0 : rowB _ _ _ _ := k0
  have k1 : rowB _ _ _ _ := k1
  have h2 := isArg_below h bW (Nat.le_refl _)
  have hF := formedSer_any nm b z dat v vm l _ h2
  rw [fmSer] at hF
  have hfit := Sr.of_fit l
  generalize Sr.of l = s at *
  obtain ⟨d, c, r, t, o, k, n, f⟩ := s
  obtain ⟨⟨b0, B0⟩, ⟨b1, B1⟩, ⟨b2, B2⟩, ⟨b3, B3⟩, ⟨b4, B4⟩, ⟨b5, B5⟩, ⟨b6, B6⟩, ⟨b7, B7⟩⟩ := hfit
  dsimp only [Sr.ns, chip5] at *
  by_cases hc : 0 < c
  · have e : (⟨d, c, r, t, o, k, n, f⟩ : Sr).next = c - 1 := by exact if_pos hc
    rw [e]
    clear e
    have hd : decide (0 < c) = true := decide_eq_true hc
    clear hc
    have hw : wrap64 (c - 1) = c - 1 := IntWalk.wrap64_in _ (by omega)
    go_enter Try.func23, Try.ntmps23
    go_upto_region 2 with (first
      | (go_at_call 24; refine hF.mono ?_; rintro e w2 ⟨u, rfl, ⟨g, rfl, hg, hr⟩, hb⟩; have q0 := rowB_below k0 hb (rowB_lt k0); have q1 := rowB_below k1 hb (rowB_lt k1); rw [sW] at hg; have bX := bW.trans (hb.mono bW.size))
      | (refine wpList_storeR rfl 25 _ _ rfl (w.heap.size + 1) rfl #[.slice (some ⟨g, 0, none⟩) 8 8, .slice none 0 0] rfl (dev2_one _ _ _ _ _ _) 25 #[v, vm] rfl ?_ agDv ?_; with_reducible exact q1))
    replace hr : rowB w2 g 3 #[.int .i64 d, .int .i64 c, .int .i64 r, .int .i64 t, .int .i64 o, .int .i64 k, .int .i64 n, .int .i64 f] := hr
    replace q0 := rowB_row_other q0 #[.slice (some ⟨g, 0, none⟩) 8 8, .slice none 0 0] (show w.heap.size + 1 ≠ w.heap.size by omega)
    replace hr := rowB_row_other hr #[.slice (some ⟨g, 0, none⟩) 8 8, .slice none 0 0] (show w.heap.size + 1 ≠ g by omega)
    replace q1 := rowB_row q1 #[.slice (some ⟨g, 0, none⟩) 8 8, .slice none 0 0]
    replace bX := below_rowR bX #[.slice (some ⟨g, 0, none⟩) 8 8, .slice none 0 0] (show w.heap.size ≤ w.heap.size + 1 by omega)
    generalize w2.setRow (w.heap.size + 1) #[.slice (some ⟨g, 0, none⟩) 8 8, .slice none 0 0] = w3 at *
    clear hb hF k0 k1 bW sW h2
    have hk := rowB_cell q0 1 (v := .int .i64 5) rfl
    obtain ⟨d0, d1, y0, y1⟩ := dcells2 q1
    have e0 := rowB_cell hr 0 (v := .int .i64 (d)) rfl
    have z0 := rowB_free hr 0
    have e1 := rowB_cell hr 1 (v := .int .i64 (c)) rfl
    have z1 := rowB_free hr 1
    have e2 := rowB_cell hr 2 (v := .int .i64 (r)) rfl
    have z2 := rowB_free hr 2
    have e3 := rowB_cell hr 3 (v := .int .i64 (t)) rfl
    have z3 := rowB_free hr 3
    have e4 := rowB_cell hr 4 (v := .int .i64 (o)) rfl
    have z4 := rowB_free hr 4
    have e5 := rowB_cell hr 5 (v := .int .i64 (k)) rfl
    have z5 := rowB_free hr 5
    have e6 := rowB_cell hr 6 (v := .int .i64 (n)) rfl
    have z6 := rowB_free hr 6
    have e7 := rowB_cell hr 7 (v := .int .i64 (f)) rfl
    have z7 := rowB_free hr 7
    go_wp2_with fail
    go_ret
    exact ⟨rfl, bX⟩
  · have e : (⟨d, c, r, t, o, k, n, f⟩ : Sr).next = 100000 := by exact if_neg hc
    rw [e]
    clear e
    have hd : decide (0 < c) = false := decide_eq_false hc
    clear hc
    go_enter Try.func23, Try.ntmps23
    go_upto_region 2 with (first
      | (go_at_call 24; refine hF.mono ?_; rintro e w2 ⟨u, rfl, ⟨g, rfl, hg, hr⟩, hb⟩; have q0 := rowB_below k0 hb (rowB_lt k0); have q1 := rowB_below k1 hb (rowB_lt k1); rw [sW] at hg; have bX := bW.trans (hb.mono bW.size))
      | (refine wpList_storeR rfl 25 _ _ rfl (w.heap.size + 1) rfl #[.slice (some ⟨g, 0, none⟩) 8 8, .slice none 0 0] rfl (dev2_one _ _ _ _ _ _) 25 #[v, vm] rfl ?_ agDv ?_; with_reducible exact q1))
    replace hr : rowB w2 g 3 #[.int .i64 d, .int .i64 c, .int .i64 r, .int .i64 t, .int .i64 o, .int .i64 k, .int .i64 n, .int .i64 f] := hr
    replace q0 := rowB_row_other q0 #[.slice (some ⟨g, 0, none⟩) 8 8, .slice none 0 0] (show w.heap.size + 1 ≠ w.heap.size by omega)
    replace hr := rowB_row_other hr #[.slice (some ⟨g, 0, none⟩) 8 8, .slice none 0 0] (show w.heap.size + 1 ≠ g by omega)
    replace q1 := rowB_row q1 #[.slice (some ⟨g, 0, none⟩) 8 8, .slice none 0 0]
    replace bX := below_rowR bX #[.slice (some ⟨g, 0, none⟩) 8 8, .slice none 0 0] (show w.heap.size ≤ w.heap.size + 1 by omega)
    generalize w2.setRow (w.heap.size + 1) #[.slice (some ⟨g, 0, none⟩) 8 8, .slice none 0 0] = w3 at *
    clear hb hF k0 k1 bW sW h2
    have hk := rowB_cell q0 1 (v := .int .i64 5) rfl
    obtain ⟨d0, d1, y0, y1⟩ := dcells2 q1
    have e0 := rowB_cell hr 0 (v := .int .i64 (d)) rfl
    have z0 := rowB_free hr 0
    have e1 := rowB_cell hr 1 (v := .int .i64 (c)) rfl
    have z1 := rowB_free hr 1
    have e2 := rowB_cell hr 2 (v := .int .i64 (r)) rfl
    have z2 := rowB_free hr 2
    have e3 := rowB_cell hr 3 (v := .int .i64 (t)) rfl
    have z3 := rowB_free hr 3
    have e4 := rowB_cell hr 4 (v := .int .i64 (o)) rfl
    have z4 := rowB_free hr 4
    have e5 := rowB_cell hr 5 (v := .int .i64 (k)) rfl
    have z5 := rowB_free hr 5
    have e6 := rowB_cell hr 6 (v := .int .i64 (n)) rfl
    have z6 := rowB_free hr 6
    have e7 := rowB_cell hr 7 (v := .int .i64 (f)) rfl
    have z7 := rowB_free hr 7
    go_wp2_with fail
    go_ret
    exact ⟨rfl, bX⟩
set_option maxHeartbeats 1000000 in
theorem storedSer_any (nm : ByteArray) (b z : Int) (dat v vm : Value) (l : List Int) (a x : Int) (w : World) (h : isArg w v l) :
    Calls Try.prog 15 #[.agg (chip5 nm 5 b z dat), .agg #[v, vm], .int .i64 a, .int .i64 x] w fun e w' => ∃ u, e = .returned u ∧ devO w.heap.size w' u ((Sr.of l).write a x).ns ∧ Below w.heap.size w w' := by
  obtain ⟨k0, k1, k2, bW, sW⟩ := boxes3 w (.cells #[.string nm, .int .i64 5, .int .i64 b, .int .i64 z, dat] 27) (.cells #[v, vm] 25) (.cells #[.slice none 0 0, .slice none 0 0] 25)
  have k0 : rowB _ _ _ _ := k0
  have k1 : rowB _ _ _ _ := k1
  have k2 : rowB _ _ _ _ := k2
  have h2 := isArg_below h bW (Nat.le_refl _)
  have hF := formedSer_any nm b z dat v vm l _ h2
  rw [fmSer] at hF
  have hfit := Sr.of_fit l
  generalize Sr.of l = s at *
  obtain ⟨d, c, r, t, o, k, n, f⟩ := s
  obtain ⟨⟨b0, B0⟩, ⟨b1, B1⟩, ⟨b2, B2⟩, ⟨b3, B3⟩, ⟨b4, B4⟩, ⟨b5, B5⟩, ⟨b6, B6⟩, ⟨b7, B7⟩⟩ := hfit
  dsimp only [Sr.ns, chip5] at *
  have hM := fun w => modR_any x 256 (by decide) (by decide) w
  obtain ⟨L, hL⟩ : ∃ L, x % 256 = L := ⟨_, rfl⟩
  have hL8 : lo x 8 = L := hL
  have hL0 : 0 ≤ L := by omega
  have hL2 : lo x 2 = L % 4 := by unfold lo; show x % 4 = _; omega
  have hL4 : L.tmod 4 = L % 4 := Int.tmod_eq_emod_of_nonneg hL0
  rw [hL] at hM
  clear hL hL0
  rcases (by omega : (a = 0 ∧ 0 < c) ∨ (a = 0 ∧ c = 0) ∨ a = 2 ∨ (a ≠ 0 ∧ a ≠ 2)) with ⟨rfl, hc⟩ | ⟨rfl, hc⟩ | rfl | ⟨n0, n2⟩
  · have e : (⟨d, c, r, t, o, k, n, f⟩ : Sr).write 0 x = ⟨d, c, r, t, o, k, n, f⟩ := by exact if_pos hc
    rw [e]
    clear e
    have hd : (c == 0) = false := by simp; omega
    clear hc
    clear hL8 hL2
    go_enter Try.func15, Try.ntmps15
    go_upto_region 2 with (first
      | (go_at_call 24; refine hF.mono ?_; rintro e w2 ⟨u, rfl, ⟨g, rfl, hg, hr⟩, hb⟩; have q0 := rowB_below k0 hb (rowB_lt k0); have q1 := rowB_below k1 hb (rowB_lt k1); have q2 := rowB_below k2 hb (rowB_lt k2); rw [sW] at hg; have bX := bW.trans (hb.mono bW.size))
      | (refine wpList_storeR rfl 25 _ _ rfl (w.heap.size + 1) rfl #[.slice (some ⟨g, 0, none⟩) 8 8, .slice none 0 0] rfl (dev2_one _ _ _ _ _ _) 25 #[v, vm] rfl ?_ agDv ?_; with_reducible exact q1))
    replace hr : rowB w2 g 3 #[.int .i64 d, .int .i64 c, .int .i64 r, .int .i64 t, .int .i64 o, .int .i64 k, .int .i64 n, .int .i64 f] := hr
    replace q0 := rowB_row_other q0 #[.slice (some ⟨g, 0, none⟩) 8 8, .slice none 0 0] (show w.heap.size + 1 ≠ w.heap.size by omega)
    replace q2 := rowB_row_other q2 #[.slice (some ⟨g, 0, none⟩) 8 8, .slice none 0 0] (show w.heap.size + 1 ≠ w.heap.size + 2 by omega)
    replace hr := rowB_row_other hr #[.slice (some ⟨g, 0, none⟩) 8 8, .slice none 0 0] (show w.heap.size + 1 ≠ g by omega)
    replace q1 := rowB_row q1 #[.slice (some ⟨g, 0, none⟩) 8 8, .slice none 0 0]
    replace bX := below_rowR bX #[.slice (some ⟨g, 0, none⟩) 8 8, .slice none 0 0] (show w.heap.size ≤ w.heap.size + 1 by omega)
    generalize w2.setRow (w.heap.size + 1) #[.slice (some ⟨g, 0, none⟩) 8 8, .slice none 0 0] = w3 at *
    clear hb hF k0 k1 k2 bW sW h2
    have hk := rowB_cell q0 1 (v := .int .i64 5) rfl
    obtain ⟨d0, d1, y0, y1⟩ := dcells2 q1
    have e0 := rowB_cell hr 0 (v := .int .i64 (d)) rfl
    have z0 := rowB_free hr 0
    have e1 := rowB_cell hr 1 (v := .int .i64 (c)) rfl
    have z1 := rowB_free hr 1
    have e2 := rowB_cell hr 2 (v := .int .i64 (r)) rfl
    have z2 := rowB_free hr 2
    have e3 := rowB_cell hr 3 (v := .int .i64 (t)) rfl
    have z3 := rowB_free hr 3
    have e4 := rowB_cell hr 4 (v := .int .i64 (o)) rfl
    have z4 := rowB_free hr 4
    have e5 := rowB_cell hr 5 (v := .int .i64 (k)) rfl
    have z5 := rowB_free hr 5
    have e6 := rowB_cell hr 6 (v := .int .i64 (n)) rfl
    have z6 := rowB_free hr 6
    have e7 := rowB_cell hr 7 (v := .int .i64 (f)) rfl
    have z7 := rowB_free hr 7
    go_wp2_with fail
    go_quiet ((go_at_call 40; exact quiet_left (hM _)))
    have r1 := (rowB_below q1 (below_drewN w3 nq _) (rowB_lt q1))
    have r2 := (rowB_below q2 (below_drewN w3 nq _) (rowB_lt q2))
    have rg : rowB _ g 3 #[.int .i64 (d), .int .i64 (c), .int .i64 (r), .int .i64 (t), .int .i64 (o), .int .i64 (k), .int .i64 (n), .int .i64 (f)] := (rowB_below hr (below_drewN w3 nq _) (rowB_lt hr))
    have bY := (bX.trans ((below_drewN w3 nq _).mono bX.size))
    go_wp2_with (first
      | (refine wpList_loadR rfl 25 _ rfl (w.heap.size + 1) rfl 25 #[.slice (some ⟨g, 0, none⟩) 8 8, .slice none 0 0] ?_ agDv ?_; with_reducible exact r1)
      | (refine wpList_storeR rfl 25 _ _ rfl (w.heap.size + 2) rfl #[.slice (some ⟨g, 0, none⟩) 8 8, .slice none 0 0] rfl (dev2_one _ _ _ _ _ _) 25 #[.slice none 0 0, .slice none 0 0] rfl ?_ agDv ?_; with_reducible exact r2))
    refine bodyPost_ret (resultsR rfl (w.heap.size + 2) _ rfl (rowB_row r2 _) agDv) rfl ?_
    exact ⟨_, rfl, ⟨g, rfl, by omega, rowB_row_other rg _ (by omega)⟩, below_rowR bY _ (by omega)⟩
  · have e : (⟨d, c, r, t, o, k, n, f⟩ : Sr).write 0 x = ⟨L, 40, r, t, o, k, n, f⟩ := by unfold Sr.write; rw [if_pos rfl, if_neg (by show ¬ 0 < c; omega), hL8]
    rw [e]
    clear e
    have hd : (c == 0) = true := by simpa using hc
    clear hc
    clear hL8 hL2
    go_enter Try.func15, Try.ntmps15
    go_upto_region 2 with (first
      | (go_at_call 24; refine hF.mono ?_; rintro e w2 ⟨u, rfl, ⟨g, rfl, hg, hr⟩, hb⟩; have q0 := rowB_below k0 hb (rowB_lt k0); have q1 := rowB_below k1 hb (rowB_lt k1); have q2 := rowB_below k2 hb (rowB_lt k2); rw [sW] at hg; have bX := bW.trans (hb.mono bW.size))
      | (refine wpList_storeR rfl 25 _ _ rfl (w.heap.size + 1) rfl #[.slice (some ⟨g, 0, none⟩) 8 8, .slice none 0 0] rfl (dev2_one _ _ _ _ _ _) 25 #[v, vm] rfl ?_ agDv ?_; with_reducible exact q1))
    replace hr : rowB w2 g 3 #[.int .i64 d, .int .i64 c, .int .i64 r, .int .i64 t, .int .i64 o, .int .i64 k, .int .i64 n, .int .i64 f] := hr
    replace q0 := rowB_row_other q0 #[.slice (some ⟨g, 0, none⟩) 8 8, .slice none 0 0] (show w.heap.size + 1 ≠ w.heap.size by omega)
    replace q2 := rowB_row_other q2 #[.slice (some ⟨g, 0, none⟩) 8 8, .slice none 0 0] (show w.heap.size + 1 ≠ w.heap.size + 2 by omega)
    replace hr := rowB_row_other hr #[.slice (some ⟨g, 0, none⟩) 8 8, .slice none 0 0] (show w.heap.size + 1 ≠ g by omega)
    replace q1 := rowB_row q1 #[.slice (some ⟨g, 0, none⟩) 8 8, .slice none 0 0]
    replace bX := below_rowR bX #[.slice (some ⟨g, 0, none⟩) 8 8, .slice none 0 0] (show w.heap.size ≤ w.heap.size + 1 by omega)
    generalize w2.setRow (w.heap.size + 1) #[.slice (some ⟨g, 0, none⟩) 8 8, .slice none 0 0] = w3 at *
    clear hb hF k0 k1 k2 bW sW h2
    have hk := rowB_cell q0 1 (v := .int .i64 5) rfl
    obtain ⟨d0, d1, y0, y1⟩ := dcells2 q1
    have e0 := rowB_cell hr 0 (v := .int .i64 (d)) rfl
    have z0 := rowB_free hr 0
    have e1 := rowB_cell hr 1 (v := .int .i64 (c)) rfl
    have z1 := rowB_free hr 1
    have e2 := rowB_cell hr 2 (v := .int .i64 (r)) rfl
    have z2 := rowB_free hr 2
    have e3 := rowB_cell hr 3 (v := .int .i64 (t)) rfl
    have z3 := rowB_free hr 3
    have e4 := rowB_cell hr 4 (v := .int .i64 (o)) rfl
    have z4 := rowB_free hr 4
    have e5 := rowB_cell hr 5 (v := .int .i64 (k)) rfl
    have z5 := rowB_free hr 5
    have e6 := rowB_cell hr 6 (v := .int .i64 (n)) rfl
    have z6 := rowB_free hr 6
    have e7 := rowB_cell hr 7 (v := .int .i64 (f)) rfl
    have z7 := rowB_free hr 7
    go_wp2_with fail
    go_quiet ((go_at_call 40; exact quiet_left (hM _)))
    have r1 := (rowB_other (rowB_other (rowB_below q1 (below_drewN w3 nq _) (rowB_lt q1)) ⟨g, 0, none⟩ (.int .i64 (L)) (show g ≠ _ by omega)) ⟨g, 1, none⟩ (.int .i64 (40)) (show g ≠ _ by omega))
    have r2 := (rowB_other (rowB_other (rowB_below q2 (below_drewN w3 nq _) (rowB_lt q2)) ⟨g, 0, none⟩ (.int .i64 (L)) (show g ≠ _ by omega)) ⟨g, 1, none⟩ (.int .i64 (40)) (show g ≠ _ by omega))
    have rg : rowB _ g 3 #[.int .i64 (L), .int .i64 (40), .int .i64 (r), .int .i64 (t), .int .i64 (o), .int .i64 (k), .int .i64 (n), .int .i64 (f)] := (rowB_set (rowB_set (rowB_below hr (below_drewN w3 nq _) (rowB_lt hr)) 0 (.int .i64 (L))) 1 (.int .i64 (40)))
    have bY := (Below.setCell (Below.setCell (bX.trans ((below_drewN w3 nq _).mono bX.size)) (p := ⟨g, 0, none⟩) (show w.heap.size ≤ g by omega) (.int .i64 (L))) (p := ⟨g, 1, none⟩) (show w.heap.size ≤ g by omega) (.int .i64 (40)))
    go_wp2_with (first
      | (refine wpList_loadR rfl 25 _ rfl (w.heap.size + 1) rfl 25 #[.slice (some ⟨g, 0, none⟩) 8 8, .slice none 0 0] ?_ agDv ?_; with_reducible exact r1)
      | (refine wpList_storeR rfl 25 _ _ rfl (w.heap.size + 2) rfl #[.slice (some ⟨g, 0, none⟩) 8 8, .slice none 0 0] rfl (dev2_one _ _ _ _ _ _) 25 #[.slice none 0 0, .slice none 0 0] rfl ?_ agDv ?_; with_reducible exact r2))
    refine bodyPost_ret (resultsR rfl (w.heap.size + 2) _ rfl (rowB_row r2 _) agDv) rfl ?_
    exact ⟨_, rfl, ⟨g, rfl, by omega, rowB_row_other rg _ (by omega)⟩, below_rowR bY _ (by omega)⟩
  · have e : (⟨d, c, r, t, o, k, n, f⟩ : Sr).write 2 x = ⟨d, c, r, t, o, L % 4, n, f⟩ := by unfold Sr.write; rw [if_neg (by decide), if_pos rfl, hL2]
    rw [e]
    clear e
    clear hL8 hL2
    go_enter Try.func15, Try.ntmps15
    go_upto_region 2 with (first
      | (go_at_call 24; refine hF.mono ?_; rintro e w2 ⟨u, rfl, ⟨g, rfl, hg, hr⟩, hb⟩; have q0 := rowB_below k0 hb (rowB_lt k0); have q1 := rowB_below k1 hb (rowB_lt k1); have q2 := rowB_below k2 hb (rowB_lt k2); rw [sW] at hg; have bX := bW.trans (hb.mono bW.size))
      | (refine wpList_storeR rfl 25 _ _ rfl (w.heap.size + 1) rfl #[.slice (some ⟨g, 0, none⟩) 8 8, .slice none 0 0] rfl (dev2_one _ _ _ _ _ _) 25 #[v, vm] rfl ?_ agDv ?_; with_reducible exact q1))
    replace hr : rowB w2 g 3 #[.int .i64 d, .int .i64 c, .int .i64 r, .int .i64 t, .int .i64 o, .int .i64 k, .int .i64 n, .int .i64 f] := hr
    replace q0 := rowB_row_other q0 #[.slice (some ⟨g, 0, none⟩) 8 8, .slice none 0 0] (show w.heap.size + 1 ≠ w.heap.size by omega)
    replace q2 := rowB_row_other q2 #[.slice (some ⟨g, 0, none⟩) 8 8, .slice none 0 0] (show w.heap.size + 1 ≠ w.heap.size + 2 by omega)
    replace hr := rowB_row_other hr #[.slice (some ⟨g, 0, none⟩) 8 8, .slice none 0 0] (show w.heap.size + 1 ≠ g by omega)
    replace q1 := rowB_row q1 #[.slice (some ⟨g, 0, none⟩) 8 8, .slice none 0 0]
    replace bX := below_rowR bX #[.slice (some ⟨g, 0, none⟩) 8 8, .slice none 0 0] (show w.heap.size ≤ w.heap.size + 1 by omega)
    generalize w2.setRow (w.heap.size + 1) #[.slice (some ⟨g, 0, none⟩) 8 8, .slice none 0 0] = w3 at *
    clear hb hF k0 k1 k2 bW sW h2
    have hk := rowB_cell q0 1 (v := .int .i64 5) rfl
    obtain ⟨d0, d1, y0, y1⟩ := dcells2 q1
    have e0 := rowB_cell hr 0 (v := .int .i64 (d)) rfl
    have z0 := rowB_free hr 0
    have e1 := rowB_cell hr 1 (v := .int .i64 (c)) rfl
    have z1 := rowB_free hr 1
    have e2 := rowB_cell hr 2 (v := .int .i64 (r)) rfl
    have z2 := rowB_free hr 2
    have e3 := rowB_cell hr 3 (v := .int .i64 (t)) rfl
    have z3 := rowB_free hr 3
    have e4 := rowB_cell hr 4 (v := .int .i64 (o)) rfl
    have z4 := rowB_free hr 4
    have e5 := rowB_cell hr 5 (v := .int .i64 (k)) rfl
    have z5 := rowB_free hr 5
    have e6 := rowB_cell hr 6 (v := .int .i64 (n)) rfl
    have z6 := rowB_free hr 6
    have e7 := rowB_cell hr 7 (v := .int .i64 (f)) rfl
    have z7 := rowB_free hr 7
    go_wp2_with fail
    go_quiet ((go_at_call 40; exact quiet_left (hM _)))
    have r1 := (rowB_other (rowB_below q1 (below_drewN w3 nq _) (rowB_lt q1)) ⟨g, 5, none⟩ (.int .i64 (L % 4)) (show g ≠ _ by omega))
    have r2 := (rowB_other (rowB_below q2 (below_drewN w3 nq _) (rowB_lt q2)) ⟨g, 5, none⟩ (.int .i64 (L % 4)) (show g ≠ _ by omega))
    have rg : rowB _ g 3 #[.int .i64 (d), .int .i64 (c), .int .i64 (r), .int .i64 (t), .int .i64 (o), .int .i64 (L % 4), .int .i64 (n), .int .i64 (f)] := (rowB_set (rowB_below hr (below_drewN w3 nq _) (rowB_lt hr)) 5 (.int .i64 (L % 4)))
    have bY := (Below.setCell (bX.trans ((below_drewN w3 nq _).mono bX.size)) (p := ⟨g, 5, none⟩) (show w.heap.size ≤ g by omega) (.int .i64 (L % 4)))
    go_wp2_with (first
      | (refine wpList_loadR rfl 25 _ rfl (w.heap.size + 1) rfl 25 #[.slice (some ⟨g, 0, none⟩) 8 8, .slice none 0 0] ?_ agDv ?_; with_reducible exact r1)
      | (refine wpList_storeR rfl 25 _ _ rfl (w.heap.size + 2) rfl #[.slice (some ⟨g, 0, none⟩) 8 8, .slice none 0 0] rfl (dev2_one _ _ _ _ _ _) 25 #[.slice none 0 0, .slice none 0 0] rfl ?_ agDv ?_; with_reducible exact r2))
    refine bodyPost_ret (resultsR rfl (w.heap.size + 2) _ rfl (rowB_row r2 _) agDv) rfl ?_
    exact ⟨_, rfl, ⟨g, rfl, by omega, rowB_row_other rg _ (by omega)⟩, below_rowR bY _ (by omega)⟩
  · have e : (⟨d, c, r, t, o, k, n, f⟩ : Sr).write a x = ⟨d, c, r, t, o, k, n, f⟩ := by unfold Sr.write; rw [if_neg n0, if_neg n2]
    rw [e]
    clear e
    have q0' : (a == 0) = false := by simpa using n0
    have q2' : (a == 2) = false := by simpa using n2
    clear n0 n2
    clear hL8 hL2
    go_enter Try.func15, Try.ntmps15
    go_upto_region 2 with (first
      | (go_at_call 24; refine hF.mono ?_; rintro e w2 ⟨u, rfl, ⟨g, rfl, hg, hr⟩, hb⟩; have q0 := rowB_below k0 hb (rowB_lt k0); have q1 := rowB_below k1 hb (rowB_lt k1); have q2 := rowB_below k2 hb (rowB_lt k2); rw [sW] at hg; have bX := bW.trans (hb.mono bW.size))
      | (refine wpList_storeR rfl 25 _ _ rfl (w.heap.size + 1) rfl #[.slice (some ⟨g, 0, none⟩) 8 8, .slice none 0 0] rfl (dev2_one _ _ _ _ _ _) 25 #[v, vm] rfl ?_ agDv ?_; with_reducible exact q1))
    replace hr : rowB w2 g 3 #[.int .i64 d, .int .i64 c, .int .i64 r, .int .i64 t, .int .i64 o, .int .i64 k, .int .i64 n, .int .i64 f] := hr
    replace q0 := rowB_row_other q0 #[.slice (some ⟨g, 0, none⟩) 8 8, .slice none 0 0] (show w.heap.size + 1 ≠ w.heap.size by omega)
    replace q2 := rowB_row_other q2 #[.slice (some ⟨g, 0, none⟩) 8 8, .slice none 0 0] (show w.heap.size + 1 ≠ w.heap.size + 2 by omega)
    replace hr := rowB_row_other hr #[.slice (some ⟨g, 0, none⟩) 8 8, .slice none 0 0] (show w.heap.size + 1 ≠ g by omega)
    replace q1 := rowB_row q1 #[.slice (some ⟨g, 0, none⟩) 8 8, .slice none 0 0]
    replace bX := below_rowR bX #[.slice (some ⟨g, 0, none⟩) 8 8, .slice none 0 0] (show w.heap.size ≤ w.heap.size + 1 by omega)
    generalize w2.setRow (w.heap.size + 1) #[.slice (some ⟨g, 0, none⟩) 8 8, .slice none 0 0] = w3 at *
    clear hb hF k0 k1 k2 bW sW h2
    have hk := rowB_cell q0 1 (v := .int .i64 5) rfl
    obtain ⟨d0, d1, y0, y1⟩ := dcells2 q1
    have e0 := rowB_cell hr 0 (v := .int .i64 (d)) rfl
    have z0 := rowB_free hr 0
    have e1 := rowB_cell hr 1 (v := .int .i64 (c)) rfl
    have z1 := rowB_free hr 1
    have e2 := rowB_cell hr 2 (v := .int .i64 (r)) rfl
    have z2 := rowB_free hr 2
    have e3 := rowB_cell hr 3 (v := .int .i64 (t)) rfl
    have z3 := rowB_free hr 3
    have e4 := rowB_cell hr 4 (v := .int .i64 (o)) rfl
    have z4 := rowB_free hr 4
    have e5 := rowB_cell hr 5 (v := .int .i64 (k)) rfl
    have z5 := rowB_free hr 5
    have e6 := rowB_cell hr 6 (v := .int .i64 (n)) rfl
    have z6 := rowB_free hr 6
    have e7 := rowB_cell hr 7 (v := .int .i64 (f)) rfl
    have z7 := rowB_free hr 7
    go_wp2_with fail
    go_quiet ((go_at_call 40; exact quiet_left (hM _)))
    have r1 := (rowB_below q1 (below_drewN w3 nq _) (rowB_lt q1))
    have r2 := (rowB_below q2 (below_drewN w3 nq _) (rowB_lt q2))
    have rg : rowB _ g 3 #[.int .i64 (d), .int .i64 (c), .int .i64 (r), .int .i64 (t), .int .i64 (o), .int .i64 (k), .int .i64 (n), .int .i64 (f)] := (rowB_below hr (below_drewN w3 nq _) (rowB_lt hr))
    have bY := (bX.trans ((below_drewN w3 nq _).mono bX.size))
    go_wp2_with (first
      | (refine wpList_loadR rfl 25 _ rfl (w.heap.size + 1) rfl 25 #[.slice (some ⟨g, 0, none⟩) 8 8, .slice none 0 0] ?_ agDv ?_; with_reducible exact r1)
      | (refine wpList_storeR rfl 25 _ _ rfl (w.heap.size + 2) rfl #[.slice (some ⟨g, 0, none⟩) 8 8, .slice none 0 0] rfl (dev2_one _ _ _ _ _ _) 25 #[.slice none 0 0, .slice none 0 0] rfl ?_ agDv ?_; with_reducible exact r2))
    refine bodyPost_ret (resultsR rfl (w.heap.size + 2) _ rfl (rowB_row r2 _) agDv) rfl ?_
    exact ⟨_, rfl, ⟨g, rfl, by omega, rowB_row_other rg _ (by omega)⟩, below_rowR bY _ (by omega)⟩
end Go.Proofs.Ytofodkilbigbdaa
