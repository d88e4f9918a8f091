/- What the reference says of ports. -/
import Derived.Test.YthhihmggaddlmaaChecked
import Derived.Test.YthhihmggaddlmaaDevForm
import Derived.Test.YthhihmggaddlmaaDevPick
import Derived.Test.YthhihmggaddlmaaDevR
import Derived.Test.YthhihmggaddlmaaPortMath
import Derived.Test.YthhihmggaddlmaaRegs
import Derived.Below
import Derived.BigQuiet
import Derived.ChangeMaps5
import Derived.Deep.DeepCutAuto
import Derived.Deep.Draws
import Derived.Deep.MidRow
import Derived.Deep.OwnRows
import Derived.Deep.QuietTactic
import Derived.Deep.RegionHeld3
import Derived.Deep.RegionWith
import Derived.Deep.Slices
import Derived.Deep.WholeRow
import Derived.Lib.Hide
import Derived.Lib.SmallJoins
import Derived.OpenShut
import Derived.OrdersHeld
import Derived.OwnWalk
import Derived.RowKit3
import Derived.StillTactics
import Derived.StillTail
import Derived.StillTailTactics
import Derived.WalkKit
namespace Go.Proofs.Ythhihmggaddlmaa
open Go.RowKit
set_option maxRecDepth 100000

theorem fmPort (l : List Int) : fmN l msPort 3 = (Pt.of l).ns := rfl
theorem freshPort_any (nm : ByteArray) (b z : Int) (dat : Value) (w : World) :
    Calls Try.prog 24 #[.agg (chip5 nm 4 b z dat)] w fun e w' => ∃ v, e = .returned v ∧ devO w.heap.size w' v [255, 0, 0] ∧ Below w.heap.size w w' := by
  obtain ⟨k0, k1, bW, sW⟩ := boxes2 w (.cells #[.string nm, .int .i64 4, .int .i64 b, .int .i64 z, dat] 53) (.cells #[.slice none 0 0, .slice none 0 0] 51)
  have k1 : rowB _ _ _ _ := k1
  have n2 := rowB_new ((w.alloc (.cells #[.string nm, .int .i64 4, .int .i64 b, .int .i64 z, dat] 53)).alloc (.cells #[.slice none 0 0, .slice none 0 0] 51)) 3 #[.int .i64 255, .int .i64 0, .int .i64 0]
  have r1 := rowB_alloc k1 (.cells #[.int .i64 255, .int .i64 0, .int .i64 0] 3)
  have bX := bW.alloc (by omega) (.cells #[.int .i64 255, .int .i64 0, .int .i64 0] 3)
  rw [sW] at n2
  dsimp only [chip5] at *
  go_enter Try.func24, Try.ntmps24
  go_wp2_with (refine wpList_storeR rfl 51 _ _ rfl (w.heap.size + 1) rfl #[.slice (some ⟨w.heap.size + 2, 0, none⟩) 3 3, .slice none 0 0] rfl (dev2_one _ _ _ _ _ _) 51 #[.slice none 0 0, .slice none 0 0] rfl ?_ agDv ?_; with_reducible exact r1)
  refine bodyPost_ret (resultsR rfl (w.heap.size + 1) _ rfl (rowB_row r1 _) agDv) rfl ?_
  exact ⟨_, rfl, ⟨w.heap.size + 2, rfl, by omega, rowB_row_other n2 _ (by omega)⟩, below_rowR bX _ (by omega)⟩
set_option maxHeartbeats 1000000 in
theorem givenPort_any (nm : ByteArray) (b z : Int) (dat v vm : Value) (l : List Int) (d : Int) (w : World) (h : isArg w v l) :
    Calls Try.prog 45 #[.agg (chip5 nm 4 b z dat), .agg #[v, vm], .int .i64 d] w fun e w' => ∃ u, e = .returned u ∧ devO w.heap.size w' u ((Pt.of l).inp d).ns ∧ Below w.heap.size w w' := by
  obtain ⟨k0, k1, k2, bW, sW⟩ := boxes3 w (.cells #[.string nm, .int .i64 4, .int .i64 b, .int .i64 z, dat] 53) (.cells #[v, vm] 51) (.cells #[.slice none 0 0, .slice none 0 0] 51)
  have k0 : rowB _ _ _ _ := k0
  have k1 : rowB _ _ _ _ := k1
  have k2 : rowB _ _ _ _ := k2
  have h2 := isArg_below h bW (Nat.le_refl _)
  have hF := formedPort_any nm b z dat v vm l _ h2
  rw [fmPort] at hF
  have hfit := Pt.of_fit l
  generalize Pt.of l = s at *
  obtain ⟨n, l', m⟩ := s
  obtain ⟨⟨b0, B0⟩, ⟨b1, B1⟩, ⟨b2, B2⟩⟩ := hfit
  dsimp only [Pt.ns, chip5] at *
  have hM := fun w => modR_any d 256 (by decide) (by decide) w
  show Calls _ _ _ _ fun e w' => ∃ u, e = .returned u ∧ devO w.heap.size w' u [d % 256, l', m] ∧ Below w.heap.size w w'
  generalize d % 256 = D at *
  go_enter Try.func45, Try.ntmps45
  go_upto_region 2 with (first
    | (go_at_call 33; refine hF.mono ?_; rintro e w2 ⟨u, rfl, ⟨g, rfl, hg, hr⟩, hb⟩; have q0 := rowB_below k0 hb (rowB_lt k0); have q1 := rowB_below k1 hb (rowB_lt k1); have q2 := rowB_below k2 hb (rowB_lt k2); rw [sW] at hg; have bX := bW.trans (hb.mono bW.size))
    | (refine wpList_storeR rfl 51 _ _ rfl (w.heap.size + 1) rfl #[.slice (some ⟨g, 0, none⟩) 3 3, .slice none 0 0] rfl (dev2_one _ _ _ _ _ _) 51 #[v, vm] rfl ?_ agDv ?_; with_reducible exact q1))
  replace hr : rowB w2 g 3 #[.int .i64 n, .int .i64 l', .int .i64 m] := hr
  replace q0 := rowB_row_other q0 #[.slice (some ⟨g, 0, none⟩) 3 3, .slice none 0 0] (show w.heap.size + 1 ≠ w.heap.size by omega)
  replace q2 := rowB_row_other q2 #[.slice (some ⟨g, 0, none⟩) 3 3, .slice none 0 0] (show w.heap.size + 1 ≠ w.heap.size + 2 by omega)
  replace hr := rowB_row_other hr #[.slice (some ⟨g, 0, none⟩) 3 3, .slice none 0 0] (show w.heap.size + 1 ≠ g by omega)
  replace q1 := rowB_row q1 #[.slice (some ⟨g, 0, none⟩) 3 3, .slice none 0 0]
  replace bX := below_rowR bX #[.slice (some ⟨g, 0, none⟩) 3 3, .slice none 0 0] (show w.heap.size ≤ w.heap.size + 1 by omega)
  generalize w2.setRow (w.heap.size + 1) #[.slice (some ⟨g, 0, none⟩) 3 3, .slice none 0 0] = w3 at *
  clear hb hF k0 k1 k2 bW sW h2
  have hk := rowB_cell q0 1 (v := .int .i64 4) rfl
  obtain ⟨d0, d1, y0, y1⟩ := dcells2 q1
  have e0 := rowB_cell hr 0 (v := .int .i64 (n)) rfl
  have z0 := rowB_free hr 0
  have e1 := rowB_cell hr 1 (v := .int .i64 (l')) rfl
  have z1 := rowB_free hr 1
  have e2 := rowB_cell hr 2 (v := .int .i64 (m)) rfl
  have z2 := rowB_free hr 2
  have r1 := (rowB_other q1 ⟨g, 0, none⟩ (.int .i64 (D)) (show g ≠ _ by omega))
  have r2 := (rowB_other q2 ⟨g, 0, none⟩ (.int .i64 (D)) (show g ≠ _ by omega))
  have rg : rowB _ g 3 #[.int .i64 (D), .int .i64 (l'), .int .i64 (m)] := (rowB_set hr 0 (.int .i64 (D)))
  have bY := (Below.setCell bX (p := ⟨g, 0, none⟩) (show w.heap.size ≤ g by omega) (.int .i64 (D)))
  go_wp2_with (first
    | (go_at_call 14; refine (hM _).mono ?_; rintro e w' ⟨rfl, rfl⟩)
    | (refine wpList_loadR rfl 51 _ rfl (w.heap.size + 1) rfl 51 #[.slice (some ⟨g, 0, none⟩) 3 3, .slice none 0 0] ?_ agDv ?_; with_reducible exact r1)
    | (refine wpList_storeR rfl 51 _ _ rfl (w.heap.size + 2) rfl #[.slice (some ⟨g, 0, none⟩) 3 3, .slice none 0 0] rfl (dev2_one _ _ _ _ _ _) 51 #[.slice none 0 0, .slice none 0 0] rfl ?_ agDv ?_; with_reducible exact r2))
  refine bodyPost_ret (resultsR rfl (w.heap.size + 2) _ rfl (rowB_row r2 _) agDv) rfl ?_
  exact ⟨_, rfl, ⟨g, rfl, by omega, rowB_row_other rg _ (by omega)⟩, below_rowR bY _ (by omega)⟩
theorem showsPort_any (nm : ByteArray) (b z : Int) (dat v vm : Value) (l : List Int) (w : World) (h : isArg w v l) :
    Calls Try.prog 47 #[.agg (chip5 nm 4 b z dat), .agg #[v, vm]] w fun e w' => e = .returned (.int .i64 (Pt.of l).drv) ∧ Below w.heap.size w w' := by
  obtain ⟨k0, k1, bW, sW⟩ := boxes2 w (.cells #[.string nm, .int .i64 4, .int .i64 b, .int .i64 z, dat] 53) (.cells #[v, vm] 51)
  have k0 : rowB _ _ _ _ := k0
  have k1 : rowB _ _ _ _ := k1
  have h2 := isArg_below h bW (Nat.le_refl _)
  have hF := formedPort_any nm b z dat v vm l _ h2
  rw [fmPort] at hF
  have hfit := Pt.of_fit l
  generalize Pt.of l = s at *
  obtain ⟨n, l', m⟩ := s
  obtain ⟨⟨b0, B0⟩, ⟨b1, B1⟩, ⟨b2, B2⟩⟩ := hfit
  dsimp only [Pt.ns, chip5] at *
  obtain ⟨R, hR⟩ : ∃ R, bits .and .i64 l' m = R := ⟨_, rfl⟩
  show Calls _ _ _ _ fun e w' => e = .returned (.int .i64 (bits .and .i64 l' m)) ∧ _
  rw [hR]
  go_enter Try.func47, Try.ntmps47
  go_upto_region 2 with (first
    | (go_at_call 33; refine hF.mono ?_; rintro e w2 ⟨u, rfl, ⟨g, rfl, hg, hr⟩, hb⟩; have q0 := rowB_below k0 hb (rowB_lt k0); have q1 := rowB_below k1 hb (rowB_lt k1); rw [sW] at hg; have bX := bW.trans (hb.mono bW.size))
    | (refine wpList_storeR rfl 51 _ _ rfl (w.heap.size + 1) rfl #[.slice (some ⟨g, 0, none⟩) 3 3, .slice none 0 0] rfl (dev2_one _ _ _ _ _ _) 51 #[v, vm] rfl ?_ agDv ?_; with_reducible exact q1))
  replace hr : rowB w2 g 3 #[.int .i64 n, .int .i64 l', .int .i64 m] := hr
  replace q0 := rowB_row_other q0 #[.slice (some ⟨g, 0, none⟩) 3 3, .slice none 0 0] (show w.heap.size + 1 ≠ w.heap.size by omega)
  replace hr := rowB_row_other hr #[.slice (some ⟨g, 0, none⟩) 3 3, .slice none 0 0] (show w.heap.size + 1 ≠ g by omega)
  replace q1 := rowB_row q1 #[.slice (some ⟨g, 0, none⟩) 3 3, .slice none 0 0]
  replace bX := below_rowR bX #[.slice (some ⟨g, 0, none⟩) 3 3, .slice none 0 0] (show w.heap.size ≤ w.heap.size + 1 by omega)
  generalize w2.setRow (w.heap.size + 1) #[.slice (some ⟨g, 0, none⟩) 3 3, .slice none 0 0] = w3 at *
  clear hb hF k0 k1 bW sW h2
  have hk := rowB_cell q0 1 (v := .int .i64 4) rfl
  obtain ⟨d0, d1, y0, y1⟩ := dcells2 q1
  have e0 := rowB_cell hr 0 (v := .int .i64 (n)) rfl
  have z0 := rowB_free hr 0
  have e1 := rowB_cell hr 1 (v := .int .i64 (l')) rfl
  have z1 := rowB_free hr 1
  have e2 := rowB_cell hr 2 (v := .int .i64 (m)) rfl
  have z2 := rowB_free hr 2
  go_wp2_with fail
  go_quiet (fail)
  go_wp2_with fail
  go_ret
  exact ⟨rfl, bX.trans ((below_drewN w3 nq _).mono bX.size)⟩
set_option maxHeartbeats 1000000 in
theorem storedPort_any (nm : ByteArray) (b z : Int) (dat v vm : Value) (l : List Int) (a d : Int) (w : World) (h : isArg w v l) :
    Calls Try.prog 28 #[.agg (chip5 nm 4 b z dat), .agg #[v, vm], .int .i64 a, .int .i64 d] w fun e w' => ∃ u, e = .returned u ∧ devO w.heap.size w' u ((Pt.of l).write a d).ns ∧ Below w.heap.size w w' := by
  obtain ⟨k0, k1, k2, bW, sW⟩ := boxes3 w (.cells #[.string nm, .int .i64 4, .int .i64 b, .int .i64 z, dat] 53) (.cells #[v, vm] 51) (.cells #[.slice none 0 0, .slice none 0 0] 51)
  have k0 : rowB _ _ _ _ := k0
  have k1 : rowB _ _ _ _ := k1
  have k2 : rowB _ _ _ _ := k2
  have h2 := isArg_below h bW (Nat.le_refl _)
  have hF := formedPort_any nm b z dat v vm l _ h2
  rw [fmPort] at hF
  have hfit := Pt.of_fit l
  generalize Pt.of l = s at *
  obtain ⟨n, l', m⟩ := s
  obtain ⟨⟨b0, B0⟩, ⟨b1, B1⟩, ⟨b2, B2⟩⟩ := hfit
  dsimp only [Pt.ns, chip5] at *
  have hM := fun w => modR_any d 256 (by decide) (by decide) w
  obtain ⟨L, hL⟩ : ∃ L, d % 256 = L := ⟨_, rfl⟩
  rw [hL] at hM
  have hL2 : lo d 8 = L := hL
  clear hL
  rcases (by omega : a = 0 ∨ a = 1 ∨ (a ≠ 0 ∧ a ≠ 1)) with rfl | rfl | ⟨n0, n1⟩
  · have e : (⟨n, l', m⟩ : Pt).write 0 d = ⟨n, L, m⟩ := by unfold Pt.write; rw [if_pos rfl, hL2]
    rw [e]
    clear e
    clear hL2
    go_enter Try.func28, Try.ntmps28
    go_upto_region 2 with (first
      | (go_at_call 33; refine hF.mono ?_; rintro e w2 ⟨u, rfl, ⟨g, rfl, hg, hr⟩, hb⟩; have q0 := rowB_below k0 hb (rowB_lt k0); have q1 := rowB_below k1 hb (rowB_lt k1); have q2 := rowB_below k2 hb (rowB_lt k2); rw [sW] at hg; have bX := bW.trans (hb.mono bW.size))
      | (refine wpList_storeR rfl 51 _ _ rfl (w.heap.size + 1) rfl #[.slice (some ⟨g, 0, none⟩) 3 3, .slice none 0 0] rfl (dev2_one _ _ _ _ _ _) 51 #[v, vm] rfl ?_ agDv ?_; with_reducible exact q1))
    replace hr : rowB w2 g 3 #[.int .i64 n, .int .i64 l', .int .i64 m] := hr
    replace q0 := rowB_row_other q0 #[.slice (some ⟨g, 0, none⟩) 3 3, .slice none 0 0] (show w.heap.size + 1 ≠ w.heap.size by omega)
    replace q2 := rowB_row_other q2 #[.slice (some ⟨g, 0, none⟩) 3 3, .slice none 0 0] (show w.heap.size + 1 ≠ w.heap.size + 2 by omega)
    replace hr := rowB_row_other hr #[.slice (some ⟨g, 0, none⟩) 3 3, .slice none 0 0] (show w.heap.size + 1 ≠ g by omega)
    replace q1 := rowB_row q1 #[.slice (some ⟨g, 0, none⟩) 3 3, .slice none 0 0]
    replace bX := below_rowR bX #[.slice (some ⟨g, 0, none⟩) 3 3, .slice none 0 0] (show w.heap.size ≤ w.heap.size + 1 by omega)
    generalize w2.setRow (w.heap.size + 1) #[.slice (some ⟨g, 0, none⟩) 3 3, .slice none 0 0] = w3 at *
    clear hb hF k0 k1 k2 bW sW h2
    have hk := rowB_cell q0 1 (v := .int .i64 4) rfl
    obtain ⟨d0, d1, y0, y1⟩ := dcells2 q1
    have e0 := rowB_cell hr 0 (v := .int .i64 (n)) rfl
    have z0 := rowB_free hr 0
    have e1 := rowB_cell hr 1 (v := .int .i64 (l')) rfl
    have z1 := rowB_free hr 1
    have e2 := rowB_cell hr 2 (v := .int .i64 (m)) rfl
    have z2 := rowB_free hr 2
    go_wp2_with fail
    go_quiet ((go_at_call 14; exact quiet_left (hM _)))
    have r1 := (rowB_other (rowB_below q1 (below_drewN w3 nq _) (rowB_lt q1)) ⟨g, 1, none⟩ (.int .i64 (L)) (show g ≠ _ by omega))
    have r2 := (rowB_other (rowB_below q2 (below_drewN w3 nq _) (rowB_lt q2)) ⟨g, 1, none⟩ (.int .i64 (L)) (show g ≠ _ by omega))
    have rg : rowB _ g 3 #[.int .i64 (n), .int .i64 (L), .int .i64 (m)] := (rowB_set (rowB_below hr (below_drewN w3 nq _) (rowB_lt hr)) 1 (.int .i64 (L)))
    have bY := (Below.setCell (bX.trans ((below_drewN w3 nq _).mono bX.size)) (p := ⟨g, 1, none⟩) (show w.heap.size ≤ g by omega) (.int .i64 (L)))
    go_wp2_with (first
      | (refine wpList_loadR rfl 51 _ rfl (w.heap.size + 1) rfl 51 #[.slice (some ⟨g, 0, none⟩) 3 3, .slice none 0 0] ?_ agDv ?_; with_reducible exact r1)
      | (refine wpList_storeR rfl 51 _ _ rfl (w.heap.size + 2) rfl #[.slice (some ⟨g, 0, none⟩) 3 3, .slice none 0 0] rfl (dev2_one _ _ _ _ _ _) 51 #[.slice none 0 0, .slice none 0 0] rfl ?_ agDv ?_; with_reducible exact r2))
    refine bodyPost_ret (resultsR rfl (w.heap.size + 2) _ rfl (rowB_row r2 _) agDv) rfl ?_
    exact ⟨_, rfl, ⟨g, rfl, by omega, rowB_row_other rg _ (by omega)⟩, below_rowR bY _ (by omega)⟩
  · have e : (⟨n, l', m⟩ : Pt).write 1 d = ⟨n, l', L⟩ := by unfold Pt.write; rw [if_neg (by decide), if_pos rfl, hL2]
    rw [e]
    clear e
    clear hL2
    go_enter Try.func28, Try.ntmps28
    go_upto_region 2 with (first
      | (go_at_call 33; refine hF.mono ?_; rintro e w2 ⟨u, rfl, ⟨g, rfl, hg, hr⟩, hb⟩; have q0 := rowB_below k0 hb (rowB_lt k0); have q1 := rowB_below k1 hb (rowB_lt k1); have q2 := rowB_below k2 hb (rowB_lt k2); rw [sW] at hg; have bX := bW.trans (hb.mono bW.size))
      | (refine wpList_storeR rfl 51 _ _ rfl (w.heap.size + 1) rfl #[.slice (some ⟨g, 0, none⟩) 3 3, .slice none 0 0] rfl (dev2_one _ _ _ _ _ _) 51 #[v, vm] rfl ?_ agDv ?_; with_reducible exact q1))
    replace hr : rowB w2 g 3 #[.int .i64 n, .int .i64 l', .int .i64 m] := hr
    replace q0 := rowB_row_other q0 #[.slice (some ⟨g, 0, none⟩) 3 3, .slice none 0 0] (show w.heap.size + 1 ≠ w.heap.size by omega)
    replace q2 := rowB_row_other q2 #[.slice (some ⟨g, 0, none⟩) 3 3, .slice none 0 0] (show w.heap.size + 1 ≠ w.heap.size + 2 by omega)
    replace hr := rowB_row_other hr #[.slice (some ⟨g, 0, none⟩) 3 3, .slice none 0 0] (show w.heap.size + 1 ≠ g by omega)
    replace q1 := rowB_row q1 #[.slice (some ⟨g, 0, none⟩) 3 3, .slice none 0 0]
    replace bX := below_rowR bX #[.slice (some ⟨g, 0, none⟩) 3 3, .slice none 0 0] (show w.heap.size ≤ w.heap.size + 1 by omega)
    generalize w2.setRow (w.heap.size + 1) #[.slice (some ⟨g, 0, none⟩) 3 3, .slice none 0 0] = w3 at *
    clear hb hF k0 k1 k2 bW sW h2
    have hk := rowB_cell q0 1 (v := .int .i64 4) rfl
    obtain ⟨d0, d1, y0, y1⟩ := dcells2 q1
    have e0 := rowB_cell hr 0 (v := .int .i64 (n)) rfl
    have z0 := rowB_free hr 0
    have e1 := rowB_cell hr 1 (v := .int .i64 (l')) rfl
    have z1 := rowB_free hr 1
    have e2 := rowB_cell hr 2 (v := .int .i64 (m)) rfl
    have z2 := rowB_free hr 2
    go_wp2_with fail
    go_quiet ((go_at_call 14; exact quiet_left (hM _)))
    have r1 := (rowB_other (rowB_below q1 (below_drewN w3 nq _) (rowB_lt q1)) ⟨g, 2, none⟩ (.int .i64 (L)) (show g ≠ _ by omega))
    have r2 := (rowB_other (rowB_below q2 (below_drewN w3 nq _) (rowB_lt q2)) ⟨g, 2, none⟩ (.int .i64 (L)) (show g ≠ _ by omega))
    have rg : rowB _ g 3 #[.int .i64 (n), .int .i64 (l'), .int .i64 (L)] := (rowB_set (rowB_below hr (below_drewN w3 nq _) (rowB_lt hr)) 2 (.int .i64 (L)))
    have bY := (Below.setCell (bX.trans ((below_drewN w3 nq _).mono bX.size)) (p := ⟨g, 2, none⟩) (show w.heap.size ≤ g by omega) (.int .i64 (L)))
    go_wp2_with (first
      | (refine wpList_loadR rfl 51 _ rfl (w.heap.size + 1) rfl 51 #[.slice (some ⟨g, 0, none⟩) 3 3, .slice none 0 0] ?_ agDv ?_; with_reducible exact r1)
      | (refine wpList_storeR rfl 51 _ _ rfl (w.heap.size + 2) rfl #[.slice (some ⟨g, 0, none⟩) 3 3, .slice none 0 0] rfl (dev2_one _ _ _ _ _ _) 51 #[.slice none 0 0, .slice none 0 0] rfl ?_ agDv ?_; with_reducible exact r2))
    refine bodyPost_ret (resultsR rfl (w.heap.size + 2) _ rfl (rowB_row r2 _) agDv) rfl ?_
    exact ⟨_, rfl, ⟨g, rfl, by omega, rowB_row_other rg _ (by omega)⟩, below_rowR bY _ (by omega)⟩
  · have e : (⟨n, l', m⟩ : Pt).write a d = ⟨n, l', m⟩ := by unfold Pt.write; rw [if_neg n0, if_neg n1]
    rw [e]
    clear e
    have q0 : (a == 0) = false := by simpa using n0
    have q1 : (a == 1) = false := by simpa using n1
    clear n0 n1
    clear hL2
    go_enter Try.func28, Try.ntmps28
    go_upto_region 2 with (first
      | (go_at_call 33; refine hF.mono ?_; rintro e w2 ⟨u, rfl, ⟨g, rfl, hg, hr⟩, hb⟩; have q0 := rowB_below k0 hb (rowB_lt k0); have q1 := rowB_below k1 hb (rowB_lt k1); have q2 := rowB_below k2 hb (rowB_lt k2); rw [sW] at hg; have bX := bW.trans (hb.mono bW.size))
      | (refine wpList_storeR rfl 51 _ _ rfl (w.heap.size + 1) rfl #[.slice (some ⟨g, 0, none⟩) 3 3, .slice none 0 0] rfl (dev2_one _ _ _ _ _ _) 51 #[v, vm] rfl ?_ agDv ?_; with_reducible exact q1))
    replace hr : rowB w2 g 3 #[.int .i64 n, .int .i64 l', .int .i64 m] := hr
    replace q0 := rowB_row_other q0 #[.slice (some ⟨g, 0, none⟩) 3 3, .slice none 0 0] (show w.heap.size + 1 ≠ w.heap.size by omega)
    replace q2 := rowB_row_other q2 #[.slice (some ⟨g, 0, none⟩) 3 3, .slice none 0 0] (show w.heap.size + 1 ≠ w.heap.size + 2 by omega)
    replace hr := rowB_row_other hr #[.slice (some ⟨g, 0, none⟩) 3 3, .slice none 0 0] (show w.heap.size + 1 ≠ g by omega)
    replace q1 := rowB_row q1 #[.slice (some ⟨g, 0, none⟩) 3 3, .slice none 0 0]
    replace bX := below_rowR bX #[.slice (some ⟨g, 0, none⟩) 3 3, .slice none 0 0] (show w.heap.size ≤ w.heap.size + 1 by omega)
    generalize w2.setRow (w.heap.size + 1) #[.slice (some ⟨g, 0, none⟩) 3 3, .slice none 0 0] = w3 at *
    clear hb hF k0 k1 k2 bW sW h2
    have hk := rowB_cell q0 1 (v := .int .i64 4) rfl
    obtain ⟨d0, d1, y0, y1⟩ := dcells2 q1
    have e0 := rowB_cell hr 0 (v := .int .i64 (n)) rfl
    have z0 := rowB_free hr 0
    have e1 := rowB_cell hr 1 (v := .int .i64 (l')) rfl
    have z1 := rowB_free hr 1
    have e2 := rowB_cell hr 2 (v := .int .i64 (m)) rfl
    have z2 := rowB_free hr 2
    go_wp2_with fail
    go_quiet ((go_at_call 14; exact quiet_left (hM _)))
    have r1 := (rowB_below q1 (below_drewN w3 nq _) (rowB_lt q1))
    have r2 := (rowB_below q2 (below_drewN w3 nq _) (rowB_lt q2))
    have rg : rowB _ g 3 #[.int .i64 (n), .int .i64 (l'), .int .i64 (m)] := (rowB_below hr (below_drewN w3 nq _) (rowB_lt hr))
    have bY := (bX.trans ((below_drewN w3 nq _).mono bX.size))
    go_wp2_with (first
      | (refine wpList_loadR rfl 51 _ rfl (w.heap.size + 1) rfl 51 #[.slice (some ⟨g, 0, none⟩) 3 3, .slice none 0 0] ?_ agDv ?_; with_reducible exact r1)
      | (refine wpList_storeR rfl 51 _ _ rfl (w.heap.size + 2) rfl #[.slice (some ⟨g, 0, none⟩) 3 3, .slice none 0 0] rfl (dev2_one _ _ _ _ _ _) 51 #[.slice none 0 0, .slice none 0 0] rfl ?_ agDv ?_; with_reducible exact r2))
    refine bodyPost_ret (resultsR rfl (w.heap.size + 2) _ rfl (rowB_row r2 _) agDv) rfl ?_
    exact ⟨_, rfl, ⟨g, rfl, by omega, rowB_row_other rg _ (by omega)⟩, below_rowR bY _ (by omega)⟩
set_option maxHeartbeats 1000000 in
theorem loadedPort_any (nm : ByteArray) (b z : Int) (dat v vm : Value) (l : List Int) (a : Int) (w : World) (h : isArg w v l) :
    Calls Try.prog 26 #[.agg (chip5 nm 4 b z dat), .agg #[v, vm], .int .i64 a] w fun e w' => ∃ u, e = .returned (.tuple #[u, .int .i64 ((Pt.of l).reg a)]) ∧ devO w.heap.size w' u (Pt.of l).ns ∧ Below w.heap.size w w' := by
  obtain ⟨k0, k1, k2, k3, bW, sW⟩ := boxes4 w (.cells #[.string nm, .int .i64 4, .int .i64 b, .int .i64 z, dat] 53) (.cells #[v, vm] 51) (.cells #[.int .i64 a] 3) (.cells #[.slice none 0 0, .slice none 0 0] 51)
  have k0 : rowB _ _ _ _ := k0
  have k1 : rowB _ _ _ _ := k1
  have k2 : rowB _ _ _ _ := k2
  have k3 : rowB _ _ _ _ := k3
  have h2 := isArg_below h bW (Nat.le_refl _)
  have hF := formedPort_any nm b z dat v vm l _ h2
  rw [fmPort] at hF
  have hfit := Pt.of_fit l
  generalize Pt.of l = s at *
  obtain ⟨n, l', m⟩ := s
  obtain ⟨⟨b0, B0⟩, ⟨b1, B1⟩, ⟨b2, B2⟩⟩ := hfit
  dsimp only [Pt.ns, chip5] at *
  have hs := sumB_both (s := ⟨n, l', m⟩) ⟨⟨b0, B0⟩, ⟨b1, B1⟩, ⟨b2, B2⟩⟩
  have hp : pickN [sumB n l' m 8, m] a = (⟨n, l', m⟩ : Pt).reg a := by
    rw [hs]
    unfold pickN Pt.reg
    rcases (by omega : a < 0 ∨ a = 0 ∨ a = 1 ∨ 2 ≤ a) with h | rfl | rfl | h
    · rw [if_neg (by omega), if_neg (by omega), if_neg (by omega)]
    · rfl
    · rfl
    · rw [if_pos (by omega), if_neg (by omega), if_neg (by omega), List.getD_eq_getElem?_getD, List.getElem?_eq_none (by simp; omega)]
      rfl
  obtain ⟨O, hO⟩ : ∃ O, (⟨n, l', m⟩ : Pt).reg a = O := ⟨_, rfl⟩
  rw [hO] at hp ⊢
  clear hO hs
  go_enter Try.func26, Try.ntmps26
  go_upto_region 2 with (first
    | (go_at_call 33; refine hF.mono ?_; rintro e w2 ⟨u, rfl, ⟨g, rfl, hg, hr⟩, hb⟩; have q0 := rowB_below k0 hb (rowB_lt k0); have q1 := rowB_below k1 hb (rowB_lt k1); have q2 := rowB_below k2 hb (rowB_lt k2); have q3 := rowB_below k3 hb (rowB_lt k3); rw [sW] at hg; have bX := bW.trans (hb.mono bW.size))
    | (refine wpList_storeR rfl 51 _ _ rfl (w.heap.size + 1) rfl #[.slice (some ⟨g, 0, none⟩) 3 3, .slice none 0 0] rfl (dev2_one _ _ _ _ _ _) 51 #[v, vm] rfl ?_ agDv ?_; with_reducible exact q1))
  replace hr : rowB w2 g 3 #[.int .i64 n, .int .i64 l', .int .i64 m] := hr
  replace q0 := rowB_row_other q0 #[.slice (some ⟨g, 0, none⟩) 3 3, .slice none 0 0] (show w.heap.size + 1 ≠ w.heap.size by omega)
  replace q2 := rowB_row_other q2 #[.slice (some ⟨g, 0, none⟩) 3 3, .slice none 0 0] (show w.heap.size + 1 ≠ w.heap.size + 2 by omega)
  replace q3 := rowB_row_other q3 #[.slice (some ⟨g, 0, none⟩) 3 3, .slice none 0 0] (show w.heap.size + 1 ≠ w.heap.size + 3 by omega)
  replace hr := rowB_row_other hr #[.slice (some ⟨g, 0, none⟩) 3 3, .slice none 0 0] (show w.heap.size + 1 ≠ g by omega)
  replace q1 := rowB_row q1 #[.slice (some ⟨g, 0, none⟩) 3 3, .slice none 0 0]
  replace bX := below_rowR bX #[.slice (some ⟨g, 0, none⟩) 3 3, .slice none 0 0] (show w.heap.size ≤ w.heap.size + 1 by omega)
  generalize w2.setRow (w.heap.size + 1) #[.slice (some ⟨g, 0, none⟩) 3 3, .slice none 0 0] = w3 at *
  clear hb hF k0 k1 k2 k3 bW sW h2
  have hk := rowB_cell q0 1 (v := .int .i64 4) rfl
  obtain ⟨d0, d1, y0, y1⟩ := dcells2 q1
  have e0 := rowB_cell hr 0 (v := .int .i64 (n)) rfl
  have z0 := rowB_free hr 0
  have e1 := rowB_cell hr 1 (v := .int .i64 (l')) rfl
  have z1 := rowB_free hr 1
  have e2 := rowB_cell hr 2 (v := .int .i64 (m)) rfl
  have z2 := rowB_free hr 2
  have hB := sumB_bd n l' m
  have hPk := pickB_bd n l' m
  have hq := Qt.refl w3
  have a0 := rowB_cell q2 0 (v := .int .i64 a) rfl
  go_wp2_with fail
  go_loopw [13, 98] (fun o i wr => ∃ k : Nat, k ≤ 8 ∧ i = .int .i64 k ∧ o = .int .i64 (sumB n l' m k) ∧ wr = w3) (fun _ i _ => 8 - (intOf i).toNat)
  case atStart => exact ⟨0, by decide, rfl, rfl, rfl⟩
  case round =>
    obtain ⟨k, hk, rfl, rfl, rfl⟩ := hrel
    by_cases hlt : k < 8
    · have hd : decide ((k : Int) < 8) = true := decide_eq_true (by omega)
      have hS := hB k (by omega)
      have hS1 := hB (k + 1) (by omega)
      have hK := hPk k
      have hp2 : (2 : Int) ^ k ≤ 128 := p2_le (j := k) (k := 7) (by omega)
      have hp1 := p2_pos k
      have hsu : sumB n l' m (k + 1) = sumB n l' m k + pickB n l' m k * 2 ^ k := rfl
      rw [hsu] at hS1
      have hm := and_one (m / 2 ^ k)
      rcases (by omega : m / 2 ^ k % 2 = 1 ∨ m / 2 ^ k % 2 = 0) with hb | hb
      · have hx := and_one (l' / 2 ^ k)
        have hpk : pickB n l' m k = l' / 2 ^ k % 2 := if_pos hb
        rw [hb] at hm
        rw [hpk] at hK hsu
        clear hb hpk hS1
        obtain ⟨X, hX⟩ : ∃ X, l' / 2 ^ k % 2 = X := ⟨_, rfl⟩
        rw [hX] at hx hK hsu
        clear hX
        have hw : wrap64 (X * 2 ^ k) = X * 2 ^ k ∧ wrap64 (sumB n l' m k + X * 2 ^ k) = sumB n l' m (k + 1) := by
          rw [hsu]
          rcases (by omega : X = 0 ∨ X = 1) with rfl | rfl
          · rw [Int.zero_mul]; exact ⟨IntWalk.wrap64_in _ (by omega), IntWalk.wrap64_in _ (by omega)⟩
          · rw [Int.one_mul]; exact ⟨IntWalk.wrap64_in _ (by omega), IntWalk.wrap64_in _ (by omega)⟩
        have HW := Lib.hid hw
        clear hw hsu
        go_wp2_with fail
        go_roundw
        case rel => exact ⟨k + 1, by omega, by go_num, by rw [HW.out.1, HW.out.2], trivial⟩
        case measure => simp [intOf]; omega
      · have hx := and_one (n / 2 ^ k)
        have hpk : pickB n l' m k = n / 2 ^ k % 2 := if_neg (by omega)
        rw [hb] at hm
        rw [hpk] at hK hsu
        clear hb hpk hS1
        obtain ⟨X, hX⟩ : ∃ X, n / 2 ^ k % 2 = X := ⟨_, rfl⟩
        rw [hX] at hx hK hsu
        clear hX
        have hw : wrap64 (X * 2 ^ k) = X * 2 ^ k ∧ wrap64 (sumB n l' m k + X * 2 ^ k) = sumB n l' m (k + 1) := by
          rw [hsu]
          rcases (by omega : X = 0 ∨ X = 1) with rfl | rfl
          · rw [Int.zero_mul]; exact ⟨IntWalk.wrap64_in _ (by omega), IntWalk.wrap64_in _ (by omega)⟩
          · rw [Int.one_mul]; exact ⟨IntWalk.wrap64_in _ (by omega), IntWalk.wrap64_in _ (by omega)⟩
        have HW := Lib.hid hw
        clear hw hsu
        go_wp2_with fail
        go_roundw
        case rel => exact ⟨k + 1, by omega, by go_num, by rw [HW.out.1, HW.out.2], trivial⟩
        case measure => simp [intOf]; omega
    · obtain rfl : k = 8 := by omega
      clear hB hPk
      obtain ⟨SM, hSM⟩ : ∃ SM, sumB n l' m 8 = SM := ⟨_, rfl⟩
      rw [hSM] at hp ⊢
      clear hSM
      have hd : decide ((8 : Int) < 8) = false := rfl
      have x0 := rowB_new wr 3 #[.int .i64 SM, .int .i64 m]
      have hlt := rowB_lt hr
      replace q1 := rowB_alloc q1 (.cells #[.int .i64 SM, .int .i64 m] 3)
      replace q2 := rowB_alloc q2 (.cells #[.int .i64 SM, .int .i64 m] 3)
      replace q3 := rowB_alloc q3 (.cells #[.int .i64 SM, .int .i64 m] 3)
      replace hr := rowB_alloc hr (.cells #[.int .i64 SM, .int .i64 m] 3)
      replace bX := bX.alloc (by omega) (.cells #[.int .i64 SM, .int .i64 m] 3)
      have hx := pick_any _ [SM, m] (w.heap.size + 2) a _ (numB_arg x0 (by simp)) q2
      rw [hp] at hx
      have r1 := q1
      have r2 := q3
      have rg : rowB _ g 3 #[.int .i64 (n), .int .i64 (l'), .int .i64 (m)] := hr
      have bY := bX
      go_wp2_with (first
        | (go_at_call 67; refine hx.mono ?_; rintro e w' ⟨rfl, rfl⟩)
        | (refine wpList_loadR rfl 51 _ rfl (w.heap.size + 1) rfl 51 #[.slice (some ⟨g, 0, none⟩) 3 3, .slice none 0 0] ?_ agDv ?_; with_reducible exact r1)
        | (refine wpList_storeR rfl 51 _ _ rfl (w.heap.size + 3) rfl #[.slice (some ⟨g, 0, none⟩) 3 3, .slice none 0 0] rfl (dev2_one _ _ _ _ _ _) 51 #[.slice none 0 0, .slice none 0 0] rfl ?_ agDv ?_; with_reducible exact r2))
      refine bodyPost_ret (resultsRT rfl (w.heap.size + 3) _ rfl (rowB_row r2 _) agDv rfl) rfl ?_
      exact ⟨_, rfl, ⟨g, rfl, by omega, rowB_row_other rg _ (by omega)⟩, below_rowR bY _ (by omega)⟩
end Go.Proofs.Ythhihmggaddlmaa
