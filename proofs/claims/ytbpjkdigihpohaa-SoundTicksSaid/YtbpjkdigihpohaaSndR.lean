/- What the reference says of sound chips. -/
import Derived.Test.YtbpjkdigihpohaaChecked
import Derived.Test.YtbpjkdigihpohaaDevFormS
import Derived.Test.YtbpjkdigihpohaaDevPick
import Derived.Test.YtbpjkdigihpohaaLinM
import Derived.Test.YtbpjkdigihpohaaSndMath
import Derived.Below
import Derived.BigQuiet
import Derived.ChangeMaps5
import Derived.Deep.DeepCutAuto
import Derived.Deep.Draws
import Derived.Deep.MidRow
import Derived.Deep.OwnRows
import Derived.Deep.QuietTactic
import Derived.Deep.RegionHeld3
import Derived.Deep.RegionWith
import Derived.Deep.Slices
import Derived.Deep.WholeRow
import Derived.Lib.Hide
import Derived.Lib.SmallJoins
import Derived.OpenShut
import Derived.OrdersHeld
import Derived.OwnWalk
import Derived.RowKit3
import Derived.StillTactics
import Derived.StillTail
import Derived.StillTailTactics
import Derived.WalkKit
namespace Go.Proofs.Ytbpjkdigihpohaa
open Go.RowKit
set_option maxRecDepth 100000

theorem fmSnd (l : List Int) : fmN l msSnd 12 = (Sn.of l).ns := rfl
theorem freshSnd_any (nm : ByteArray) (b z : Int) (dat : Value) (w : World) :
    Calls Try.prog 10 #[.agg (chip5 nm 7 b z dat)] w fun e w' => ∃ v, e = .returned v ∧ devO w.heap.size w' v [0, 0, 0, 0, 0, 0, 0, 0, 0, 0, 0, 0] ∧ Below w.heap.size w w' := by
  obtain ⟨k0, k1, bW, sW⟩ := boxes2 w (.cells #[.string nm, .int .i64 7, .int .i64 b, .int .i64 z, dat] 27) (.cells #[.slice none 0 0, .slice none 0 0] 25)
  have k1 : rowB _ _ _ _ := k1
  have hF := formedSnd_any nm b z dat (.slice none 0 0) (.slice none 0 0) [] _ (isArg_none ((w.alloc (.cells #[.string nm, .int .i64 7, .int .i64 b, .int .i64 z, dat] 27)).alloc (.cells #[.slice none 0 0, .slice none 0 0] 25)))
  dsimp only [chip5] at *
  go_enter Try.func10, Try.ntmps10
  go_wp2_with (first
    | (go_at_call 19; refine hF.mono ?_; rintro e w2 ⟨u, rfl, ⟨g, rfl, hg, hr⟩, hb⟩; have q1 := rowB_below k1 hb (rowB_lt k1); rw [sW] at hg; have bX := bW.trans (hb.mono bW.size))
    | (refine wpList_storeR rfl 25 _ _ rfl (w.heap.size + 1) rfl #[.slice (some ⟨g, 0, none⟩) 12 12, .slice none 0 0] rfl (dev2_one _ _ _ _ _ _) 25 #[.slice none 0 0, .slice none 0 0] rfl ?_ agDv ?_; with_reducible exact q1))
  refine bodyPost_ret (resultsR rfl (w.heap.size + 1) _ rfl (rowB_row q1 _) agDv) rfl ?_
  exact ⟨_, rfl, ⟨g, rfl, by omega, rowB_row_other hr _ (by omega)⟩, below_rowR bX _ (by omega)⟩
theorem phase_vol (f v : Int) (hf : 0 ≤ f ∧ f < 2) (hv : 0 ≤ v ∧ v < 16) : 0 ≤ f * v ∧ f * v < 16 := by
  rcases (by omega : f = 0 ∨ f = 1) with rfl | rfl
  · rw [Int.zero_mul]; exact ⟨by decide, by decide⟩
  · rw [Int.one_mul]; exact hv
set_option maxHeartbeats 1000000 in
theorem showsSnd_any (nm : ByteArray) (b z : Int) (dat v vm : Value) (l : List Int) (w : World) (h : isArg w v l) :
    Calls Try.prog 16 #[.agg (chip5 nm 7 b z dat), .agg #[v, vm]] w fun e w' => e = .returned (.int .i64 (Sn.of l).out) ∧ Below w.heap.size w w' := by
  obtain ⟨k0, k1, bW, sW⟩ := boxes2 w (.cells #[.string nm, .int .i64 7, .int .i64 b, .int .i64 z, dat] 27) (.cells #[v, vm] 25)
  have k0 : rowB _ _ _ _ := k0
  have k1 : rowB _ _ _ _ := k1
  have h2 := isArg_below h bW (Nat.le_refl _)
  have hF := formedSnd_any nm b z dat v vm l _ h2
  rw [fmSnd] at hF
  have hfit := Sn.of_fit l
  generalize Sn.of l = s at *
  obtain ⟨⟨pa, va, ra, ca, fa, ga⟩, ⟨pb, vb, rb, cb, fb, gb⟩⟩ := s
  obtain ⟨⟨⟨b0, B0⟩, ⟨b1, B1⟩, ⟨b2, B2⟩, ⟨b3, B3⟩, ⟨b4, B4⟩, ⟨b5, B5⟩⟩, ⟨⟨b6, B6⟩, ⟨b7, B7⟩, ⟨b8, B8⟩, ⟨b9, B9⟩, ⟨b10, B10⟩, ⟨b11, B11⟩⟩⟩ := hfit
  dsimp only [Sn.ns, chip5] at *
  have pva := phase_vol fa va ⟨b4, B4⟩ ⟨b1, B1⟩
  have pvb := phase_vol fb vb ⟨b10, B10⟩ ⟨b7, B7⟩
  have w1 : wrap64 (fa * va) = fa * va := IntWalk.wrap64_in _ (by omega)
  have w2 : wrap64 (fb * vb) = fb * vb := IntWalk.wrap64_in _ (by omega)
  have w3 : wrap64 (fa * va + fb * vb) = fa * va + fb * vb := IntWalk.wrap64_in _ (by omega)
  show Calls _ _ _ _ fun e w' => e = .returned (.int .i64 (fa * va + fb * vb)) ∧ _
  go_enter Try.func16, Try.ntmps16
  go_upto_region 2 with (first
    | (go_at_call 19; refine hF.mono ?_; rintro e wf ⟨u, rfl, ⟨g, rfl, hg, hr⟩, hb⟩; have q0 := rowB_below k0 hb (rowB_lt k0); have q1 := rowB_below k1 hb (rowB_lt k1); rw [sW] at hg; have bX := bW.trans (hb.mono bW.size))
    | (refine wpList_storeR rfl 25 _ _ rfl (w.heap.size + 1) rfl #[.slice (some ⟨g, 0, none⟩) 12 12, .slice none 0 0] rfl (dev2_one _ _ _ _ _ _) 25 #[v, vm] rfl ?_ agDv ?_; with_reducible exact q1))
  replace hr : rowB wf g 3 #[.int .i64 pa, .int .i64 va, .int .i64 ra, .int .i64 ca, .int .i64 fa, .int .i64 ga, .int .i64 pb, .int .i64 vb, .int .i64 rb, .int .i64 cb, .int .i64 fb, .int .i64 gb] := hr
  replace q0 := rowB_row_other q0 #[.slice (some ⟨g, 0, none⟩) 12 12, .slice none 0 0] (show w.heap.size + 1 ≠ w.heap.size by omega)
  replace hr := rowB_row_other hr #[.slice (some ⟨g, 0, none⟩) 12 12, .slice none 0 0] (show w.heap.size + 1 ≠ g by omega)
  replace q1 := rowB_row q1 #[.slice (some ⟨g, 0, none⟩) 12 12, .slice none 0 0]
  replace bX := below_rowR bX #[.slice (some ⟨g, 0, none⟩) 12 12, .slice none 0 0] (show w.heap.size ≤ w.heap.size + 1 by omega)
  generalize wf.setRow (w.heap.size + 1) #[.slice (some ⟨g, 0, none⟩) 12 12, .slice none 0 0] = wg at *
  clear hb hF k0 k1 bW sW h2
  have hk := rowB_cell q0 1 (v := .int .i64 7) rfl
  obtain ⟨d0, d1, y0, y1⟩ := dcells2 q1
  have e0 := rowB_cell hr 0 (v := .int .i64 (pa)) rfl
  have z0 := rowB_free hr 0
  have e1 := rowB_cell hr 1 (v := .int .i64 (va)) rfl
  have z1 := rowB_free hr 1
  have e2 := rowB_cell hr 2 (v := .int .i64 (ra)) rfl
  have z2 := rowB_free hr 2
  have e3 := rowB_cell hr 3 (v := .int .i64 (ca)) rfl
  have z3 := rowB_free hr 3
  have e4 := rowB_cell hr 4 (v := .int .i64 (fa)) rfl
  have z4 := rowB_free hr 4
  have e5 := rowB_cell hr 5 (v := .int .i64 (ga)) rfl
  have z5 := rowB_free hr 5
  have e6 := rowB_cell hr 6 (v := .int .i64 (pb)) rfl
  have z6 := rowB_free hr 6
  have e7 := rowB_cell hr 7 (v := .int .i64 (vb)) rfl
  have z7 := rowB_free hr 7
  have e8 := rowB_cell hr 8 (v := .int .i64 (rb)) rfl
  have z8 := rowB_free hr 8
  have e9 := rowB_cell hr 9 (v := .int .i64 (cb)) rfl
  have z9 := rowB_free hr 9
  have e10 := rowB_cell hr 10 (v := .int .i64 (fb)) rfl
  have z10 := rowB_free hr 10
  have e11 := rowB_cell hr 11 (v := .int .i64 (gb)) rfl
  have z11 := rowB_free hr 11
  go_wp2_with fail
  go_quiet (fail)
  go_wp2_with fail
  go_ret
  exact ⟨rfl, bX.trans ((below_drewN wg nq _).mono bX.size)⟩
set_option maxHeartbeats 4000000 in
theorem storedSnd_any (nm : ByteArray) (b z : Int) (dat v vm : Value) (l : List Int) (a x : Int) (w : World) (h : isArg w v l) :
    Calls Try.prog 14 #[.agg (chip5 nm 7 b z dat), .agg #[v, vm], .int .i64 a, .int .i64 x] w fun e w' => ∃ u, e = .returned u ∧ devO w.heap.size w' u ((Sn.of l).write a x).ns ∧ Below w.heap.size w w' := by
  obtain ⟨k0, k1, k2, bW, sW⟩ := boxes3 w (.cells #[.string nm, .int .i64 7, .int .i64 b, .int .i64 z, dat] 27) (.cells #[v, vm] 25) (.cells #[.slice none 0 0, .slice none 0 0] 25)
  have k0 : rowB _ _ _ _ := k0
  have k1 : rowB _ _ _ _ := k1
  have k2 : rowB _ _ _ _ := k2
  have h2 := isArg_below h bW (Nat.le_refl _)
  have hF := formedSnd_any nm b z dat v vm l _ h2
  rw [fmSnd] at hF
  have hfit := Sn.of_fit l
  generalize Sn.of l = s at *
  obtain ⟨⟨pa, va, ra, ca, fa, ga⟩, ⟨pb, vb, rb, cb, fb, gb⟩⟩ := s
  obtain ⟨⟨⟨b0, B0⟩, ⟨b1, B1⟩, ⟨b2, B2⟩, ⟨b3, B3⟩, ⟨b4, B4⟩, ⟨b5, B5⟩⟩, ⟨⟨b6, B6⟩, ⟨b7, B7⟩, ⟨b8, B8⟩, ⟨b9, B9⟩, ⟨b10, B10⟩, ⟨b11, B11⟩⟩⟩ := hfit
  dsimp only [Sn.ns, chip5] at *
  have hM := fun w => modR_any x 256 (by decide) (by decide) w
  obtain ⟨L, hL⟩ : ∃ L, x % 256 = L := ⟨_, rfl⟩
  have L0 : 0 ≤ L ∧ L < 256 := by omega
  have hL4 : x % 16 = L % 16 := by omega
  have tL : L.tmod 16 = L % 16 := Int.tmod_eq_emod_of_nonneg L0.1
  rw [hL] at hM
  rcases (by omega : a < 0 ∨ 8 ≤ a ∨ a = 0 ∨ a = 1 ∨ a = 2 ∨ a = 3 ∨ a = 4 ∨ a = 5 ∨ a = 6 ∨ a = 7) with h | h | rfl | rfl | rfl | rfl | rfl | rfl | rfl | rfl
  · have e : (⟨⟨pa, va, ra, ca, fa, ga⟩, ⟨pb, vb, rb, cb, fb, gb⟩⟩ : Sn).write a x = ⟨⟨pa, va, ra, ca, fa, ga⟩, ⟨pb, vb, rb, cb, fb, gb⟩⟩ := by unfold Sn.write; rw [if_neg (by omega), if_neg (by omega)]
    rw [e]
    clear e
    dsimp only [Sn.ns]
    have dA : decide (0 ≤ a) = false := decide_eq_false (by omega)
    have dB : decide (a < 8) = true := decide_eq_true (by omega)
    clear hL hL4
    go_enter Try.func14, Try.ntmps14
    go_upto_region 2 with (first
      | (go_at_call 19; refine hF.mono ?_; rintro e wf ⟨u, rfl, ⟨g, rfl, hg, hr⟩, hb⟩; have q0 := rowB_below k0 hb (rowB_lt k0); have q1 := rowB_below k1 hb (rowB_lt k1); have q2 := rowB_below k2 hb (rowB_lt k2); rw [sW] at hg; have bX := bW.trans (hb.mono bW.size))
      | (refine wpList_storeR rfl 25 _ _ rfl (w.heap.size + 1) rfl #[.slice (some ⟨g, 0, none⟩) 12 12, .slice none 0 0] rfl (dev2_one _ _ _ _ _ _) 25 #[v, vm] rfl ?_ agDv ?_; with_reducible exact q1))
    replace hr : rowB wf g 3 #[.int .i64 pa, .int .i64 va, .int .i64 ra, .int .i64 ca, .int .i64 fa, .int .i64 ga, .int .i64 pb, .int .i64 vb, .int .i64 rb, .int .i64 cb, .int .i64 fb, .int .i64 gb] := hr
    replace q0 := rowB_row_other q0 #[.slice (some ⟨g, 0, none⟩) 12 12, .slice none 0 0] (show w.heap.size + 1 ≠ w.heap.size by omega)
    replace q2 := rowB_row_other q2 #[.slice (some ⟨g, 0, none⟩) 12 12, .slice none 0 0] (show w.heap.size + 1 ≠ w.heap.size + 2 by omega)
    replace hr := rowB_row_other hr #[.slice (some ⟨g, 0, none⟩) 12 12, .slice none 0 0] (show w.heap.size + 1 ≠ g by omega)
    replace q1 := rowB_row q1 #[.slice (some ⟨g, 0, none⟩) 12 12, .slice none 0 0]
    replace bX := below_rowR bX #[.slice (some ⟨g, 0, none⟩) 12 12, .slice none 0 0] (show w.heap.size ≤ w.heap.size + 1 by omega)
    generalize wf.setRow (w.heap.size + 1) #[.slice (some ⟨g, 0, none⟩) 12 12, .slice none 0 0] = wg at *
    clear hb hF k0 k1 k2 bW sW h2
    have hk := rowB_cell q0 1 (v := .int .i64 7) rfl
    obtain ⟨d0, d1, y0, y1⟩ := dcells2 q1
    have e0 := rowB_cell hr 0 (v := .int .i64 (pa)) rfl
    have z0 := rowB_free hr 0
    have e1 := rowB_cell hr 1 (v := .int .i64 (va)) rfl
    have z1 := rowB_free hr 1
    have e2 := rowB_cell hr 2 (v := .int .i64 (ra)) rfl
    have z2 := rowB_free hr 2
    have e3 := rowB_cell hr 3 (v := .int .i64 (ca)) rfl
    have z3 := rowB_free hr 3
    have e4 := rowB_cell hr 4 (v := .int .i64 (fa)) rfl
    have z4 := rowB_free hr 4
    have e5 := rowB_cell hr 5 (v := .int .i64 (ga)) rfl
    have z5 := rowB_free hr 5
    have e6 := rowB_cell hr 6 (v := .int .i64 (pb)) rfl
    have z6 := rowB_free hr 6
    have e7 := rowB_cell hr 7 (v := .int .i64 (vb)) rfl
    have z7 := rowB_free hr 7
    have e8 := rowB_cell hr 8 (v := .int .i64 (rb)) rfl
    have z8 := rowB_free hr 8
    have e9 := rowB_cell hr 9 (v := .int .i64 (cb)) rfl
    have z9 := rowB_free hr 9
    have e10 := rowB_cell hr 10 (v := .int .i64 (fb)) rfl
    have z10 := rowB_free hr 10
    have e11 := rowB_cell hr 11 (v := .int .i64 (gb)) rfl
    have z11 := rowB_free hr 11
    go_wp2_with fail
    go_quiet ((go_at_call 35; exact quiet_left (hM _)))
    have r1 := (rowB_below q1 (below_drewN wg nq _) (rowB_lt q1))
    have r2 := (rowB_below q2 (below_drewN wg nq _) (rowB_lt q2))
    have rg : rowB _ g 3 #[.int .i64 (pa), .int .i64 (va), .int .i64 (ra), .int .i64 (ca), .int .i64 (fa), .int .i64 (ga), .int .i64 (pb), .int .i64 (vb), .int .i64 (rb), .int .i64 (cb), .int .i64 (fb), .int .i64 (gb)] := (rowB_below hr (below_drewN wg nq _) (rowB_lt hr))
    have bY := (bX.trans ((below_drewN wg nq _).mono bX.size))
    go_wp2_with (first
      | (refine wpList_loadR rfl 25 _ rfl (w.heap.size + 1) rfl 25 #[.slice (some ⟨g, 0, none⟩) 12 12, .slice none 0 0] ?_ agDv ?_; with_reducible exact r1)
      | (refine wpList_storeR rfl 25 _ _ rfl (w.heap.size + 2) rfl #[.slice (some ⟨g, 0, none⟩) 12 12, .slice none 0 0] rfl (dev2_one _ _ _ _ _ _) 25 #[.slice none 0 0, .slice none 0 0] rfl ?_ agDv ?_; with_reducible exact r2))
    refine bodyPost_ret (resultsR rfl (w.heap.size + 2) _ rfl (rowB_row r2 _) agDv) rfl ?_
    exact ⟨_, rfl, ⟨g, rfl, by omega, rowB_row_other rg _ (by omega)⟩, below_rowR bY _ (by omega)⟩
  · have e : (⟨⟨pa, va, ra, ca, fa, ga⟩, ⟨pb, vb, rb, cb, fb, gb⟩⟩ : Sn).write a x = ⟨⟨pa, va, ra, ca, fa, ga⟩, ⟨pb, vb, rb, cb, fb, gb⟩⟩ := by unfold Sn.write; rw [if_neg (by omega), if_neg (by omega)]
    rw [e]
    clear e
    dsimp only [Sn.ns]
    have dA : decide (0 ≤ a) = true := decide_eq_true (by omega)
    have dB : decide (a < 8) = false := decide_eq_false (by omega)
    clear hL hL4
    go_enter Try.func14, Try.ntmps14
    go_upto_region 2 with (first
      | (go_at_call 19; refine hF.mono ?_; rintro e wf ⟨u, rfl, ⟨g, rfl, hg, hr⟩, hb⟩; have q0 := rowB_below k0 hb (rowB_lt k0); have q1 := rowB_below k1 hb (rowB_lt k1); have q2 := rowB_below k2 hb (rowB_lt k2); rw [sW] at hg; have bX := bW.trans (hb.mono bW.size))
      | (refine wpList_storeR rfl 25 _ _ rfl (w.heap.size + 1) rfl #[.slice (some ⟨g, 0, none⟩) 12 12, .slice none 0 0] rfl (dev2_one _ _ _ _ _ _) 25 #[v, vm] rfl ?_ agDv ?_; with_reducible exact q1))
    replace hr : rowB wf g 3 #[.int .i64 pa, .int .i64 va, .int .i64 ra, .int .i64 ca, .int .i64 fa, .int .i64 ga, .int .i64 pb, .int .i64 vb, .int .i64 rb, .int .i64 cb, .int .i64 fb, .int .i64 gb] := hr
    replace q0 := rowB_row_other q0 #[.slice (some ⟨g, 0, none⟩) 12 12, .slice none 0 0] (show w.heap.size + 1 ≠ w.heap.size by omega)
    replace q2 := rowB_row_other q2 #[.slice (some ⟨g, 0, none⟩) 12 12, .slice none 0 0] (show w.heap.size + 1 ≠ w.heap.size + 2 by omega)
    replace hr := rowB_row_other hr #[.slice (some ⟨g, 0, none⟩) 12 12, .slice none 0 0] (show w.heap.size + 1 ≠ g by omega)
    replace q1 := rowB_row q1 #[.slice (some ⟨g, 0, none⟩) 12 12, .slice none 0 0]
    replace bX := below_rowR bX #[.slice (some ⟨g, 0, none⟩) 12 12, .slice none 0 0] (show w.heap.size ≤ w.heap.size + 1 by omega)
    generalize wf.setRow (w.heap.size + 1) #[.slice (some ⟨g, 0, none⟩) 12 12, .slice none 0 0] = wg at *
    clear hb hF k0 k1 k2 bW sW h2
    have hk := rowB_cell q0 1 (v := .int .i64 7) rfl
    obtain ⟨d0, d1, y0, y1⟩ := dcells2 q1
    have e0 := rowB_cell hr 0 (v := .int .i64 (pa)) rfl
    have z0 := rowB_free hr 0
    have e1 := rowB_cell hr 1 (v := .int .i64 (va)) rfl
    have z1 := rowB_free hr 1
    have e2 := rowB_cell hr 2 (v := .int .i64 (ra)) rfl
    have z2 := rowB_free hr 2
    have e3 := rowB_cell hr 3 (v := .int .i64 (ca)) rfl
    have z3 := rowB_free hr 3
    have e4 := rowB_cell hr 4 (v := .int .i64 (fa)) rfl
    have z4 := rowB_free hr 4
    have e5 := rowB_cell hr 5 (v := .int .i64 (ga)) rfl
    have z5 := rowB_free hr 5
    have e6 := rowB_cell hr 6 (v := .int .i64 (pb)) rfl
    have z6 := rowB_free hr 6
    have e7 := rowB_cell hr 7 (v := .int .i64 (vb)) rfl
    have z7 := rowB_free hr 7
    have e8 := rowB_cell hr 8 (v := .int .i64 (rb)) rfl
    have z8 := rowB_free hr 8
    have e9 := rowB_cell hr 9 (v := .int .i64 (cb)) rfl
    have z9 := rowB_free hr 9
    have e10 := rowB_cell hr 10 (v := .int .i64 (fb)) rfl
    have z10 := rowB_free hr 10
    have e11 := rowB_cell hr 11 (v := .int .i64 (gb)) rfl
    have z11 := rowB_free hr 11
    go_wp2_with fail
    go_quiet ((go_at_call 35; exact quiet_left (hM _)))
    have r1 := (rowB_below q1 (below_drewN wg nq _) (rowB_lt q1))
    have r2 := (rowB_below q2 (below_drewN wg nq _) (rowB_lt q2))
    have rg : rowB _ g 3 #[.int .i64 (pa), .int .i64 (va), .int .i64 (ra), .int .i64 (ca), .int .i64 (fa), .int .i64 (ga), .int .i64 (pb), .int .i64 (vb), .int .i64 (rb), .int .i64 (cb), .int .i64 (fb), .int .i64 (gb)] := (rowB_below hr (below_drewN wg nq _) (rowB_lt hr))
    have bY := (bX.trans ((below_drewN wg nq _).mono bX.size))
    go_wp2_with (first
      | (refine wpList_loadR rfl 25 _ rfl (w.heap.size + 1) rfl 25 #[.slice (some ⟨g, 0, none⟩) 12 12, .slice none 0 0] ?_ agDv ?_; with_reducible exact r1)
      | (refine wpList_storeR rfl 25 _ _ rfl (w.heap.size + 2) rfl #[.slice (some ⟨g, 0, none⟩) 12 12, .slice none 0 0] rfl (dev2_one _ _ _ _ _ _) 25 #[.slice none 0 0, .slice none 0 0] rfl ?_ agDv ?_; with_reducible exact r2))
    refine bodyPost_ret (resultsR rfl (w.heap.size + 2) _ rfl (rowB_row r2 _) agDv) rfl ?_
    exact ⟨_, rfl, ⟨g, rfl, by omega, rowB_row_other rg _ (by omega)⟩, below_rowR bY _ (by omega)⟩
  · have e : (⟨⟨pa, va, ra, ca, fa, ga⟩, ⟨pb, vb, rb, cb, fb, gb⟩⟩ : Sn).write 0 x = ⟨⟨pa / 256 * 256 + L, va, ra, ca, fa, ga⟩, ⟨pb, vb, rb, cb, fb, gb⟩⟩ := by rw [← hL]; rfl
    rw [e]
    clear e
    dsimp only [Sn.ns]
    have t1 : pa.tdiv 256 = pa / 256 := Int.tdiv_eq_ediv_of_nonneg (by omega)
    have w1 : wrap64 (pa / 256 * 256) = pa / 256 * 256 := IntWalk.wrap64_in _ (by omega)
    have w2 : wrap64 (pa / 256 * 256 + L) = pa / 256 * 256 + L := IntWalk.wrap64_in _ (by omega)
    clear hL hL4
    go_enter Try.func14, Try.ntmps14
    go_upto_region 2 with (first
      | (go_at_call 19; refine hF.mono ?_; rintro e wf ⟨u, rfl, ⟨g, rfl, hg, hr⟩, hb⟩; have q0 := rowB_below k0 hb (rowB_lt k0); have q1 := rowB_below k1 hb (rowB_lt k1); have q2 := rowB_below k2 hb (rowB_lt k2); rw [sW] at hg; have bX := bW.trans (hb.mono bW.size))
      | (refine wpList_storeR rfl 25 _ _ rfl (w.heap.size + 1) rfl #[.slice (some ⟨g, 0, none⟩) 12 12, .slice none 0 0] rfl (dev2_one _ _ _ _ _ _) 25 #[v, vm] rfl ?_ agDv ?_; with_reducible exact q1))
    replace hr : rowB wf g 3 #[.int .i64 pa, .int .i64 va, .int .i64 ra, .int .i64 ca, .int .i64 fa, .int .i64 ga, .int .i64 pb, .int .i64 vb, .int .i64 rb, .int .i64 cb, .int .i64 fb, .int .i64 gb] := hr
    replace q0 := rowB_row_other q0 #[.slice (some ⟨g, 0, none⟩) 12 12, .slice none 0 0] (show w.heap.size + 1 ≠ w.heap.size by omega)
    replace q2 := rowB_row_other q2 #[.slice (some ⟨g, 0, none⟩) 12 12, .slice none 0 0] (show w.heap.size + 1 ≠ w.heap.size + 2 by omega)
    replace hr := rowB_row_other hr #[.slice (some ⟨g, 0, none⟩) 12 12, .slice none 0 0] (show w.heap.size + 1 ≠ g by omega)
    replace q1 := rowB_row q1 #[.slice (some ⟨g, 0, none⟩) 12 12, .slice none 0 0]
    replace bX := below_rowR bX #[.slice (some ⟨g, 0, none⟩) 12 12, .slice none 0 0] (show w.heap.size ≤ w.heap.size + 1 by omega)
    generalize wf.setRow (w.heap.size + 1) #[.slice (some ⟨g, 0, none⟩) 12 12, .slice none 0 0] = wg at *
    clear hb hF k0 k1 k2 bW sW h2
    have hk := rowB_cell q0 1 (v := .int .i64 7) rfl
    obtain ⟨d0, d1, y0, y1⟩ := dcells2 q1
    have e0 := rowB_cell hr 0 (v := .int .i64 (pa)) rfl
    have z0 := rowB_free hr 0
    have e1 := rowB_cell hr 1 (v := .int .i64 (va)) rfl
    have z1 := rowB_free hr 1
    have e2 := rowB_cell hr 2 (v := .int .i64 (ra)) rfl
    have z2 := rowB_free hr 2
    have e3 := rowB_cell hr 3 (v := .int .i64 (ca)) rfl
    have z3 := rowB_free hr 3
    have e4 := rowB_cell hr 4 (v := .int .i64 (fa)) rfl
    have z4 := rowB_free hr 4
    have e5 := rowB_cell hr 5 (v := .int .i64 (ga)) rfl
    have z5 := rowB_free hr 5
    have e6 := rowB_cell hr 6 (v := .int .i64 (pb)) rfl
    have z6 := rowB_free hr 6
    have e7 := rowB_cell hr 7 (v := .int .i64 (vb)) rfl
    have z7 := rowB_free hr 7
    have e8 := rowB_cell hr 8 (v := .int .i64 (rb)) rfl
    have z8 := rowB_free hr 8
    have e9 := rowB_cell hr 9 (v := .int .i64 (cb)) rfl
    have z9 := rowB_free hr 9
    have e10 := rowB_cell hr 10 (v := .int .i64 (fb)) rfl
    have z10 := rowB_free hr 10
    have e11 := rowB_cell hr 11 (v := .int .i64 (gb)) rfl
    have z11 := rowB_free hr 11
    go_wp2_with fail
    go_quiet ((go_at_call 35; exact quiet_left (hM _)))
    have r1 := (rowB_other (rowB_below q1 (below_drewN wg nq _) (rowB_lt q1)) ⟨g, 0, none⟩ (.int .i64 (pa / 256 * 256 + L)) (show g ≠ _ by omega))
    have r2 := (rowB_other (rowB_below q2 (below_drewN wg nq _) (rowB_lt q2)) ⟨g, 0, none⟩ (.int .i64 (pa / 256 * 256 + L)) (show g ≠ _ by omega))
    have rg : rowB _ g 3 #[.int .i64 (pa / 256 * 256 + L), .int .i64 (va), .int .i64 (ra), .int .i64 (ca), .int .i64 (fa), .int .i64 (ga), .int .i64 (pb), .int .i64 (vb), .int .i64 (rb), .int .i64 (cb), .int .i64 (fb), .int .i64 (gb)] := (rowB_set (rowB_below hr (below_drewN wg nq _) (rowB_lt hr)) 0 (.int .i64 (pa / 256 * 256 + L)))
    have bY := (Below.setCell (bX.trans ((below_drewN wg nq _).mono bX.size)) (p := ⟨g, 0, none⟩) (show w.heap.size ≤ g by omega) (.int .i64 (pa / 256 * 256 + L)))
    go_wp2_with (first
      | (refine wpList_loadR rfl 25 _ rfl (w.heap.size + 1) rfl 25 #[.slice (some ⟨g, 0, none⟩) 12 12, .slice none 0 0] ?_ agDv ?_; with_reducible exact r1)
      | (refine wpList_storeR rfl 25 _ _ rfl (w.heap.size + 2) rfl #[.slice (some ⟨g, 0, none⟩) 12 12, .slice none 0 0] rfl (dev2_one _ _ _ _ _ _) 25 #[.slice none 0 0, .slice none 0 0] rfl ?_ agDv ?_; with_reducible exact r2))
    refine bodyPost_ret (resultsR rfl (w.heap.size + 2) _ rfl (rowB_row r2 _) agDv) rfl ?_
    exact ⟨_, rfl, ⟨g, rfl, by omega, rowB_row_other rg _ (by omega)⟩, below_rowR bY _ (by omega)⟩
  · have e : (⟨⟨pa, va, ra, ca, fa, ga⟩, ⟨pb, vb, rb, cb, fb, gb⟩⟩ : Sn).write 1 x = ⟨⟨pa % 256 + L % 16 * 256, va, ra, ca, fa, ga⟩, ⟨pb, vb, rb, cb, fb, gb⟩⟩ := by rw [← hL4]; rfl
    rw [e]
    clear e
    dsimp only [Sn.ns]
    have t1 : pa.tmod 256 = pa % 256 := Int.tmod_eq_emod_of_nonneg (by omega)
    have w1 : wrap64 (L % 16 * 256) = L % 16 * 256 := IntWalk.wrap64_in _ (by omega)
    have w2 : wrap64 (pa % 256 + L % 16 * 256) = pa % 256 + L % 16 * 256 := IntWalk.wrap64_in _ (by omega)
    clear hL hL4
    go_enter Try.func14, Try.ntmps14
    go_upto_region 2 with (first
      | (go_at_call 19; refine hF.mono ?_; rintro e wf ⟨u, rfl, ⟨g, rfl, hg, hr⟩, hb⟩; have q0 := rowB_below k0 hb (rowB_lt k0); have q1 := rowB_below k1 hb (rowB_lt k1); have q2 := rowB_below k2 hb (rowB_lt k2); rw [sW] at hg; have bX := bW.trans (hb.mono bW.size))
      | (refine wpList_storeR rfl 25 _ _ rfl (w.heap.size + 1) rfl #[.slice (some ⟨g, 0, none⟩) 12 12, .slice none 0 0] rfl (dev2_one _ _ _ _ _ _) 25 #[v, vm] rfl ?_ agDv ?_; with_reducible exact q1))
    replace hr : rowB wf g 3 #[.int .i64 pa, .int .i64 va, .int .i64 ra, .int .i64 ca, .int .i64 fa, .int .i64 ga, .int .i64 pb, .int .i64 vb, .int .i64 rb, .int .i64 cb, .int .i64 fb, .int .i64 gb] := hr
    replace q0 := rowB_row_other q0 #[.slice (some ⟨g, 0, none⟩) 12 12, .slice none 0 0] (show w.heap.size + 1 ≠ w.heap.size by omega)
    replace q2 := rowB_row_other q2 #[.slice (some ⟨g, 0, none⟩) 12 12, .slice none 0 0] (show w.heap.size + 1 ≠ w.heap.size + 2 by omega)
    replace hr := rowB_row_other hr #[.slice (some ⟨g, 0, none⟩) 12 12, .slice none 0 0] (show w.heap.size + 1 ≠ g by omega)
    replace q1 := rowB_row q1 #[.slice (some ⟨g, 0, none⟩) 12 12, .slice none 0 0]
    replace bX := below_rowR bX #[.slice (some ⟨g, 0, none⟩) 12 12, .slice none 0 0] (show w.heap.size ≤ w.heap.size + 1 by omega)
    generalize wf.setRow (w.heap.size + 1) #[.slice (some ⟨g, 0, none⟩) 12 12, .slice none 0 0] = wg at *
    clear hb hF k0 k1 k2 bW sW h2
    have hk := rowB_cell q0 1 (v := .int .i64 7) rfl
    obtain ⟨d0, d1, y0, y1⟩ := dcells2 q1
    have e0 := rowB_cell hr 0 (v := .int .i64 (pa)) rfl
    have z0 := rowB_free hr 0
    have e1 := rowB_cell hr 1 (v := .int .i64 (va)) rfl
    have z1 := rowB_free hr 1
    have e2 := rowB_cell hr 2 (v := .int .i64 (ra)) rfl
    have z2 := rowB_free hr 2
    have e3 := rowB_cell hr 3 (v := .int .i64 (ca)) rfl
    have z3 := rowB_free hr 3
    have e4 := rowB_cell hr 4 (v := .int .i64 (fa)) rfl
    have z4 := rowB_free hr 4
    have e5 := rowB_cell hr 5 (v := .int .i64 (ga)) rfl
    have z5 := rowB_free hr 5
    have e6 := rowB_cell hr 6 (v := .int .i64 (pb)) rfl
    have z6 := rowB_free hr 6
    have e7 := rowB_cell hr 7 (v := .int .i64 (vb)) rfl
    have z7 := rowB_free hr 7
    have e8 := rowB_cell hr 8 (v := .int .i64 (rb)) rfl
    have z8 := rowB_free hr 8
    have e9 := rowB_cell hr 9 (v := .int .i64 (cb)) rfl
    have z9 := rowB_free hr 9
    have e10 := rowB_cell hr 10 (v := .int .i64 (fb)) rfl
    have z10 := rowB_free hr 10
    have e11 := rowB_cell hr 11 (v := .int .i64 (gb)) rfl
    have z11 := rowB_free hr 11
    go_wp2_with fail
    go_quiet ((go_at_call 35; exact quiet_left (hM _)))
    have r1 := (rowB_other (rowB_below q1 (below_drewN wg nq _) (rowB_lt q1)) ⟨g, 0, none⟩ (.int .i64 (pa % 256 + L % 16 * 256)) (show g ≠ _ by omega))
    have r2 := (rowB_other (rowB_below q2 (below_drewN wg nq _) (rowB_lt q2)) ⟨g, 0, none⟩ (.int .i64 (pa % 256 + L % 16 * 256)) (show g ≠ _ by omega))
    have rg : rowB _ g 3 #[.int .i64 (pa % 256 + L % 16 * 256), .int .i64 (va), .int .i64 (ra), .int .i64 (ca), .int .i64 (fa), .int .i64 (ga), .int .i64 (pb), .int .i64 (vb), .int .i64 (rb), .int .i64 (cb), .int .i64 (fb), .int .i64 (gb)] := (rowB_set (rowB_below hr (below_drewN wg nq _) (rowB_lt hr)) 0 (.int .i64 (pa % 256 + L % 16 * 256)))
    have bY := (Below.setCell (bX.trans ((below_drewN wg nq _).mono bX.size)) (p := ⟨g, 0, none⟩) (show w.heap.size ≤ g by omega) (.int .i64 (pa % 256 + L % 16 * 256)))
    go_wp2_with (first
      | (refine wpList_loadR rfl 25 _ rfl (w.heap.size + 1) rfl 25 #[.slice (some ⟨g, 0, none⟩) 12 12, .slice none 0 0] ?_ agDv ?_; with_reducible exact r1)
      | (refine wpList_storeR rfl 25 _ _ rfl (w.heap.size + 2) rfl #[.slice (some ⟨g, 0, none⟩) 12 12, .slice none 0 0] rfl (dev2_one _ _ _ _ _ _) 25 #[.slice none 0 0, .slice none 0 0] rfl ?_ agDv ?_; with_reducible exact r2))
    refine bodyPost_ret (resultsR rfl (w.heap.size + 2) _ rfl (rowB_row r2 _) agDv) rfl ?_
    exact ⟨_, rfl, ⟨g, rfl, by omega, rowB_row_other rg _ (by omega)⟩, below_rowR bY _ (by omega)⟩
  · have e : (⟨⟨pa, va, ra, ca, fa, ga⟩, ⟨pb, vb, rb, cb, fb, gb⟩⟩ : Sn).write 2 x = ⟨⟨pa, L % 16, ra, ca, fa, 0⟩, ⟨pb, vb, rb, cb, fb, gb⟩⟩ := by rw [← hL4]; rfl
    rw [e]
    clear e
    dsimp only [Sn.ns]
    clear hL hL4
    go_enter Try.func14, Try.ntmps14
    go_upto_region 2 with (first
      | (go_at_call 19; refine hF.mono ?_; rintro e wf ⟨u, rfl, ⟨g, rfl, hg, hr⟩, hb⟩; have q0 := rowB_below k0 hb (rowB_lt k0); have q1 := rowB_below k1 hb (rowB_lt k1); have q2 := rowB_below k2 hb (rowB_lt k2); rw [sW] at hg; have bX := bW.trans (hb.mono bW.size))
      | (refine wpList_storeR rfl 25 _ _ rfl (w.heap.size + 1) rfl #[.slice (some ⟨g, 0, none⟩) 12 12, .slice none 0 0] rfl (dev2_one _ _ _ _ _ _) 25 #[v, vm] rfl ?_ agDv ?_; with_reducible exact q1))
    replace hr : rowB wf g 3 #[.int .i64 pa, .int .i64 va, .int .i64 ra, .int .i64 ca, .int .i64 fa, .int .i64 ga, .int .i64 pb, .int .i64 vb, .int .i64 rb, .int .i64 cb, .int .i64 fb, .int .i64 gb] := hr
    replace q0 := rowB_row_other q0 #[.slice (some ⟨g, 0, none⟩) 12 12, .slice none 0 0] (show w.heap.size + 1 ≠ w.heap.size by omega)
    replace q2 := rowB_row_other q2 #[.slice (some ⟨g, 0, none⟩) 12 12, .slice none 0 0] (show w.heap.size + 1 ≠ w.heap.size + 2 by omega)
    replace hr := rowB_row_other hr #[.slice (some ⟨g, 0, none⟩) 12 12, .slice none 0 0] (show w.heap.size + 1 ≠ g by omega)
    replace q1 := rowB_row q1 #[.slice (some ⟨g, 0, none⟩) 12 12, .slice none 0 0]
    replace bX := below_rowR bX #[.slice (some ⟨g, 0, none⟩) 12 12, .slice none 0 0] (show w.heap.size ≤ w.heap.size + 1 by omega)
    generalize wf.setRow (w.heap.size + 1) #[.slice (some ⟨g, 0, none⟩) 12 12, .slice none 0 0] = wg at *
    clear hb hF k0 k1 k2 bW sW h2
    have hk := rowB_cell q0 1 (v := .int .i64 7) rfl
    obtain ⟨d0, d1, y0, y1⟩ := dcells2 q1
    have e0 := rowB_cell hr 0 (v := .int .i64 (pa)) rfl
    have z0 := rowB_free hr 0
    have e1 := rowB_cell hr 1 (v := .int .i64 (va)) rfl
    have z1 := rowB_free hr 1
    have e2 := rowB_cell hr 2 (v := .int .i64 (ra)) rfl
    have z2 := rowB_free hr 2
    have e3 := rowB_cell hr 3 (v := .int .i64 (ca)) rfl
    have z3 := rowB_free hr 3
    have e4 := rowB_cell hr 4 (v := .int .i64 (fa)) rfl
    have z4 := rowB_free hr 4
    have e5 := rowB_cell hr 5 (v := .int .i64 (ga)) rfl
    have z5 := rowB_free hr 5
    have e6 := rowB_cell hr 6 (v := .int .i64 (pb)) rfl
    have z6 := rowB_free hr 6
    have e7 := rowB_cell hr 7 (v := .int .i64 (vb)) rfl
    have z7 := rowB_free hr 7
    have e8 := rowB_cell hr 8 (v := .int .i64 (rb)) rfl
    have z8 := rowB_free hr 8
    have e9 := rowB_cell hr 9 (v := .int .i64 (cb)) rfl
    have z9 := rowB_free hr 9
    have e10 := rowB_cell hr 10 (v := .int .i64 (fb)) rfl
    have z10 := rowB_free hr 10
    have e11 := rowB_cell hr 11 (v := .int .i64 (gb)) rfl
    have z11 := rowB_free hr 11
    go_wp2_with fail
    go_quiet ((go_at_call 35; exact quiet_left (hM _)))
    have r1 := (rowB_other (rowB_other (rowB_below q1 (below_drewN wg nq _) (rowB_lt q1)) ⟨g, 1, none⟩ (.int .i64 (L % 16)) (show g ≠ _ by omega)) ⟨g, 5, none⟩ (.int .i64 (0)) (show g ≠ _ by omega))
    have r2 := (rowB_other (rowB_other (rowB_below q2 (below_drewN wg nq _) (rowB_lt q2)) ⟨g, 1, none⟩ (.int .i64 (L % 16)) (show g ≠ _ by omega)) ⟨g, 5, none⟩ (.int .i64 (0)) (show g ≠ _ by omega))
    have rg : rowB _ g 3 #[.int .i64 (pa), .int .i64 (L % 16), .int .i64 (ra), .int .i64 (ca), .int .i64 (fa), .int .i64 (0), .int .i64 (pb), .int .i64 (vb), .int .i64 (rb), .int .i64 (cb), .int .i64 (fb), .int .i64 (gb)] := (rowB_set (rowB_set (rowB_below hr (below_drewN wg nq _) (rowB_lt hr)) 1 (.int .i64 (L % 16))) 5 (.int .i64 (0)))
    have bY := (Below.setCell (Below.setCell (bX.trans ((below_drewN wg nq _).mono bX.size)) (p := ⟨g, 1, none⟩) (show w.heap.size ≤ g by omega) (.int .i64 (L % 16))) (p := ⟨g, 5, none⟩) (show w.heap.size ≤ g by omega) (.int .i64 (0)))
    go_wp2_with (first
      | (refine wpList_loadR rfl 25 _ rfl (w.heap.size + 1) rfl 25 #[.slice (some ⟨g, 0, none⟩) 12 12, .slice none 0 0] ?_ agDv ?_; with_reducible exact r1)
      | (refine wpList_storeR rfl 25 _ _ rfl (w.heap.size + 2) rfl #[.slice (some ⟨g, 0, none⟩) 12 12, .slice none 0 0] rfl (dev2_one _ _ _ _ _ _) 25 #[.slice none 0 0, .slice none 0 0] rfl ?_ agDv ?_; with_reducible exact r2))
    refine bodyPost_ret (resultsR rfl (w.heap.size + 2) _ rfl (rowB_row r2 _) agDv) rfl ?_
    exact ⟨_, rfl, ⟨g, rfl, by omega, rowB_row_other rg _ (by omega)⟩, below_rowR bY _ (by omega)⟩
  · have e : (⟨⟨pa, va, ra, ca, fa, ga⟩, ⟨pb, vb, rb, cb, fb, gb⟩⟩ : Sn).write 3 x = ⟨⟨pa, va, L, ca, fa, ga⟩, ⟨pb, vb, rb, cb, fb, gb⟩⟩ := by rw [← hL]; rfl
    rw [e]
    clear e
    dsimp only [Sn.ns]
    clear hL hL4
    go_enter Try.func14, Try.ntmps14
    go_upto_region 2 with (first
      | (go_at_call 19; refine hF.mono ?_; rintro e wf ⟨u, rfl, ⟨g, rfl, hg, hr⟩, hb⟩; have q0 := rowB_below k0 hb (rowB_lt k0); have q1 := rowB_below k1 hb (rowB_lt k1); have q2 := rowB_below k2 hb (rowB_lt k2); rw [sW] at hg; have bX := bW.trans (hb.mono bW.size))
      | (refine wpList_storeR rfl 25 _ _ rfl (w.heap.size + 1) rfl #[.slice (some ⟨g, 0, none⟩) 12 12, .slice none 0 0] rfl (dev2_one _ _ _ _ _ _) 25 #[v, vm] rfl ?_ agDv ?_; with_reducible exact q1))
    replace hr : rowB wf g 3 #[.int .i64 pa, .int .i64 va, .int .i64 ra, .int .i64 ca, .int .i64 fa, .int .i64 ga, .int .i64 pb, .int .i64 vb, .int .i64 rb, .int .i64 cb, .int .i64 fb, .int .i64 gb] := hr
    replace q0 := rowB_row_other q0 #[.slice (some ⟨g, 0, none⟩) 12 12, .slice none 0 0] (show w.heap.size + 1 ≠ w.heap.size by omega)
    replace q2 := rowB_row_other q2 #[.slice (some ⟨g, 0, none⟩) 12 12, .slice none 0 0] (show w.heap.size + 1 ≠ w.heap.size + 2 by omega)
    replace hr := rowB_row_other hr #[.slice (some ⟨g, 0, none⟩) 12 12, .slice none 0 0] (show w.heap.size + 1 ≠ g by omega)
    replace q1 := rowB_row q1 #[.slice (some ⟨g, 0, none⟩) 12 12, .slice none 0 0]
    replace bX := below_rowR bX #[.slice (some ⟨g, 0, none⟩) 12 12, .slice none 0 0] (show w.heap.size ≤ w.heap.size + 1 by omega)
    generalize wf.setRow (w.heap.size + 1) #[.slice (some ⟨g, 0, none⟩) 12 12, .slice none 0 0] = wg at *
    clear hb hF k0 k1 k2 bW sW h2
    have hk := rowB_cell q0 1 (v := .int .i64 7) rfl
    obtain ⟨d0, d1, y0, y1⟩ := dcells2 q1
    have e0 := rowB_cell hr 0 (v := .int .i64 (pa)) rfl
    have z0 := rowB_free hr 0
    have e1 := rowB_cell hr 1 (v := .int .i64 (va)) rfl
    have z1 := rowB_free hr 1
    have e2 := rowB_cell hr 2 (v := .int .i64 (ra)) rfl
    have z2 := rowB_free hr 2
    have e3 := rowB_cell hr 3 (v := .int .i64 (ca)) rfl
    have z3 := rowB_free hr 3
    have e4 := rowB_cell hr 4 (v := .int .i64 (fa)) rfl
    have z4 := rowB_free hr 4
    have e5 := rowB_cell hr 5 (v := .int .i64 (ga)) rfl
    have z5 := rowB_free hr 5
    have e6 := rowB_cell hr 6 (v := .int .i64 (pb)) rfl
    have z6 := rowB_free hr 6
    have e7 := rowB_cell hr 7 (v := .int .i64 (vb)) rfl
    have z7 := rowB_free hr 7
    have e8 := rowB_cell hr 8 (v := .int .i64 (rb)) rfl
    have z8 := rowB_free hr 8
    have e9 := rowB_cell hr 9 (v := .int .i64 (cb)) rfl
    have z9 := rowB_free hr 9
    have e10 := rowB_cell hr 10 (v := .int .i64 (fb)) rfl
    have z10 := rowB_free hr 10
    have e11 := rowB_cell hr 11 (v := .int .i64 (gb)) rfl
    have z11 := rowB_free hr 11
    go_wp2_with fail
    go_quiet ((go_at_call 35; exact quiet_left (hM _)))
    have r1 := (rowB_other (rowB_below q1 (below_drewN wg nq _) (rowB_lt q1)) ⟨g, 2, none⟩ (.int .i64 (L)) (show g ≠ _ by omega))
    have r2 := (rowB_other (rowB_below q2 (below_drewN wg nq _) (rowB_lt q2)) ⟨g, 2, none⟩ (.int .i64 (L)) (show g ≠ _ by omega))
    have rg : rowB _ g 3 #[.int .i64 (pa), .int .i64 (va), .int .i64 (L), .int .i64 (ca), .int .i64 (fa), .int .i64 (ga), .int .i64 (pb), .int .i64 (vb), .int .i64 (rb), .int .i64 (cb), .int .i64 (fb), .int .i64 (gb)] := (rowB_set (rowB_below hr (below_drewN wg nq _) (rowB_lt hr)) 2 (.int .i64 (L)))
    have bY := (Below.setCell (bX.trans ((below_drewN wg nq _).mono bX.size)) (p := ⟨g, 2, none⟩) (show w.heap.size ≤ g by omega) (.int .i64 (L)))
    go_wp2_with (first
      | (refine wpList_loadR rfl 25 _ rfl (w.heap.size + 1) rfl 25 #[.slice (some ⟨g, 0, none⟩) 12 12, .slice none 0 0] ?_ agDv ?_; with_reducible exact r1)
      | (refine wpList_storeR rfl 25 _ _ rfl (w.heap.size + 2) rfl #[.slice (some ⟨g, 0, none⟩) 12 12, .slice none 0 0] rfl (dev2_one _ _ _ _ _ _) 25 #[.slice none 0 0, .slice none 0 0] rfl ?_ agDv ?_; with_reducible exact r2))
    refine bodyPost_ret (resultsR rfl (w.heap.size + 2) _ rfl (rowB_row r2 _) agDv) rfl ?_
    exact ⟨_, rfl, ⟨g, rfl, by omega, rowB_row_other rg _ (by omega)⟩, below_rowR bY _ (by omega)⟩
  · have e : (⟨⟨pa, va, ra, ca, fa, ga⟩, ⟨pb, vb, rb, cb, fb, gb⟩⟩ : Sn).write 4 x = ⟨⟨pa, va, ra, ca, fa, ga⟩, ⟨pb / 256 * 256 + L, vb, rb, cb, fb, gb⟩⟩ := by rw [← hL]; rfl
    rw [e]
    clear e
    dsimp only [Sn.ns]
    have t1 : pb.tdiv 256 = pb / 256 := Int.tdiv_eq_ediv_of_nonneg (by omega)
    have w1 : wrap64 (pb / 256 * 256) = pb / 256 * 256 := IntWalk.wrap64_in _ (by omega)
    have w2 : wrap64 (pb / 256 * 256 + L) = pb / 256 * 256 + L := IntWalk.wrap64_in _ (by omega)
    clear hL hL4
    go_enter Try.func14, Try.ntmps14
    go_upto_region 2 with (first
      | (go_at_call 19; refine hF.mono ?_; rintro e wf ⟨u, rfl, ⟨g, rfl, hg, hr⟩, hb⟩; have q0 := rowB_below k0 hb (rowB_lt k0); have q1 := rowB_below k1 hb (rowB_lt k1); have q2 := rowB_below k2 hb (rowB_lt k2); rw [sW] at hg; have bX := bW.trans (hb.mono bW.size))
      | (refine wpList_storeR rfl 25 _ _ rfl (w.heap.size + 1) rfl #[.slice (some ⟨g, 0, none⟩) 12 12, .slice none 0 0] rfl (dev2_one _ _ _ _ _ _) 25 #[v, vm] rfl ?_ agDv ?_; with_reducible exact q1))
    replace hr : rowB wf g 3 #[.int .i64 pa, .int .i64 va, .int .i64 ra, .int .i64 ca, .int .i64 fa, .int .i64 ga, .int .i64 pb, .int .i64 vb, .int .i64 rb, .int .i64 cb, .int .i64 fb, .int .i64 gb] := hr
    replace q0 := rowB_row_other q0 #[.slice (some ⟨g, 0, none⟩) 12 12, .slice none 0 0] (show w.heap.size + 1 ≠ w.heap.size by omega)
    replace q2 := rowB_row_other q2 #[.slice (some ⟨g, 0, none⟩) 12 12, .slice none 0 0] (show w.heap.size + 1 ≠ w.heap.size + 2 by omega)
    replace hr := rowB_row_other hr #[.slice (some ⟨g, 0, none⟩) 12 12, .slice none 0 0] (show w.heap.size + 1 ≠ g by omega)
    replace q1 := rowB_row q1 #[.slice (some ⟨g, 0, none⟩) 12 12, .slice none 0 0]
    replace bX := below_rowR bX #[.slice (some ⟨g, 0, none⟩) 12 12, .slice none 0 0] (show w.heap.size ≤ w.heap.size + 1 by omega)
    generalize wf.setRow (w.heap.size + 1) #[.slice (some ⟨g, 0, none⟩) 12 12, .slice none 0 0] = wg at *
    clear hb hF k0 k1 k2 bW sW h2
    have hk := rowB_cell q0 1 (v := .int .i64 7) rfl
    obtain ⟨d0, d1, y0, y1⟩ := dcells2 q1
    have e0 := rowB_cell hr 0 (v := .int .i64 (pa)) rfl
    have z0 := rowB_free hr 0
    have e1 := rowB_cell hr 1 (v := .int .i64 (va)) rfl
    have z1 := rowB_free hr 1
    have e2 := rowB_cell hr 2 (v := .int .i64 (ra)) rfl
    have z2 := rowB_free hr 2
    have e3 := rowB_cell hr 3 (v := .int .i64 (ca)) rfl
    have z3 := rowB_free hr 3
    have e4 := rowB_cell hr 4 (v := .int .i64 (fa)) rfl
    have z4 := rowB_free hr 4
    have e5 := rowB_cell hr 5 (v := .int .i64 (ga)) rfl
    have z5 := rowB_free hr 5
    have e6 := rowB_cell hr 6 (v := .int .i64 (pb)) rfl
    have z6 := rowB_free hr 6
    have e7 := rowB_cell hr 7 (v := .int .i64 (vb)) rfl
    have z7 := rowB_free hr 7
    have e8 := rowB_cell hr 8 (v := .int .i64 (rb)) rfl
    have z8 := rowB_free hr 8
    have e9 := rowB_cell hr 9 (v := .int .i64 (cb)) rfl
    have z9 := rowB_free hr 9
    have e10 := rowB_cell hr 10 (v := .int .i64 (fb)) rfl
    have z10 := rowB_free hr 10
    have e11 := rowB_cell hr 11 (v := .int .i64 (gb)) rfl
    have z11 := rowB_free hr 11
    go_wp2_with fail
    go_quiet ((go_at_call 35; exact quiet_left (hM _)))
    have r1 := (rowB_other (rowB_below q1 (below_drewN wg nq _) (rowB_lt q1)) ⟨g, 6, none⟩ (.int .i64 (pb / 256 * 256 + L)) (show g ≠ _ by omega))
    have r2 := (rowB_other (rowB_below q2 (below_drewN wg nq _) (rowB_lt q2)) ⟨g, 6, none⟩ (.int .i64 (pb / 256 * 256 + L)) (show g ≠ _ by omega))
    have rg : rowB _ g 3 #[.int .i64 (pa), .int .i64 (va), .int .i64 (ra), .int .i64 (ca), .int .i64 (fa), .int .i64 (ga), .int .i64 (pb / 256 * 256 + L), .int .i64 (vb), .int .i64 (rb), .int .i64 (cb), .int .i64 (fb), .int .i64 (gb)] := (rowB_set (rowB_below hr (below_drewN wg nq _) (rowB_lt hr)) 6 (.int .i64 (pb / 256 * 256 + L)))
    have bY := (Below.setCell (bX.trans ((below_drewN wg nq _).mono bX.size)) (p := ⟨g, 6, none⟩) (show w.heap.size ≤ g by omega) (.int .i64 (pb / 256 * 256 + L)))
    go_wp2_with (first
      | (refine wpList_loadR rfl 25 _ rfl (w.heap.size + 1) rfl 25 #[.slice (some ⟨g, 0, none⟩) 12 12, .slice none 0 0] ?_ agDv ?_; with_reducible exact r1)
      | (refine wpList_storeR rfl 25 _ _ rfl (w.heap.size + 2) rfl #[.slice (some ⟨g, 0, none⟩) 12 12, .slice none 0 0] rfl (dev2_one _ _ _ _ _ _) 25 #[.slice none 0 0, .slice none 0 0] rfl ?_ agDv ?_; with_reducible exact r2))
    refine bodyPost_ret (resultsR rfl (w.heap.size + 2) _ rfl (rowB_row r2 _) agDv) rfl ?_
    exact ⟨_, rfl, ⟨g, rfl, by omega, rowB_row_other rg _ (by omega)⟩, below_rowR bY _ (by omega)⟩
  · have e : (⟨⟨pa, va, ra, ca, fa, ga⟩, ⟨pb, vb, rb, cb, fb, gb⟩⟩ : Sn).write 5 x = ⟨⟨pa, va, ra, ca, fa, ga⟩, ⟨pb % 256 + L % 16 * 256, vb, rb, cb, fb, gb⟩⟩ := by rw [← hL4]; rfl
    rw [e]
    clear e
    dsimp only [Sn.ns]
    have t1 : pb.tmod 256 = pb % 256 := Int.tmod_eq_emod_of_nonneg (by omega)
    have w1 : wrap64 (L % 16 * 256) = L % 16 * 256 := IntWalk.wrap64_in _ (by omega)
    have w2 : wrap64 (pb % 256 + L % 16 * 256) = pb % 256 + L % 16 * 256 := IntWalk.wrap64_in _ (by omega)
    clear hL hL4
    go_enter Try.func14, Try.ntmps14
    go_upto_region 2 with (first
      | (go_at_call 19; refine hF.mono ?_; rintro e wf ⟨u, rfl, ⟨g, rfl, hg, hr⟩, hb⟩; have q0 := rowB_below k0 hb (rowB_lt k0); have q1 := rowB_below k1 hb (rowB_lt k1); have q2 := rowB_below k2 hb (rowB_lt k2); rw [sW] at hg; have bX := bW.trans (hb.mono bW.size))
      | (refine wpList_storeR rfl 25 _ _ rfl (w.heap.size + 1) rfl #[.slice (some ⟨g, 0, none⟩) 12 12, .slice none 0 0] rfl (dev2_one _ _ _ _ _ _) 25 #[v, vm] rfl ?_ agDv ?_; with_reducible exact q1))
    replace hr : rowB wf g 3 #[.int .i64 pa, .int .i64 va, .int .i64 ra, .int .i64 ca, .int .i64 fa, .int .i64 ga, .int .i64 pb, .int .i64 vb, .int .i64 rb, .int .i64 cb, .int .i64 fb, .int .i64 gb] := hr
    replace q0 := rowB_row_other q0 #[.slice (some ⟨g, 0, none⟩) 12 12, .slice none 0 0] (show w.heap.size + 1 ≠ w.heap.size by omega)
    replace q2 := rowB_row_other q2 #[.slice (some ⟨g, 0, none⟩) 12 12, .slice none 0 0] (show w.heap.size + 1 ≠ w.heap.size + 2 by omega)
    replace hr := rowB_row_other hr #[.slice (some ⟨g, 0, none⟩) 12 12, .slice none 0 0] (show w.heap.size + 1 ≠ g by omega)
    replace q1 := rowB_row q1 #[.slice (some ⟨g, 0, none⟩) 12 12, .slice none 0 0]
    replace bX := below_rowR bX #[.slice (some ⟨g, 0, none⟩) 12 12, .slice none 0 0] (show w.heap.size ≤ w.heap.size + 1 by omega)
    generalize wf.setRow (w.heap.size + 1) #[.slice (some ⟨g, 0, none⟩) 12 12, .slice none 0 0] = wg at *
    clear hb hF k0 k1 k2 bW sW h2
    have hk := rowB_cell q0 1 (v := .int .i64 7) rfl
    obtain ⟨d0, d1, y0, y1⟩ := dcells2 q1
    have e0 := rowB_cell hr 0 (v := .int .i64 (pa)) rfl
    have z0 := rowB_free hr 0
    have e1 := rowB_cell hr 1 (v := .int .i64 (va)) rfl
    have z1 := rowB_free hr 1
    have e2 := rowB_cell hr 2 (v := .int .i64 (ra)) rfl
    have z2 := rowB_free hr 2
    have e3 := rowB_cell hr 3 (v := .int .i64 (ca)) rfl
    have z3 := rowB_free hr 3
    have e4 := rowB_cell hr 4 (v := .int .i64 (fa)) rfl
    have z4 := rowB_free hr 4
    have e5 := rowB_cell hr 5 (v := .int .i64 (ga)) rfl
    have z5 := rowB_free hr 5
    have e6 := rowB_cell hr 6 (v := .int .i64 (pb)) rfl
    have z6 := rowB_free hr 6
    have e7 := rowB_cell hr 7 (v := .int .i64 (vb)) rfl
    have z7 := rowB_free hr 7
    have e8 := rowB_cell hr 8 (v := .int .i64 (rb)) rfl
    have z8 := rowB_free hr 8
    have e9 := rowB_cell hr 9 (v := .int .i64 (cb)) rfl
    have z9 := rowB_free hr 9
    have e10 := rowB_cell hr 10 (v := .int .i64 (fb)) rfl
    have z10 := rowB_free hr 10
    have e11 := rowB_cell hr 11 (v := .int .i64 (gb)) rfl
    have z11 := rowB_free hr 11
    go_wp2_with fail
    go_quiet ((go_at_call 35; exact quiet_left (hM _)))
    have r1 := (rowB_other (rowB_below q1 (below_drewN wg nq _) (rowB_lt q1)) ⟨g, 6, none⟩ (.int .i64 (pb % 256 + L % 16 * 256)) (show g ≠ _ by omega))
    have r2 := (rowB_other (rowB_below q2 (below_drewN wg nq _) (rowB_lt q2)) ⟨g, 6, none⟩ (.int .i64 (pb % 256 + L % 16 * 256)) (show g ≠ _ by omega))
    have rg : rowB _ g 3 #[.int .i64 (pa), .int .i64 (va), .int .i64 (ra), .int .i64 (ca), .int .i64 (fa), .int .i64 (ga), .int .i64 (pb % 256 + L % 16 * 256), .int .i64 (vb), .int .i64 (rb), .int .i64 (cb), .int .i64 (fb), .int .i64 (gb)] := (rowB_set (rowB_below hr (below_drewN wg nq _) (rowB_lt hr)) 6 (.int .i64 (pb % 256 + L % 16 * 256)))
    have bY := (Below.setCell (bX.trans ((below_drewN wg nq _).mono bX.size)) (p := ⟨g, 6, none⟩) (show w.heap.size ≤ g by omega) (.int .i64 (pb % 256 + L % 16 * 256)))
    go_wp2_with (first
      | (refine wpList_loadR rfl 25 _ rfl (w.heap.size + 1) rfl 25 #[.slice (some ⟨g, 0, none⟩) 12 12, .slice none 0 0] ?_ agDv ?_; with_reducible exact r1)
      | (refine wpList_storeR rfl 25 _ _ rfl (w.heap.size + 2) rfl #[.slice (some ⟨g, 0, none⟩) 12 12, .slice none 0 0] rfl (dev2_one _ _ _ _ _ _) 25 #[.slice none 0 0, .slice none 0 0] rfl ?_ agDv ?_; with_reducible exact r2))
    refine bodyPost_ret (resultsR rfl (w.heap.size + 2) _ rfl (rowB_row r2 _) agDv) rfl ?_
    exact ⟨_, rfl, ⟨g, rfl, by omega, rowB_row_other rg _ (by omega)⟩, below_rowR bY _ (by omega)⟩
  · have e : (⟨⟨pa, va, ra, ca, fa, ga⟩, ⟨pb, vb, rb, cb, fb, gb⟩⟩ : Sn).write 6 x = ⟨⟨pa, va, ra, ca, fa, ga⟩, ⟨pb, L % 16, rb, cb, fb, 0⟩⟩ := by rw [← hL4]; rfl
    rw [e]
    clear e
    dsimp only [Sn.ns]
    clear hL hL4
    go_enter Try.func14, Try.ntmps14
    go_upto_region 2 with (first
      | (go_at_call 19; refine hF.mono ?_; rintro e wf ⟨u, rfl, ⟨g, rfl, hg, hr⟩, hb⟩; have q0 := rowB_below k0 hb (rowB_lt k0); have q1 := rowB_below k1 hb (rowB_lt k1); have q2 := rowB_below k2 hb (rowB_lt k2); rw [sW] at hg; have bX := bW.trans (hb.mono bW.size))
      | (refine wpList_storeR rfl 25 _ _ rfl (w.heap.size + 1) rfl #[.slice (some ⟨g, 0, none⟩) 12 12, .slice none 0 0] rfl (dev2_one _ _ _ _ _ _) 25 #[v, vm] rfl ?_ agDv ?_; with_reducible exact q1))
    replace hr : rowB wf g 3 #[.int .i64 pa, .int .i64 va, .int .i64 ra, .int .i64 ca, .int .i64 fa, .int .i64 ga, .int .i64 pb, .int .i64 vb, .int .i64 rb, .int .i64 cb, .int .i64 fb, .int .i64 gb] := hr
    replace q0 := rowB_row_other q0 #[.slice (some ⟨g, 0, none⟩) 12 12, .slice none 0 0] (show w.heap.size + 1 ≠ w.heap.size by omega)
    replace q2 := rowB_row_other q2 #[.slice (some ⟨g, 0, none⟩) 12 12, .slice none 0 0] (show w.heap.size + 1 ≠ w.heap.size + 2 by omega)
    replace hr := rowB_row_other hr #[.slice (some ⟨g, 0, none⟩) 12 12, .slice none 0 0] (show w.heap.size + 1 ≠ g by omega)
    replace q1 := rowB_row q1 #[.slice (some ⟨g, 0, none⟩) 12 12, .slice none 0 0]
    replace bX := below_rowR bX #[.slice (some ⟨g, 0, none⟩) 12 12, .slice none 0 0] (show w.heap.size ≤ w.heap.size + 1 by omega)
    generalize wf.setRow (w.heap.size + 1) #[.slice (some ⟨g, 0, none⟩) 12 12, .slice none 0 0] = wg at *
    clear hb hF k0 k1 k2 bW sW h2
    have hk := rowB_cell q0 1 (v := .int .i64 7) rfl
    obtain ⟨d0, d1, y0, y1⟩ := dcells2 q1
    have e0 := rowB_cell hr 0 (v := .int .i64 (pa)) rfl
    have z0 := rowB_free hr 0
    have e1 := rowB_cell hr 1 (v := .int .i64 (va)) rfl
    have z1 := rowB_free hr 1
    have e2 := rowB_cell hr 2 (v := .int .i64 (ra)) rfl
    have z2 := rowB_free hr 2
    have e3 := rowB_cell hr 3 (v := .int .i64 (ca)) rfl
    have z3 := rowB_free hr 3
    have e4 := rowB_cell hr 4 (v := .int .i64 (fa)) rfl
    have z4 := rowB_free hr 4
    have e5 := rowB_cell hr 5 (v := .int .i64 (ga)) rfl
    have z5 := rowB_free hr 5
    have e6 := rowB_cell hr 6 (v := .int .i64 (pb)) rfl
    have z6 := rowB_free hr 6
    have e7 := rowB_cell hr 7 (v := .int .i64 (vb)) rfl
    have z7 := rowB_free hr 7
    have e8 := rowB_cell hr 8 (v := .int .i64 (rb)) rfl
    have z8 := rowB_free hr 8
    have e9 := rowB_cell hr 9 (v := .int .i64 (cb)) rfl
    have z9 := rowB_free hr 9
    have e10 := rowB_cell hr 10 (v := .int .i64 (fb)) rfl
    have z10 := rowB_free hr 10
    have e11 := rowB_cell hr 11 (v := .int .i64 (gb)) rfl
    have z11 := rowB_free hr 11
    go_wp2_with fail
    go_quiet ((go_at_call 35; exact quiet_left (hM _)))
    have r1 := (rowB_other (rowB_other (rowB_below q1 (below_drewN wg nq _) (rowB_lt q1)) ⟨g, 7, none⟩ (.int .i64 (L % 16)) (show g ≠ _ by omega)) ⟨g, 11, none⟩ (.int .i64 (0)) (show g ≠ _ by omega))
    have r2 := (rowB_other (rowB_other (rowB_below q2 (below_drewN wg nq _) (rowB_lt q2)) ⟨g, 7, none⟩ (.int .i64 (L % 16)) (show g ≠ _ by omega)) ⟨g, 11, none⟩ (.int .i64 (0)) (show g ≠ _ by omega))
    have rg : rowB _ g 3 #[.int .i64 (pa), .int .i64 (va), .int .i64 (ra), .int .i64 (ca), .int .i64 (fa), .int .i64 (ga), .int .i64 (pb), .int .i64 (L % 16), .int .i64 (rb), .int .i64 (cb), .int .i64 (fb), .int .i64 (0)] := (rowB_set (rowB_set (rowB_below hr (below_drewN wg nq _) (rowB_lt hr)) 7 (.int .i64 (L % 16))) 11 (.int .i64 (0)))
    have bY := (Below.setCell (Below.setCell (bX.trans ((below_drewN wg nq _).mono bX.size)) (p := ⟨g, 7, none⟩) (show w.heap.size ≤ g by omega) (.int .i64 (L % 16))) (p := ⟨g, 11, none⟩) (show w.heap.size ≤ g by omega) (.int .i64 (0)))
    go_wp2_with (first
      | (refine wpList_loadR rfl 25 _ rfl (w.heap.size + 1) rfl 25 #[.slice (some ⟨g, 0, none⟩) 12 12, .slice none 0 0] ?_ agDv ?_; with_reducible exact r1)
      | (refine wpList_storeR rfl 25 _ _ rfl (w.heap.size + 2) rfl #[.slice (some ⟨g, 0, none⟩) 12 12, .slice none 0 0] rfl (dev2_one _ _ _ _ _ _) 25 #[.slice none 0 0, .slice none 0 0] rfl ?_ agDv ?_; with_reducible exact r2))
    refine bodyPost_ret (resultsR rfl (w.heap.size + 2) _ rfl (rowB_row r2 _) agDv) rfl ?_
    exact ⟨_, rfl, ⟨g, rfl, by omega, rowB_row_other rg _ (by omega)⟩, below_rowR bY _ (by omega)⟩
  · have e : (⟨⟨pa, va, ra, ca, fa, ga⟩, ⟨pb, vb, rb, cb, fb, gb⟩⟩ : Sn).write 7 x = ⟨⟨pa, va, ra, ca, fa, ga⟩, ⟨pb, vb, L, cb, fb, gb⟩⟩ := by rw [← hL]; rfl
    rw [e]
    clear e
    dsimp only [Sn.ns]
    clear hL hL4
    go_enter Try.func14, Try.ntmps14
    go_upto_region 2 with (first
      | (go_at_call 19; refine hF.mono ?_; rintro e wf ⟨u, rfl, ⟨g, rfl, hg, hr⟩, hb⟩; have q0 := rowB_below k0 hb (rowB_lt k0); have q1 := rowB_below k1 hb (rowB_lt k1); have q2 := rowB_below k2 hb (rowB_lt k2); rw [sW] at hg; have bX := bW.trans (hb.mono bW.size))
      | (refine wpList_storeR rfl 25 _ _ rfl (w.heap.size + 1) rfl #[.slice (some ⟨g, 0, none⟩) 12 12, .slice none 0 0] rfl (dev2_one _ _ _ _ _ _) 25 #[v, vm] rfl ?_ agDv ?_; with_reducible exact q1))
    replace hr : rowB wf g 3 #[.int .i64 pa, .int .i64 va, .int .i64 ra, .int .i64 ca, .int .i64 fa, .int .i64 ga, .int .i64 pb, .int .i64 vb, .int .i64 rb, .int .i64 cb, .int .i64 fb, .int .i64 gb] := hr
    replace q0 := rowB_row_other q0 #[.slice (some ⟨g, 0, none⟩) 12 12, .slice none 0 0] (show w.heap.size + 1 ≠ w.heap.size by omega)
    replace q2 := rowB_row_other q2 #[.slice (some ⟨g, 0, none⟩) 12 12, .slice none 0 0] (show w.heap.size + 1 ≠ w.heap.size + 2 by omega)
    replace hr := rowB_row_other hr #[.slice (some ⟨g, 0, none⟩) 12 12, .slice none 0 0] (show w.heap.size + 1 ≠ g by omega)
    replace q1 := rowB_row q1 #[.slice (some ⟨g, 0, none⟩) 12 12, .slice none 0 0]
    replace bX := below_rowR bX #[.slice (some ⟨g, 0, none⟩) 12 12, .slice none 0 0] (show w.heap.size ≤ w.heap.size + 1 by omega)
    generalize wf.setRow (w.heap.size + 1) #[.slice (some ⟨g, 0, none⟩) 12 12, .slice none 0 0] = wg at *
    clear hb hF k0 k1 k2 bW sW h2
    have hk := rowB_cell q0 1 (v := .int .i64 7) rfl
    obtain ⟨d0, d1, y0, y1⟩ := dcells2 q1
    have e0 := rowB_cell hr 0 (v := .int .i64 (pa)) rfl
    have z0 := rowB_free hr 0
    have e1 := rowB_cell hr 1 (v := .int .i64 (va)) rfl
    have z1 := rowB_free hr 1
    have e2 := rowB_cell hr 2 (v := .int .i64 (ra)) rfl
    have z2 := rowB_free hr 2
    have e3 := rowB_cell hr 3 (v := .int .i64 (ca)) rfl
    have z3 := rowB_free hr 3
    have e4 := rowB_cell hr 4 (v := .int .i64 (fa)) rfl
    have z4 := rowB_free hr 4
    have e5 := rowB_cell hr 5 (v := .int .i64 (ga)) rfl
    have z5 := rowB_free hr 5
    have e6 := rowB_cell hr 6 (v := .int .i64 (pb)) rfl
    have z6 := rowB_free hr 6
    have e7 := rowB_cell hr 7 (v := .int .i64 (vb)) rfl
    have z7 := rowB_free hr 7
    have e8 := rowB_cell hr 8 (v := .int .i64 (rb)) rfl
    have z8 := rowB_free hr 8
    have e9 := rowB_cell hr 9 (v := .int .i64 (cb)) rfl
    have z9 := rowB_free hr 9
    have e10 := rowB_cell hr 10 (v := .int .i64 (fb)) rfl
    have z10 := rowB_free hr 10
    have e11 := rowB_cell hr 11 (v := .int .i64 (gb)) rfl
    have z11 := rowB_free hr 11
    go_wp2_with fail
    go_quiet ((go_at_call 35; exact quiet_left (hM _)))
    have r1 := (rowB_other (rowB_below q1 (below_drewN wg nq _) (rowB_lt q1)) ⟨g, 8, none⟩ (.int .i64 (L)) (show g ≠ _ by omega))
    have r2 := (rowB_other (rowB_below q2 (below_drewN wg nq _) (rowB_lt q2)) ⟨g, 8, none⟩ (.int .i64 (L)) (show g ≠ _ by omega))
    have rg : rowB _ g 3 #[.int .i64 (pa), .int .i64 (va), .int .i64 (ra), .int .i64 (ca), .int .i64 (fa), .int .i64 (ga), .int .i64 (pb), .int .i64 (vb), .int .i64 (L), .int .i64 (cb), .int .i64 (fb), .int .i64 (gb)] := (rowB_set (rowB_below hr (below_drewN wg nq _) (rowB_lt hr)) 8 (.int .i64 (L)))
    have bY := (Below.setCell (bX.trans ((below_drewN wg nq _).mono bX.size)) (p := ⟨g, 8, none⟩) (show w.heap.size ≤ g by omega) (.int .i64 (L)))
    go_wp2_with (first
      | (refine wpList_loadR rfl 25 _ rfl (w.heap.size + 1) rfl 25 #[.slice (some ⟨g, 0, none⟩) 12 12, .slice none 0 0] ?_ agDv ?_; with_reducible exact r1)
      | (refine wpList_storeR rfl 25 _ _ rfl (w.heap.size + 2) rfl #[.slice (some ⟨g, 0, none⟩) 12 12, .slice none 0 0] rfl (dev2_one _ _ _ _ _ _) 25 #[.slice none 0 0, .slice none 0 0] rfl ?_ agDv ?_; with_reducible exact r2))
    refine bodyPost_ret (resultsR rfl (w.heap.size + 2) _ rfl (rowB_row r2 _) agDv) rfl ?_
    exact ⟨_, rfl, ⟨g, rfl, by omega, rowB_row_other rg _ (by omega)⟩, below_rowR bY _ (by omega)⟩
set_option maxHeartbeats 4000000 in
theorem loadedSnd_any (nm : ByteArray) (b z : Int) (dat v vm : Value) (l : List Int) (a : Int) (w : World) (h : isArg w v l) :
    Calls Try.prog 12 #[.agg (chip5 nm 7 b z dat), .agg #[v, vm], .int .i64 a] w fun e w' => ∃ u, e = .returned (.tuple #[u, .int .i64 ((Sn.of l).reg a)]) ∧ devO w.heap.size w' u (Sn.of l).ns ∧ Below w.heap.size w w' := by
  obtain ⟨k0, k1, k2, k3, bW, sW⟩ := boxes4 w (.cells #[.string nm, .int .i64 7, .int .i64 b, .int .i64 z, dat] 27) (.cells #[v, vm] 25) (.cells #[.int .i64 a] 3) (.cells #[.slice none 0 0, .slice none 0 0] 25)
  have k0 : rowB _ _ _ _ := k0
  have k1 : rowB _ _ _ _ := k1
  have k2 : rowB _ _ _ _ := k2
  have k3 : rowB _ _ _ _ := k3
  have h2 := isArg_below h bW (Nat.le_refl _)
  have hF := formedSnd_any nm b z dat v vm l _ h2
  rw [fmSnd] at hF
  have hfit := Sn.of_fit l
  generalize Sn.of l = s at *
  obtain ⟨⟨pa, va, ra, ca, fa, ga⟩, ⟨pb, vb, rb, cb, fb, gb⟩⟩ := s
  obtain ⟨⟨⟨b0, B0⟩, ⟨b1, B1⟩, ⟨b2, B2⟩, ⟨b3, B3⟩, ⟨b4, B4⟩, ⟨b5, B5⟩⟩, ⟨⟨b6, B6⟩, ⟨b7, B7⟩, ⟨b8, B8⟩, ⟨b9, B9⟩, ⟨b10, B10⟩, ⟨b11, B11⟩⟩⟩ := hfit
  dsimp only [Sn.ns, chip5] at *
  have hp : pickN [pa % 256, pa / 256, va, ra, pb % 256, pb / 256, vb, rb] a = (⟨⟨pa, va, ra, ca, fa, ga⟩, ⟨pb, vb, rb, cb, fb, gb⟩⟩ : Sn).reg a := by
    rcases (by omega : a < 0 ∨ 8 ≤ a ∨ a = 0 ∨ a = 1 ∨ a = 2 ∨ a = 3 ∨ a = 4 ∨ a = 5 ∨ a = 6 ∨ a = 7) with h | h | rfl | rfl | rfl | rfl | rfl | rfl | rfl | rfl
    · unfold pickN Sn.reg
      rw [if_neg (by omega), if_neg (by omega), if_neg (by omega)]
    · unfold pickN Sn.reg
      rw [if_pos (by omega), if_neg (by omega), if_neg (by omega), List.getD_eq_getElem?_getD, List.getElem?_eq_none (by simp; omega)]
      rfl
    all_goals rfl
  obtain ⟨O, hO⟩ : ∃ O, (⟨⟨pa, va, ra, ca, fa, ga⟩, ⟨pb, vb, rb, cb, fb, gb⟩⟩ : Sn).reg a = O := ⟨_, rfl⟩
  rw [hO] at hp ⊢
  clear hO
  have ta1 : pa.tmod 256 = pa % 256 := Int.tmod_eq_emod_of_nonneg (by omega)
  have ta2 : pa.tdiv 256 = pa / 256 := Int.tdiv_eq_ediv_of_nonneg (by omega)
  have tb1 : pb.tmod 256 = pb % 256 := Int.tmod_eq_emod_of_nonneg (by omega)
  have tb2 : pb.tdiv 256 = pb / 256 := Int.tdiv_eq_ediv_of_nonneg (by omega)
  have hS : True := trivial
  go_enter Try.func12, Try.ntmps12
  go_upto_region 2 with (first
    | (go_at_call 19; refine hF.mono ?_; rintro e w2 ⟨u, rfl, ⟨g, rfl, hg, hr⟩, hb⟩; have q0 := rowB_below k0 hb (rowB_lt k0); have q1 := rowB_below k1 hb (rowB_lt k1); have q2 := rowB_below k2 hb (rowB_lt k2); have q3 := rowB_below k3 hb (rowB_lt k3); rw [sW] at hg; have bX := bW.trans (hb.mono bW.size))
    | (refine wpList_storeR rfl 25 _ _ rfl (w.heap.size + 1) rfl #[.slice (some ⟨g, 0, none⟩) 12 12, .slice none 0 0] rfl (dev2_one _ _ _ _ _ _) 25 #[v, vm] rfl ?_ agDv ?_; with_reducible exact q1))
  replace hr : rowB w2 g 3 #[.int .i64 pa, .int .i64 va, .int .i64 ra, .int .i64 ca, .int .i64 fa, .int .i64 ga, .int .i64 pb, .int .i64 vb, .int .i64 rb, .int .i64 cb, .int .i64 fb, .int .i64 gb] := hr
  replace q0 := rowB_row_other q0 #[.slice (some ⟨g, 0, none⟩) 12 12, .slice none 0 0] (show w.heap.size + 1 ≠ w.heap.size by omega)
  replace q2 := rowB_row_other q2 #[.slice (some ⟨g, 0, none⟩) 12 12, .slice none 0 0] (show w.heap.size + 1 ≠ w.heap.size + 2 by omega)
  replace q3 := rowB_row_other q3 #[.slice (some ⟨g, 0, none⟩) 12 12, .slice none 0 0] (show w.heap.size + 1 ≠ w.heap.size + 3 by omega)
  replace hr := rowB_row_other hr #[.slice (some ⟨g, 0, none⟩) 12 12, .slice none 0 0] (show w.heap.size + 1 ≠ g by omega)
  replace q1 := rowB_row q1 #[.slice (some ⟨g, 0, none⟩) 12 12, .slice none 0 0]
  replace bX := below_rowR bX #[.slice (some ⟨g, 0, none⟩) 12 12, .slice none 0 0] (show w.heap.size ≤ w.heap.size + 1 by omega)
  generalize w2.setRow (w.heap.size + 1) #[.slice (some ⟨g, 0, none⟩) 12 12, .slice none 0 0] = w3 at *
  clear hb hF k0 k1 k2 k3 bW sW h2
  have hk := rowB_cell q0 1 (v := .int .i64 7) rfl
  obtain ⟨d0, d1, y0, y1⟩ := dcells2 q1
  have e0 := rowB_cell hr 0 (v := .int .i64 (pa)) rfl
  have z0 := rowB_free hr 0
  have e1 := rowB_cell hr 1 (v := .int .i64 (va)) rfl
  have z1 := rowB_free hr 1
  have e2 := rowB_cell hr 2 (v := .int .i64 (ra)) rfl
  have z2 := rowB_free hr 2
  have e3 := rowB_cell hr 3 (v := .int .i64 (ca)) rfl
  have z3 := rowB_free hr 3
  have e4 := rowB_cell hr 4 (v := .int .i64 (fa)) rfl
  have z4 := rowB_free hr 4
  have e5 := rowB_cell hr 5 (v := .int .i64 (ga)) rfl
  have z5 := rowB_free hr 5
  have e6 := rowB_cell hr 6 (v := .int .i64 (pb)) rfl
  have z6 := rowB_free hr 6
  have e7 := rowB_cell hr 7 (v := .int .i64 (vb)) rfl
  have z7 := rowB_free hr 7
  have e8 := rowB_cell hr 8 (v := .int .i64 (rb)) rfl
  have z8 := rowB_free hr 8
  have e9 := rowB_cell hr 9 (v := .int .i64 (cb)) rfl
  have z9 := rowB_free hr 9
  have e10 := rowB_cell hr 10 (v := .int .i64 (fb)) rfl
  have z10 := rowB_free hr 10
  have e11 := rowB_cell hr 11 (v := .int .i64 (gb)) rfl
  have z11 := rowB_free hr 11
  have a0 := rowB_cell q2 0 (v := .int .i64 a) rfl
  go_upto_region 45 with (fail)
  refine wp_region_mixM (fun _ => True) 2684354559 536870912 [(0, 1, 3221225472), (1, 0, 3758096412), (2, 0, 3758096408), (3, 0, 3758096400), (4, 0, 3758096384), (5, 0, 3758096832), (6, 0, 3758096768), (7, 0, 3758096640), (8, 0, 3758096384), (9, 0, 3758099456), (10, 0, 3758098432), (11, 0, 3758096384), (12, 0, 3758120960), (13, 0, 3758112768), (14, 0, 3758096384), (15, 0, 3758555136), (16, 0, 3758489600), (17, 0, 3758358528), (18, 0, 3758096384), (19, 0, 3765436416), (20, 0, 3764387840), (21, 0, 3762290688), (22, 0, 3758096384), (23, 0, 3808428032), (24, 0, 3791650816), (25, 0, 3758096384), (26, 0, 4160749568), (27, 0, 4026531840), (28, 0, 3758096384), (29, 3, 0), (30, 2, 0), (31, 0, 0)] (by kernel_rfl) (by kernel_rfl) (fun _ _ _ _ _ h => h) ?_
  simp only [List.map_cons, List.map_nil, opOf, List.getD_cons_zero, List.getD_cons_succ]
  change wpMix _ _ _ _ _ _ w3.drew
  replace q1 : rowB w3.drew _ _ _ := q1
  replace q2 : rowB w3.drew _ _ _ := q2
  replace q3 : rowB w3.drew _ _ _ := q3
  replace hr : rowB w3.drew _ _ _ := hr
  replace bX := bX.drew
  refine wpMix_held (.func (Fn.func 31) #[] #[.pointer (some ⟨w.heap.size + 2, 0, none⟩)]) rfl hS (fun w' hw' => by go_simp) ?_
  simp only [Act.put, List.setIfInBounds_toArray, List.set_cons_zero, List.set_cons_succ]
  (refine wpMix_still (fun K hK => ?_); go_simp; refine hK _ ?_; clear hK K)
  (refine wpMix_still (fun K hK => ?_); go_simp; refine hK _ ?_; clear hK K)
  (refine wpMix_still (fun K hK => ?_); go_simp; refine hK _ ?_; clear hK K)
  (refine wpMix_still (fun K hK => ?_); go_simp; refine hK _ ?_; clear hK K)
  (refine wpMix_still (fun K hK => ?_); go_simp; refine hK _ ?_; clear hK K)
  (refine wpMix_still (fun K hK => ?_); go_simp; refine hK _ ?_; clear hK K)
  (refine wpMix_still (fun K hK => ?_); go_simp; refine hK _ ?_; clear hK K)
  (refine wpMix_still (fun K hK => ?_); go_simp; refine hK _ ?_; clear hK K)
  (refine wpMix_still (fun K hK => ?_); go_simp; refine hK _ ?_; clear hK K)
  (refine wpMix_still (fun K hK => ?_); go_simp; refine hK _ ?_; clear hK K)
  (refine wpMix_still (fun K hK => ?_); go_simp; refine hK _ ?_; clear hK K)
  (refine wpMix_still (fun K hK => ?_); go_simp; refine hK _ ?_; clear hK K)
  (refine wpMix_still (fun K hK => ?_); go_simp; refine hK _ ?_; clear hK K)
  (refine wpMix_still (fun K hK => ?_); go_simp; refine hK _ ?_; clear hK K)
  (refine wpMix_still (fun K hK => ?_); go_simp; refine hK _ ?_; clear hK K)
  (refine wpMix_still (fun K hK => ?_); go_simp; refine hK _ ?_; clear hK K)
  (refine wpMix_still (fun K hK => ?_); go_simp; refine hK _ ?_; clear hK K)
  (refine wpMix_still (fun K hK => ?_); go_simp; refine hK _ ?_; clear hK K)
  (refine wpMix_still (fun K hK => ?_); go_simp; refine hK _ ?_; clear hK K)
  (refine wpMix_still (fun K hK => ?_); go_simp; refine hK _ ?_; clear hK K)
  (refine wpMix_still (fun K hK => ?_); go_simp; refine hK _ ?_; clear hK K)
  (refine wpMix_still (fun K hK => ?_); go_simp; refine hK _ ?_; clear hK K)
  (refine wpMix_still (fun K hK => ?_); go_simp; refine hK _ ?_; clear hK K)
  (refine wpMix_still (fun K hK => ?_); go_simp; refine hK _ ?_; clear hK K)
  (refine wpMix_still (fun K hK => ?_); go_simp; refine hK _ ?_; clear hK K)
  (refine wpMix_still (fun K hK => ?_); go_simp; refine hK _ ?_; clear hK K)
  (refine wpMix_still (fun K hK => ?_); go_simp; refine hK _ ?_; clear hK K)
  (refine wpMix_still (fun K hK => ?_); go_simp; refine hK _ ?_; clear hK K)
  refine wpMix_call ?_
  go_wp2_with fail
  have x0 := rowB_new w3.drew 3 #[.int .i64 (pa % 256), .int .i64 (pa / 256), .int .i64 (va), .int .i64 (ra), .int .i64 (pb % 256), .int .i64 (pb / 256), .int .i64 (vb), .int .i64 (rb)]
  have hlt := rowB_lt hr
  replace q1 := rowB_alloc q1 (.cells #[.int .i64 (pa % 256), .int .i64 (pa / 256), .int .i64 (va), .int .i64 (ra), .int .i64 (pb % 256), .int .i64 (pb / 256), .int .i64 (vb), .int .i64 (rb)] 3)
  replace q2 := rowB_alloc q2 (.cells #[.int .i64 (pa % 256), .int .i64 (pa / 256), .int .i64 (va), .int .i64 (ra), .int .i64 (pb % 256), .int .i64 (pb / 256), .int .i64 (vb), .int .i64 (rb)] 3)
  replace q3 := rowB_alloc q3 (.cells #[.int .i64 (pa % 256), .int .i64 (pa / 256), .int .i64 (va), .int .i64 (ra), .int .i64 (pb % 256), .int .i64 (pb / 256), .int .i64 (vb), .int .i64 (rb)] 3)
  replace hr := rowB_alloc hr (.cells #[.int .i64 (pa % 256), .int .i64 (pa / 256), .int .i64 (va), .int .i64 (ra), .int .i64 (pb % 256), .int .i64 (pb / 256), .int .i64 (vb), .int .i64 (rb)] 3)
  replace bX := bX.alloc (by omega) (.cells #[.int .i64 (pa % 256), .int .i64 (pa / 256), .int .i64 (va), .int .i64 (ra), .int .i64 (pb % 256), .int .i64 (pb / 256), .int .i64 (vb), .int .i64 (rb)] 3)
  have hx := pick_any _ [pa % 256, pa / 256, va, ra, pb % 256, pb / 256, vb, rb] (w.heap.size + 2) a _ (numB_arg x0 (by simp)) q2
  rw [hp] at hx
  first | refine ⟨fun _ => hS, ?_⟩ | refine ⟨hS, ?_⟩ | refine And.intro (fun _ => hS) ?_
  refine wpMix_call ?_
  go_wp2_with (go_at_call 31; refine hx.mono ?_; rintro e w' ⟨rfl, rfl⟩)
  try refine ⟨fun h => (by cases h), ?_⟩
  (refine wpMix_still (fun K hK => ?_); go_simp; refine hK _ ?_; clear hK K)
  refine wpMix_nil ?_
  rw [show (w3.alloc (.cells #[.int .i64 (pa % 256), .int .i64 (pa / 256), .int .i64 (va), .int .i64 (ra), .int .i64 (pb % 256), .int .i64 (pb / 256), .int .i64 (vb), .int .i64 (rb)] 3)).drew = w3.drew.alloc (.cells #[.int .i64 (pa % 256), .int .i64 (pa / 256), .int .i64 (va), .int .i64 (ra), .int .i64 (pb % 256), .int .i64 (pb / 256), .int .i64 (vb), .int .i64 (rb)] 3) from rfl]
  generalize w3.drew.alloc (.cells #[.int .i64 (pa % 256), .int .i64 (pa / 256), .int .i64 (va), .int .i64 (ra), .int .i64 (pb % 256), .int .i64 (pb / 256), .int .i64 (vb), .int .i64 (rb)] 3) = w5 at *
  clear e0 z0 e1 z1 e2 z2 e3 z3 e4 z4 e5 z5 e6 z6 e7 z7 e8 z8 e9 z9 e10 z10 e11 z11 d0 d1 y0 y1 hk a0 hx x0
  have e0 := rowB_cell hr 0 (v := .int .i64 (pa)) rfl
  have z0 := rowB_free hr 0
  have e1 := rowB_cell hr 1 (v := .int .i64 (va)) rfl
  have z1 := rowB_free hr 1
  have e2 := rowB_cell hr 2 (v := .int .i64 (ra)) rfl
  have z2 := rowB_free hr 2
  have e3 := rowB_cell hr 3 (v := .int .i64 (ca)) rfl
  have z3 := rowB_free hr 3
  have e4 := rowB_cell hr 4 (v := .int .i64 (fa)) rfl
  have z4 := rowB_free hr 4
  have e5 := rowB_cell hr 5 (v := .int .i64 (ga)) rfl
  have z5 := rowB_free hr 5
  have e6 := rowB_cell hr 6 (v := .int .i64 (pb)) rfl
  have z6 := rowB_free hr 6
  have e7 := rowB_cell hr 7 (v := .int .i64 (vb)) rfl
  have z7 := rowB_free hr 7
  have e8 := rowB_cell hr 8 (v := .int .i64 (rb)) rfl
  have z8 := rowB_free hr 8
  have e9 := rowB_cell hr 9 (v := .int .i64 (cb)) rfl
  have z9 := rowB_free hr 9
  have e10 := rowB_cell hr 10 (v := .int .i64 (fb)) rfl
  have z10 := rowB_free hr 10
  have e11 := rowB_cell hr 11 (v := .int .i64 (gb)) rfl
  have z11 := rowB_free hr 11
  obtain ⟨d0, d1, y0, y1⟩ := dcells2 q1
  have a0 := rowB_cell q2 0 (v := .int .i64 a) rfl
  have r1 := q1
  have r2 := q3
  have rg : rowB _ g 3 #[.int .i64 (pa), .int .i64 (va), .int .i64 (ra), .int .i64 (ca), .int .i64 (fa), .int .i64 (ga), .int .i64 (pb), .int .i64 (vb), .int .i64 (rb), .int .i64 (cb), .int .i64 (fb), .int .i64 (gb)] := hr
  have bY := bX
  go_wp2_with (first
    | (refine wpList_loadR rfl 25 _ rfl (w.heap.size + 1) rfl 25 #[.slice (some ⟨g, 0, none⟩) 12 12, .slice none 0 0] ?_ agDv ?_; with_reducible exact r1)
    | (refine wpList_storeR rfl 25 _ _ rfl (w.heap.size + 3) rfl #[.slice (some ⟨g, 0, none⟩) 12 12, .slice none 0 0] rfl (dev2_one _ _ _ _ _ _) 25 #[.slice none 0 0, .slice none 0 0] rfl ?_ agDv ?_; with_reducible exact r2))
  refine bodyPost_ret (resultsRT rfl (w.heap.size + 3) _ rfl (rowB_row r2 _) agDv rfl) rfl ?_
  exact ⟨_, rfl, ⟨g, rfl, by omega, rowB_row_other rg _ (by omega)⟩, below_rowR bY _ (by omega)⟩
end Go.Proofs.Ytbpjkdigihpohaa
