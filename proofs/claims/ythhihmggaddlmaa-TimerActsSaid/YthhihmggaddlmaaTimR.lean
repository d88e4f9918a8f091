/- What the reference says of timers. -/
import Derived.Test.YthhihmggaddlmaaChecked
import Derived.Test.YthhihmggaddlmaaDevForm
import Derived.Test.YthhihmggaddlmaaDevPick
import Derived.Test.YthhihmggaddlmaaTimC
import Derived.Below
import Derived.BigQuiet
import Derived.ChangeMaps5
import Derived.Deep.DeepCutAuto
import Derived.Deep.Draws
import Derived.Deep.MidRow
import Derived.Deep.OwnRows
import Derived.Deep.QuietTactic
import Derived.Deep.RegionHeld3
import Derived.Deep.RegionWith
import Derived.Deep.Slices
import Derived.Deep.WholeRow
import Derived.Lib.Hide
import Derived.Lib.SmallJoins
import Derived.OpenShut
import Derived.OrdersHeld
import Derived.OwnWalk
import Derived.RowKit3
import Derived.StillTactics
import Derived.StillTail
import Derived.StillTailTactics
import Derived.WalkKit
namespace Go.Proofs.Ythhihmggaddlmaa
open Go.RowKit
set_option maxRecDepth 100000

theorem fmTim (l : List Int) : fmN l msTim 4 = (Tm.of l).ns := rfl
theorem freshTim_any (nm : ByteArray) (b z : Int) (dat : Value) (w : World) :
    Calls Try.prog 24 #[.agg (chip5 nm 3 b z dat)] w fun e w' => ∃ v, e = .returned v ∧ devO w.heap.size w' v [0, 0, 0, 0] ∧ Below w.heap.size w w' := by
  obtain ⟨k0, k1, bW, sW⟩ := boxes2 w (.cells #[.string nm, .int .i64 3, .int .i64 b, .int .i64 z, dat] 53) (.cells #[.slice none 0 0, .slice none 0 0] 51)
  have k1 : rowB _ _ _ _ := k1
  have hF := formedTim_any nm b z dat (.slice none 0 0) (.slice none 0 0) [] _ (isArg_none ((w.alloc (.cells #[.string nm, .int .i64 3, .int .i64 b, .int .i64 z, dat] 53)).alloc (.cells #[.slice none 0 0, .slice none 0 0] 51)))
  dsimp only [chip5] at *
  go_enter Try.func24, Try.ntmps24
  go_wp2_with (first
    | (go_at_call 33; refine hF.mono ?_; rintro e w2 ⟨u, rfl, ⟨g, rfl, hg, hr⟩, hb⟩; have q1 := rowB_below k1 hb (rowB_lt k1); rw [sW] at hg; have bX := bW.trans (hb.mono bW.size))
    | (refine wpList_storeR rfl 51 _ _ rfl (w.heap.size + 1) rfl #[.slice (some ⟨g, 0, none⟩) 4 4, .slice none 0 0] rfl (dev2_one _ _ _ _ _ _) 51 #[.slice none 0 0, .slice none 0 0] rfl ?_ agDv ?_; with_reducible exact q1))
  refine bodyPost_ret (resultsR rfl (w.heap.size + 1) _ rfl (rowB_row q1 _) agDv) rfl ?_
  exact ⟨_, rfl, ⟨g, rfl, by omega, rowB_row_other hr _ (by omega)⟩, below_rowR bX _ (by omega)⟩
attribute [local go_sem ↓] run_devN in
theorem askingTim_any (nm : ByteArray) (b z : Int) (dat v vm : Value) (l : List Int) (w : World) (h : isArg w v l) :
    Calls Try.prog 30 #[.agg (chip5 nm 3 b z dat), .agg #[v, vm]] w fun e w' => e = .returned (.bool (Tm.of l).irq) ∧ Below w.heap.size w w' := by
  obtain ⟨k0, k1, bW, sW⟩ := boxes2 w (.cells #[.string nm, .int .i64 3, .int .i64 b, .int .i64 z, dat] 53) (.cells #[v, vm] 51)
  have k0 : rowB _ _ _ _ := k0
  have k1 : rowB _ _ _ _ := k1
  have h2 := isArg_below h bW (Nat.le_refl _)
  have hF := formedTim_any nm b z dat v vm l _ h2
  rw [fmTim] at hF
  have hfit := Tm.of_fit l
  generalize Tm.of l = s at *
  obtain ⟨c, l', k, f⟩ := s
  obtain ⟨⟨f1, f2⟩, ⟨f3, f4⟩, ⟨f5, f6⟩, ⟨f7, f8⟩⟩ := hfit
  dsimp only [Tm.ns, chip5] at *
  unfold Tm.irq
  dsimp only
  obtain ⟨R, hR⟩ : ∃ R, decide (4 ≤ k) = R := ⟨_, rfl⟩
  rw [hR]
  by_cases hf : f = 1
  · rw [decide_eq_true hf]
    have hd : (f == 1) = true := by simpa using hf
    clear hf
    go_enter Try.func30, Try.ntmps30
    go_upto_region 2 with (first
      | (go_at_call 33; refine hF.mono ?_; rintro e w2 ⟨u, rfl, ⟨g, rfl, hg, hr⟩, hb⟩; have q0 := rowB_below k0 hb (rowB_lt k0); have q1 := rowB_below k1 hb (rowB_lt k1); rw [sW] at hg; have bX := bW.trans (hb.mono bW.size)))
    replace hr : rowB w2 g 3 #[.int .i64 c, .int .i64 l', .int .i64 k, .int .i64 f] := hr
    obtain ⟨w3, rfl⟩ : ∃ w3, w3 = w2 := ⟨_, rfl⟩
    clear hb hF k0 k1 bW sW h2
    have hk := rowB_cell q0 1 (v := .int .i64 3) rfl
    obtain ⟨e0, e1, e2, e3, z0, z1, z2, z3⟩ := dcells4 hr
    go_wp2_with fail
    go_ret
    exact ⟨rfl, bX⟩
  · rw [decide_eq_false hf]
    have hd : (f == 1) = false := by simpa using hf
    clear hf
    go_enter Try.func30, Try.ntmps30
    go_upto_region 2 with (first
      | (go_at_call 33; refine hF.mono ?_; rintro e w2 ⟨u, rfl, ⟨g, rfl, hg, hr⟩, hb⟩; have q0 := rowB_below k0 hb (rowB_lt k0); have q1 := rowB_below k1 hb (rowB_lt k1); rw [sW] at hg; have bX := bW.trans (hb.mono bW.size)))
    replace hr : rowB w2 g 3 #[.int .i64 c, .int .i64 l', .int .i64 k, .int .i64 f] := hr
    obtain ⟨w3, rfl⟩ : ∃ w3, w3 = w2 := ⟨_, rfl⟩
    clear hb hF k0 k1 bW sW h2
    have hk := rowB_cell q0 1 (v := .int .i64 3) rfl
    obtain ⟨e0, e1, e2, e3, z0, z1, z2, z3⟩ := dcells4 hr
    go_wp2_with fail
    go_ret
    exact ⟨rfl, bX⟩
theorem restsTim_any (nm : ByteArray) (b z : Int) (dat v vm : Value) (l : List Int) (w : World) (h : isArg w v l) :
    Calls Try.prog 32 #[.agg (chip5 nm 3 b z dat), .agg #[v, vm]] w fun e w' => e = .returned (.int .i64 (Tm.of l).next) ∧ Below w.heap.size w w' := by
  obtain ⟨k0, k1, bW, sW⟩ := boxes2 w (.cells #[.string nm, .int .i64 3, .int .i64 b, .int .i64 z, dat] 53) (.cells #[v, vm] 51)
  have k0 : rowB _ _ _ _ := k0
  have k1 : rowB _ _ _ _ := k1
  have h2 := isArg_below h bW (Nat.le_refl _)
  have hF := formedTim_any nm b z dat v vm l _ h2
  rw [fmTim] at hF
  have hfit := Tm.of_fit l
  generalize Tm.of l = s at *
  obtain ⟨c, l', k, f⟩ := s
  obtain ⟨⟨f1, f2⟩, ⟨f3, f4⟩, ⟨f5, f6⟩, ⟨f7, f8⟩⟩ := hfit
  dsimp only [Tm.ns, chip5] at *
  unfold Tm.next
  dsimp only
  have ht : k.tmod 2 = k % 2 := Int.tmod_eq_emod_of_nonneg f5
  by_cases hk2 : k % 2 = 1
  · rw [if_pos hk2]
    rw [hk2] at ht
    clear hk2
    go_enter Try.func32, Try.ntmps32
    go_upto_region 2 with (first
      | (go_at_call 33; refine hF.mono ?_; rintro e w2 ⟨u, rfl, ⟨g, rfl, hg, hr⟩, hb⟩; have q0 := rowB_below k0 hb (rowB_lt k0); have q1 := rowB_below k1 hb (rowB_lt k1); rw [sW] at hg; have bX := bW.trans (hb.mono bW.size))
      | (refine wpList_storeR rfl 51 _ _ rfl (w.heap.size + 1) rfl #[.slice (some ⟨g, 0, none⟩) 4 4, .slice none 0 0] rfl (dev2_one _ _ _ _ _ _) 51 #[v, vm] rfl ?_ agDv ?_; with_reducible exact q1))
    replace hr : rowB w2 g 3 #[.int .i64 c, .int .i64 l', .int .i64 k, .int .i64 f] := hr
    replace q0 := rowB_row_other q0 #[.slice (some ⟨g, 0, none⟩) 4 4, .slice none 0 0] (show w.heap.size + 1 ≠ w.heap.size by omega)
    replace hr := rowB_row_other hr #[.slice (some ⟨g, 0, none⟩) 4 4, .slice none 0 0] (show w.heap.size + 1 ≠ g by omega)
    replace q1 := rowB_row q1 #[.slice (some ⟨g, 0, none⟩) 4 4, .slice none 0 0]
    replace bX := below_rowR bX #[.slice (some ⟨g, 0, none⟩) 4 4, .slice none 0 0] (show w.heap.size ≤ w.heap.size + 1 by omega)
    generalize w2.setRow (w.heap.size + 1) #[.slice (some ⟨g, 0, none⟩) 4 4, .slice none 0 0] = w3 at *
    clear hb hF k0 k1 bW sW h2
    have hk := rowB_cell q0 1 (v := .int .i64 3) rfl
    obtain ⟨d0, d1, y0, y1⟩ := dcells2 q1
    obtain ⟨e0, e1, e2, e3, z0, z1, z2, z3⟩ := dcells4 hr
    go_wp2_with fail
    go_ret
    exact ⟨rfl, bX⟩
  · rw [if_neg hk2]
    have hk3 : k % 2 = 0 := by omega
    rw [hk3] at ht
    clear hk2 hk3
    go_enter Try.func32, Try.ntmps32
    go_upto_region 2 with (first
      | (go_at_call 33; refine hF.mono ?_; rintro e w2 ⟨u, rfl, ⟨g, rfl, hg, hr⟩, hb⟩; have q0 := rowB_below k0 hb (rowB_lt k0); have q1 := rowB_below k1 hb (rowB_lt k1); rw [sW] at hg; have bX := bW.trans (hb.mono bW.size))
      | (refine wpList_storeR rfl 51 _ _ rfl (w.heap.size + 1) rfl #[.slice (some ⟨g, 0, none⟩) 4 4, .slice none 0 0] rfl (dev2_one _ _ _ _ _ _) 51 #[v, vm] rfl ?_ agDv ?_; with_reducible exact q1))
    replace hr : rowB w2 g 3 #[.int .i64 c, .int .i64 l', .int .i64 k, .int .i64 f] := hr
    replace q0 := rowB_row_other q0 #[.slice (some ⟨g, 0, none⟩) 4 4, .slice none 0 0] (show w.heap.size + 1 ≠ w.heap.size by omega)
    replace hr := rowB_row_other hr #[.slice (some ⟨g, 0, none⟩) 4 4, .slice none 0 0] (show w.heap.size + 1 ≠ g by omega)
    replace q1 := rowB_row q1 #[.slice (some ⟨g, 0, none⟩) 4 4, .slice none 0 0]
    replace bX := below_rowR bX #[.slice (some ⟨g, 0, none⟩) 4 4, .slice none 0 0] (show w.heap.size ≤ w.heap.size + 1 by omega)
    generalize w2.setRow (w.heap.size + 1) #[.slice (some ⟨g, 0, none⟩) 4 4, .slice none 0 0] = w3 at *
    clear hb hF k0 k1 bW sW h2
    have hk := rowB_cell q0 1 (v := .int .i64 3) rfl
    obtain ⟨d0, d1, y0, y1⟩ := dcells2 q1
    obtain ⟨e0, e1, e2, e3, z0, z1, z2, z3⟩ := dcells4 hr
    go_wp2_with fail
    go_ret
    exact ⟨rfl, bX⟩
set_option maxHeartbeats 1000000 in
theorem tickedTim_any (nm : ByteArray) (b z : Int) (dat v vm : Value) (l : List Int) (w : World) (h : isArg w v l) :
    Calls Try.prog 34 #[.agg (chip5 nm 3 b z dat), .agg #[v, vm]] w fun e w' => ∃ u, e = .returned u ∧ devO w.heap.size w' u ((Tm.of l).skip 1).ns ∧ Below w.heap.size w w' := by
  obtain ⟨k0, k1, k2, bW, sW⟩ := boxes3 w (.cells #[.string nm, .int .i64 3, .int .i64 b, .int .i64 z, dat] 53) (.cells #[v, vm] 51) (.cells #[.slice none 0 0, .slice none 0 0] 51)
  have k0 : rowB _ _ _ _ := k0
  have k1 : rowB _ _ _ _ := k1
  have k2 : rowB _ _ _ _ := k2
  have h2 := isArg_below h bW (Nat.le_refl _)
  have hF := formedTim_any nm b z dat v vm l _ h2
  rw [fmTim] at hF
  have hfit := Tm.of_fit l
  generalize Tm.of l = s at *
  obtain ⟨c, l', k, f⟩ := s
  obtain ⟨⟨f1, f2⟩, ⟨f3, f4⟩, ⟨f5, f6⟩, ⟨f7, f8⟩⟩ := hfit
  dsimp only [Tm.ns, chip5] at *
  have t2 : k.tmod 2 = k % 2 := Int.tmod_eq_emod_of_nonneg f5
  have t3 : k.tdiv 2 = k / 2 := Int.tdiv_eq_ediv_of_nonneg f5
  have t4 : (k / 2).tmod 2 = k / 2 % 2 := Int.tmod_eq_emod_of_nonneg (by omega)
  rcases (by omega : k % 2 = 0 ∨ (k % 2 = 1 ∧ 0 < c) ∨ (k % 2 = 1 ∧ c = 0 ∧ k / 2 % 2 = 1) ∨ (k % 2 = 1 ∧ c = 0 ∧ k / 2 % 2 = 0)) with h1 | ⟨h1, h3⟩ | ⟨h1, h3, h4⟩ | ⟨h1, h3, h4⟩
  · have e : (⟨c, l', k, f⟩ : Tm).skip 1 = ⟨c, l', k, f⟩ := if_neg (by show ¬ (0 < 1 ∧ k % 2 = 1); omega)
    rw [e]
    clear e
    rw [h1] at t2
    go_enter Try.func34, Try.ntmps34
    go_upto_region 2 with (first
      | (go_at_call 33; refine hF.mono ?_; rintro e w2 ⟨u, rfl, ⟨g, rfl, hg, hr⟩, hb⟩; have q0 := rowB_below k0 hb (rowB_lt k0); have q1 := rowB_below k1 hb (rowB_lt k1); have q2 := rowB_below k2 hb (rowB_lt k2); rw [sW] at hg; have bX := bW.trans (hb.mono bW.size))
      | (refine wpList_storeR rfl 51 _ _ rfl (w.heap.size + 1) rfl #[.slice (some ⟨g, 0, none⟩) 4 4, .slice none 0 0] rfl (dev2_one _ _ _ _ _ _) 51 #[v, vm] rfl ?_ agDv ?_; with_reducible exact q1))
    replace hr : rowB w2 g 3 #[.int .i64 c, .int .i64 l', .int .i64 k, .int .i64 f] := hr
    replace q0 := rowB_row_other q0 #[.slice (some ⟨g, 0, none⟩) 4 4, .slice none 0 0] (show w.heap.size + 1 ≠ w.heap.size by omega)
    replace q2 := rowB_row_other q2 #[.slice (some ⟨g, 0, none⟩) 4 4, .slice none 0 0] (show w.heap.size + 1 ≠ w.heap.size + 2 by omega)
    replace hr := rowB_row_other hr #[.slice (some ⟨g, 0, none⟩) 4 4, .slice none 0 0] (show w.heap.size + 1 ≠ g by omega)
    replace q1 := rowB_row q1 #[.slice (some ⟨g, 0, none⟩) 4 4, .slice none 0 0]
    replace bX := below_rowR bX #[.slice (some ⟨g, 0, none⟩) 4 4, .slice none 0 0] (show w.heap.size ≤ w.heap.size + 1 by omega)
    generalize w2.setRow (w.heap.size + 1) #[.slice (some ⟨g, 0, none⟩) 4 4, .slice none 0 0] = w3 at *
    clear hb hF k0 k1 k2 bW sW h2
    have hk := rowB_cell q0 1 (v := .int .i64 3) rfl
    obtain ⟨d0, d1, y0, y1⟩ := dcells2 q1
    obtain ⟨e0, e1, e2, e3, z0, z1, z2, z3⟩ := dcells4 hr
    have r1 := q1
    have r2 := q2
    have rg : rowB _ g 3 #[.int .i64 (c), .int .i64 (l'), .int .i64 (k), .int .i64 (f)] := hr
    have bY := bX
    go_wp2_with (first
      | (refine wpList_loadR rfl 51 _ rfl (w.heap.size + 1) rfl 51 #[.slice (some ⟨g, 0, none⟩) 4 4, .slice none 0 0] ?_ agDv ?_; with_reducible exact r1)
      | (refine wpList_storeR rfl 51 _ _ rfl (w.heap.size + 2) rfl #[.slice (some ⟨g, 0, none⟩) 4 4, .slice none 0 0] rfl (dev2_one _ _ _ _ _ _) 51 #[.slice none 0 0, .slice none 0 0] rfl ?_ agDv ?_; with_reducible exact r2))
    refine bodyPost_ret (resultsR rfl (w.heap.size + 2) _ rfl (rowB_row r2 _) agDv) rfl ?_
    exact ⟨_, rfl, ⟨g, rfl, by omega, rowB_row_other rg _ (by omega)⟩, below_rowR bY _ (by omega)⟩
  · have e : (⟨c, l', k, f⟩ : Tm).skip 1 = ⟨c - 1, l', k, f⟩ := (if_pos (by show 0 < 1 ∧ k % 2 = 1; omega)).trans (if_pos (by show 1 ≤ c; omega))
    rw [e]
    clear e
    rw [h1] at t2
    have hd : decide (0 < c) = true := decide_eq_true h3
    go_enter Try.func34, Try.ntmps34
    go_upto_region 2 with (first
      | (go_at_call 33; refine hF.mono ?_; rintro e w2 ⟨u, rfl, ⟨g, rfl, hg, hr⟩, hb⟩; have q0 := rowB_below k0 hb (rowB_lt k0); have q1 := rowB_below k1 hb (rowB_lt k1); have q2 := rowB_below k2 hb (rowB_lt k2); rw [sW] at hg; have bX := bW.trans (hb.mono bW.size))
      | (refine wpList_storeR rfl 51 _ _ rfl (w.heap.size + 1) rfl #[.slice (some ⟨g, 0, none⟩) 4 4, .slice none 0 0] rfl (dev2_one _ _ _ _ _ _) 51 #[v, vm] rfl ?_ agDv ?_; with_reducible exact q1))
    replace hr : rowB w2 g 3 #[.int .i64 c, .int .i64 l', .int .i64 k, .int .i64 f] := hr
    replace q0 := rowB_row_other q0 #[.slice (some ⟨g, 0, none⟩) 4 4, .slice none 0 0] (show w.heap.size + 1 ≠ w.heap.size by omega)
    replace q2 := rowB_row_other q2 #[.slice (some ⟨g, 0, none⟩) 4 4, .slice none 0 0] (show w.heap.size + 1 ≠ w.heap.size + 2 by omega)
    replace hr := rowB_row_other hr #[.slice (some ⟨g, 0, none⟩) 4 4, .slice none 0 0] (show w.heap.size + 1 ≠ g by omega)
    replace q1 := rowB_row q1 #[.slice (some ⟨g, 0, none⟩) 4 4, .slice none 0 0]
    replace bX := below_rowR bX #[.slice (some ⟨g, 0, none⟩) 4 4, .slice none 0 0] (show w.heap.size ≤ w.heap.size + 1 by omega)
    generalize w2.setRow (w.heap.size + 1) #[.slice (some ⟨g, 0, none⟩) 4 4, .slice none 0 0] = w3 at *
    clear hb hF k0 k1 k2 bW sW h2
    have hk := rowB_cell q0 1 (v := .int .i64 3) rfl
    obtain ⟨d0, d1, y0, y1⟩ := dcells2 q1
    obtain ⟨e0, e1, e2, e3, z0, z1, z2, z3⟩ := dcells4 hr
    have r1 := (rowB_other q1 ⟨g, 0, none⟩ (.int .i64 (c - 1)) (show g ≠ _ by omega))
    have r2 := (rowB_other q2 ⟨g, 0, none⟩ (.int .i64 (c - 1)) (show g ≠ _ by omega))
    have rg : rowB _ g 3 #[.int .i64 (c - 1), .int .i64 (l'), .int .i64 (k), .int .i64 (f)] := (rowB_set hr 0 (.int .i64 (c - 1)))
    have bY := (Below.setCell bX (p := ⟨g, 0, none⟩) (show w.heap.size ≤ g by omega) (.int .i64 (c - 1)))
    go_wp2_with (first
      | (refine wpList_loadR rfl 51 _ rfl (w.heap.size + 1) rfl 51 #[.slice (some ⟨g, 0, none⟩) 4 4, .slice none 0 0] ?_ agDv ?_; with_reducible exact r1)
      | (refine wpList_storeR rfl 51 _ _ rfl (w.heap.size + 2) rfl #[.slice (some ⟨g, 0, none⟩) 4 4, .slice none 0 0] rfl (dev2_one _ _ _ _ _ _) 51 #[.slice none 0 0, .slice none 0 0] rfl ?_ agDv ?_; with_reducible exact r2))
    refine bodyPost_ret (resultsR rfl (w.heap.size + 2) _ rfl (rowB_row r2 _) agDv) rfl ?_
    exact ⟨_, rfl, ⟨g, rfl, by omega, rowB_row_other rg _ (by omega)⟩, below_rowR bY _ (by omega)⟩
  · have e : (⟨c, l', k, f⟩ : Tm).skip 1 = ⟨l', l', k, 1⟩ := (if_pos (by show 0 < 1 ∧ k % 2 = 1; omega)).trans ((if_neg (by show ¬ 1 ≤ c; omega)).trans ((if_pos h4).trans (by subst h3; simp)))
    rw [e]
    clear e
    rw [h1] at t2
    subst h3
    rw [h4] at t4
    go_enter Try.func34, Try.ntmps34
    go_upto_region 2 with (first
      | (go_at_call 33; refine hF.mono ?_; rintro e w2 ⟨u, rfl, ⟨g, rfl, hg, hr⟩, hb⟩; have q0 := rowB_below k0 hb (rowB_lt k0); have q1 := rowB_below k1 hb (rowB_lt k1); have q2 := rowB_below k2 hb (rowB_lt k2); rw [sW] at hg; have bX := bW.trans (hb.mono bW.size))
      | (refine wpList_storeR rfl 51 _ _ rfl (w.heap.size + 1) rfl #[.slice (some ⟨g, 0, none⟩) 4 4, .slice none 0 0] rfl (dev2_one _ _ _ _ _ _) 51 #[v, vm] rfl ?_ agDv ?_; with_reducible exact q1))
    replace hr : rowB w2 g 3 #[.int .i64 0, .int .i64 l', .int .i64 k, .int .i64 f] := hr
    replace q0 := rowB_row_other q0 #[.slice (some ⟨g, 0, none⟩) 4 4, .slice none 0 0] (show w.heap.size + 1 ≠ w.heap.size by omega)
    replace q2 := rowB_row_other q2 #[.slice (some ⟨g, 0, none⟩) 4 4, .slice none 0 0] (show w.heap.size + 1 ≠ w.heap.size + 2 by omega)
    replace hr := rowB_row_other hr #[.slice (some ⟨g, 0, none⟩) 4 4, .slice none 0 0] (show w.heap.size + 1 ≠ g by omega)
    replace q1 := rowB_row q1 #[.slice (some ⟨g, 0, none⟩) 4 4, .slice none 0 0]
    replace bX := below_rowR bX #[.slice (some ⟨g, 0, none⟩) 4 4, .slice none 0 0] (show w.heap.size ≤ w.heap.size + 1 by omega)
    generalize w2.setRow (w.heap.size + 1) #[.slice (some ⟨g, 0, none⟩) 4 4, .slice none 0 0] = w3 at *
    clear hb hF k0 k1 k2 bW sW h2
    have hk := rowB_cell q0 1 (v := .int .i64 3) rfl
    obtain ⟨d0, d1, y0, y1⟩ := dcells2 q1
    obtain ⟨e0, e1, e2, e3, z0, z1, z2, z3⟩ := dcells4 hr
    have r1 := (rowB_other (rowB_other q1 ⟨g, 0, none⟩ (.int .i64 (l')) (show g ≠ _ by omega)) ⟨g, 3, none⟩ (.int .i64 (1)) (show g ≠ _ by omega))
    have r2 := (rowB_other (rowB_other q2 ⟨g, 0, none⟩ (.int .i64 (l')) (show g ≠ _ by omega)) ⟨g, 3, none⟩ (.int .i64 (1)) (show g ≠ _ by omega))
    have rg : rowB _ g 3 #[.int .i64 (l'), .int .i64 (l'), .int .i64 (k), .int .i64 (1)] := (rowB_set (rowB_set hr 0 (.int .i64 (l'))) 3 (.int .i64 (1)))
    have bY := (Below.setCell (Below.setCell bX (p := ⟨g, 0, none⟩) (show w.heap.size ≤ g by omega) (.int .i64 (l'))) (p := ⟨g, 3, none⟩) (show w.heap.size ≤ g by omega) (.int .i64 (1)))
    go_wp2_with (first
      | (refine wpList_loadR rfl 51 _ rfl (w.heap.size + 1) rfl 51 #[.slice (some ⟨g, 0, none⟩) 4 4, .slice none 0 0] ?_ agDv ?_; with_reducible exact r1)
      | (refine wpList_storeR rfl 51 _ _ rfl (w.heap.size + 2) rfl #[.slice (some ⟨g, 0, none⟩) 4 4, .slice none 0 0] rfl (dev2_one _ _ _ _ _ _) 51 #[.slice none 0 0, .slice none 0 0] rfl ?_ agDv ?_; with_reducible exact r2))
    refine bodyPost_ret (resultsR rfl (w.heap.size + 2) _ rfl (rowB_row r2 _) agDv) rfl ?_
    exact ⟨_, rfl, ⟨g, rfl, by omega, rowB_row_other rg _ (by omega)⟩, below_rowR bY _ (by omega)⟩
  · have e : (⟨c, l', k, f⟩ : Tm).skip 1 = ⟨0, l', k - 1, 1⟩ := (if_pos (by show 0 < 1 ∧ k % 2 = 1; omega)).trans ((if_neg (by show ¬ 1 ≤ c; omega)).trans ((if_neg (by show ¬ k / 2 % 2 = 1; omega)).trans (by show Tm.mk 0 l' (k - k % 2) 1 = _; rw [h1])))
    rw [e]
    clear e
    rw [h1] at t2
    subst h3
    rw [h4] at t4
    go_enter Try.func34, Try.ntmps34
    go_upto_region 2 with (first
      | (go_at_call 33; refine hF.mono ?_; rintro e w2 ⟨u, rfl, ⟨g, rfl, hg, hr⟩, hb⟩; have q0 := rowB_below k0 hb (rowB_lt k0); have q1 := rowB_below k1 hb (rowB_lt k1); have q2 := rowB_below k2 hb (rowB_lt k2); rw [sW] at hg; have bX := bW.trans (hb.mono bW.size))
      | (refine wpList_storeR rfl 51 _ _ rfl (w.heap.size + 1) rfl #[.slice (some ⟨g, 0, none⟩) 4 4, .slice none 0 0] rfl (dev2_one _ _ _ _ _ _) 51 #[v, vm] rfl ?_ agDv ?_; with_reducible exact q1))
    replace hr : rowB w2 g 3 #[.int .i64 0, .int .i64 l', .int .i64 k, .int .i64 f] := hr
    replace q0 := rowB_row_other q0 #[.slice (some ⟨g, 0, none⟩) 4 4, .slice none 0 0] (show w.heap.size + 1 ≠ w.heap.size by omega)
    replace q2 := rowB_row_other q2 #[.slice (some ⟨g, 0, none⟩) 4 4, .slice none 0 0] (show w.heap.size + 1 ≠ w.heap.size + 2 by omega)
    replace hr := rowB_row_other hr #[.slice (some ⟨g, 0, none⟩) 4 4, .slice none 0 0] (show w.heap.size + 1 ≠ g by omega)
    replace q1 := rowB_row q1 #[.slice (some ⟨g, 0, none⟩) 4 4, .slice none 0 0]
    replace bX := below_rowR bX #[.slice (some ⟨g, 0, none⟩) 4 4, .slice none 0 0] (show w.heap.size ≤ w.heap.size + 1 by omega)
    generalize w2.setRow (w.heap.size + 1) #[.slice (some ⟨g, 0, none⟩) 4 4, .slice none 0 0] = w3 at *
    clear hb hF k0 k1 k2 bW sW h2
    have hk := rowB_cell q0 1 (v := .int .i64 3) rfl
    obtain ⟨d0, d1, y0, y1⟩ := dcells2 q1
    obtain ⟨e0, e1, e2, e3, z0, z1, z2, z3⟩ := dcells4 hr
    have r1 := (rowB_other (rowB_other q1 ⟨g, 2, none⟩ (.int .i64 (k - 1)) (show g ≠ _ by omega)) ⟨g, 3, none⟩ (.int .i64 (1)) (show g ≠ _ by omega))
    have r2 := (rowB_other (rowB_other q2 ⟨g, 2, none⟩ (.int .i64 (k - 1)) (show g ≠ _ by omega)) ⟨g, 3, none⟩ (.int .i64 (1)) (show g ≠ _ by omega))
    have rg : rowB _ g 3 #[.int .i64 (0), .int .i64 (l'), .int .i64 (k - 1), .int .i64 (1)] := (rowB_set (rowB_set hr 2 (.int .i64 (k - 1))) 3 (.int .i64 (1)))
    have bY := (Below.setCell (Below.setCell bX (p := ⟨g, 2, none⟩) (show w.heap.size ≤ g by omega) (.int .i64 (k - 1))) (p := ⟨g, 3, none⟩) (show w.heap.size ≤ g by omega) (.int .i64 (1)))
    go_wp2_with (first
      | (refine wpList_loadR rfl 51 _ rfl (w.heap.size + 1) rfl 51 #[.slice (some ⟨g, 0, none⟩) 4 4, .slice none 0 0] ?_ agDv ?_; with_reducible exact r1)
      | (refine wpList_storeR rfl 51 _ _ rfl (w.heap.size + 2) rfl #[.slice (some ⟨g, 0, none⟩) 4 4, .slice none 0 0] rfl (dev2_one _ _ _ _ _ _) 51 #[.slice none 0 0, .slice none 0 0] rfl ?_ agDv ?_; with_reducible exact r2))
    refine bodyPost_ret (resultsR rfl (w.heap.size + 2) _ rfl (rowB_row r2 _) agDv) rfl ?_
    exact ⟨_, rfl, ⟨g, rfl, by omega, rowB_row_other rg _ (by omega)⟩, below_rowR bY _ (by omega)⟩
theorem putN_low (n d : Int) (h0 : 0 ≤ n) (h1 : n < 65536) : putN n 0 8 d = n / 256 * 256 + d % 256 := by
  unfold putN
  rw [lo_of h0 (by show n < 2 ^ 62; omega)]
  unfold lo
  simp only [Int.pow_zero, Int.emod_one, Int.mul_one, Int.add_zero]
  rfl
theorem putN_high (n d : Int) (h0 : 0 ≤ n) (h1 : n < 65536) : putN n 8 8 d = n % 256 + 256 * (d % 256) := by
  unfold putN
  rw [lo_of h0 (by show n < 2 ^ 62; omega)]
  unfold lo
  show n / 65536 * 65536 + d % 256 * 256 + n % 256 = _
  omega
set_option maxHeartbeats 1000000 in
theorem storedTim_any (nm : ByteArray) (b z : Int) (dat v vm : Value) (l : List Int) (a d : Int) (w : World) (h : isArg w v l) :
    Calls Try.prog 28 #[.agg (chip5 nm 3 b z dat), .agg #[v, vm], .int .i64 a, .int .i64 d] w fun e w' => ∃ u, e = .returned u ∧ devO w.heap.size w' u ((Tm.of l).write a d).ns ∧ Below w.heap.size w w' := by
  obtain ⟨k0, k1, k2, bW, sW⟩ := boxes3 w (.cells #[.string nm, .int .i64 3, .int .i64 b, .int .i64 z, dat] 53) (.cells #[v, vm] 51) (.cells #[.slice none 0 0, .slice none 0 0] 51)
  have k0 : rowB _ _ _ _ := k0
  have k1 : rowB _ _ _ _ := k1
  have k2 : rowB _ _ _ _ := k2
  have h2 := isArg_below h bW (Nat.le_refl _)
  have hF := formedTim_any nm b z dat v vm l _ h2
  rw [fmTim] at hF
  have hfit := Tm.of_fit l
  generalize Tm.of l = s at *
  obtain ⟨c, l', k, f⟩ := s
  obtain ⟨⟨f1, f2⟩, ⟨f3, f4⟩, ⟨f5, f6⟩, ⟨f7, f8⟩⟩ := hfit
  dsimp only [Tm.ns, chip5] at *
  have hM := fun w => modR_any d 256 (by decide) (by decide) w
  obtain ⟨L, hL⟩ : ∃ L, d % 256 = L := ⟨_, rfl⟩
  rw [hL] at hM
  have L0 : 0 ≤ L := by omega
  have L1 : L < 256 := by omega
  have t1 : l'.tdiv 256 = l' / 256 := Int.tdiv_eq_ediv_of_nonneg f3
  have t2 : l'.tmod 256 = l' % 256 := Int.tmod_eq_emod_of_nonneg f3
  have t3 : L.tmod 8 = L % 8 := Int.tmod_eq_emod_of_nonneg L0
  have t4 : L.tdiv 128 = L / 128 := Int.tdiv_eq_ediv_of_nonneg L0
  rcases (by omega : a = 0 ∨ a = 1 ∨ (a = 2 ∧ d / 128 % 2 = 1) ∨ (a = 2 ∧ ¬ d / 128 % 2 = 1) ∨ (a ≠ 0 ∧ a ≠ 1 ∧ a ≠ 2)) with rfl | rfl | ⟨rfl, h5⟩ | ⟨rfl, h5⟩ | ⟨n0, n1, n2⟩
  · have e : (⟨c, l', k, f⟩ : Tm).write 0 d = ⟨c, l' / 256 * 256 + L, k, f⟩ := by subst hL; exact congrArg (fun x => Tm.mk c x k f) (putN_low l' d f3 f4)
    rw [e]
    clear e
    clear hL
    go_enter Try.func28, Try.ntmps28
    go_upto_region 2 with (first
      | (go_at_call 33; refine hF.mono ?_; rintro e w2 ⟨u, rfl, ⟨g, rfl, hg, hr⟩, hb⟩; have q0 := rowB_below k0 hb (rowB_lt k0); have q1 := rowB_below k1 hb (rowB_lt k1); have q2 := rowB_below k2 hb (rowB_lt k2); rw [sW] at hg; have bX := bW.trans (hb.mono bW.size))
      | (refine wpList_storeR rfl 51 _ _ rfl (w.heap.size + 1) rfl #[.slice (some ⟨g, 0, none⟩) 4 4, .slice none 0 0] rfl (dev2_one _ _ _ _ _ _) 51 #[v, vm] rfl ?_ agDv ?_; with_reducible exact q1))
    replace hr : rowB w2 g 3 #[.int .i64 c, .int .i64 l', .int .i64 k, .int .i64 f] := hr
    replace q0 := rowB_row_other q0 #[.slice (some ⟨g, 0, none⟩) 4 4, .slice none 0 0] (show w.heap.size + 1 ≠ w.heap.size by omega)
    replace q2 := rowB_row_other q2 #[.slice (some ⟨g, 0, none⟩) 4 4, .slice none 0 0] (show w.heap.size + 1 ≠ w.heap.size + 2 by omega)
    replace hr := rowB_row_other hr #[.slice (some ⟨g, 0, none⟩) 4 4, .slice none 0 0] (show w.heap.size + 1 ≠ g by omega)
    replace q1 := rowB_row q1 #[.slice (some ⟨g, 0, none⟩) 4 4, .slice none 0 0]
    replace bX := below_rowR bX #[.slice (some ⟨g, 0, none⟩) 4 4, .slice none 0 0] (show w.heap.size ≤ w.heap.size + 1 by omega)
    generalize w2.setRow (w.heap.size + 1) #[.slice (some ⟨g, 0, none⟩) 4 4, .slice none 0 0] = w3 at *
    clear hb hF k0 k1 k2 bW sW h2
    have hk := rowB_cell q0 1 (v := .int .i64 3) rfl
    obtain ⟨d0, d1, y0, y1⟩ := dcells2 q1
    obtain ⟨e0, e1, e2, e3, z0, z1, z2, z3⟩ := dcells4 hr
    go_wp2_with fail
    go_quiet ((go_at_call 14; exact quiet_left (hM _)))
    have r1 := (rowB_other (rowB_below q1 (below_drewN w3 nq _) (rowB_lt q1)) ⟨g, 1, none⟩ (.int .i64 (l' / 256 * 256 + L)) (show g ≠ _ by omega))
    have r2 := (rowB_other (rowB_below q2 (below_drewN w3 nq _) (rowB_lt q2)) ⟨g, 1, none⟩ (.int .i64 (l' / 256 * 256 + L)) (show g ≠ _ by omega))
    have rg : rowB _ g 3 #[.int .i64 (c), .int .i64 (l' / 256 * 256 + L), .int .i64 (k), .int .i64 (f)] := (rowB_set (rowB_below hr (below_drewN w3 nq _) (rowB_lt hr)) 1 (.int .i64 (l' / 256 * 256 + L)))
    have bY := (Below.setCell (bX.trans ((below_drewN w3 nq _).mono bX.size)) (p := ⟨g, 1, none⟩) (show w.heap.size ≤ g by omega) (.int .i64 (l' / 256 * 256 + L)))
    go_wp2_with (first
      | (refine wpList_loadR rfl 51 _ rfl (w.heap.size + 1) rfl 51 #[.slice (some ⟨g, 0, none⟩) 4 4, .slice none 0 0] ?_ agDv ?_; with_reducible exact r1)
      | (refine wpList_storeR rfl 51 _ _ rfl (w.heap.size + 2) rfl #[.slice (some ⟨g, 0, none⟩) 4 4, .slice none 0 0] rfl (dev2_one _ _ _ _ _ _) 51 #[.slice none 0 0, .slice none 0 0] rfl ?_ agDv ?_; with_reducible exact r2))
    refine bodyPost_ret (resultsR rfl (w.heap.size + 2) _ rfl (rowB_row r2 _) agDv) rfl ?_
    exact ⟨_, rfl, ⟨g, rfl, by omega, rowB_row_other rg _ (by omega)⟩, below_rowR bY _ (by omega)⟩
  · have e : (⟨c, l', k, f⟩ : Tm).write 1 d = ⟨c, l' % 256 + 256 * L, k, f⟩ := by subst hL; exact congrArg (fun x => Tm.mk c x k f) (putN_high l' d f3 f4)
    rw [e]
    clear e
    clear hL
    go_enter Try.func28, Try.ntmps28
    go_upto_region 2 with (first
      | (go_at_call 33; refine hF.mono ?_; rintro e w2 ⟨u, rfl, ⟨g, rfl, hg, hr⟩, hb⟩; have q0 := rowB_below k0 hb (rowB_lt k0); have q1 := rowB_below k1 hb (rowB_lt k1); have q2 := rowB_below k2 hb (rowB_lt k2); rw [sW] at hg; have bX := bW.trans (hb.mono bW.size))
      | (refine wpList_storeR rfl 51 _ _ rfl (w.heap.size + 1) rfl #[.slice (some ⟨g, 0, none⟩) 4 4, .slice none 0 0] rfl (dev2_one _ _ _ _ _ _) 51 #[v, vm] rfl ?_ agDv ?_; with_reducible exact q1))
    replace hr : rowB w2 g 3 #[.int .i64 c, .int .i64 l', .int .i64 k, .int .i64 f] := hr
    replace q0 := rowB_row_other q0 #[.slice (some ⟨g, 0, none⟩) 4 4, .slice none 0 0] (show w.heap.size + 1 ≠ w.heap.size by omega)
    replace q2 := rowB_row_other q2 #[.slice (some ⟨g, 0, none⟩) 4 4, .slice none 0 0] (show w.heap.size + 1 ≠ w.heap.size + 2 by omega)
    replace hr := rowB_row_other hr #[.slice (some ⟨g, 0, none⟩) 4 4, .slice none 0 0] (show w.heap.size + 1 ≠ g by omega)
    replace q1 := rowB_row q1 #[.slice (some ⟨g, 0, none⟩) 4 4, .slice none 0 0]
    replace bX := below_rowR bX #[.slice (some ⟨g, 0, none⟩) 4 4, .slice none 0 0] (show w.heap.size ≤ w.heap.size + 1 by omega)
    generalize w2.setRow (w.heap.size + 1) #[.slice (some ⟨g, 0, none⟩) 4 4, .slice none 0 0] = w3 at *
    clear hb hF k0 k1 k2 bW sW h2
    have hk := rowB_cell q0 1 (v := .int .i64 3) rfl
    obtain ⟨d0, d1, y0, y1⟩ := dcells2 q1
    obtain ⟨e0, e1, e2, e3, z0, z1, z2, z3⟩ := dcells4 hr
    go_wp2_with fail
    go_quiet ((go_at_call 14; exact quiet_left (hM _)))
    have r1 := (rowB_other (rowB_below q1 (below_drewN w3 nq _) (rowB_lt q1)) ⟨g, 1, none⟩ (.int .i64 (l' % 256 + 256 * L)) (show g ≠ _ by omega))
    have r2 := (rowB_other (rowB_below q2 (below_drewN w3 nq _) (rowB_lt q2)) ⟨g, 1, none⟩ (.int .i64 (l' % 256 + 256 * L)) (show g ≠ _ by omega))
    have rg : rowB _ g 3 #[.int .i64 (c), .int .i64 (l' % 256 + 256 * L), .int .i64 (k), .int .i64 (f)] := (rowB_set (rowB_below hr (below_drewN w3 nq _) (rowB_lt hr)) 1 (.int .i64 (l' % 256 + 256 * L)))
    have bY := (Below.setCell (bX.trans ((below_drewN w3 nq _).mono bX.size)) (p := ⟨g, 1, none⟩) (show w.heap.size ≤ g by omega) (.int .i64 (l' % 256 + 256 * L)))
    go_wp2_with (first
      | (refine wpList_loadR rfl 51 _ rfl (w.heap.size + 1) rfl 51 #[.slice (some ⟨g, 0, none⟩) 4 4, .slice none 0 0] ?_ agDv ?_; with_reducible exact r1)
      | (refine wpList_storeR rfl 51 _ _ rfl (w.heap.size + 2) rfl #[.slice (some ⟨g, 0, none⟩) 4 4, .slice none 0 0] rfl (dev2_one _ _ _ _ _ _) 51 #[.slice none 0 0, .slice none 0 0] rfl ?_ agDv ?_; with_reducible exact r2))
    refine bodyPost_ret (resultsR rfl (w.heap.size + 2) _ rfl (rowB_row r2 _) agDv) rfl ?_
    exact ⟨_, rfl, ⟨g, rfl, by omega, rowB_row_other rg _ (by omega)⟩, below_rowR bY _ (by omega)⟩
  · have e : (⟨c, l', k, f⟩ : Tm).write 2 d = ⟨l', l', L % 8, f⟩ := by unfold Tm.write; rw [if_neg (by decide), if_neg (by decide), if_pos rfl, if_pos h5]; exact congrArg (fun x => Tm.mk l' l' x f) (by unfold lo; show d % 8 = _; omega)
    rw [e]
    clear e
    have hq : L / 128 = 1 := by omega
    rw [hq] at t4
    clear hL
    clear h5
    go_enter Try.func28, Try.ntmps28
    go_upto_region 2 with (first
      | (go_at_call 33; refine hF.mono ?_; rintro e w2 ⟨u, rfl, ⟨g, rfl, hg, hr⟩, hb⟩; have q0 := rowB_below k0 hb (rowB_lt k0); have q1 := rowB_below k1 hb (rowB_lt k1); have q2 := rowB_below k2 hb (rowB_lt k2); rw [sW] at hg; have bX := bW.trans (hb.mono bW.size))
      | (refine wpList_storeR rfl 51 _ _ rfl (w.heap.size + 1) rfl #[.slice (some ⟨g, 0, none⟩) 4 4, .slice none 0 0] rfl (dev2_one _ _ _ _ _ _) 51 #[v, vm] rfl ?_ agDv ?_; with_reducible exact q1))
    replace hr : rowB w2 g 3 #[.int .i64 c, .int .i64 l', .int .i64 k, .int .i64 f] := hr
    replace q0 := rowB_row_other q0 #[.slice (some ⟨g, 0, none⟩) 4 4, .slice none 0 0] (show w.heap.size + 1 ≠ w.heap.size by omega)
    replace q2 := rowB_row_other q2 #[.slice (some ⟨g, 0, none⟩) 4 4, .slice none 0 0] (show w.heap.size + 1 ≠ w.heap.size + 2 by omega)
    replace hr := rowB_row_other hr #[.slice (some ⟨g, 0, none⟩) 4 4, .slice none 0 0] (show w.heap.size + 1 ≠ g by omega)
    replace q1 := rowB_row q1 #[.slice (some ⟨g, 0, none⟩) 4 4, .slice none 0 0]
    replace bX := below_rowR bX #[.slice (some ⟨g, 0, none⟩) 4 4, .slice none 0 0] (show w.heap.size ≤ w.heap.size + 1 by omega)
    generalize w2.setRow (w.heap.size + 1) #[.slice (some ⟨g, 0, none⟩) 4 4, .slice none 0 0] = w3 at *
    clear hb hF k0 k1 k2 bW sW h2
    have hk := rowB_cell q0 1 (v := .int .i64 3) rfl
    obtain ⟨d0, d1, y0, y1⟩ := dcells2 q1
    obtain ⟨e0, e1, e2, e3, z0, z1, z2, z3⟩ := dcells4 hr
    go_wp2_with fail
    go_quiet ((go_at_call 14; exact quiet_left (hM _)))
    have r1 := (rowB_other (rowB_other (rowB_below q1 (below_drewN w3 nq _) (rowB_lt q1)) ⟨g, 2, none⟩ (.int .i64 (L % 8)) (show g ≠ _ by omega)) ⟨g, 0, none⟩ (.int .i64 (l')) (show g ≠ _ by omega))
    have r2 := (rowB_other (rowB_other (rowB_below q2 (below_drewN w3 nq _) (rowB_lt q2)) ⟨g, 2, none⟩ (.int .i64 (L % 8)) (show g ≠ _ by omega)) ⟨g, 0, none⟩ (.int .i64 (l')) (show g ≠ _ by omega))
    have rg : rowB _ g 3 #[.int .i64 (l'), .int .i64 (l'), .int .i64 (L % 8), .int .i64 (f)] := (rowB_set (rowB_set (rowB_below hr (below_drewN w3 nq _) (rowB_lt hr)) 2 (.int .i64 (L % 8))) 0 (.int .i64 (l')))
    have bY := (Below.setCell (Below.setCell (bX.trans ((below_drewN w3 nq _).mono bX.size)) (p := ⟨g, 2, none⟩) (show w.heap.size ≤ g by omega) (.int .i64 (L % 8))) (p := ⟨g, 0, none⟩) (show w.heap.size ≤ g by omega) (.int .i64 (l')))
    go_wp2_with (first
      | (refine wpList_loadR rfl 51 _ rfl (w.heap.size + 1) rfl 51 #[.slice (some ⟨g, 0, none⟩) 4 4, .slice none 0 0] ?_ agDv ?_; with_reducible exact r1)
      | (refine wpList_storeR rfl 51 _ _ rfl (w.heap.size + 2) rfl #[.slice (some ⟨g, 0, none⟩) 4 4, .slice none 0 0] rfl (dev2_one _ _ _ _ _ _) 51 #[.slice none 0 0, .slice none 0 0] rfl ?_ agDv ?_; with_reducible exact r2))
    refine bodyPost_ret (resultsR rfl (w.heap.size + 2) _ rfl (rowB_row r2 _) agDv) rfl ?_
    exact ⟨_, rfl, ⟨g, rfl, by omega, rowB_row_other rg _ (by omega)⟩, below_rowR bY _ (by omega)⟩
  · have e : (⟨c, l', k, f⟩ : Tm).write 2 d = ⟨c, l', L % 8, f⟩ := by unfold Tm.write; rw [if_neg (by decide), if_neg (by decide), if_pos rfl, if_neg h5]; exact congrArg (fun x => Tm.mk c l' x f) (by unfold lo; show d % 8 = _; omega)
    rw [e]
    clear e
    have hq : L / 128 = 0 := by omega
    rw [hq] at t4
    clear hL
    clear h5
    go_enter Try.func28, Try.ntmps28
    go_upto_region 2 with (first
      | (go_at_call 33; refine hF.mono ?_; rintro e w2 ⟨u, rfl, ⟨g, rfl, hg, hr⟩, hb⟩; have q0 := rowB_below k0 hb (rowB_lt k0); have q1 := rowB_below k1 hb (rowB_lt k1); have q2 := rowB_below k2 hb (rowB_lt k2); rw [sW] at hg; have bX := bW.trans (hb.mono bW.size))
      | (refine wpList_storeR rfl 51 _ _ rfl (w.heap.size + 1) rfl #[.slice (some ⟨g, 0, none⟩) 4 4, .slice none 0 0] rfl (dev2_one _ _ _ _ _ _) 51 #[v, vm] rfl ?_ agDv ?_; with_reducible exact q1))
    replace hr : rowB w2 g 3 #[.int .i64 c, .int .i64 l', .int .i64 k, .int .i64 f] := hr
    replace q0 := rowB_row_other q0 #[.slice (some ⟨g, 0, none⟩) 4 4, .slice none 0 0] (show w.heap.size + 1 ≠ w.heap.size by omega)
    replace q2 := rowB_row_other q2 #[.slice (some ⟨g, 0, none⟩) 4 4, .slice none 0 0] (show w.heap.size + 1 ≠ w.heap.size + 2 by omega)
    replace hr := rowB_row_other hr #[.slice (some ⟨g, 0, none⟩) 4 4, .slice none 0 0] (show w.heap.size + 1 ≠ g by omega)
    replace q1 := rowB_row q1 #[.slice (some ⟨g, 0, none⟩) 4 4, .slice none 0 0]
    replace bX := below_rowR bX #[.slice (some ⟨g, 0, none⟩) 4 4, .slice none 0 0] (show w.heap.size ≤ w.heap.size + 1 by omega)
    generalize w2.setRow (w.heap.size + 1) #[.slice (some ⟨g, 0, none⟩) 4 4, .slice none 0 0] = w3 at *
    clear hb hF k0 k1 k2 bW sW h2
    have hk := rowB_cell q0 1 (v := .int .i64 3) rfl
    obtain ⟨d0, d1, y0, y1⟩ := dcells2 q1
    obtain ⟨e0, e1, e2, e3, z0, z1, z2, z3⟩ := dcells4 hr
    go_wp2_with fail
    go_quiet ((go_at_call 14; exact quiet_left (hM _)))
    have r1 := (rowB_other (rowB_below q1 (below_drewN w3 nq _) (rowB_lt q1)) ⟨g, 2, none⟩ (.int .i64 (L % 8)) (show g ≠ _ by omega))
    have r2 := (rowB_other (rowB_below q2 (below_drewN w3 nq _) (rowB_lt q2)) ⟨g, 2, none⟩ (.int .i64 (L % 8)) (show g ≠ _ by omega))
    have rg : rowB _ g 3 #[.int .i64 (c), .int .i64 (l'), .int .i64 (L % 8), .int .i64 (f)] := (rowB_set (rowB_below hr (below_drewN w3 nq _) (rowB_lt hr)) 2 (.int .i64 (L % 8)))
    have bY := (Below.setCell (bX.trans ((below_drewN w3 nq _).mono bX.size)) (p := ⟨g, 2, none⟩) (show w.heap.size ≤ g by omega) (.int .i64 (L % 8)))
    go_wp2_with (first
      | (refine wpList_loadR rfl 51 _ rfl (w.heap.size + 1) rfl 51 #[.slice (some ⟨g, 0, none⟩) 4 4, .slice none 0 0] ?_ agDv ?_; with_reducible exact r1)
      | (refine wpList_storeR rfl 51 _ _ rfl (w.heap.size + 2) rfl #[.slice (some ⟨g, 0, none⟩) 4 4, .slice none 0 0] rfl (dev2_one _ _ _ _ _ _) 51 #[.slice none 0 0, .slice none 0 0] rfl ?_ agDv ?_; with_reducible exact r2))
    refine bodyPost_ret (resultsR rfl (w.heap.size + 2) _ rfl (rowB_row r2 _) agDv) rfl ?_
    exact ⟨_, rfl, ⟨g, rfl, by omega, rowB_row_other rg _ (by omega)⟩, below_rowR bY _ (by omega)⟩
  · have e : (⟨c, l', k, f⟩ : Tm).write a d = ⟨c, l', k, f⟩ := by unfold Tm.write; rw [if_neg n0, if_neg n1, if_neg n2]
    rw [e]
    clear e
    have q0 : (a == 0) = false := by simpa using n0
    have q1 : (a == 1) = false := by simpa using n1
    have q2 : (a == 2) = false := by simpa using n2
    clear n0 n1 n2
    clear hL
    go_enter Try.func28, Try.ntmps28
    go_upto_region 2 with (first
      | (go_at_call 33; refine hF.mono ?_; rintro e w2 ⟨u, rfl, ⟨g, rfl, hg, hr⟩, hb⟩; have q0 := rowB_below k0 hb (rowB_lt k0); have q1 := rowB_below k1 hb (rowB_lt k1); have q2 := rowB_below k2 hb (rowB_lt k2); rw [sW] at hg; have bX := bW.trans (hb.mono bW.size))
      | (refine wpList_storeR rfl 51 _ _ rfl (w.heap.size + 1) rfl #[.slice (some ⟨g, 0, none⟩) 4 4, .slice none 0 0] rfl (dev2_one _ _ _ _ _ _) 51 #[v, vm] rfl ?_ agDv ?_; with_reducible exact q1))
    replace hr : rowB w2 g 3 #[.int .i64 c, .int .i64 l', .int .i64 k, .int .i64 f] := hr
    replace q0 := rowB_row_other q0 #[.slice (some ⟨g, 0, none⟩) 4 4, .slice none 0 0] (show w.heap.size + 1 ≠ w.heap.size by omega)
    replace q2 := rowB_row_other q2 #[.slice (some ⟨g, 0, none⟩) 4 4, .slice none 0 0] (show w.heap.size + 1 ≠ w.heap.size + 2 by omega)
    replace hr := rowB_row_other hr #[.slice (some ⟨g, 0, none⟩) 4 4, .slice none 0 0] (show w.heap.size + 1 ≠ g by omega)
    replace q1 := rowB_row q1 #[.slice (some ⟨g, 0, none⟩) 4 4, .slice none 0 0]
    replace bX := below_rowR bX #[.slice (some ⟨g, 0, none⟩) 4 4, .slice none 0 0] (show w.heap.size ≤ w.heap.size + 1 by omega)
    generalize w2.setRow (w.heap.size + 1) #[.slice (some ⟨g, 0, none⟩) 4 4, .slice none 0 0] = w3 at *
    clear hb hF k0 k1 k2 bW sW h2
    have hk := rowB_cell q0 1 (v := .int .i64 3) rfl
    obtain ⟨d0, d1, y0, y1⟩ := dcells2 q1
    obtain ⟨e0, e1, e2, e3, z0, z1, z2, z3⟩ := dcells4 hr
    go_wp2_with fail
    go_quiet ((go_at_call 14; exact quiet_left (hM _)))
    have r1 := (rowB_below q1 (below_drewN w3 nq _) (rowB_lt q1))
    have r2 := (rowB_below q2 (below_drewN w3 nq _) (rowB_lt q2))
    have rg : rowB _ g 3 #[.int .i64 (c), .int .i64 (l'), .int .i64 (k), .int .i64 (f)] := (rowB_below hr (below_drewN w3 nq _) (rowB_lt hr))
    have bY := (bX.trans ((below_drewN w3 nq _).mono bX.size))
    go_wp2_with (first
      | (refine wpList_loadR rfl 51 _ rfl (w.heap.size + 1) rfl 51 #[.slice (some ⟨g, 0, none⟩) 4 4, .slice none 0 0] ?_ agDv ?_; with_reducible exact r1)
      | (refine wpList_storeR rfl 51 _ _ rfl (w.heap.size + 2) rfl #[.slice (some ⟨g, 0, none⟩) 4 4, .slice none 0 0] rfl (dev2_one _ _ _ _ _ _) 51 #[.slice none 0 0, .slice none 0 0] rfl ?_ agDv ?_; with_reducible exact r2))
    refine bodyPost_ret (resultsR rfl (w.heap.size + 2) _ rfl (rowB_row r2 _) agDv) rfl ?_
    exact ⟨_, rfl, ⟨g, rfl, by omega, rowB_row_other rg _ (by omega)⟩, below_rowR bY _ (by omega)⟩
theorem pick_reg (c l' k f a : Int) (f1 : 0 ≤ c) (f2 : c < 65536) : pickN [c % 256, c / 256, k, f] a = (⟨c, l', k, f⟩ : Tm).reg a := by
  unfold pickN Tm.reg lo
  rcases (by omega : a < 0 ∨ a = 0 ∨ a = 1 ∨ a = 2 ∨ a = 3 ∨ 4 ≤ a) with h | rfl | rfl | rfl | rfl | h
  · rw [if_neg (by omega), if_neg (by omega), if_neg (by omega), if_neg (by omega), if_neg (by omega)]
  · rfl
  · show c / 256 = c / 256 % 256
    omega
  · rfl
  · rfl
  · rw [if_pos (by omega), if_neg (by omega), if_neg (by omega), if_neg (by omega), if_neg (by omega), List.getD_eq_getElem?_getD, List.getElem?_eq_none (by simp; omega)]
    rfl
set_option maxHeartbeats 1000000 in
theorem loadedTim_any (nm : ByteArray) (b z : Int) (dat v vm : Value) (l : List Int) (a : Int) (w : World) (h : isArg w v l) :
    Calls Try.prog 26 #[.agg (chip5 nm 3 b z dat), .agg #[v, vm], .int .i64 a] w fun e w' => ∃ u, e = .returned (.tuple #[u, .int .i64 ((Tm.of l).reg a)]) ∧ devO w.heap.size w' u ((Tm.of l).read a).ns ∧ Below w.heap.size w w' := by
  obtain ⟨k0, k1, k2, k3, bW, sW⟩ := boxes4 w (.cells #[.string nm, .int .i64 3, .int .i64 b, .int .i64 z, dat] 53) (.cells #[v, vm] 51) (.cells #[.int .i64 a] 3) (.cells #[.slice none 0 0, .slice none 0 0] 51)
  have k0 : rowB _ _ _ _ := k0
  have k1 : rowB _ _ _ _ := k1
  have k2 : rowB _ _ _ _ := k2
  have k3 : rowB _ _ _ _ := k3
  have h2 := isArg_below h bW (Nat.le_refl _)
  have hF := formedTim_any nm b z dat v vm l _ h2
  rw [fmTim] at hF
  have hfit := Tm.of_fit l
  generalize Tm.of l = s at *
  obtain ⟨c, l', k, f⟩ := s
  obtain ⟨⟨f1, f2⟩, ⟨f3, f4⟩, ⟨f5, f6⟩, ⟨f7, f8⟩⟩ := hfit
  dsimp only [Tm.ns, chip5] at *
  have t1 : c.tdiv 256 = c / 256 := Int.tdiv_eq_ediv_of_nonneg f1
  have t2 : c.tmod 256 = c % 256 := Int.tmod_eq_emod_of_nonneg f1
  have hp := pick_reg c l' k f a f1 f2
  obtain ⟨O, hO⟩ : ∃ O, (⟨c, l', k, f⟩ : Tm).reg a = O := ⟨_, rfl⟩
  rw [hO] at hp ⊢
  clear hO
  by_cases h3 : a = 3
  · have e : (⟨c, l', k, f⟩ : Tm).read a = ⟨c, l', k, 0⟩ := by unfold Tm.read; rw [if_pos h3]
    rw [e]
    clear e
    have hd : (a == 3) = true := by simpa using h3
    clear h3
    go_enter Try.func26, Try.ntmps26
    go_upto_region 2 with (first
      | (go_at_call 33; refine hF.mono ?_; rintro e w2 ⟨u, rfl, ⟨g, rfl, hg, hr⟩, hb⟩; have q0 := rowB_below k0 hb (rowB_lt k0); have q1 := rowB_below k1 hb (rowB_lt k1); have q2 := rowB_below k2 hb (rowB_lt k2); have q3 := rowB_below k3 hb (rowB_lt k3); rw [sW] at hg; have bX := bW.trans (hb.mono bW.size))
      | (refine wpList_storeR rfl 51 _ _ rfl (w.heap.size + 1) rfl #[.slice (some ⟨g, 0, none⟩) 4 4, .slice none 0 0] rfl (dev2_one _ _ _ _ _ _) 51 #[v, vm] rfl ?_ agDv ?_; with_reducible exact q1))
    replace hr : rowB w2 g 3 #[.int .i64 c, .int .i64 l', .int .i64 k, .int .i64 f] := hr
    replace q0 := rowB_row_other q0 #[.slice (some ⟨g, 0, none⟩) 4 4, .slice none 0 0] (show w.heap.size + 1 ≠ w.heap.size by omega)
    replace q2 := rowB_row_other q2 #[.slice (some ⟨g, 0, none⟩) 4 4, .slice none 0 0] (show w.heap.size + 1 ≠ w.heap.size + 2 by omega)
    replace q3 := rowB_row_other q3 #[.slice (some ⟨g, 0, none⟩) 4 4, .slice none 0 0] (show w.heap.size + 1 ≠ w.heap.size + 3 by omega)
    replace hr := rowB_row_other hr #[.slice (some ⟨g, 0, none⟩) 4 4, .slice none 0 0] (show w.heap.size + 1 ≠ g by omega)
    replace q1 := rowB_row q1 #[.slice (some ⟨g, 0, none⟩) 4 4, .slice none 0 0]
    replace bX := below_rowR bX #[.slice (some ⟨g, 0, none⟩) 4 4, .slice none 0 0] (show w.heap.size ≤ w.heap.size + 1 by omega)
    generalize w2.setRow (w.heap.size + 1) #[.slice (some ⟨g, 0, none⟩) 4 4, .slice none 0 0] = w3 at *
    clear hb hF k0 k1 k2 k3 bW sW h2
    have hk := rowB_cell q0 1 (v := .int .i64 3) rfl
    obtain ⟨d0, d1, y0, y1⟩ := dcells2 q1
    obtain ⟨e0, e1, e2, e3, z0, z1, z2, z3⟩ := dcells4 hr
    have a0 := rowB_cell q2 0 (v := .int .i64 a) rfl
    go_upto_region 17 with (fail)
    refine wp_region_mix (fun _ => True) [(0, 1), (1, 0), (2, 0), (3, 0), (4, 0), (5, 0), (6, 0), (7, 0), (8, 0), (9, 0), (10, 0), (11, 0), (12, 0), (13, 0), (14, 0), (15, 3), (16, 2), (17, 0)] (by kernel_rfl) (by kernel_rfl) (fun _ _ _ _ _ h => h) ?_
    simp only [List.map_cons, List.map_nil, opOf, List.getD_cons_zero, List.getD_cons_succ]
    change wpMix _ _ _ _ _ _ w3.drew
    replace q1 : rowB w3.drew _ _ _ := q1
    replace q2 : rowB w3.drew _ _ _ := q2
    replace q3 : rowB w3.drew _ _ _ := q3
    replace hr : rowB w3.drew _ _ _ := hr
    replace bX := bX.drew
    refine wpMix_held (.func (Fn.func 67) #[] #[.pointer (some ⟨w.heap.size + 2, 0, none⟩)]) rfl trivial (fun w' hw' => by go_simp) ?_
    simp only [Act.put, List.setIfInBounds_toArray, List.set_cons_zero, List.set_cons_succ]
    iterate 14 (refine wpMix_still (fun K hK => ?_); go_simp; refine hK _ ?_; clear hK K)
    refine wpMix_call ?_
    go_wp2_with fail
    refine And.intro (fun _ => trivial) ?_
    have x0 := rowB_new w3.drew 3 #[.int .i64 (c % 256), .int .i64 (c / 256), .int .i64 k, .int .i64 f]
    have hlt := rowB_lt hr
    replace q1 := rowB_alloc q1 (.cells #[.int .i64 (c % 256), .int .i64 (c / 256), .int .i64 k, .int .i64 f] 3)
    replace q2 := rowB_alloc q2 (.cells #[.int .i64 (c % 256), .int .i64 (c / 256), .int .i64 k, .int .i64 f] 3)
    replace q3 := rowB_alloc q3 (.cells #[.int .i64 (c % 256), .int .i64 (c / 256), .int .i64 k, .int .i64 f] 3)
    replace hr := rowB_alloc hr (.cells #[.int .i64 (c % 256), .int .i64 (c / 256), .int .i64 k, .int .i64 f] 3)
    replace bX := bX.alloc (by omega) (.cells #[.int .i64 (c % 256), .int .i64 (c / 256), .int .i64 k, .int .i64 f] 3)
    have hx := pick_any _ [c % 256, c / 256, k, f] (w.heap.size + 2) a _ (numB_arg x0 (by simp)) q2
    rw [hp] at hx
    refine wpMix_call ?_
    go_wp2_with (go_at_call 67; refine hx.mono ?_; rintro e w' ⟨rfl, rfl⟩)
    try refine ⟨fun h => (by cases h), ?_⟩
    (refine wpMix_still (fun K hK => ?_); go_simp; refine hK _ ?_; clear hK K)
    refine wpMix_nil ?_
    rw [show (w3.alloc (.cells #[.int .i64 (c % 256), .int .i64 (c / 256), .int .i64 k, .int .i64 f] 3)).drew = w3.drew.alloc (.cells #[.int .i64 (c % 256), .int .i64 (c / 256), .int .i64 k, .int .i64 f] 3) from rfl]
    generalize w3.drew.alloc (.cells #[.int .i64 (c % 256), .int .i64 (c / 256), .int .i64 k, .int .i64 f] 3) = w4 at *
    clear e0 e1 e2 e3 z0 z1 z2 z3 d0 d1 y0 y1 hk a0 hx x0
    obtain ⟨e0, e1, e2, e3, z0, z1, z2, z3⟩ := dcells4 hr
    obtain ⟨d0, d1, y0, y1⟩ := dcells2 q1
    have a0 := rowB_cell q2 0 (v := .int .i64 a) rfl
    have r1 := (rowB_other q1 ⟨g, 3, none⟩ (.int .i64 (0)) (show g ≠ _ by omega))
    have r2 := (rowB_other q3 ⟨g, 3, none⟩ (.int .i64 (0)) (show g ≠ _ by omega))
    have rg : rowB _ g 3 #[.int .i64 (c), .int .i64 (l'), .int .i64 (k), .int .i64 (0)] := (rowB_set hr 3 (.int .i64 (0)))
    have bY := (Below.setCell bX (p := ⟨g, 3, none⟩) (show w.heap.size ≤ g by omega) (.int .i64 (0)))
    go_wp2_with (first
      | (refine wpList_loadR rfl 51 _ rfl (w.heap.size + 1) rfl 51 #[.slice (some ⟨g, 0, none⟩) 4 4, .slice none 0 0] ?_ agDv ?_; with_reducible exact r1)
      | (refine wpList_storeR rfl 51 _ _ rfl (w.heap.size + 3) rfl #[.slice (some ⟨g, 0, none⟩) 4 4, .slice none 0 0] rfl (dev2_one _ _ _ _ _ _) 51 #[.slice none 0 0, .slice none 0 0] rfl ?_ agDv ?_; with_reducible exact r2))
    refine bodyPost_ret (resultsRT rfl (w.heap.size + 3) _ rfl (rowB_row r2 _) agDv rfl) rfl ?_
    exact ⟨_, rfl, ⟨g, rfl, by omega, rowB_row_other rg _ (by omega)⟩, below_rowR bY _ (by omega)⟩
  · have e : (⟨c, l', k, f⟩ : Tm).read a = ⟨c, l', k, f⟩ := by unfold Tm.read; rw [if_neg h3]
    rw [e]
    clear e
    have hd : (a == 3) = false := by simpa using h3
    clear h3
    go_enter Try.func26, Try.ntmps26
    go_upto_region 2 with (first
      | (go_at_call 33; refine hF.mono ?_; rintro e w2 ⟨u, rfl, ⟨g, rfl, hg, hr⟩, hb⟩; have q0 := rowB_below k0 hb (rowB_lt k0); have q1 := rowB_below k1 hb (rowB_lt k1); have q2 := rowB_below k2 hb (rowB_lt k2); have q3 := rowB_below k3 hb (rowB_lt k3); rw [sW] at hg; have bX := bW.trans (hb.mono bW.size))
      | (refine wpList_storeR rfl 51 _ _ rfl (w.heap.size + 1) rfl #[.slice (some ⟨g, 0, none⟩) 4 4, .slice none 0 0] rfl (dev2_one _ _ _ _ _ _) 51 #[v, vm] rfl ?_ agDv ?_; with_reducible exact q1))
    replace hr : rowB w2 g 3 #[.int .i64 c, .int .i64 l', .int .i64 k, .int .i64 f] := hr
    replace q0 := rowB_row_other q0 #[.slice (some ⟨g, 0, none⟩) 4 4, .slice none 0 0] (show w.heap.size + 1 ≠ w.heap.size by omega)
    replace q2 := rowB_row_other q2 #[.slice (some ⟨g, 0, none⟩) 4 4, .slice none 0 0] (show w.heap.size + 1 ≠ w.heap.size + 2 by omega)
    replace q3 := rowB_row_other q3 #[.slice (some ⟨g, 0, none⟩) 4 4, .slice none 0 0] (show w.heap.size + 1 ≠ w.heap.size + 3 by omega)
    replace hr := rowB_row_other hr #[.slice (some ⟨g, 0, none⟩) 4 4, .slice none 0 0] (show w.heap.size + 1 ≠ g by omega)
    replace q1 := rowB_row q1 #[.slice (some ⟨g, 0, none⟩) 4 4, .slice none 0 0]
    replace bX := below_rowR bX #[.slice (some ⟨g, 0, none⟩) 4 4, .slice none 0 0] (show w.heap.size ≤ w.heap.size + 1 by omega)
    generalize w2.setRow (w.heap.size + 1) #[.slice (some ⟨g, 0, none⟩) 4 4, .slice none 0 0] = w3 at *
    clear hb hF k0 k1 k2 k3 bW sW h2
    have hk := rowB_cell q0 1 (v := .int .i64 3) rfl
    obtain ⟨d0, d1, y0, y1⟩ := dcells2 q1
    obtain ⟨e0, e1, e2, e3, z0, z1, z2, z3⟩ := dcells4 hr
    have a0 := rowB_cell q2 0 (v := .int .i64 a) rfl
    go_upto_region 17 with (fail)
    refine wp_region_mix (fun _ => True) [(0, 1), (1, 0), (2, 0), (3, 0), (4, 0), (5, 0), (6, 0), (7, 0), (8, 0), (9, 0), (10, 0), (11, 0), (12, 0), (13, 0), (14, 0), (15, 3), (16, 2), (17, 0)] (by kernel_rfl) (by kernel_rfl) (fun _ _ _ _ _ h => h) ?_
    simp only [List.map_cons, List.map_nil, opOf, List.getD_cons_zero, List.getD_cons_succ]
    change wpMix _ _ _ _ _ _ w3.drew
    replace q1 : rowB w3.drew _ _ _ := q1
    replace q2 : rowB w3.drew _ _ _ := q2
    replace q3 : rowB w3.drew _ _ _ := q3
    replace hr : rowB w3.drew _ _ _ := hr
    replace bX := bX.drew
    refine wpMix_held (.func (Fn.func 67) #[] #[.pointer (some ⟨w.heap.size + 2, 0, none⟩)]) rfl trivial (fun w' hw' => by go_simp) ?_
    simp only [Act.put, List.setIfInBounds_toArray, List.set_cons_zero, List.set_cons_succ]
    iterate 14 (refine wpMix_still (fun K hK => ?_); go_simp; refine hK _ ?_; clear hK K)
    refine wpMix_call ?_
    go_wp2_with fail
    refine And.intro (fun _ => trivial) ?_
    have x0 := rowB_new w3.drew 3 #[.int .i64 (c % 256), .int .i64 (c / 256), .int .i64 k, .int .i64 f]
    have hlt := rowB_lt hr
    replace q1 := rowB_alloc q1 (.cells #[.int .i64 (c % 256), .int .i64 (c / 256), .int .i64 k, .int .i64 f] 3)
    replace q2 := rowB_alloc q2 (.cells #[.int .i64 (c % 256), .int .i64 (c / 256), .int .i64 k, .int .i64 f] 3)
    replace q3 := rowB_alloc q3 (.cells #[.int .i64 (c % 256), .int .i64 (c / 256), .int .i64 k, .int .i64 f] 3)
    replace hr := rowB_alloc hr (.cells #[.int .i64 (c % 256), .int .i64 (c / 256), .int .i64 k, .int .i64 f] 3)
    replace bX := bX.alloc (by omega) (.cells #[.int .i64 (c % 256), .int .i64 (c / 256), .int .i64 k, .int .i64 f] 3)
    have hx := pick_any _ [c % 256, c / 256, k, f] (w.heap.size + 2) a _ (numB_arg x0 (by simp)) q2
    rw [hp] at hx
    refine wpMix_call ?_
    go_wp2_with (go_at_call 67; refine hx.mono ?_; rintro e w' ⟨rfl, rfl⟩)
    try refine ⟨fun h => (by cases h), ?_⟩
    (refine wpMix_still (fun K hK => ?_); go_simp; refine hK _ ?_; clear hK K)
    refine wpMix_nil ?_
    rw [show (w3.alloc (.cells #[.int .i64 (c % 256), .int .i64 (c / 256), .int .i64 k, .int .i64 f] 3)).drew = w3.drew.alloc (.cells #[.int .i64 (c % 256), .int .i64 (c / 256), .int .i64 k, .int .i64 f] 3) from rfl]
    generalize w3.drew.alloc (.cells #[.int .i64 (c % 256), .int .i64 (c / 256), .int .i64 k, .int .i64 f] 3) = w4 at *
    clear e0 e1 e2 e3 z0 z1 z2 z3 d0 d1 y0 y1 hk a0 hx x0
    obtain ⟨e0, e1, e2, e3, z0, z1, z2, z3⟩ := dcells4 hr
    obtain ⟨d0, d1, y0, y1⟩ := dcells2 q1
    have a0 := rowB_cell q2 0 (v := .int .i64 a) rfl
    have r1 := q1
    have r2 := q3
    have rg : rowB _ g 3 #[.int .i64 (c), .int .i64 (l'), .int .i64 (k), .int .i64 (f)] := hr
    have bY := bX
    go_wp2_with (first
      | (refine wpList_loadR rfl 51 _ rfl (w.heap.size + 1) rfl 51 #[.slice (some ⟨g, 0, none⟩) 4 4, .slice none 0 0] ?_ agDv ?_; with_reducible exact r1)
      | (refine wpList_storeR rfl 51 _ _ rfl (w.heap.size + 3) rfl #[.slice (some ⟨g, 0, none⟩) 4 4, .slice none 0 0] rfl (dev2_one _ _ _ _ _ _) 51 #[.slice none 0 0, .slice none 0 0] rfl ?_ agDv ?_; with_reducible exact r2))
    refine bodyPost_ret (resultsRT rfl (w.heap.size + 3) _ rfl (rowB_row r2 _) agDv rfl) rfl ?_
    exact ⟨_, rfl, ⟨g, rfl, by omega, rowB_row_other rg _ (by omega)⟩, below_rowR bY _ (by omega)⟩
end Go.Proofs.Ythhihmggaddlmaa
