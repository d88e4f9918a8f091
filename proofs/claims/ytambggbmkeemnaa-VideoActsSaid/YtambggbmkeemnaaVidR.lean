/- What the reference says of video chips. -/
import Derived.Test.YtambggbmkeemnaaChecked
import Derived.Test.YtambggbmkeemnaaDevFormV
import Derived.Test.YtambggbmkeemnaaDevPick
import Derived.Test.YtambggbmkeemnaaVidShade
import Derived.Below
import Derived.BigQuiet
import Derived.ChangeMaps5
import Derived.Deep.DeepCutAuto
import Derived.Deep.Draws
import Derived.Deep.MidRow
import Derived.Deep.OwnRows
import Derived.Deep.QuietTactic
import Derived.Deep.RegionHeld3
import Derived.Deep.RegionWith
import Derived.Deep.Slices
import Derived.Deep.WholeRow
import Derived.Laws.CopyOwn
import Derived.Lib.Hide
import Derived.Lib.SmallJoins
import Derived.OpenShut
import Derived.OrdersHeld
import Derived.OwnWalk
import Derived.RowKit3
import Derived.StillTactics
import Derived.StillTail
import Derived.StillTailTactics
import Derived.WalkKit
namespace Go.Proofs.Ytambggbmkeemnaa
open Go.RowKit
set_option maxRecDepth 100000

theorem formedV_any (nm : ByteArray) (b z : Int) (dat v vm : Value) (l lb : List Int) (w : World) (h : isArg w v l) (hm : isByt w vm lb) :
    Calls Try.prog 20 #[.agg (chip5 nm 6 b z dat), .agg #[v, vm]] w fun e w' => ∃ u, e = .returned u ∧ devV w.heap.size w' u (Vd.ofN l lb) ∧ Below w.heap.size w w' := by
  refine (formedVid_any nm b z dat v vm l lb w h hm).mono ?_
  rintro e w' ⟨u, rfl, ⟨g, q, rfl, h1, h2, h3, h4, h5⟩, hb⟩
  refine ⟨_, rfl, ⟨g, q, ?_, h1, h2, h3, h4, h5⟩, hb⟩
  rw [pad_len, fmN_len]
  rfl
set_option maxHeartbeats 1000000 in
theorem showsVid_any (nm : ByteArray) (b z : Int) (dat v vm : Value) (l lb : List Int) (w : World) (h : isArg w v l) (hm : isByt w vm lb) (hb : ∀ x ∈ lb, 0 ≤ x ∧ x < 256) :
    Calls Try.prog 17 #[.agg (chip5 nm 6 b z dat), .agg #[v, vm]] w fun e w' => e = .returned (.int .i64 (Vd.ofN l lb).out) ∧ Below w.heap.size w w' := by
  obtain ⟨k0, k1, bW, sW⟩ := boxes2 w (.cells #[.string nm, .int .i64 6, .int .i64 b, .int .i64 z, dat] 27) (.cells #[v, vm] 25)
  have k0 : rowB _ _ _ _ := k0
  have k1 : rowB _ _ _ _ := k1
  have hF := formedV_any nm b z dat v vm l lb _ (isArg_below h bW (Nat.le_refl _)) (isByt_below hm bW (Nat.le_refl _))
  have hfit := Vd.ofN_fit l lb hb
  clear h hm hb
  generalize Vd.ofN l lb = s at *
  obtain ⟨p, f, m⟩ := s
  obtain ⟨⟨p0, p1⟩, ⟨f0, f1⟩, hl, hbb⟩ := hfit
  dsimp only [chip5] at *
  show Calls _ _ _ _ fun e w' => e = .returned (.int .i64 (vcol m p)) ∧ _
  go_enter Try.func17, Try.ntmps17
  go_upto_region 2 with (first
    | (go_at_call 20; refine hF.mono ?_; rintro e wf ⟨u, rfl, ⟨g, q, rfl, hg, hq, hgq, hr, hs⟩, hb⟩; have q0 := rowB_below k0 hb (rowB_lt k0); have q1 := rowB_below k1 hb (rowB_lt k1); rw [sW] at hg hq; have bX := bW.trans (hb.mono bW.size))
    | (refine wpList_storeR rfl 25 _ _ rfl (w.heap.size + 1) rfl #[.slice (some ⟨g, 0, none⟩) 2 2, .slice (some ⟨q, 0, none⟩) 32 32] rfl (dev2_one _ _ _ _ _ _) 25 #[v, vm] rfl ?_ agDv ?_; with_reducible exact q1))
  replace hr : rowB wf g 3 #[.int .i64 p, .int .i64 f] := hr
  replace q0 := rowB_row_other q0 #[.slice (some ⟨g, 0, none⟩) 2 2, .slice (some ⟨q, 0, none⟩) 32 32] (show (w.heap.size + 1) ≠ w.heap.size by omega)
  replace hr := rowB_row_other hr #[.slice (some ⟨g, 0, none⟩) 2 2, .slice (some ⟨q, 0, none⟩) 32 32] (show (w.heap.size + 1) ≠ g by omega)
  replace hs := rowB_row_other hs #[.slice (some ⟨g, 0, none⟩) 2 2, .slice (some ⟨q, 0, none⟩) 32 32] (show (w.heap.size + 1) ≠ q by omega)
  replace q1 := rowB_row q1 #[.slice (some ⟨g, 0, none⟩) 2 2, .slice (some ⟨q, 0, none⟩) 32 32]
  replace bX := below_rowR bX #[.slice (some ⟨g, 0, none⟩) 2 2, .slice (some ⟨q, 0, none⟩) 32 32] (show w.heap.size ≤ (w.heap.size + 1) by omega)
  generalize wf.setRow (w.heap.size + 1) #[.slice (some ⟨g, 0, none⟩) 2 2, .slice (some ⟨q, 0, none⟩) 32 32] = w3 at *
  clear hb hF k0 k1 bW sW
  have hk := rowB_cell q0 1 (v := .int .i64 6) rfl
  obtain ⟨d0, d1, y0, y1⟩ := dcells2 q1
  obtain ⟨e0, e1, z0, z1⟩ := dcells2 hr
  go_wp2_with fail
  have hB := byt32 hs hl
  go_quiet ((go_at_call 39; exact quiet_left (shade_any _ m p _ (isByt_below hB (below_drewN _ _ _) (Nat.le_refl _)) hl hbb ⟨p0, p1⟩)))
  go_wp2_with fail
  go_ret
  exact ⟨rfl, bX.trans ((below_drewN w3 nq _).mono bX.size)⟩
theorem freshVid_any (nm : ByteArray) (b z : Int) (dat : Value) (w : World) :
    Calls Try.prog 11 #[.agg (chip5 nm 6 b z dat)] w fun e w' => ∃ v, e = .returned v ∧ devV w.heap.size w' v ⟨2559, 0, List.replicate 32 0⟩ ∧ Below w.heap.size w w' := by
  obtain ⟨k0, k1, bW, sW⟩ := boxes2 w (.cells #[.string nm, .int .i64 6, .int .i64 b, .int .i64 z, dat] 27) (.cells #[.slice none 0 0, .slice none 0 0] 25)
  have k1 : rowB _ _ _ _ := k1
  have hF := formedV_any nm b z dat (.slice none 0 0) (.slice none 0 0) [] [] _ (isArg_none ((w.alloc (.cells #[.string nm, .int .i64 6, .int .i64 b, .int .i64 z, dat] 27)).alloc (.cells #[.slice none 0 0, .slice none 0 0] 25))) (.inl ⟨_, _, rfl, rfl⟩)
  rw [show Vd.ofN [] [] = ⟨2559, 0, List.replicate 32 0⟩ from rfl] at hF
  dsimp only [chip5] at *
  go_enter Try.func11, Try.ntmps11
  go_wp2_with (first
    | (go_at_call 20; refine hF.mono ?_; rintro e w2 ⟨u, rfl, ⟨g, q, rfl, hg, hq, hgq, hr, hs⟩, hb⟩; have q1 := rowB_below k1 hb (rowB_lt k1); rw [sW] at hg hq; have bX := bW.trans (hb.mono bW.size))
    | (refine wpList_storeR rfl 25 _ _ rfl (w.heap.size + 1) rfl #[.slice (some ⟨g, 0, none⟩) 2 2, .slice (some ⟨q, 0, none⟩) 32 32] rfl (dev2_one _ _ _ _ _ _) 25 #[.slice none 0 0, .slice none 0 0] rfl ?_ agDv ?_; with_reducible exact q1))
  refine bodyPost_ret (resultsR rfl (w.heap.size + 1) _ rfl (rowB_row q1 _) agDv) rfl ?_
  exact ⟨_, rfl, ⟨g, q, rfl, by omega, by omega, hgq, rowB_row_other hr _ (show w.heap.size + 1 ≠ g by omega), rowB_row_other hs _ (show w.heap.size + 1 ≠ q by omega)⟩, below_rowR bX _ (show w.heap.size ≤ w.heap.size + 1 by omega)⟩
set_option maxHeartbeats 1000000 in
theorem loadedVid_any (nm : ByteArray) (b z : Int) (dat v vm : Value) (l lb : List Int) (a : Int) (w : World) (h : isArg w v l) (hm : isByt w vm lb) (hb : ∀ x ∈ lb, 0 ≤ x ∧ x < 256) :
    Calls Try.prog 13 #[.agg (chip5 nm 6 b z dat), .agg #[v, vm], .int .i64 a] w fun e w' => ∃ u, e = .returned (.tuple #[u, .int .i64 ((Vd.ofN l lb).reg a)]) ∧ devV w.heap.size w' u ((Vd.ofN l lb).read a) ∧ Below w.heap.size w w' := by
  obtain ⟨k0, k1, k2, k3, bW, sW⟩ := boxes4 w (.cells #[.string nm, .int .i64 6, .int .i64 b, .int .i64 z, dat] 27) (.cells #[v, vm] 25) (.cells #[.int .i64 a] 3) (.cells #[.slice none 0 0, .slice none 0 0] 25)
  have k0 : rowB _ _ _ _ := k0
  have k1 : rowB _ _ _ _ := k1
  have k2 : rowB _ _ _ _ := k2
  have k3 : rowB _ _ _ _ := k3
  have hF := formedV_any nm b z dat v vm l lb _ (isArg_below h bW (Nat.le_refl _)) (isByt_below hm bW (Nat.le_refl _))
  have hfit := Vd.ofN_fit l lb hb
  clear h hm hb
  generalize Vd.ofN l lb = s at *
  obtain ⟨p, f, m⟩ := s
  obtain ⟨⟨p0, p1⟩, ⟨f0, f1⟩, hl, hbb⟩ := hfit
  dsimp only [chip5] at *
  have t1 : p.tdiv 64 = p / 64 := Int.tdiv_eq_ediv_of_nonneg p0
  have t2 : p.tmod 64 = p % 64 := Int.tmod_eq_emod_of_nonneg p0
  rcases (by omega : a < 0 ∨ 32 ≤ a ∨ a = 5 ∨ a = 6 ∨ a = 7 ∨ ((0 ≤ a ∧ a < 32) ∧ a ≠ 5 ∧ a ≠ 6 ∧ a ≠ 7)) with h | h | rfl | rfl | rfl | ⟨⟨h, h2⟩, n5, n6, n7⟩
  · have e : (⟨p, f, m⟩ : Vd).reg a = 0 := by unfold Vd.reg; rw [if_neg (by omega), if_neg (by omega), if_neg (by omega), if_neg (by omega)]
    rw [e]
    clear e
    have e : (⟨p, f, m⟩ : Vd).read a = ⟨p, f, m⟩ := by unfold Vd.read; rw [if_neg (by omega)]
    rw [e]
    clear e
    have dA : decide (0 ≤ a) = false := decide_eq_false (by omega)
    have dB : decide (a < 32) = true := decide_eq_true (by omega)
    have d5' : (a == 5) = false := by simp; omega
    have d6' : (a == 6) = false := by simp; omega
    have d7' : (a == 7) = false := by simp; omega
    go_enter Try.func13, Try.ntmps13
    go_upto_region 2 with (first
      | (go_at_call 20; refine hF.mono ?_; rintro e wf ⟨u, rfl, ⟨g, q, rfl, hg, hq, hgq, hr, hs⟩, hb⟩; have q0 := rowB_below k0 hb (rowB_lt k0); have q1 := rowB_below k1 hb (rowB_lt k1); have q2 := rowB_below k2 hb (rowB_lt k2); have q3 := rowB_below k3 hb (rowB_lt k3); rw [sW] at hg hq; have bX := bW.trans (hb.mono bW.size))
      | (refine wpList_storeR rfl 25 _ _ rfl (w.heap.size + 1) rfl #[.slice (some ⟨g, 0, none⟩) 2 2, .slice (some ⟨q, 0, none⟩) 32 32] rfl (dev2_one _ _ _ _ _ _) 25 #[v, vm] rfl ?_ agDv ?_; with_reducible exact q1))
    replace hr : rowB wf g 3 #[.int .i64 p, .int .i64 f] := hr
    replace q0 := rowB_row_other q0 #[.slice (some ⟨g, 0, none⟩) 2 2, .slice (some ⟨q, 0, none⟩) 32 32] (show (w.heap.size + 1) ≠ w.heap.size by omega)
    replace q2 := rowB_row_other q2 #[.slice (some ⟨g, 0, none⟩) 2 2, .slice (some ⟨q, 0, none⟩) 32 32] (show (w.heap.size + 1) ≠ (w.heap.size + 2) by omega)
    replace q3 := rowB_row_other q3 #[.slice (some ⟨g, 0, none⟩) 2 2, .slice (some ⟨q, 0, none⟩) 32 32] (show (w.heap.size + 1) ≠ (w.heap.size + 3) by omega)
    replace hr := rowB_row_other hr #[.slice (some ⟨g, 0, none⟩) 2 2, .slice (some ⟨q, 0, none⟩) 32 32] (show (w.heap.size + 1) ≠ g by omega)
    replace hs := rowB_row_other hs #[.slice (some ⟨g, 0, none⟩) 2 2, .slice (some ⟨q, 0, none⟩) 32 32] (show (w.heap.size + 1) ≠ q by omega)
    replace q1 := rowB_row q1 #[.slice (some ⟨g, 0, none⟩) 2 2, .slice (some ⟨q, 0, none⟩) 32 32]
    replace bX := below_rowR bX #[.slice (some ⟨g, 0, none⟩) 2 2, .slice (some ⟨q, 0, none⟩) 32 32] (show w.heap.size ≤ (w.heap.size + 1) by omega)
    generalize wf.setRow (w.heap.size + 1) #[.slice (some ⟨g, 0, none⟩) 2 2, .slice (some ⟨q, 0, none⟩) 32 32] = w3 at *
    clear hb hF k0 k1 k2 k3 bW sW
    have hk := rowB_cell q0 1 (v := .int .i64 6) rfl
    obtain ⟨d0, d1, y0, y1⟩ := dcells2 q1
    obtain ⟨e0, e1, z0, z1⟩ := dcells2 hr
    have a0 := rowB_cell q2 0 (v := .int .i64 a) rfl
    have r1 := q1
    have r2 := q3
    have rg : rowB _ g 3 #[.int .i64 (p), .int .i64 (f)] := hr
    have rs : rowB _ q 5 (byts m) := hs
    have bY := bX
    go_wp2_with (first
      | (refine wpList_loadR rfl 25 _ rfl (w.heap.size + 1) rfl 25 #[.slice (some ⟨g, 0, none⟩) 2 2, .slice (some ⟨q, 0, none⟩) 32 32] ?_ agDv ?_; with_reducible exact r1)
      | (refine wpList_storeR rfl 25 _ _ rfl (w.heap.size + 3) rfl #[.slice (some ⟨g, 0, none⟩) 2 2, .slice (some ⟨q, 0, none⟩) 32 32] rfl (dev2_one _ _ _ _ _ _) 25 #[.slice none 0 0, .slice none 0 0] rfl ?_ agDv ?_; with_reducible exact r2)
    )
    refine bodyPost_ret (resultsRT rfl (w.heap.size + 3) _ rfl (rowB_row r2 _) agDv rfl) rfl ?_
    exact ⟨_, rfl, ⟨g, q, rfl, by omega, by omega, hgq, rowB_row_other rg _ (show (w.heap.size + 3) ≠ g by omega), rowB_row_other rs _ (show (w.heap.size + 3) ≠ q by omega)⟩, below_rowR bY _ (show w.heap.size ≤ (w.heap.size + 3) by omega)⟩
  · have e : (⟨p, f, m⟩ : Vd).reg a = 0 := by unfold Vd.reg; rw [if_neg (by omega), if_neg (by omega), if_neg (by omega), if_neg (by omega)]
    rw [e]
    clear e
    have e : (⟨p, f, m⟩ : Vd).read a = ⟨p, f, m⟩ := by unfold Vd.read; rw [if_neg (by omega)]
    rw [e]
    clear e
    have dA : decide (0 ≤ a) = true := decide_eq_true (by omega)
    have dB : decide (a < 32) = false := decide_eq_false (by omega)
    have d5' : (a == 5) = false := by simp; omega
    have d6' : (a == 6) = false := by simp; omega
    have d7' : (a == 7) = false := by simp; omega
    go_enter Try.func13, Try.ntmps13
    go_upto_region 2 with (first
      | (go_at_call 20; refine hF.mono ?_; rintro e wf ⟨u, rfl, ⟨g, q, rfl, hg, hq, hgq, hr, hs⟩, hb⟩; have q0 := rowB_below k0 hb (rowB_lt k0); have q1 := rowB_below k1 hb (rowB_lt k1); have q2 := rowB_below k2 hb (rowB_lt k2); have q3 := rowB_below k3 hb (rowB_lt k3); rw [sW] at hg hq; have bX := bW.trans (hb.mono bW.size))
      | (refine wpList_storeR rfl 25 _ _ rfl (w.heap.size + 1) rfl #[.slice (some ⟨g, 0, none⟩) 2 2, .slice (some ⟨q, 0, none⟩) 32 32] rfl (dev2_one _ _ _ _ _ _) 25 #[v, vm] rfl ?_ agDv ?_; with_reducible exact q1))
    replace hr : rowB wf g 3 #[.int .i64 p, .int .i64 f] := hr
    replace q0 := rowB_row_other q0 #[.slice (some ⟨g, 0, none⟩) 2 2, .slice (some ⟨q, 0, none⟩) 32 32] (show (w.heap.size + 1) ≠ w.heap.size by omega)
    replace q2 := rowB_row_other q2 #[.slice (some ⟨g, 0, none⟩) 2 2, .slice (some ⟨q, 0, none⟩) 32 32] (show (w.heap.size + 1) ≠ (w.heap.size + 2) by omega)
    replace q3 := rowB_row_other q3 #[.slice (some ⟨g, 0, none⟩) 2 2, .slice (some ⟨q, 0, none⟩) 32 32] (show (w.heap.size + 1) ≠ (w.heap.size + 3) by omega)
    replace hr := rowB_row_other hr #[.slice (some ⟨g, 0, none⟩) 2 2, .slice (some ⟨q, 0, none⟩) 32 32] (show (w.heap.size + 1) ≠ g by omega)
    replace hs := rowB_row_other hs #[.slice (some ⟨g, 0, none⟩) 2 2, .slice (some ⟨q, 0, none⟩) 32 32] (show (w.heap.size + 1) ≠ q by omega)
    replace q1 := rowB_row q1 #[.slice (some ⟨g, 0, none⟩) 2 2, .slice (some ⟨q, 0, none⟩) 32 32]
    replace bX := below_rowR bX #[.slice (some ⟨g, 0, none⟩) 2 2, .slice (some ⟨q, 0, none⟩) 32 32] (show w.heap.size ≤ (w.heap.size + 1) by omega)
    generalize wf.setRow (w.heap.size + 1) #[.slice (some ⟨g, 0, none⟩) 2 2, .slice (some ⟨q, 0, none⟩) 32 32] = w3 at *
    clear hb hF k0 k1 k2 k3 bW sW
    have hk := rowB_cell q0 1 (v := .int .i64 6) rfl
    obtain ⟨d0, d1, y0, y1⟩ := dcells2 q1
    obtain ⟨e0, e1, z0, z1⟩ := dcells2 hr
    have a0 := rowB_cell q2 0 (v := .int .i64 a) rfl
    have r1 := q1
    have r2 := q3
    have rg : rowB _ g 3 #[.int .i64 (p), .int .i64 (f)] := hr
    have rs : rowB _ q 5 (byts m) := hs
    have bY := bX
    go_wp2_with (first
      | (refine wpList_loadR rfl 25 _ rfl (w.heap.size + 1) rfl 25 #[.slice (some ⟨g, 0, none⟩) 2 2, .slice (some ⟨q, 0, none⟩) 32 32] ?_ agDv ?_; with_reducible exact r1)
      | (refine wpList_storeR rfl 25 _ _ rfl (w.heap.size + 3) rfl #[.slice (some ⟨g, 0, none⟩) 2 2, .slice (some ⟨q, 0, none⟩) 32 32] rfl (dev2_one _ _ _ _ _ _) 25 #[.slice none 0 0, .slice none 0 0] rfl ?_ agDv ?_; with_reducible exact r2)
    )
    refine bodyPost_ret (resultsRT rfl (w.heap.size + 3) _ rfl (rowB_row r2 _) agDv rfl) rfl ?_
    exact ⟨_, rfl, ⟨g, q, rfl, by omega, by omega, hgq, rowB_row_other rg _ (show (w.heap.size + 3) ≠ g by omega), rowB_row_other rs _ (show (w.heap.size + 3) ≠ q by omega)⟩, below_rowR bY _ (show w.heap.size ≤ (w.heap.size + 3) by omega)⟩
  · have e : (⟨p, f, m⟩ : Vd).reg 5 = p / 64 := by rfl
    rw [e]
    clear e
    have e : (⟨p, f, m⟩ : Vd).read 5 = ⟨p, f, m⟩ := by rfl
    rw [e]
    clear e
    go_enter Try.func13, Try.ntmps13
    go_upto_region 2 with (first
      | (go_at_call 20; refine hF.mono ?_; rintro e wf ⟨u, rfl, ⟨g, q, rfl, hg, hq, hgq, hr, hs⟩, hb⟩; have q0 := rowB_below k0 hb (rowB_lt k0); have q1 := rowB_below k1 hb (rowB_lt k1); have q2 := rowB_below k2 hb (rowB_lt k2); have q3 := rowB_below k3 hb (rowB_lt k3); rw [sW] at hg hq; have bX := bW.trans (hb.mono bW.size))
      | (refine wpList_storeR rfl 25 _ _ rfl (w.heap.size + 1) rfl #[.slice (some ⟨g, 0, none⟩) 2 2, .slice (some ⟨q, 0, none⟩) 32 32] rfl (dev2_one _ _ _ _ _ _) 25 #[v, vm] rfl ?_ agDv ?_; with_reducible exact q1))
    replace hr : rowB wf g 3 #[.int .i64 p, .int .i64 f] := hr
    replace q0 := rowB_row_other q0 #[.slice (some ⟨g, 0, none⟩) 2 2, .slice (some ⟨q, 0, none⟩) 32 32] (show (w.heap.size + 1) ≠ w.heap.size by omega)
    replace q2 := rowB_row_other q2 #[.slice (some ⟨g, 0, none⟩) 2 2, .slice (some ⟨q, 0, none⟩) 32 32] (show (w.heap.size + 1) ≠ (w.heap.size + 2) by omega)
    replace q3 := rowB_row_other q3 #[.slice (some ⟨g, 0, none⟩) 2 2, .slice (some ⟨q, 0, none⟩) 32 32] (show (w.heap.size + 1) ≠ (w.heap.size + 3) by omega)
    replace hr := rowB_row_other hr #[.slice (some ⟨g, 0, none⟩) 2 2, .slice (some ⟨q, 0, none⟩) 32 32] (show (w.heap.size + 1) ≠ g by omega)
    replace hs := rowB_row_other hs #[.slice (some ⟨g, 0, none⟩) 2 2, .slice (some ⟨q, 0, none⟩) 32 32] (show (w.heap.size + 1) ≠ q by omega)
    replace q1 := rowB_row q1 #[.slice (some ⟨g, 0, none⟩) 2 2, .slice (some ⟨q, 0, none⟩) 32 32]
    replace bX := below_rowR bX #[.slice (some ⟨g, 0, none⟩) 2 2, .slice (some ⟨q, 0, none⟩) 32 32] (show w.heap.size ≤ (w.heap.size + 1) by omega)
    generalize wf.setRow (w.heap.size + 1) #[.slice (some ⟨g, 0, none⟩) 2 2, .slice (some ⟨q, 0, none⟩) 32 32] = w3 at *
    clear hb hF k0 k1 k2 k3 bW sW
    have hk := rowB_cell q0 1 (v := .int .i64 6) rfl
    obtain ⟨d0, d1, y0, y1⟩ := dcells2 q1
    obtain ⟨e0, e1, z0, z1⟩ := dcells2 hr
    have a0 := rowB_cell q2 0 (v := .int .i64 (5)) rfl
    have cA := byt_cell hs hl 5 (by omega)
    have r1 := q1
    have r2 := q3
    have rg : rowB _ g 3 #[.int .i64 (p), .int .i64 (f)] := hr
    have rs : rowB _ q 5 (byts m) := hs
    have bY := bX
    go_wp2_with (first
      | (refine wpList_loadR rfl 25 _ rfl (w.heap.size + 1) rfl 25 #[.slice (some ⟨g, 0, none⟩) 2 2, .slice (some ⟨q, 0, none⟩) 32 32] ?_ agDv ?_; with_reducible exact r1)
      | (refine wpList_storeR rfl 25 _ _ rfl (w.heap.size + 3) rfl #[.slice (some ⟨g, 0, none⟩) 2 2, .slice (some ⟨q, 0, none⟩) 32 32] rfl (dev2_one _ _ _ _ _ _) 25 #[.slice none 0 0, .slice none 0 0] rfl ?_ agDv ?_; with_reducible exact r2)
    )
    refine bodyPost_ret (resultsRT rfl (w.heap.size + 3) _ rfl (rowB_row r2 _) agDv rfl) rfl ?_
    exact ⟨_, rfl, ⟨g, q, rfl, by omega, by omega, hgq, rowB_row_other rg _ (show (w.heap.size + 3) ≠ g by omega), rowB_row_other rs _ (show (w.heap.size + 3) ≠ q by omega)⟩, below_rowR bY _ (show w.heap.size ≤ (w.heap.size + 3) by omega)⟩
  · have e : (⟨p, f, m⟩ : Vd).reg 6 = p % 64 := by rfl
    rw [e]
    clear e
    have e : (⟨p, f, m⟩ : Vd).read 6 = ⟨p, f, m⟩ := by rfl
    rw [e]
    clear e
    go_enter Try.func13, Try.ntmps13
    go_upto_region 2 with (first
      | (go_at_call 20; refine hF.mono ?_; rintro e wf ⟨u, rfl, ⟨g, q, rfl, hg, hq, hgq, hr, hs⟩, hb⟩; have q0 := rowB_below k0 hb (rowB_lt k0); have q1 := rowB_below k1 hb (rowB_lt k1); have q2 := rowB_below k2 hb (rowB_lt k2); have q3 := rowB_below k3 hb (rowB_lt k3); rw [sW] at hg hq; have bX := bW.trans (hb.mono bW.size))
      | (refine wpList_storeR rfl 25 _ _ rfl (w.heap.size + 1) rfl #[.slice (some ⟨g, 0, none⟩) 2 2, .slice (some ⟨q, 0, none⟩) 32 32] rfl (dev2_one _ _ _ _ _ _) 25 #[v, vm] rfl ?_ agDv ?_; with_reducible exact q1))
    replace hr : rowB wf g 3 #[.int .i64 p, .int .i64 f] := hr
    replace q0 := rowB_row_other q0 #[.slice (some ⟨g, 0, none⟩) 2 2, .slice (some ⟨q, 0, none⟩) 32 32] (show (w.heap.size + 1) ≠ w.heap.size by omega)
    replace q2 := rowB_row_other q2 #[.slice (some ⟨g, 0, none⟩) 2 2, .slice (some ⟨q, 0, none⟩) 32 32] (show (w.heap.size + 1) ≠ (w.heap.size + 2) by omega)
    replace q3 := rowB_row_other q3 #[.slice (some ⟨g, 0, none⟩) 2 2, .slice (some ⟨q, 0, none⟩) 32 32] (show (w.heap.size + 1) ≠ (w.heap.size + 3) by omega)
    replace hr := rowB_row_other hr #[.slice (some ⟨g, 0, none⟩) 2 2, .slice (some ⟨q, 0, none⟩) 32 32] (show (w.heap.size + 1) ≠ g by omega)
    replace hs := rowB_row_other hs #[.slice (some ⟨g, 0, none⟩) 2 2, .slice (some ⟨q, 0, none⟩) 32 32] (show (w.heap.size + 1) ≠ q by omega)
    replace q1 := rowB_row q1 #[.slice (some ⟨g, 0, none⟩) 2 2, .slice (some ⟨q, 0, none⟩) 32 32]
    replace bX := below_rowR bX #[.slice (some ⟨g, 0, none⟩) 2 2, .slice (some ⟨q, 0, none⟩) 32 32] (show w.heap.size ≤ (w.heap.size + 1) by omega)
    generalize wf.setRow (w.heap.size + 1) #[.slice (some ⟨g, 0, none⟩) 2 2, .slice (some ⟨q, 0, none⟩) 32 32] = w3 at *
    clear hb hF k0 k1 k2 k3 bW sW
    have hk := rowB_cell q0 1 (v := .int .i64 6) rfl
    obtain ⟨d0, d1, y0, y1⟩ := dcells2 q1
    obtain ⟨e0, e1, z0, z1⟩ := dcells2 hr
    have a0 := rowB_cell q2 0 (v := .int .i64 (6)) rfl
    have cA := byt_cell hs hl 6 (by omega)
    have r1 := q1
    have r2 := q3
    have rg : rowB _ g 3 #[.int .i64 (p), .int .i64 (f)] := hr
    have rs : rowB _ q 5 (byts m) := hs
    have bY := bX
    go_wp2_with (first
      | (refine wpList_loadR rfl 25 _ rfl (w.heap.size + 1) rfl 25 #[.slice (some ⟨g, 0, none⟩) 2 2, .slice (some ⟨q, 0, none⟩) 32 32] ?_ agDv ?_; with_reducible exact r1)
      | (refine wpList_storeR rfl 25 _ _ rfl (w.heap.size + 3) rfl #[.slice (some ⟨g, 0, none⟩) 2 2, .slice (some ⟨q, 0, none⟩) 32 32] rfl (dev2_one _ _ _ _ _ _) 25 #[.slice none 0 0, .slice none 0 0] rfl ?_ agDv ?_; with_reducible exact r2)
    )
    refine bodyPost_ret (resultsRT rfl (w.heap.size + 3) _ rfl (rowB_row r2 _) agDv rfl) rfl ?_
    exact ⟨_, rfl, ⟨g, q, rfl, by omega, by omega, hgq, rowB_row_other rg _ (show (w.heap.size + 3) ≠ g by omega), rowB_row_other rs _ (show (w.heap.size + 3) ≠ q by omega)⟩, below_rowR bY _ (show w.heap.size ≤ (w.heap.size + 3) by omega)⟩
  · have e : (⟨p, f, m⟩ : Vd).reg 7 = f := by rfl
    rw [e]
    clear e
    have e : (⟨p, f, m⟩ : Vd).read 7 = ⟨p, 0, m⟩ := by rfl
    rw [e]
    clear e
    go_enter Try.func13, Try.ntmps13
    go_upto_region 2 with (first
      | (go_at_call 20; refine hF.mono ?_; rintro e wf ⟨u, rfl, ⟨g, q, rfl, hg, hq, hgq, hr, hs⟩, hb⟩; have q0 := rowB_below k0 hb (rowB_lt k0); have q1 := rowB_below k1 hb (rowB_lt k1); have q2 := rowB_below k2 hb (rowB_lt k2); have q3 := rowB_below k3 hb (rowB_lt k3); rw [sW] at hg hq; have bX := bW.trans (hb.mono bW.size))
      | (refine wpList_storeR rfl 25 _ _ rfl (w.heap.size + 1) rfl #[.slice (some ⟨g, 0, none⟩) 2 2, .slice (some ⟨q, 0, none⟩) 32 32] rfl (dev2_one _ _ _ _ _ _) 25 #[v, vm] rfl ?_ agDv ?_; with_reducible exact q1))
    replace hr : rowB wf g 3 #[.int .i64 p, .int .i64 f] := hr
    replace q0 := rowB_row_other q0 #[.slice (some ⟨g, 0, none⟩) 2 2, .slice (some ⟨q, 0, none⟩) 32 32] (show (w.heap.size + 1) ≠ w.heap.size by omega)
    replace q2 := rowB_row_other q2 #[.slice (some ⟨g, 0, none⟩) 2 2, .slice (some ⟨q, 0, none⟩) 32 32] (show (w.heap.size + 1) ≠ (w.heap.size + 2) by omega)
    replace q3 := rowB_row_other q3 #[.slice (some ⟨g, 0, none⟩) 2 2, .slice (some ⟨q, 0, none⟩) 32 32] (show (w.heap.size + 1) ≠ (w.heap.size + 3) by omega)
    replace hr := rowB_row_other hr #[.slice (some ⟨g, 0, none⟩) 2 2, .slice (some ⟨q, 0, none⟩) 32 32] (show (w.heap.size + 1) ≠ g by omega)
    replace hs := rowB_row_other hs #[.slice (some ⟨g, 0, none⟩) 2 2, .slice (some ⟨q, 0, none⟩) 32 32] (show (w.heap.size + 1) ≠ q by omega)
    replace q1 := rowB_row q1 #[.slice (some ⟨g, 0, none⟩) 2 2, .slice (some ⟨q, 0, none⟩) 32 32]
    replace bX := below_rowR bX #[.slice (some ⟨g, 0, none⟩) 2 2, .slice (some ⟨q, 0, none⟩) 32 32] (show w.heap.size ≤ (w.heap.size + 1) by omega)
    generalize wf.setRow (w.heap.size + 1) #[.slice (some ⟨g, 0, none⟩) 2 2, .slice (some ⟨q, 0, none⟩) 32 32] = w3 at *
    clear hb hF k0 k1 k2 k3 bW sW
    have hk := rowB_cell q0 1 (v := .int .i64 6) rfl
    obtain ⟨d0, d1, y0, y1⟩ := dcells2 q1
    obtain ⟨e0, e1, z0, z1⟩ := dcells2 hr
    have a0 := rowB_cell q2 0 (v := .int .i64 (7)) rfl
    have cA := byt_cell hs hl 7 (by omega)
    have r1 := (rowB_other q1 ⟨g, 1, none⟩ (.int .i64 (0)) (show g ≠ _ by omega))
    have r2 := (rowB_other q3 ⟨g, 1, none⟩ (.int .i64 (0)) (show g ≠ _ by omega))
    have rg : rowB _ g 3 #[.int .i64 (p), .int .i64 (0)] := (rowB_set hr 1 (.int .i64 (0)))
    have rs : rowB _ q 5 (byts m) := (rowB_other hs ⟨g, 1, none⟩ (.int .i64 (0)) (show g ≠ q from hgq))
    have bY := (Below.setCell bX (p := ⟨g, 1, none⟩) (show w.heap.size ≤ g by omega) (.int .i64 (0)))
    go_wp2_with (first
      | (refine wpList_loadR rfl 25 _ rfl (w.heap.size + 1) rfl 25 #[.slice (some ⟨g, 0, none⟩) 2 2, .slice (some ⟨q, 0, none⟩) 32 32] ?_ agDv ?_; with_reducible exact r1)
      | (refine wpList_storeR rfl 25 _ _ rfl (w.heap.size + 3) rfl #[.slice (some ⟨g, 0, none⟩) 2 2, .slice (some ⟨q, 0, none⟩) 32 32] rfl (dev2_one _ _ _ _ _ _) 25 #[.slice none 0 0, .slice none 0 0] rfl ?_ agDv ?_; with_reducible exact r2)
    )
    refine bodyPost_ret (resultsRT rfl (w.heap.size + 3) _ rfl (rowB_row r2 _) agDv rfl) rfl ?_
    exact ⟨_, rfl, ⟨g, q, rfl, by omega, by omega, hgq, rowB_row_other rg _ (show (w.heap.size + 3) ≠ g by omega), rowB_row_other rs _ (show (w.heap.size + 3) ≠ q by omega)⟩, below_rowR bY _ (show w.heap.size ≤ (w.heap.size + 3) by omega)⟩
  · obtain ⟨V, hV⟩ : ∃ V, vreg m a.toNat = V := ⟨_, rfl⟩
    have hVb := hbb a.toNat
    rw [hV] at hVb
    have e : (⟨p, f, m⟩ : Vd).reg a = V := by unfold Vd.reg; rw [if_neg n5, if_neg n6, if_neg n7, if_pos ⟨h, h2⟩]; exact hV
    rw [e]
    clear e
    have e : (⟨p, f, m⟩ : Vd).read a = ⟨p, f, m⟩ := by unfold Vd.read; rw [if_neg (by omega)]
    rw [e]
    clear e
    have dA : decide (0 ≤ a) = true := decide_eq_true (by omega)
    have dB : decide (a < 32) = true := decide_eq_true (by omega)
    have d5' : (a == 5) = false := by simp; omega
    have d6' : (a == 6) = false := by simp; omega
    have d7' : (a == 7) = false := by simp; omega
    go_enter Try.func13, Try.ntmps13
    go_upto_region 2 with (first
      | (go_at_call 20; refine hF.mono ?_; rintro e wf ⟨u, rfl, ⟨g, q, rfl, hg, hq, hgq, hr, hs⟩, hb⟩; have q0 := rowB_below k0 hb (rowB_lt k0); have q1 := rowB_below k1 hb (rowB_lt k1); have q2 := rowB_below k2 hb (rowB_lt k2); have q3 := rowB_below k3 hb (rowB_lt k3); rw [sW] at hg hq; have bX := bW.trans (hb.mono bW.size))
      | (refine wpList_storeR rfl 25 _ _ rfl (w.heap.size + 1) rfl #[.slice (some ⟨g, 0, none⟩) 2 2, .slice (some ⟨q, 0, none⟩) 32 32] rfl (dev2_one _ _ _ _ _ _) 25 #[v, vm] rfl ?_ agDv ?_; with_reducible exact q1))
    replace hr : rowB wf g 3 #[.int .i64 p, .int .i64 f] := hr
    replace q0 := rowB_row_other q0 #[.slice (some ⟨g, 0, none⟩) 2 2, .slice (some ⟨q, 0, none⟩) 32 32] (show (w.heap.size + 1) ≠ w.heap.size by omega)
    replace q2 := rowB_row_other q2 #[.slice (some ⟨g, 0, none⟩) 2 2, .slice (some ⟨q, 0, none⟩) 32 32] (show (w.heap.size + 1) ≠ (w.heap.size + 2) by omega)
    replace q3 := rowB_row_other q3 #[.slice (some ⟨g, 0, none⟩) 2 2, .slice (some ⟨q, 0, none⟩) 32 32] (show (w.heap.size + 1) ≠ (w.heap.size + 3) by omega)
    replace hr := rowB_row_other hr #[.slice (some ⟨g, 0, none⟩) 2 2, .slice (some ⟨q, 0, none⟩) 32 32] (show (w.heap.size + 1) ≠ g by omega)
    replace hs := rowB_row_other hs #[.slice (some ⟨g, 0, none⟩) 2 2, .slice (some ⟨q, 0, none⟩) 32 32] (show (w.heap.size + 1) ≠ q by omega)
    replace q1 := rowB_row q1 #[.slice (some ⟨g, 0, none⟩) 2 2, .slice (some ⟨q, 0, none⟩) 32 32]
    replace bX := below_rowR bX #[.slice (some ⟨g, 0, none⟩) 2 2, .slice (some ⟨q, 0, none⟩) 32 32] (show w.heap.size ≤ (w.heap.size + 1) by omega)
    generalize wf.setRow (w.heap.size + 1) #[.slice (some ⟨g, 0, none⟩) 2 2, .slice (some ⟨q, 0, none⟩) 32 32] = w3 at *
    clear hb hF k0 k1 k2 k3 bW sW
    have hk := rowB_cell q0 1 (v := .int .i64 6) rfl
    obtain ⟨d0, d1, y0, y1⟩ := dcells2 q1
    obtain ⟨e0, e1, z0, z1⟩ := dcells2 hr
    have a0 := rowB_cell q2 0 (v := .int .i64 a) rfl
    have cA := byt_cell hs hl a.toNat (by omega)
    rw [hV] at cA
    have r1 := q1
    have r2 := q3
    have rg : rowB _ g 3 #[.int .i64 (p), .int .i64 (f)] := hr
    have rs : rowB _ q 5 (byts m) := hs
    have bY := bX
    go_wp2_with (first
      | (refine wpList_loadR rfl 25 _ rfl (w.heap.size + 1) rfl 25 #[.slice (some ⟨g, 0, none⟩) 2 2, .slice (some ⟨q, 0, none⟩) 32 32] ?_ agDv ?_; with_reducible exact r1)
      | (refine wpList_storeR rfl 25 _ _ rfl (w.heap.size + 3) rfl #[.slice (some ⟨g, 0, none⟩) 2 2, .slice (some ⟨q, 0, none⟩) 32 32] rfl (dev2_one _ _ _ _ _ _) 25 #[.slice none 0 0, .slice none 0 0] rfl ?_ agDv ?_; with_reducible exact r2)
    )
    refine bodyPost_ret (resultsRT rfl (w.heap.size + 3) _ rfl (rowB_row r2 _) agDv rfl) rfl ?_
    exact ⟨_, rfl, ⟨g, q, rfl, by omega, by omega, hgq, rowB_row_other rg _ (show (w.heap.size + 3) ≠ g by omega), rowB_row_other rs _ (show (w.heap.size + 3) ≠ q by omega)⟩, below_rowR bY _ (show w.heap.size ≤ (w.heap.size + 3) by omega)⟩
set_option maxHeartbeats 1000000 in
theorem storedVid_any (nm : ByteArray) (b z : Int) (dat v vm : Value) (l lb : List Int) (a : Int) (x : Int) (w : World) (h : isArg w v l) (hm : isByt w vm lb) (hb : ∀ x ∈ lb, 0 ≤ x ∧ x < 256) :
    Calls Try.prog 15 #[.agg (chip5 nm 6 b z dat), .agg #[v, vm], .int .i64 a, .int .i64 x] w fun e w' => ∃ u, e = .returned u ∧ devV w.heap.size w' u ((Vd.ofN l lb).write a x) ∧ Below w.heap.size w w' := by
  obtain ⟨k0, k1, k2, bW, sW⟩ := boxes3 w (.cells #[.string nm, .int .i64 6, .int .i64 b, .int .i64 z, dat] 27) (.cells #[v, vm] 25) (.cells #[.slice none 0 0, .slice none 0 0] 25)
  have k0 : rowB _ _ _ _ := k0
  have k1 : rowB _ _ _ _ := k1
  have k2 : rowB _ _ _ _ := k2
  have hF := formedV_any nm b z dat v vm l lb _ (isArg_below h bW (Nat.le_refl _)) (isByt_below hm bW (Nat.le_refl _))
  have hfit := Vd.ofN_fit l lb hb
  clear h hm hb
  generalize Vd.ofN l lb = s at *
  obtain ⟨p, f, m⟩ := s
  obtain ⟨⟨p0, p1⟩, ⟨f0, f1⟩, hl, hbb⟩ := hfit
  dsimp only [chip5] at *
  have hM := fun w => modR_any x 256 (by decide) (by decide) w
  obtain ⟨L, hL⟩ : ∃ L, x % 256 = L := ⟨_, rfl⟩
  rw [hL] at hM
  have L0 : 0 ≤ L ∧ L < 256 := by omega
  have hWr : IntKind.u8.wrap L = L := by show L % 256 = L; omega
  rcases (by omega : a < 0 ∨ 32 ≤ a ∨ (0 ≤ a ∧ a < 5) ∨ (5 ≤ a ∧ a ≤ 7) ∨ (7 < a ∧ a < 32)) with h | h | ⟨h, h2⟩ | ⟨h, h2⟩ | ⟨h, h2⟩
  · have e : (⟨p, f, m⟩ : Vd).write a x = ⟨p, f, m⟩ := by unfold Vd.write; rw [if_neg (by omega)]
    rw [e]
    clear e
    have dA : decide (0 ≤ a) = false := decide_eq_false (by omega)
    have dB : decide (a < 5) = true := decide_eq_true (by omega)
    have dC : decide (7 < a) = false := decide_eq_false (by omega)
    have dD : decide (a < 32) = true := decide_eq_true (by omega)
    clear hL
    go_enter Try.func15, Try.ntmps15
    go_upto_region 2 with (first
      | (go_at_call 20; refine hF.mono ?_; rintro e wf ⟨u, rfl, ⟨g, q, rfl, hg, hq, hgq, hr, hs⟩, hb⟩; have q0 := rowB_below k0 hb (rowB_lt k0); have q1 := rowB_below k1 hb (rowB_lt k1); have q2 := rowB_below k2 hb (rowB_lt k2); rw [sW] at hg hq; have bX := bW.trans (hb.mono bW.size))
      | (refine wpList_storeR rfl 25 _ _ rfl (w.heap.size + 1) rfl #[.slice (some ⟨g, 0, none⟩) 2 2, .slice (some ⟨q, 0, none⟩) 32 32] rfl (dev2_one _ _ _ _ _ _) 25 #[v, vm] rfl ?_ agDv ?_; with_reducible exact q1))
    replace hr : rowB wf g 3 #[.int .i64 p, .int .i64 f] := hr
    replace q0 := rowB_row_other q0 #[.slice (some ⟨g, 0, none⟩) 2 2, .slice (some ⟨q, 0, none⟩) 32 32] (show (w.heap.size + 1) ≠ w.heap.size by omega)
    replace q2 := rowB_row_other q2 #[.slice (some ⟨g, 0, none⟩) 2 2, .slice (some ⟨q, 0, none⟩) 32 32] (show (w.heap.size + 1) ≠ (w.heap.size + 2) by omega)
    replace hr := rowB_row_other hr #[.slice (some ⟨g, 0, none⟩) 2 2, .slice (some ⟨q, 0, none⟩) 32 32] (show (w.heap.size + 1) ≠ g by omega)
    replace hs := rowB_row_other hs #[.slice (some ⟨g, 0, none⟩) 2 2, .slice (some ⟨q, 0, none⟩) 32 32] (show (w.heap.size + 1) ≠ q by omega)
    replace q1 := rowB_row q1 #[.slice (some ⟨g, 0, none⟩) 2 2, .slice (some ⟨q, 0, none⟩) 32 32]
    replace bX := below_rowR bX #[.slice (some ⟨g, 0, none⟩) 2 2, .slice (some ⟨q, 0, none⟩) 32 32] (show w.heap.size ≤ (w.heap.size + 1) by omega)
    generalize wf.setRow (w.heap.size + 1) #[.slice (some ⟨g, 0, none⟩) 2 2, .slice (some ⟨q, 0, none⟩) 32 32] = w3 at *
    clear hb hF k0 k1 k2 bW sW
    have hk := rowB_cell q0 1 (v := .int .i64 6) rfl
    obtain ⟨d0, d1, y0, y1⟩ := dcells2 q1
    obtain ⟨e0, e1, z0, z1⟩ := dcells2 hr
    go_wp2_with fail
    go_quiet ((go_at_call 36; exact quiet_left (hM _)))
    have r1 := (rowB_below q1 (below_drewN w3 nq _) (rowB_lt q1))
    have r2 := (rowB_below q2 (below_drewN w3 nq _) (rowB_lt q2))
    have rg : rowB _ g 3 #[.int .i64 (p), .int .i64 (f)] := (rowB_below hr (below_drewN w3 nq _) (rowB_lt hr))
    have rs : rowB _ q 5 (byts m) := (rowB_below hs (below_drewN w3 nq _) (rowB_lt hs))
    have bY := (bX.trans ((below_drewN w3 nq _).mono bX.size))
    go_wp2_with (first
      | (refine wpList_loadR rfl 25 _ rfl (w.heap.size + 1) rfl 25 #[.slice (some ⟨g, 0, none⟩) 2 2, .slice (some ⟨q, 0, none⟩) 32 32] ?_ agDv ?_; with_reducible exact r1)
      | (refine wpList_storeR rfl 25 _ _ rfl (w.heap.size + 2) rfl #[.slice (some ⟨g, 0, none⟩) 2 2, .slice (some ⟨q, 0, none⟩) 32 32] rfl (dev2_one _ _ _ _ _ _) 25 #[.slice none 0 0, .slice none 0 0] rfl ?_ agDv ?_; with_reducible exact r2)
    )
    refine bodyPost_ret (resultsR rfl (w.heap.size + 2) _ rfl (rowB_row r2 _) agDv) rfl ?_
    exact ⟨_, rfl, ⟨g, q, rfl, by omega, by omega, hgq, rowB_row_other rg _ (show (w.heap.size + 2) ≠ g by omega), rowB_row_other rs _ (show (w.heap.size + 2) ≠ q by omega)⟩, below_rowR bY _ (show w.heap.size ≤ (w.heap.size + 2) by omega)⟩
  · have e : (⟨p, f, m⟩ : Vd).write a x = ⟨p, f, m⟩ := by unfold Vd.write; rw [if_neg (by omega)]
    rw [e]
    clear e
    have dA : decide (0 ≤ a) = true := decide_eq_true (by omega)
    have dB : decide (a < 5) = false := decide_eq_false (by omega)
    have dC : decide (7 < a) = true := decide_eq_true (by omega)
    have dD : decide (a < 32) = false := decide_eq_false (by omega)
    clear hL
    go_enter Try.func15, Try.ntmps15
    go_upto_region 2 with (first
      | (go_at_call 20; refine hF.mono ?_; rintro e wf ⟨u, rfl, ⟨g, q, rfl, hg, hq, hgq, hr, hs⟩, hb⟩; have q0 := rowB_below k0 hb (rowB_lt k0); have q1 := rowB_below k1 hb (rowB_lt k1); have q2 := rowB_below k2 hb (rowB_lt k2); rw [sW] at hg hq; have bX := bW.trans (hb.mono bW.size))
      | (refine wpList_storeR rfl 25 _ _ rfl (w.heap.size + 1) rfl #[.slice (some ⟨g, 0, none⟩) 2 2, .slice (some ⟨q, 0, none⟩) 32 32] rfl (dev2_one _ _ _ _ _ _) 25 #[v, vm] rfl ?_ agDv ?_; with_reducible exact q1))
    replace hr : rowB wf g 3 #[.int .i64 p, .int .i64 f] := hr
    replace q0 := rowB_row_other q0 #[.slice (some ⟨g, 0, none⟩) 2 2, .slice (some ⟨q, 0, none⟩) 32 32] (show (w.heap.size + 1) ≠ w.heap.size by omega)
    replace q2 := rowB_row_other q2 #[.slice (some ⟨g, 0, none⟩) 2 2, .slice (some ⟨q, 0, none⟩) 32 32] (show (w.heap.size + 1) ≠ (w.heap.size + 2) by omega)
    replace hr := rowB_row_other hr #[.slice (some ⟨g, 0, none⟩) 2 2, .slice (some ⟨q, 0, none⟩) 32 32] (show (w.heap.size + 1) ≠ g by omega)
    replace hs := rowB_row_other hs #[.slice (some ⟨g, 0, none⟩) 2 2, .slice (some ⟨q, 0, none⟩) 32 32] (show (w.heap.size + 1) ≠ q by omega)
    replace q1 := rowB_row q1 #[.slice (some ⟨g, 0, none⟩) 2 2, .slice (some ⟨q, 0, none⟩) 32 32]
    replace bX := below_rowR bX #[.slice (some ⟨g, 0, none⟩) 2 2, .slice (some ⟨q, 0, none⟩) 32 32] (show w.heap.size ≤ (w.heap.size + 1) by omega)
    generalize wf.setRow (w.heap.size + 1) #[.slice (some ⟨g, 0, none⟩) 2 2, .slice (some ⟨q, 0, none⟩) 32 32] = w3 at *
    clear hb hF k0 k1 k2 bW sW
    have hk := rowB_cell q0 1 (v := .int .i64 6) rfl
    obtain ⟨d0, d1, y0, y1⟩ := dcells2 q1
    obtain ⟨e0, e1, z0, z1⟩ := dcells2 hr
    go_wp2_with fail
    go_quiet ((go_at_call 36; exact quiet_left (hM _)))
    have r1 := (rowB_below q1 (below_drewN w3 nq _) (rowB_lt q1))
    have r2 := (rowB_below q2 (below_drewN w3 nq _) (rowB_lt q2))
    have rg : rowB _ g 3 #[.int .i64 (p), .int .i64 (f)] := (rowB_below hr (below_drewN w3 nq _) (rowB_lt hr))
    have rs : rowB _ q 5 (byts m) := (rowB_below hs (below_drewN w3 nq _) (rowB_lt hs))
    have bY := (bX.trans ((below_drewN w3 nq _).mono bX.size))
    go_wp2_with (first
      | (refine wpList_loadR rfl 25 _ rfl (w.heap.size + 1) rfl 25 #[.slice (some ⟨g, 0, none⟩) 2 2, .slice (some ⟨q, 0, none⟩) 32 32] ?_ agDv ?_; with_reducible exact r1)
      | (refine wpList_storeR rfl 25 _ _ rfl (w.heap.size + 2) rfl #[.slice (some ⟨g, 0, none⟩) 2 2, .slice (some ⟨q, 0, none⟩) 32 32] rfl (dev2_one _ _ _ _ _ _) 25 #[.slice none 0 0, .slice none 0 0] rfl ?_ agDv ?_; with_reducible exact r2)
    )
    refine bodyPost_ret (resultsR rfl (w.heap.size + 2) _ rfl (rowB_row r2 _) agDv) rfl ?_
    exact ⟨_, rfl, ⟨g, q, rfl, by omega, by omega, hgq, rowB_row_other rg _ (show (w.heap.size + 2) ≠ g by omega), rowB_row_other rs _ (show (w.heap.size + 2) ≠ q by omega)⟩, below_rowR bY _ (show w.heap.size ≤ (w.heap.size + 2) by omega)⟩
  · have e : (⟨p, f, m⟩ : Vd).write a x = ⟨p, f, m.set a.toNat L⟩ := by unfold Vd.write; rw [if_pos ⟨by omega, by omega, by omega⟩, hL]
    rw [e]
    clear e
    have dA : decide (0 ≤ a) = true := decide_eq_true (by omega)
    have dB : decide (a < 5) = true := decide_eq_true (by omega)
    have dC : decide (7 < a) = false := decide_eq_false (by omega)
    have dD : decide (a < 32) = true := decide_eq_true (by omega)
    clear hL
    go_enter Try.func15, Try.ntmps15
    go_upto_region 2 with (first
      | (go_at_call 20; refine hF.mono ?_; rintro e wf ⟨u, rfl, ⟨g, q, rfl, hg, hq, hgq, hr, hs⟩, hb⟩; have q0 := rowB_below k0 hb (rowB_lt k0); have q1 := rowB_below k1 hb (rowB_lt k1); have q2 := rowB_below k2 hb (rowB_lt k2); rw [sW] at hg hq; have bX := bW.trans (hb.mono bW.size))
      | (refine wpList_storeR rfl 25 _ _ rfl (w.heap.size + 1) rfl #[.slice (some ⟨g, 0, none⟩) 2 2, .slice (some ⟨q, 0, none⟩) 32 32] rfl (dev2_one _ _ _ _ _ _) 25 #[v, vm] rfl ?_ agDv ?_; with_reducible exact q1))
    replace hr : rowB wf g 3 #[.int .i64 p, .int .i64 f] := hr
    replace q0 := rowB_row_other q0 #[.slice (some ⟨g, 0, none⟩) 2 2, .slice (some ⟨q, 0, none⟩) 32 32] (show (w.heap.size + 1) ≠ w.heap.size by omega)
    replace q2 := rowB_row_other q2 #[.slice (some ⟨g, 0, none⟩) 2 2, .slice (some ⟨q, 0, none⟩) 32 32] (show (w.heap.size + 1) ≠ (w.heap.size + 2) by omega)
    replace hr := rowB_row_other hr #[.slice (some ⟨g, 0, none⟩) 2 2, .slice (some ⟨q, 0, none⟩) 32 32] (show (w.heap.size + 1) ≠ g by omega)
    replace hs := rowB_row_other hs #[.slice (some ⟨g, 0, none⟩) 2 2, .slice (some ⟨q, 0, none⟩) 32 32] (show (w.heap.size + 1) ≠ q by omega)
    replace q1 := rowB_row q1 #[.slice (some ⟨g, 0, none⟩) 2 2, .slice (some ⟨q, 0, none⟩) 32 32]
    replace bX := below_rowR bX #[.slice (some ⟨g, 0, none⟩) 2 2, .slice (some ⟨q, 0, none⟩) 32 32] (show w.heap.size ≤ (w.heap.size + 1) by omega)
    generalize wf.setRow (w.heap.size + 1) #[.slice (some ⟨g, 0, none⟩) 2 2, .slice (some ⟨q, 0, none⟩) 32 32] = w3 at *
    clear hb hF k0 k1 k2 bW sW
    have hk := rowB_cell q0 1 (v := .int .i64 6) rfl
    obtain ⟨d0, d1, y0, y1⟩ := dcells2 q1
    obtain ⟨e0, e1, z0, z1⟩ := dcells2 hr
    go_wp2_with fail
    go_quiet ((go_at_call 36; exact quiet_left (hM _)))
    have r1 := (rowB_other (rowB_below q1 (below_drewN w3 nq _) (rowB_lt q1)) ⟨q, a.toNat, none⟩ (.int .u8 (L)) (show q ≠ _ by omega))
    have r2 := (rowB_other (rowB_below q2 (below_drewN w3 nq _) (rowB_lt q2)) ⟨q, a.toNat, none⟩ (.int .u8 (L)) (show q ≠ _ by omega))
    have rg : rowB _ g 3 #[.int .i64 (p), .int .i64 (f)] := (rowB_other (rowB_below hr (below_drewN w3 nq _) (rowB_lt hr)) ⟨q, a.toNat, none⟩ (.int .u8 (L)) (show q ≠ g from hgq.symm))
    have rs : rowB _ q 5 (byts (m.set (a.toNat) (L))) := (byts_set m (a.toNat) (L) ▸ rowB_set (rowB_below hs (below_drewN w3 nq _) (rowB_lt hs)) (a.toNat) (.int .u8 (L)))
    have bY := (Below.setCell (bX.trans ((below_drewN w3 nq _).mono bX.size)) (p := ⟨q, a.toNat, none⟩) (show w.heap.size ≤ q by omega) (.int .u8 (L)))
    have cA := byt_cell hs hl a.toNat (by omega)
    have zA := rowB_free hs a.toNat
    go_wp2_with (first
      | (refine wpList_loadR rfl 25 _ rfl (w.heap.size + 1) rfl 25 #[.slice (some ⟨g, 0, none⟩) 2 2, .slice (some ⟨q, 0, none⟩) 32 32] ?_ agDv ?_; with_reducible exact r1)
      | (refine wpList_storeR rfl 25 _ _ rfl (w.heap.size + 2) rfl #[.slice (some ⟨g, 0, none⟩) 2 2, .slice (some ⟨q, 0, none⟩) 32 32] rfl (dev2_one _ _ _ _ _ _) 25 #[.slice none 0 0, .slice none 0 0] rfl ?_ agDv ?_; with_reducible exact r2)
    )
    refine bodyPost_ret (resultsR rfl (w.heap.size + 2) _ rfl (rowB_row r2 _) agDv) rfl ?_
    exact ⟨_, rfl, ⟨g, q, rfl, by omega, by omega, hgq, rowB_row_other rg _ (show (w.heap.size + 2) ≠ g by omega), rowB_row_other rs _ (show (w.heap.size + 2) ≠ q by omega)⟩, below_rowR bY _ (show w.heap.size ≤ (w.heap.size + 2) by omega)⟩
  · have e : (⟨p, f, m⟩ : Vd).write a x = ⟨p, f, m⟩ := by unfold Vd.write; rw [if_neg (by omega)]
    rw [e]
    clear e
    have dA : decide (0 ≤ a) = true := decide_eq_true (by omega)
    have dB : decide (a < 5) = false := decide_eq_false (by omega)
    have dC : decide (7 < a) = false := decide_eq_false (by omega)
    have dD : decide (a < 32) = true := decide_eq_true (by omega)
    clear hL
    go_enter Try.func15, Try.ntmps15
    go_upto_region 2 with (first
      | (go_at_call 20; refine hF.mono ?_; rintro e wf ⟨u, rfl, ⟨g, q, rfl, hg, hq, hgq, hr, hs⟩, hb⟩; have q0 := rowB_below k0 hb (rowB_lt k0); have q1 := rowB_below k1 hb (rowB_lt k1); have q2 := rowB_below k2 hb (rowB_lt k2); rw [sW] at hg hq; have bX := bW.trans (hb.mono bW.size))
      | (refine wpList_storeR rfl 25 _ _ rfl (w.heap.size + 1) rfl #[.slice (some ⟨g, 0, none⟩) 2 2, .slice (some ⟨q, 0, none⟩) 32 32] rfl (dev2_one _ _ _ _ _ _) 25 #[v, vm] rfl ?_ agDv ?_; with_reducible exact q1))
    replace hr : rowB wf g 3 #[.int .i64 p, .int .i64 f] := hr
    replace q0 := rowB_row_other q0 #[.slice (some ⟨g, 0, none⟩) 2 2, .slice (some ⟨q, 0, none⟩) 32 32] (show (w.heap.size + 1) ≠ w.heap.size by omega)
    replace q2 := rowB_row_other q2 #[.slice (some ⟨g, 0, none⟩) 2 2, .slice (some ⟨q, 0, none⟩) 32 32] (show (w.heap.size + 1) ≠ (w.heap.size + 2) by omega)
    replace hr := rowB_row_other hr #[.slice (some ⟨g, 0, none⟩) 2 2, .slice (some ⟨q, 0, none⟩) 32 32] (show (w.heap.size + 1) ≠ g by omega)
    replace hs := rowB_row_other hs #[.slice (some ⟨g, 0, none⟩) 2 2, .slice (some ⟨q, 0, none⟩) 32 32] (show (w.heap.size + 1) ≠ q by omega)
    replace q1 := rowB_row q1 #[.slice (some ⟨g, 0, none⟩) 2 2, .slice (some ⟨q, 0, none⟩) 32 32]
    replace bX := below_rowR bX #[.slice (some ⟨g, 0, none⟩) 2 2, .slice (some ⟨q, 0, none⟩) 32 32] (show w.heap.size ≤ (w.heap.size + 1) by omega)
    generalize wf.setRow (w.heap.size + 1) #[.slice (some ⟨g, 0, none⟩) 2 2, .slice (some ⟨q, 0, none⟩) 32 32] = w3 at *
    clear hb hF k0 k1 k2 bW sW
    have hk := rowB_cell q0 1 (v := .int .i64 6) rfl
    obtain ⟨d0, d1, y0, y1⟩ := dcells2 q1
    obtain ⟨e0, e1, z0, z1⟩ := dcells2 hr
    go_wp2_with fail
    go_quiet ((go_at_call 36; exact quiet_left (hM _)))
    have r1 := (rowB_below q1 (below_drewN w3 nq _) (rowB_lt q1))
    have r2 := (rowB_below q2 (below_drewN w3 nq _) (rowB_lt q2))
    have rg : rowB _ g 3 #[.int .i64 (p), .int .i64 (f)] := (rowB_below hr (below_drewN w3 nq _) (rowB_lt hr))
    have rs : rowB _ q 5 (byts m) := (rowB_below hs (below_drewN w3 nq _) (rowB_lt hs))
    have bY := (bX.trans ((below_drewN w3 nq _).mono bX.size))
    go_wp2_with (first
      | (refine wpList_loadR rfl 25 _ rfl (w.heap.size + 1) rfl 25 #[.slice (some ⟨g, 0, none⟩) 2 2, .slice (some ⟨q, 0, none⟩) 32 32] ?_ agDv ?_; with_reducible exact r1)
      | (refine wpList_storeR rfl 25 _ _ rfl (w.heap.size + 2) rfl #[.slice (some ⟨g, 0, none⟩) 2 2, .slice (some ⟨q, 0, none⟩) 32 32] rfl (dev2_one _ _ _ _ _ _) 25 #[.slice none 0 0, .slice none 0 0] rfl ?_ agDv ?_; with_reducible exact r2)
    )
    refine bodyPost_ret (resultsR rfl (w.heap.size + 2) _ rfl (rowB_row r2 _) agDv) rfl ?_
    exact ⟨_, rfl, ⟨g, q, rfl, by omega, by omega, hgq, rowB_row_other rg _ (show (w.heap.size + 2) ≠ g by omega), rowB_row_other rs _ (show (w.heap.size + 2) ≠ q by omega)⟩, below_rowR bY _ (show w.heap.size ≤ (w.heap.size + 2) by omega)⟩
  · have e : (⟨p, f, m⟩ : Vd).write a x = ⟨p, f, m.set a.toNat L⟩ := by unfold Vd.write; rw [if_pos ⟨by omega, by omega, by omega⟩, hL]
    rw [e]
    clear e
    have dA : decide (0 ≤ a) = true := decide_eq_true (by omega)
    have dB : decide (a < 5) = false := decide_eq_false (by omega)
    have dC : decide (7 < a) = true := decide_eq_true (by omega)
    have dD : decide (a < 32) = true := decide_eq_true (by omega)
    clear hL
    go_enter Try.func15, Try.ntmps15
    go_upto_region 2 with (first
      | (go_at_call 20; refine hF.mono ?_; rintro e wf ⟨u, rfl, ⟨g, q, rfl, hg, hq, hgq, hr, hs⟩, hb⟩; have q0 := rowB_below k0 hb (rowB_lt k0); have q1 := rowB_below k1 hb (rowB_lt k1); have q2 := rowB_below k2 hb (rowB_lt k2); rw [sW] at hg hq; have bX := bW.trans (hb.mono bW.size))
      | (refine wpList_storeR rfl 25 _ _ rfl (w.heap.size + 1) rfl #[.slice (some ⟨g, 0, none⟩) 2 2, .slice (some ⟨q, 0, none⟩) 32 32] rfl (dev2_one _ _ _ _ _ _) 25 #[v, vm] rfl ?_ agDv ?_; with_reducible exact q1))
    replace hr : rowB wf g 3 #[.int .i64 p, .int .i64 f] := hr
    replace q0 := rowB_row_other q0 #[.slice (some ⟨g, 0, none⟩) 2 2, .slice (some ⟨q, 0, none⟩) 32 32] (show (w.heap.size + 1) ≠ w.heap.size by omega)
    replace q2 := rowB_row_other q2 #[.slice (some ⟨g, 0, none⟩) 2 2, .slice (some ⟨q, 0, none⟩) 32 32] (show (w.heap.size + 1) ≠ (w.heap.size + 2) by omega)
    replace hr := rowB_row_other hr #[.slice (some ⟨g, 0, none⟩) 2 2, .slice (some ⟨q, 0, none⟩) 32 32] (show (w.heap.size + 1) ≠ g by omega)
    replace hs := rowB_row_other hs #[.slice (some ⟨g, 0, none⟩) 2 2, .slice (some ⟨q, 0, none⟩) 32 32] (show (w.heap.size + 1) ≠ q by omega)
    replace q1 := rowB_row q1 #[.slice (some ⟨g, 0, none⟩) 2 2, .slice (some ⟨q, 0, none⟩) 32 32]
    replace bX := below_rowR bX #[.slice (some ⟨g, 0, none⟩) 2 2, .slice (some ⟨q, 0, none⟩) 32 32] (show w.heap.size ≤ (w.heap.size + 1) by omega)
    generalize wf.setRow (w.heap.size + 1) #[.slice (some ⟨g, 0, none⟩) 2 2, .slice (some ⟨q, 0, none⟩) 32 32] = w3 at *
    clear hb hF k0 k1 k2 bW sW
    have hk := rowB_cell q0 1 (v := .int .i64 6) rfl
    obtain ⟨d0, d1, y0, y1⟩ := dcells2 q1
    obtain ⟨e0, e1, z0, z1⟩ := dcells2 hr
    go_wp2_with fail
    go_quiet ((go_at_call 36; exact quiet_left (hM _)))
    have r1 := (rowB_other (rowB_below q1 (below_drewN w3 nq _) (rowB_lt q1)) ⟨q, a.toNat, none⟩ (.int .u8 (L)) (show q ≠ _ by omega))
    have r2 := (rowB_other (rowB_below q2 (below_drewN w3 nq _) (rowB_lt q2)) ⟨q, a.toNat, none⟩ (.int .u8 (L)) (show q ≠ _ by omega))
    have rg : rowB _ g 3 #[.int .i64 (p), .int .i64 (f)] := (rowB_other (rowB_below hr (below_drewN w3 nq _) (rowB_lt hr)) ⟨q, a.toNat, none⟩ (.int .u8 (L)) (show q ≠ g from hgq.symm))
    have rs : rowB _ q 5 (byts (m.set (a.toNat) (L))) := (byts_set m (a.toNat) (L) ▸ rowB_set (rowB_below hs (below_drewN w3 nq _) (rowB_lt hs)) (a.toNat) (.int .u8 (L)))
    have bY := (Below.setCell (bX.trans ((below_drewN w3 nq _).mono bX.size)) (p := ⟨q, a.toNat, none⟩) (show w.heap.size ≤ q by omega) (.int .u8 (L)))
    have cA := byt_cell hs hl a.toNat (by omega)
    have zA := rowB_free hs a.toNat
    go_wp2_with (first
      | (refine wpList_loadR rfl 25 _ rfl (w.heap.size + 1) rfl 25 #[.slice (some ⟨g, 0, none⟩) 2 2, .slice (some ⟨q, 0, none⟩) 32 32] ?_ agDv ?_; with_reducible exact r1)
      | (refine wpList_storeR rfl 25 _ _ rfl (w.heap.size + 2) rfl #[.slice (some ⟨g, 0, none⟩) 2 2, .slice (some ⟨q, 0, none⟩) 32 32] rfl (dev2_one _ _ _ _ _ _) 25 #[.slice none 0 0, .slice none 0 0] rfl ?_ agDv ?_; with_reducible exact r2)
    )
    refine bodyPost_ret (resultsR rfl (w.heap.size + 2) _ rfl (rowB_row r2 _) agDv) rfl ?_
    exact ⟨_, rfl, ⟨g, q, rfl, by omega, by omega, hgq, rowB_row_other rg _ (show (w.heap.size + 2) ≠ g by omega), rowB_row_other rs _ (show (w.heap.size + 2) ≠ q by omega)⟩, below_rowR bY _ (show w.heap.size ≤ (w.heap.size + 2) by omega)⟩
end Go.Proofs.Ytambggbmkeemnaa
