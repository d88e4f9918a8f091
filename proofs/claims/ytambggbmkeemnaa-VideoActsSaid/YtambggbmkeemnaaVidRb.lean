/- What the reference says of video chips: Ticked, Rests. -/
import Derived.Test.YtambggbmkeemnaaChecked
import Derived.Test.YtambggbmkeemnaaVidR
import Derived.Below
import Derived.BigQuiet
import Derived.ChangeMaps5
import Derived.Deep.DeepCutAuto
import Derived.Deep.Draws
import Derived.Deep.MidRow
import Derived.Deep.OwnRows
import Derived.Deep.QuietTactic
import Derived.Deep.RegionHeld3
import Derived.Deep.RegionWith
import Derived.Deep.Slices
import Derived.Deep.WholeRow
import Derived.Laws.CopyOwn
import Derived.Lib.Hide
import Derived.Lib.SmallJoins
import Derived.OpenShut
import Derived.OrdersHeld
import Derived.OwnWalk
import Derived.RowKit3
import Derived.StillTactics
import Derived.StillTail
import Derived.StillTailTactics
import Derived.WalkKit
namespace Go.Proofs.Ytambggbmkeemnaa
open Go.RowKit
set_option maxRecDepth 100000

set_option maxHeartbeats 1000000 in
theorem tickedVid_any (nm : ByteArray) (b z : Int) (dat v vm : Value) (l lb : List Int) (w : World) (h : isArg w v l) (hm : isByt w vm lb) (hb : ∀ x ∈ lb, 0 ≤ x ∧ x < 256) :
    Calls Try.prog 21 #[.agg (chip5 nm 6 b z dat), .agg #[v, vm]] w fun e w' => ∃ u, e = .returned u ∧ devV w.heap.size w' u (Vd.ofN l lb).tick ∧ Below w.heap.size w w' := by
  obtain ⟨k0, k1, k2, bW, sW⟩ := boxes3 w (.cells #[.string nm, .int .i64 6, .int .i64 b, .int .i64 z, dat] 27) (.cells #[v, vm] 25) (.cells #[.slice none 0 0, .slice none 0 0] 25)
  have k0 : rowB _ _ _ _ := k0
  have k1 : rowB _ _ _ _ := k1
  have k2 : rowB _ _ _ _ := k2
  have hF := formedV_any nm b z dat v vm l lb _ (isArg_below h bW (Nat.le_refl _)) (isByt_below hm bW (Nat.le_refl _))
  have hfit := Vd.ofN_fit l lb hb
  clear h hm hb
  generalize Vd.ofN l lb = s at *
  obtain ⟨p, f, m⟩ := s
  obtain ⟨⟨p0, p1⟩, ⟨f0, f1⟩, hl, hbb⟩ := hfit
  dsimp only [chip5] at *
  have hw : wrap64 (p + 1) = p + 1 := IntWalk.wrap64_in _ (by omega)
  have ht : (p + 1).tmod 2560 = (p + 1) % 2560 := Int.tmod_eq_emod_of_nonneg (by omega)
  have hP : 0 ≤ (p + 1) % 2560 ∧ (p + 1) % 2560 < 2560 := ⟨Int.emod_nonneg _ (by decide), Int.emod_lt_of_pos _ (by decide)⟩
  obtain ⟨H, hH⟩ : ∃ H, vhit m ((p + 1) % 2560) = H := ⟨_, rfl⟩
  have e : (⟨p, f, m⟩ : Vd).tick = ⟨(p + 1) % 2560, if H = true then 1 else f, m⟩ := by unfold Vd.tick; dsimp only; rw [hH]
  rw [e]
  clear e
  go_enter Try.func21, Try.ntmps21
  go_upto_region 2 with (first
    | (go_at_call 20; refine hF.mono ?_; rintro e wf ⟨u, rfl, ⟨g, q, rfl, hg, hq, hgq, hr, hs⟩, hb⟩; have q0 := rowB_below k0 hb (rowB_lt k0); have q1 := rowB_below k1 hb (rowB_lt k1); have q2 := rowB_below k2 hb (rowB_lt k2); rw [sW] at hg hq; have bX := bW.trans (hb.mono bW.size))
    | (refine wpList_storeR rfl 25 _ _ rfl (w.heap.size + 1) rfl #[.slice (some ⟨g, 0, none⟩) 2 2, .slice (some ⟨q, 0, none⟩) 32 32] rfl (dev2_one _ _ _ _ _ _) 25 #[v, vm] rfl ?_ agDv ?_; with_reducible exact q1))
  replace hr : rowB wf g 3 #[.int .i64 p, .int .i64 f] := hr
  replace q0 := rowB_row_other q0 #[.slice (some ⟨g, 0, none⟩) 2 2, .slice (some ⟨q, 0, none⟩) 32 32] (show (w.heap.size + 1) ≠ w.heap.size by omega)
  replace q2 := rowB_row_other q2 #[.slice (some ⟨g, 0, none⟩) 2 2, .slice (some ⟨q, 0, none⟩) 32 32] (show (w.heap.size + 1) ≠ (w.heap.size + 2) by omega)
  replace hr := rowB_row_other hr #[.slice (some ⟨g, 0, none⟩) 2 2, .slice (some ⟨q, 0, none⟩) 32 32] (show (w.heap.size + 1) ≠ g by omega)
  replace hs := rowB_row_other hs #[.slice (some ⟨g, 0, none⟩) 2 2, .slice (some ⟨q, 0, none⟩) 32 32] (show (w.heap.size + 1) ≠ q by omega)
  replace q1 := rowB_row q1 #[.slice (some ⟨g, 0, none⟩) 2 2, .slice (some ⟨q, 0, none⟩) 32 32]
  replace bX := below_rowR bX #[.slice (some ⟨g, 0, none⟩) 2 2, .slice (some ⟨q, 0, none⟩) 32 32] (show w.heap.size ≤ (w.heap.size + 1) by omega)
  generalize wf.setRow (w.heap.size + 1) #[.slice (some ⟨g, 0, none⟩) 2 2, .slice (some ⟨q, 0, none⟩) 32 32] = w3 at *
  clear hb hF k0 k1 k2 bW sW
  have hk := rowB_cell q0 1 (v := .int .i64 6) rfl
  obtain ⟨d0, d1, y0, y1⟩ := dcells2 q1
  obtain ⟨e0, e1, z0, z1⟩ := dcells2 hr
  go_upto_region 18 with (fail)
  change Code.wp _ _ _ _ (w3.setCell ⟨g, 0, none⟩ (.int .i64 ((p + 1) % 2560)))
  replace q1 := rowB_other q1 ⟨g, 0, none⟩ (.int .i64 ((p + 1) % 2560)) (show g ≠ _ by omega)
  replace q2 := rowB_other q2 ⟨g, 0, none⟩ (.int .i64 ((p + 1) % 2560)) (show g ≠ _ by omega)
  replace hs := rowB_other hs ⟨g, 0, none⟩ (.int .i64 ((p + 1) % 2560)) (show g ≠ q from hgq)
  replace hr : rowB _ g 3 #[.int .i64 ((p + 1) % 2560), .int .i64 f] := rowB_set hr 0 (.int .i64 ((p + 1) % 2560))
  replace bX := Below.setCell bX (p := ⟨g, 0, none⟩) (show w.heap.size ≤ g by omega) (.int .i64 ((p + 1) % 2560))
  generalize w3.setCell ⟨g, 0, none⟩ (.int .i64 ((p + 1) % 2560)) = w4 at *
  clear d0 d1 y0 y1 e0 e1 z0 z1 hk q0 hw ht
  obtain ⟨d0, d1, y0, y1⟩ := dcells2 q1
  obtain ⟨e0, e1, z0, z1⟩ := dcells2 hr
  have hB := byt32 hs hl
  have hSh := fun n => shade_any _ m ((p + 1) % 2560) (w4.drewN n) (isByt_below hB (below_drewN _ _ _) (Nat.le_refl _)) hl hbb hP
  rw [hH] at hSh
  clear hH
  go_quiet ((go_at_call 39; exact quiet_left (hSh _)))
  have q1b := rowB_below q1 (below_drewN w4 nq _) (rowB_lt q1)
  have q2b := rowB_below q2 (below_drewN w4 nq _) (rowB_lt q2)
  have hrb := rowB_below hr (below_drewN w4 nq _) (rowB_lt hr)
  have hsb := rowB_below hs (below_drewN w4 nq _) (rowB_lt hs)
  have bXb := bX.trans ((below_drewN w4 nq _).mono bX.size)
  generalize w4.drewN nq = w5 at *
  clear q1 q2 hr hs bX d0 d1 y0 y1 e0 e1 z0 z1 hB hSh
  obtain ⟨d0, d1, y0, y1⟩ := dcells2 q1b
  obtain ⟨e0, e1, z0, z1⟩ := dcells2 hrb
  cases H with
  | true =>
    have r1 := rowB_other q1b ⟨g, 1, none⟩ (.int .i64 1) (show g ≠ _ by omega)
    have r2 := rowB_other q2b ⟨g, 1, none⟩ (.int .i64 1) (show g ≠ _ by omega)
    have rg : rowB _ g 3 #[.int .i64 ((p + 1) % 2560), .int .i64 1] := rowB_set hrb 1 (.int .i64 1)
    have rs := rowB_other hsb ⟨g, 1, none⟩ (.int .i64 1) (show g ≠ q from hgq)
    have bY := Below.setCell bXb (p := ⟨g, 1, none⟩) (show w.heap.size ≤ g by omega) (.int .i64 1)
    go_wp2_with (first
      | (refine wpList_loadR rfl 25 _ rfl (w.heap.size + 1) rfl 25 #[.slice (some ⟨g, 0, none⟩) 2 2, .slice (some ⟨q, 0, none⟩) 32 32] ?_ agDv ?_; with_reducible exact r1)
      | (refine wpList_storeR rfl 25 _ _ rfl (w.heap.size + 2) rfl #[.slice (some ⟨g, 0, none⟩) 2 2, .slice (some ⟨q, 0, none⟩) 32 32] rfl (dev2_one _ _ _ _ _ _) 25 #[.slice none 0 0, .slice none 0 0] rfl ?_ agDv ?_; with_reducible exact r2)
    )
    refine bodyPost_ret (resultsR rfl (w.heap.size + 2) _ rfl (rowB_row r2 _) agDv) rfl ?_
    exact ⟨_, rfl, ⟨g, q, rfl, by omega, by omega, hgq, rowB_row_other rg _ (show (w.heap.size + 2) ≠ g by omega), rowB_row_other rs _ (show (w.heap.size + 2) ≠ q by omega)⟩, below_rowR bY _ (show w.heap.size ≤ (w.heap.size + 2) by omega)⟩
  | false =>
    have r1 := q1b
    have r2 := q2b
    have rg : rowB _ g 3 #[.int .i64 ((p + 1) % 2560), .int .i64 f] := hrb
    have rs := hsb
    have bY := bXb
    go_wp2_with (first
      | (refine wpList_loadR rfl 25 _ rfl (w.heap.size + 1) rfl 25 #[.slice (some ⟨g, 0, none⟩) 2 2, .slice (some ⟨q, 0, none⟩) 32 32] ?_ agDv ?_; with_reducible exact r1)
      | (refine wpList_storeR rfl 25 _ _ rfl (w.heap.size + 2) rfl #[.slice (some ⟨g, 0, none⟩) 2 2, .slice (some ⟨q, 0, none⟩) 32 32] rfl (dev2_one _ _ _ _ _ _) 25 #[.slice none 0 0, .slice none 0 0] rfl ?_ agDv ?_; with_reducible exact r2)
    )
    refine bodyPost_ret (resultsR rfl (w.heap.size + 2) _ rfl (rowB_row r2 _) agDv) rfl ?_
    exact ⟨_, rfl, ⟨g, q, rfl, by omega, by omega, hgq, rowB_row_other rg _ (show (w.heap.size + 2) ≠ g by omega), rowB_row_other rs _ (show (w.heap.size + 2) ≠ q by omega)⟩, below_rowR bY _ (show w.heap.size ≤ (w.heap.size + 2) by omega)⟩
theorem rests_facts {w3 : World} {g q b : Nat} {p f : Int} {m : List Int} {t : TypeId} (hr : rowB w3 g 3 #[.int .i64 p, .int .i64 f]) (hs : rowB w3 q 5 (byts m)) (q1 : rowB w3 b t #[.slice (some ⟨g, 0, none⟩) 2 2, .slice (some ⟨q, 0, none⟩) 32 32]) (hl : m.length = 32) {wr : World} (hq : Qt w3 wr) :
    isByt wr (.slice (some ⟨q, 0, none⟩) 32 32) m ∧ wr.cell? ⟨b, 0, none⟩ = some (.slice (some ⟨g, 0, none⟩) 2 2) ∧ wr.cell? ⟨b, 1, none⟩ = some (.slice (some ⟨q, 0, none⟩) 32 32) ∧ wr.cell? ⟨g, 0, none⟩ = some (.int .i64 p) ∧ wr.cell? ⟨g, 1, none⟩ = some (.int .i64 f) := by
  have q1b := rowB_below q1 (hq.below _) (rowB_lt q1)
  have hrb := rowB_below hr (hq.below _) (rowB_lt hr)
  have hsb := rowB_below hs (hq.below _) (rowB_lt hs)
  obtain ⟨d0, d1, _, _⟩ := dcells2 q1b
  obtain ⟨e0, e1, _, _⟩ := dcells2 hrb
  exact ⟨byt32 hsb hl, d0, d1, e0, e1⟩
set_option maxHeartbeats 2000000 in
theorem restsVid_any (nm : ByteArray) (b z : Int) (dat v vm : Value) (l lb : List Int) (w : World) (h : isArg w v l) (hm : isByt w vm lb) (hb : ∀ x ∈ lb, 0 ≤ x ∧ x < 256) :
    Calls Try.prog 19 #[.agg (chip5 nm 6 b z dat), .agg #[v, vm]] w fun e w' => e = .returned (.int .i64 (Vd.ofN l lb).next) ∧ Below w.heap.size w w' := by
  obtain ⟨k0, k1, bW, sW⟩ := boxes2 w (.cells #[.string nm, .int .i64 6, .int .i64 b, .int .i64 z, dat] 27) (.cells #[v, vm] 25)
  have k0 : rowB _ _ _ _ := k0
  have k1 : rowB _ _ _ _ := k1
  have hF := formedV_any nm b z dat v vm l lb _ (isArg_below h bW (Nat.le_refl _)) (isByt_below hm bW (Nat.le_refl _))
  have hfit := Vd.ofN_fit l lb hb
  clear h hm hb
  generalize Vd.ofN l lb = s at *
  obtain ⟨p, f, m⟩ := s
  obtain ⟨⟨p0, p1⟩, ⟨f0, f1⟩, hl, hbb⟩ := hfit
  dsimp only [chip5] at *
  obtain ⟨c0, hc0⟩ : ∃ c0, vcol m p = c0 := ⟨_, rfl⟩
  obtain ⟨N, hN⟩ : ∃ N, (⟨p, f, m⟩ : Vd).next = N := ⟨_, rfl⟩
  rw [hN]
  have HN := Lib.hid hN
  have HC := Lib.hid hc0
  clear hN hc0
  go_enter Try.func19, Try.ntmps19
  go_upto_region 2 with (first
    | (go_at_call 20; refine hF.mono ?_; rintro e wf ⟨u, rfl, ⟨g, q, rfl, hg, hq, hgq, hr, hs⟩, hb⟩; have q0 := rowB_below k0 hb (rowB_lt k0); have q1 := rowB_below k1 hb (rowB_lt k1); rw [sW] at hg hq; have bX := bW.trans (hb.mono bW.size))
    | (refine wpList_storeR rfl 25 _ _ rfl (w.heap.size + 1) rfl #[.slice (some ⟨g, 0, none⟩) 2 2, .slice (some ⟨q, 0, none⟩) 32 32] rfl (dev2_one _ _ _ _ _ _) 25 #[v, vm] rfl ?_ agDv ?_; with_reducible exact q1))
  replace hr : rowB wf g 3 #[.int .i64 p, .int .i64 f] := hr
  replace q0 := rowB_row_other q0 #[.slice (some ⟨g, 0, none⟩) 2 2, .slice (some ⟨q, 0, none⟩) 32 32] (show (w.heap.size + 1) ≠ w.heap.size by omega)
  replace hr := rowB_row_other hr #[.slice (some ⟨g, 0, none⟩) 2 2, .slice (some ⟨q, 0, none⟩) 32 32] (show (w.heap.size + 1) ≠ g by omega)
  replace hs := rowB_row_other hs #[.slice (some ⟨g, 0, none⟩) 2 2, .slice (some ⟨q, 0, none⟩) 32 32] (show (w.heap.size + 1) ≠ q by omega)
  replace q1 := rowB_row q1 #[.slice (some ⟨g, 0, none⟩) 2 2, .slice (some ⟨q, 0, none⟩) 32 32]
  replace bX := below_rowR bX #[.slice (some ⟨g, 0, none⟩) 2 2, .slice (some ⟨q, 0, none⟩) 32 32] (show w.heap.size ≤ (w.heap.size + 1) by omega)
  generalize wf.setRow (w.heap.size + 1) #[.slice (some ⟨g, 0, none⟩) 2 2, .slice (some ⟨q, 0, none⟩) 32 32] = w3 at *
  clear hb hF k0 k1 bW sW
  have hk := rowB_cell q0 1 (v := .int .i64 6) rfl
  obtain ⟨d0, d1, y0, y1⟩ := dcells2 q1
  obtain ⟨e0, e1, z0, z1⟩ := dcells2 hr
  have hB := byt32 hs hl
  have hSh0 := fun n => shade_any _ m p (w3.drewN n) (isByt_below hB (below_drewN _ _ _) (Nat.le_refl _)) hl hbb ⟨p0, p1⟩
  rw [HC.out] at hSh0
  go_wp2_with fail
  go_quiet ((go_at_call 39; exact quiet_left (hSh0 _)))
  clear hSh0
  have hqt : Qt w3 (w3.drewN nq) := ⟨nq, rfl⟩
  generalize w3.drewN nq = w4 at *
  have hG := fun wr (hq : Qt w3 wr) => rests_facts hr hs q1 hl hq
  have hB4 := isByt_below hB (hqt.below _) (Nat.le_refl _)
  clear hr hs q1 q0 hk d0 d1 y0 y1 e0 e1 z0 z1
  have HG := Lib.hid hG
  clear hG hB hB4
  go_wp2_with fail
  go_loopw [6, 9, 10, 11] (fun o k x y wr => ∃ (j : Nat) (J O : Int), J = j ∧ j ≤ 2560 ∧ k = .int .i64 J ∧ o = .int .i64 O ∧ (⟨p, f, m⟩ : Vd).restsFrom j O = N ∧ Qt w3 wr) (fun _ k _ _ _ => (intOf k).toNat)
  case atStart => exact ⟨2560, 2560, 100000, rfl, Nat.le_refl _, rfl, rfl, HN.out, hqt⟩
  case round =>
    clear hqt
    obtain ⟨j, J, O, hJ, hj, rfl, rfl, hR, hq⟩ := hrel
    obtain ⟨hB, d0, d1, e0, e1⟩ := HG.out wr hq
    have HR := Lib.hid hR
    clear hR
    cases j with
    | zero =>
      have hd : decide (0 < J) = false := decide_eq_false (by omega)
      have hO : O = N := HR.out
      clear hJ
      go_wp2_with fail
      go_ret
      exact ⟨by rw [hO]; rfl, bX.trans ((hq.below _).mono bX.size)⟩
    | succ i =>
      have hJ2 : J = i + 1 := by omega
      have hd : decide (0 < J) = true := decide_eq_true (by omega)
      have w1 : wrap64 (p + J) = p + J := IntWalk.wrap64_in _ (by omega)
      have w2 : wrap64 (J - 1) = J - 1 := IntWalk.wrap64_in _ (by omega)
      have t1 : (p + J).tmod 2560 = (p + J) % 2560 := Int.tmod_eq_emod_of_nonneg (by omega)
      have hP : 0 ≤ (p + J) % 2560 ∧ (p + J) % 2560 < 2560 := ⟨Int.emod_nonneg _ (by decide), Int.emod_lt_of_pos _ (by decide)⟩
      obtain ⟨c, hc⟩ : ∃ c, vcol m ((p + J) % 2560) = c := ⟨_, rfl⟩
      have hst : (⟨p, f, m⟩ : Vd).restsFrom i (if c = c0 then O else i) = N := by
        have := HR.out
        unfold Vd.restsFrom at this
        dsimp only at this
        rw [← hJ2, hc, HC.out] at this
        exact this
      have hSh := fun n => shade_any _ m ((p + J) % 2560) (wr.drewN n) (isByt_below hB (below_drewN _ _ _) (Nat.le_refl _)) hl hbb hP
      rw [hc] at hSh
      have HJ := Lib.hid hJ2
      clear hc hJ hJ2 HR
      have HS := Lib.hid hst
      clear hst
      go_upto_region 15 with (fail)
      go_quiet ((go_at_call 39; exact quiet_left (hSh _)))
      have hq2 : Qt w3 (wr.drewN nq) := hq.drewN nq
      clear hSh hB d0 d1 e0 e1
      generalize wr.drewN nq = wq at *
      by_cases he : c = c0
      · have hd2 : (c != c0) = false := by simpa using he
        rw [if_pos he] at HS
        clear he
        go_wp2_with fail
        go_roundw
        case rel => exact ⟨i, J - 1, O, by have := HJ.out; omega, by omega, by rw [w2], rfl, HS.out, hq2⟩
        case measure => have := HJ.out; rw [w2]; simp [intOf]; omega
      · have hd2 : (c != c0) = true := by simpa using he
        rw [if_neg he] at HS
        clear he
        go_wp2_with fail
        go_roundw
        case rel => exact ⟨i, J - 1, J - 1, by have := HJ.out; omega, by omega, by rw [w2], by rw [w2], (by rw [show J - 1 = (i : Int) by have := HJ.out; omega]; exact HS.out), hq2⟩
        case measure => have := HJ.out; rw [w2]; simp [intOf]; omega
end Go.Proofs.Ytambggbmkeemnaa
