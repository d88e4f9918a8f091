/- A part of the proof of ChipTicks: SndRb. -/
import Derived.Test.YtakaebjojgeehaaGreatChipTicksK01
import Derived.Test.YtakaebjojgeehaaGreatChipTicksK02
import Derived.Test.YtakaebjojgeehaaGreatChipTicksK03
import Derived.Test.YtakaebjojgeehaaGreatChipTicksK04
import Derived.Test.YtakaebjojgeehaaGreatChipTicksK05
import Derived.Test.YtakaebjojgeehaaGreatChipTicksK06
import Derived.Test.YtakaebjojgeehaaGreatChipTicksK08
import Derived.Test.YtakaebjojgeehaaGreatChipTicksK09
import Derived.Below
import Derived.BigQuiet
import Derived.ChangeMaps5
import Derived.Deep.DeepCutAuto
import Derived.Deep.Draws
import Derived.Deep.MidRow
import Derived.Deep.OwnRows
import Derived.Deep.QuietTactic
import Derived.Deep.RegionHeld3
import Derived.Deep.RegionWith
import Derived.Deep.Slices
import Derived.Deep.WholeRow
import Derived.Lib.Hide
import Derived.Lib.SmallJoins
import Derived.OpenShut
import Derived.OrdersHeld
import Derived.OwnWalk
import Derived.RowKit3
import Derived.StillTactics
import Derived.StillTail
import Derived.StillTailTactics
import Derived.Test.YtakaebjojgeehaaGreatChecked
import Derived.WalkKit
namespace Go.Proofs.YtakaebjojgeehaaGreat
open Go.RowKit
set_option maxRecDepth 100000
set_option maxHeartbeats 4000000 in
theorem tickedSnd_any (nm : ByteArray) (b z : Int) (dat v vm : Value) (l : List Int) (w : World) (h : isArg w v l) :
    Calls Tryz.prog 7 #[.agg (chip5 nm 7 b z dat), .agg #[v, vm]] w fun e w' => ∃ u, e = .returned u ∧ devO w.heap.size w' u (Sn.of l).tick.ns ∧ Below w.heap.size w w' := by
  obtain ⟨k0, k1, k2, bW, sW⟩ := boxes3 w (.cells #[.string nm, .int .i64 7, .int .i64 b, .int .i64 z, dat] 24) (.cells #[v, vm] 27) (.cells #[.slice none 0 0, .slice none 0 0] 27)
  have k0 : rowB _ _ _ _ := k0
  have k1 : rowB _ _ _ _ := k1
  have k2 : rowB _ _ _ _ := k2
  have h2 := isArg_below h bW (Nat.le_refl _)
  have hF := formedSnd_any nm b z dat v vm l _ h2
  rw [fmSnd] at hF
  have hfit := Sn.of_fit l
  generalize Sn.of l = s at *
  obtain ⟨⟨pa, va, ra, ca, fa, ga⟩, ⟨pb, vb, rb, cb, fb, gb⟩⟩ := s
  obtain ⟨⟨⟨b0, B0⟩, ⟨b1, B1⟩, ⟨b2, B2⟩, ⟨b3, B3⟩, ⟨b4, B4⟩, ⟨b5, B5⟩⟩, ⟨⟨b6, B6⟩, ⟨b7, B7⟩, ⟨b8, B8⟩, ⟨b9, B9⟩, ⟨b10, B10⟩, ⟨b11, B11⟩⟩⟩ := hfit
  dsimp only [Sn.ns, chip5] at *
  go_enter Tryz.func7, Tryz.ntmps7
  go_upto_region 2 with (first
    | (go_at_call 6; refine hF.mono ?_; rintro e w2 ⟨u, rfl, ⟨g, rfl, hg, hr⟩, hb⟩; have q0 := rowB_below k0 hb (rowB_lt k0); have q1 := rowB_below k1 hb (rowB_lt k1); have q2 := rowB_below k2 hb (rowB_lt k2); rw [sW] at hg; have bX := bW.trans (hb.mono bW.size))
    | (refine wpList_storeR rfl 27 _ _ rfl (w.heap.size + 1) rfl #[.slice (some ⟨g, 0, none⟩) 12 12, .slice none 0 0] rfl (dev2_one _ _ _ _ _ _) 27 #[v, vm] rfl ?_ agDv ?_; with_reducible exact q1))
  replace hr : rowB w2 g 3 #[.int .i64 pa, .int .i64 va, .int .i64 ra, .int .i64 ca, .int .i64 fa, .int .i64 ga, .int .i64 pb, .int .i64 vb, .int .i64 rb, .int .i64 cb, .int .i64 fb, .int .i64 gb] := hr
  replace q0 := rowB_row_other q0 #[.slice (some ⟨g, 0, none⟩) 12 12, .slice none 0 0] (show w.heap.size + 1 ≠ w.heap.size by omega)
  replace q2 := rowB_row_other q2 #[.slice (some ⟨g, 0, none⟩) 12 12, .slice none 0 0] (show w.heap.size + 1 ≠ w.heap.size + 2 by omega)
  replace hr := rowB_row_other hr #[.slice (some ⟨g, 0, none⟩) 12 12, .slice none 0 0] (show w.heap.size + 1 ≠ g by omega)
  replace q1 := rowB_row q1 #[.slice (some ⟨g, 0, none⟩) 12 12, .slice none 0 0]
  replace bX := below_rowR bX #[.slice (some ⟨g, 0, none⟩) 12 12, .slice none 0 0] (show w.heap.size ≤ w.heap.size + 1 by omega)
  generalize w2.setRow (w.heap.size + 1) #[.slice (some ⟨g, 0, none⟩) 12 12, .slice none 0 0] = w3 at *
  clear hb hF k0 k1 k2 bW sW h2
  have hk := rowB_cell q0 1 (v := .int .i64 7) rfl
  obtain ⟨d0, d1, y0, y1⟩ := dcells2 q1
  have e0 := rowB_cell hr 0 (v := .int .i64 (pa)) rfl
  have z0 := rowB_free hr 0
  have e1 := rowB_cell hr 1 (v := .int .i64 (va)) rfl
  have z1 := rowB_free hr 1
  have e2 := rowB_cell hr 2 (v := .int .i64 (ra)) rfl
  have z2 := rowB_free hr 2
  have e3 := rowB_cell hr 3 (v := .int .i64 (ca)) rfl
  have z3 := rowB_free hr 3
  have e4 := rowB_cell hr 4 (v := .int .i64 (fa)) rfl
  have z4 := rowB_free hr 4
  have e5 := rowB_cell hr 5 (v := .int .i64 (ga)) rfl
  have z5 := rowB_free hr 5
  have e6 := rowB_cell hr 6 (v := .int .i64 (pb)) rfl
  have z6 := rowB_free hr 6
  have e7 := rowB_cell hr 7 (v := .int .i64 (vb)) rfl
  have z7 := rowB_free hr 7
  have e8 := rowB_cell hr 8 (v := .int .i64 (rb)) rfl
  have z8 := rowB_free hr 8
  have e9 := rowB_cell hr 9 (v := .int .i64 (cb)) rfl
  have z9 := rowB_free hr 9
  have e10 := rowB_cell hr 10 (v := .int .i64 (fb)) rfl
  have z10 := rowB_free hr 10
  have e11 := rowB_cell hr 11 (v := .int .i64 (gb)) rfl
  have z11 := rowB_free hr 11
  have hS : True := trivial
  go_upto_region 22 with (fail)
  refine wp_region_mix (fun _ => True) [(0, 1), (2, 1), (6, 1), (1, 1), (3, 1), (4, 3), (5, 0)] (by kernel_rfl) (by kernel_rfl) (fun _ _ _ _ _ h => h) ?_
  simp only [List.map_cons, List.map_nil, opOf, List.getD_cons_zero, List.getD_cons_succ]
  change wpMix _ _ _ _ _ _ w3.drew
  replace q1 : rowB w3.drew _ _ _ := q1
  replace q2 : rowB w3.drew _ _ _ := q2
  replace hr : rowB w3.drew _ _ _ := hr
  replace bX := bX.drew
  generalize w3.drew = w4 at *
  refine wpMix_held (.slice (some ⟨g, 0, none⟩) 12 12) rfl hS (fun w' hw' => by go_simp) ?_
  simp only [Act.put, List.setIfInBounds_toArray, List.set_cons_zero, List.set_cons_succ]
  refine wpMix_held (.slice (some ⟨g, 0, none⟩) 12 12) rfl hS (fun w' hw' => by go_simp) ?_
  simp only [Act.put, List.setIfInBounds_toArray, List.set_cons_zero, List.set_cons_succ]
  refine wpMix_held (.int .i64 0) rfl hS (fun w' hw' => by go_simp) ?_
  simp only [Act.put, List.setIfInBounds_toArray, List.set_cons_zero, List.set_cons_succ]
  refine wpMix_held (.slice (some ⟨g, 0, none⟩) 6 12) rfl hS (fun w' hw' => by go_simp) ?_
  simp only [Act.put, List.setIfInBounds_toArray, List.set_cons_zero, List.set_cons_succ]
  refine wpMix_held (.slice (some ⟨g, 6, none⟩) 6 6) rfl hS (fun w' hw' => by go_simp) ?_
  simp only [Act.put, List.setIfInBounds_toArray, List.set_cons_zero, List.set_cons_succ]
  refine wpMix_call ?_
  go_wp2_with fail
  first | refine ⟨fun _ => hS, ?_⟩ | refine ⟨hS, ?_⟩ | refine And.intro (fun _ => hS) ?_
  (refine wpMix_still (fun K hK => ?_); go_simp; refine hK _ ?_; clear hK K)
  refine wpMix_nil ?_
  have nx := rowB_new w4 25 #[.slice (some ⟨g, 0, none⟩) 6 12, .slice (some ⟨g, 6, none⟩) 6 6]
  have lx := rowB_lt hr
  replace q1 := rowB_alloc q1 (.cells #[.slice (some ⟨g, 0, none⟩) 6 12, .slice (some ⟨g, 6, none⟩) 6 6] 25)
  replace q2 := rowB_alloc q2 (.cells #[.slice (some ⟨g, 0, none⟩) 6 12, .slice (some ⟨g, 6, none⟩) 6 6] 25)
  replace hr := rowB_alloc hr (.cells #[.slice (some ⟨g, 0, none⟩) 6 12, .slice (some ⟨g, 6, none⟩) 6 6] 25)
  replace bX := bX.alloc (by omega) (.cells #[.slice (some ⟨g, 0, none⟩) 6 12, .slice (some ⟨g, 6, none⟩) 6 6] 25)
  have hgx : g < w4.heap.size := lx
  clear lx
  change Exit.then _ _ _ _ (w4.alloc (.cells #[.slice (some ⟨g, 0, none⟩) 6 12, .slice (some ⟨g, 6, none⟩) 6 6] 25))
  generalize w4.alloc (.cells #[.slice (some ⟨g, 0, none⟩) 6 12, .slice (some ⟨g, 6, none⟩) 6 6] 25) = w5 at *
  generalize w4.heap.size = x at *
  clear e0 z0 e1 z1 e2 z2 e3 z3 e4 z4 e5 z5 e6 z6 e7 z7 e8 z8 e9 z9 e10 z10 e11 z11 d0 d1 y0 y1 hk q0
  have hT : (⟨⟨pa, va, ra, ca, fa, ga⟩, ⟨pb, vb, rb, cb, fb, gb⟩⟩ : Sn).tick = ⟨Vc.tick ⟨pa, va, ra, ca, fa, ga⟩, Vc.tick ⟨pb, vb, rb, cb, fb, gb⟩⟩ := rfl
  obtain ⟨⟨ta0, ta1, ta2, ta3, ta4, ta5⟩, hTA⟩ : ∃ t, Vc.tick ⟨pa, va, ra, ca, fa, ga⟩ = t := ⟨_, rfl⟩
  obtain ⟨⟨tb0, tb1, tb2, tb3, tb4, tb5⟩, hTB⟩ : ∃ t, Vc.tick ⟨pb, vb, rb, cb, fb, gb⟩ = t := ⟨_, rfl⟩
  rw [hTA, hTB] at hT
  have HT := Lib.hid hT
  have HTA := Lib.hid hTA
  have HTB := Lib.hid hTB
  clear hT hTA hTB
  go_wp2_with fail
  go_loopw [9, 113] (fun y i wr => ∃ k : Nat, k ≤ 2 ∧ i = .int .i64 k ∧ rowB wr g 3 (if k = 0 then #[.int .i64 pa, .int .i64 va, .int .i64 ra, .int .i64 ca, .int .i64 fa, .int .i64 ga, .int .i64 pb, .int .i64 vb, .int .i64 rb, .int .i64 cb, .int .i64 fb, .int .i64 gb] else if k = 1 then #[.int .i64 ta0, .int .i64 ta1, .int .i64 ta2, .int .i64 ta3, .int .i64 ta4, .int .i64 ta5, .int .i64 pb, .int .i64 vb, .int .i64 rb, .int .i64 cb, .int .i64 fb, .int .i64 gb] else #[.int .i64 ta0, .int .i64 ta1, .int .i64 ta2, .int .i64 ta3, .int .i64 ta4, .int .i64 ta5, .int .i64 tb0, .int .i64 tb1, .int .i64 tb2, .int .i64 tb3, .int .i64 tb4, .int .i64 tb5]) ∧ rowB wr x 25 #[.slice (some ⟨g, 0, none⟩) 6 12, .slice (some ⟨g, 6, none⟩) 6 6] ∧ Below (w.heap.size + 3) w5 wr) (fun _ i _ => 2 - (intOf i).toNat)
  case atStart => exact ⟨0, by decide, rfl, hr, nx, Below.refl _ _⟩
  case round =>
    clear hr nx
    obtain ⟨k, hk2, rfl, hr, nx, hb⟩ := hrel
    rcases (by omega : k = 0 ∨ k = 1 ∨ k = 2) with rfl | rfl | rfl
    · replace hr : rowB wr g 3 #[.int .i64 pa, .int .i64 va, .int .i64 ra, .int .i64 ca, .int .i64 fa, .int .i64 ga, .int .i64 pb, .int .i64 vb, .int .i64 rb, .int .i64 cb, .int .i64 fb, .int .i64 gb] := hr
      by_cases h1 : 0 < pa
      · by_cases h2 : pa ≤ ca + 1
        · by_cases h3 : 0 < ra
          · by_cases h4 : 0 < va
            · by_cases h5 : 64 * ra ≤ ga + 1
              · have et : Vc.tick ⟨pa, va, ra, ca, fa, ga⟩ = ⟨pa, va - 1, ra, 0, 1 - fa, 0⟩ := by
                  unfold Vc.tick Vc.fade Vc.wave
                  rw [if_pos h1, if_pos h2]
                  dsimp only
                  rw [if_pos ⟨h3, h4⟩, if_pos h5]
                have ht := et.symm.trans HTA.out
                rw [Vc.mk.injEq] at ht
                obtain ⟨rfl, rfl, rfl, rfl, rfl, rfl⟩ := ht
                clear et
                have dd1 : decide (0 < pa) = true := decide_eq_true (by omega)
                have dd2 : decide (pa ≤ ca + 1) = true := decide_eq_true (by omega)
                have ww1 : wrap64 (ca + 1) = ca + 1 := IntWalk.wrap64_in _ (by omega)
                have ww2 : wrap64 (1 - fa) = 1 - fa := IntWalk.wrap64_in _ (by omega)
                have dd3 : decide (0 < ra) = true := decide_eq_true (by omega)
                have dd4 : decide (0 < va) = true := decide_eq_true (by omega)
                have dd5 : decide (64 * ra ≤ ga + 1) = true := decide_eq_true (by omega)
                have ww3 : wrap64 (ga + 1) = ga + 1 := IntWalk.wrap64_in _ (by omega)
                have ww4 : wrap64 (64 * ra) = 64 * ra := IntWalk.wrap64_in _ (by omega)
                have ww5 : wrap64 (va - 1) = va - 1 := IntWalk.wrap64_in _ (by omega)
                obtain ⟨s0, s1, _, _⟩ := dcells2 nx
                have e0 := rowB_cell hr 0 (v := .int .i64 (pa)) rfl
                have z0 := rowB_free hr 0
                have e1 := rowB_cell hr 1 (v := .int .i64 (va)) rfl
                have z1 := rowB_free hr 1
                have e2 := rowB_cell hr 2 (v := .int .i64 (ra)) rfl
                have z2 := rowB_free hr 2
                have e3 := rowB_cell hr 3 (v := .int .i64 (ca)) rfl
                have z3 := rowB_free hr 3
                have e4 := rowB_cell hr 4 (v := .int .i64 (fa)) rfl
                have z4 := rowB_free hr 4
                have e5 := rowB_cell hr 5 (v := .int .i64 (ga)) rfl
                have z5 := rowB_free hr 5
                go_upto_region 27 with (fail)
                clear e0 z0 e1 z1 e2 z2 e3 z3 e4 z4 e5 z5
                clear s0 s1
                replace nx := rowB_other nx ⟨g, 3, none⟩ (.int .i64 (ca + 1)) (show g ≠ x by omega)
                replace hr : rowB _ g 3 #[.int .i64 (pa), .int .i64 (va), .int .i64 (ra), .int .i64 (ca + 1), .int .i64 (fa), .int .i64 (ga), .int .i64 (pb), .int .i64 (vb), .int .i64 (rb), .int .i64 (cb), .int .i64 (fb), .int .i64 (gb)] := rowB_set hr 3 (.int .i64 (ca + 1))
                replace hb := Below.setCell hb (p := ⟨g, 3, none⟩) (show w.heap.size + 3 ≤ g by omega) (.int .i64 (ca + 1))
                change Code.wp _ _ _ _ (wr.setCell ⟨g, 3, none⟩ (.int .i64 (ca + 1)))
                generalize (wr.setCell ⟨g, 3, none⟩ (.int .i64 (ca + 1))) = wa at *
                have e0 := rowB_cell hr 0 (v := .int .i64 (pa)) rfl
                have z0 := rowB_free hr 0
                have e1 := rowB_cell hr 1 (v := .int .i64 (va)) rfl
                have z1 := rowB_free hr 1
                have e2 := rowB_cell hr 2 (v := .int .i64 (ra)) rfl
                have z2 := rowB_free hr 2
                have e3 := rowB_cell hr 3 (v := .int .i64 (ca + 1)) rfl
                have z3 := rowB_free hr 3
                have e4 := rowB_cell hr 4 (v := .int .i64 (fa)) rfl
                have z4 := rowB_free hr 4
                have e5 := rowB_cell hr 5 (v := .int .i64 (ga)) rfl
                have z5 := rowB_free hr 5
                go_quiet (fail)
                replace nx := rowB_below nx (below_drewN wa nq _) (rowB_lt nx)
                replace hr := rowB_below hr (below_drewN wa nq _) (rowB_lt hr)
                replace hb := hb.trans (below_drewN wa nq _)
                generalize wa.drewN nq = wb at *
                clear e0 z0 e1 z1 e2 z2 e3 z3 e4 z4 e5 z5
                obtain ⟨s0, s1, _, _⟩ := dcells2 nx
                have e0 := rowB_cell hr 0 (v := .int .i64 (pa)) rfl
                have z0 := rowB_free hr 0
                have e1 := rowB_cell hr 1 (v := .int .i64 (va)) rfl
                have z1 := rowB_free hr 1
                have e2 := rowB_cell hr 2 (v := .int .i64 (ra)) rfl
                have z2 := rowB_free hr 2
                have e3 := rowB_cell hr 3 (v := .int .i64 (ca + 1)) rfl
                have z3 := rowB_free hr 3
                have e4 := rowB_cell hr 4 (v := .int .i64 (fa)) rfl
                have z4 := rowB_free hr 4
                have e5 := rowB_cell hr 5 (v := .int .i64 (ga)) rfl
                have z5 := rowB_free hr 5
                go_upto_region 29 with (fail)
                clear e0 z0 e1 z1 e2 z2 e3 z3 e4 z4 e5 z5
                clear s0 s1
                replace nx := rowB_other nx ⟨g, 3, none⟩ (.int .i64 (0)) (show g ≠ x by omega)
                replace hr : rowB _ g 3 #[.int .i64 (pa), .int .i64 (va), .int .i64 (ra), .int .i64 (0), .int .i64 (fa), .int .i64 (ga), .int .i64 (pb), .int .i64 (vb), .int .i64 (rb), .int .i64 (cb), .int .i64 (fb), .int .i64 (gb)] := rowB_set hr 3 (.int .i64 (0))
                replace hb := Below.setCell hb (p := ⟨g, 3, none⟩) (show w.heap.size + 3 ≤ g by omega) (.int .i64 (0))
                replace nx := rowB_other nx ⟨g, 4, none⟩ (.int .i64 (1 - fa)) (show g ≠ x by omega)
                replace hr : rowB _ g 3 #[.int .i64 (pa), .int .i64 (va), .int .i64 (ra), .int .i64 (0), .int .i64 (1 - fa), .int .i64 (ga), .int .i64 (pb), .int .i64 (vb), .int .i64 (rb), .int .i64 (cb), .int .i64 (fb), .int .i64 (gb)] := rowB_set hr 4 (.int .i64 (1 - fa))
                replace hb := Below.setCell hb (p := ⟨g, 4, none⟩) (show w.heap.size + 3 ≤ g by omega) (.int .i64 (1 - fa))
                change Code.wp _ _ _ _ ((wb.setCell ⟨g, 3, none⟩ (.int .i64 (0))).setCell ⟨g, 4, none⟩ (.int .i64 (1 - fa)))
                generalize ((wb.setCell ⟨g, 3, none⟩ (.int .i64 (0))).setCell ⟨g, 4, none⟩ (.int .i64 (1 - fa))) = wc at *
                obtain ⟨s0, s1, _, _⟩ := dcells2 nx
                have e0 := rowB_cell hr 0 (v := .int .i64 (pa)) rfl
                have z0 := rowB_free hr 0
                have e1 := rowB_cell hr 1 (v := .int .i64 (va)) rfl
                have z1 := rowB_free hr 1
                have e2 := rowB_cell hr 2 (v := .int .i64 (ra)) rfl
                have z2 := rowB_free hr 2
                have e3 := rowB_cell hr 3 (v := .int .i64 (0)) rfl
                have z3 := rowB_free hr 3
                have e4 := rowB_cell hr 4 (v := .int .i64 (1 - fa)) rfl
                have z4 := rowB_free hr 4
                have e5 := rowB_cell hr 5 (v := .int .i64 (ga)) rfl
                have z5 := rowB_free hr 5
                go_upto_region 31 with (fail)
                clear e0 z0 e1 z1 e2 z2 e3 z3 e4 z4 e5 z5
                clear s0 s1
                replace nx := rowB_other nx ⟨g, 5, none⟩ (.int .i64 (ga + 1)) (show g ≠ x by omega)
                replace hr : rowB _ g 3 #[.int .i64 (pa), .int .i64 (va), .int .i64 (ra), .int .i64 (0), .int .i64 (1 - fa), .int .i64 (ga + 1), .int .i64 (pb), .int .i64 (vb), .int .i64 (rb), .int .i64 (cb), .int .i64 (fb), .int .i64 (gb)] := rowB_set hr 5 (.int .i64 (ga + 1))
                replace hb := Below.setCell hb (p := ⟨g, 5, none⟩) (show w.heap.size + 3 ≤ g by omega) (.int .i64 (ga + 1))
                change Code.wp _ _ _ _ (wc.setCell ⟨g, 5, none⟩ (.int .i64 (ga + 1)))
                generalize (wc.setCell ⟨g, 5, none⟩ (.int .i64 (ga + 1))) = wd at *
                have e0 := rowB_cell hr 0 (v := .int .i64 (pa)) rfl
                have z0 := rowB_free hr 0
                have e1 := rowB_cell hr 1 (v := .int .i64 (va)) rfl
                have z1 := rowB_free hr 1
                have e2 := rowB_cell hr 2 (v := .int .i64 (ra)) rfl
                have z2 := rowB_free hr 2
                have e3 := rowB_cell hr 3 (v := .int .i64 (0)) rfl
                have z3 := rowB_free hr 3
                have e4 := rowB_cell hr 4 (v := .int .i64 (1 - fa)) rfl
                have z4 := rowB_free hr 4
                have e5 := rowB_cell hr 5 (v := .int .i64 (ga + 1)) rfl
                have z5 := rowB_free hr 5
                go_quiet (fail)
                replace nx := rowB_below nx (below_drewN wd nq _) (rowB_lt nx)
                replace hr := rowB_below hr (below_drewN wd nq _) (rowB_lt hr)
                replace hb := hb.trans (below_drewN wd nq _)
                generalize wd.drewN nq = we at *
                clear e0 z0 e1 z1 e2 z2 e3 z3 e4 z4 e5 z5
                obtain ⟨s0, s1, _, _⟩ := dcells2 nx
                have e0 := rowB_cell hr 0 (v := .int .i64 (pa)) rfl
                have z0 := rowB_free hr 0
                have e1 := rowB_cell hr 1 (v := .int .i64 (va)) rfl
                have z1 := rowB_free hr 1
                have e2 := rowB_cell hr 2 (v := .int .i64 (ra)) rfl
                have z2 := rowB_free hr 2
                have e3 := rowB_cell hr 3 (v := .int .i64 (0)) rfl
                have z3 := rowB_free hr 3
                have e4 := rowB_cell hr 4 (v := .int .i64 (1 - fa)) rfl
                have z4 := rowB_free hr 4
                have e5 := rowB_cell hr 5 (v := .int .i64 (ga + 1)) rfl
                have z5 := rowB_free hr 5
                go_upto_region 33 with (fail)
                clear e0 z0 e1 z1 e2 z2 e3 z3 e4 z4 e5 z5
                clear s0 s1
                replace nx := rowB_other nx ⟨g, 5, none⟩ (.int .i64 (0)) (show g ≠ x by omega)
                replace hr : rowB _ g 3 #[.int .i64 (pa), .int .i64 (va), .int .i64 (ra), .int .i64 (0), .int .i64 (1 - fa), .int .i64 (0), .int .i64 (pb), .int .i64 (vb), .int .i64 (rb), .int .i64 (cb), .int .i64 (fb), .int .i64 (gb)] := rowB_set hr 5 (.int .i64 (0))
                replace hb := Below.setCell hb (p := ⟨g, 5, none⟩) (show w.heap.size + 3 ≤ g by omega) (.int .i64 (0))
                replace nx := rowB_other nx ⟨g, 1, none⟩ (.int .i64 (va - 1)) (show g ≠ x by omega)
                replace hr : rowB _ g 3 #[.int .i64 (pa), .int .i64 (va - 1), .int .i64 (ra), .int .i64 (0), .int .i64 (1 - fa), .int .i64 (0), .int .i64 (pb), .int .i64 (vb), .int .i64 (rb), .int .i64 (cb), .int .i64 (fb), .int .i64 (gb)] := rowB_set hr 1 (.int .i64 (va - 1))
                replace hb := Below.setCell hb (p := ⟨g, 1, none⟩) (show w.heap.size + 3 ≤ g by omega) (.int .i64 (va - 1))
                change Code.wp _ _ _ _ ((we.setCell ⟨g, 5, none⟩ (.int .i64 (0))).setCell ⟨g, 1, none⟩ (.int .i64 (va - 1)))
                generalize ((we.setCell ⟨g, 5, none⟩ (.int .i64 (0))).setCell ⟨g, 1, none⟩ (.int .i64 (va - 1))) = wh at *
                go_wp2_with fail
                go_roundw
                case rel => exact ⟨1, by omega, rfl, hr, nx, hb⟩
                case measure => simp [intOf]
              · have et : Vc.tick ⟨pa, va, ra, ca, fa, ga⟩ = ⟨pa, va, ra, 0, 1 - fa, ga + 1⟩ := by
                  unfold Vc.tick Vc.fade Vc.wave
                  rw [if_pos h1, if_pos h2]
                  dsimp only
                  rw [if_pos ⟨h3, h4⟩, if_neg h5]
                have ht := et.symm.trans HTA.out
                rw [Vc.mk.injEq] at ht
                obtain ⟨rfl, rfl, rfl, rfl, rfl, rfl⟩ := ht
                clear et
                have dd1 : decide (0 < pa) = true := decide_eq_true (by omega)
                have dd2 : decide (pa ≤ ca + 1) = true := decide_eq_true (by omega)
                have ww1 : wrap64 (ca + 1) = ca + 1 := IntWalk.wrap64_in _ (by omega)
                have ww2 : wrap64 (1 - fa) = 1 - fa := IntWalk.wrap64_in _ (by omega)
                have dd3 : decide (0 < ra) = true := decide_eq_true (by omega)
                have dd4 : decide (0 < va) = true := decide_eq_true (by omega)
                have dd5 : decide (64 * ra ≤ ga + 1) = false := decide_eq_false (by omega)
                have ww3 : wrap64 (ga + 1) = ga + 1 := IntWalk.wrap64_in _ (by omega)
                have ww4 : wrap64 (64 * ra) = 64 * ra := IntWalk.wrap64_in _ (by omega)
                obtain ⟨s0, s1, _, _⟩ := dcells2 nx
                have e0 := rowB_cell hr 0 (v := .int .i64 (pa)) rfl
                have z0 := rowB_free hr 0
                have e1 := rowB_cell hr 1 (v := .int .i64 (va)) rfl
                have z1 := rowB_free hr 1
                have e2 := rowB_cell hr 2 (v := .int .i64 (ra)) rfl
                have z2 := rowB_free hr 2
                have e3 := rowB_cell hr 3 (v := .int .i64 (ca)) rfl
                have z3 := rowB_free hr 3
                have e4 := rowB_cell hr 4 (v := .int .i64 (fa)) rfl
                have z4 := rowB_free hr 4
                have e5 := rowB_cell hr 5 (v := .int .i64 (ga)) rfl
                have z5 := rowB_free hr 5
                go_upto_region 27 with (fail)
                clear e0 z0 e1 z1 e2 z2 e3 z3 e4 z4 e5 z5
                clear s0 s1
                replace nx := rowB_other nx ⟨g, 3, none⟩ (.int .i64 (ca + 1)) (show g ≠ x by omega)
                replace hr : rowB _ g 3 #[.int .i64 (pa), .int .i64 (va), .int .i64 (ra), .int .i64 (ca + 1), .int .i64 (fa), .int .i64 (ga), .int .i64 (pb), .int .i64 (vb), .int .i64 (rb), .int .i64 (cb), .int .i64 (fb), .int .i64 (gb)] := rowB_set hr 3 (.int .i64 (ca + 1))
                replace hb := Below.setCell hb (p := ⟨g, 3, none⟩) (show w.heap.size + 3 ≤ g by omega) (.int .i64 (ca + 1))
                change Code.wp _ _ _ _ (wr.setCell ⟨g, 3, none⟩ (.int .i64 (ca + 1)))
                generalize (wr.setCell ⟨g, 3, none⟩ (.int .i64 (ca + 1))) = wa at *
                have e0 := rowB_cell hr 0 (v := .int .i64 (pa)) rfl
                have z0 := rowB_free hr 0
                have e1 := rowB_cell hr 1 (v := .int .i64 (va)) rfl
                have z1 := rowB_free hr 1
                have e2 := rowB_cell hr 2 (v := .int .i64 (ra)) rfl
                have z2 := rowB_free hr 2
                have e3 := rowB_cell hr 3 (v := .int .i64 (ca + 1)) rfl
                have z3 := rowB_free hr 3
                have e4 := rowB_cell hr 4 (v := .int .i64 (fa)) rfl
                have z4 := rowB_free hr 4
                have e5 := rowB_cell hr 5 (v := .int .i64 (ga)) rfl
                have z5 := rowB_free hr 5
                go_quiet (fail)
                replace nx := rowB_below nx (below_drewN wa nq _) (rowB_lt nx)
                replace hr := rowB_below hr (below_drewN wa nq _) (rowB_lt hr)
                replace hb := hb.trans (below_drewN wa nq _)
                generalize wa.drewN nq = wb at *
                clear e0 z0 e1 z1 e2 z2 e3 z3 e4 z4 e5 z5
                obtain ⟨s0, s1, _, _⟩ := dcells2 nx
                have e0 := rowB_cell hr 0 (v := .int .i64 (pa)) rfl
                have z0 := rowB_free hr 0
                have e1 := rowB_cell hr 1 (v := .int .i64 (va)) rfl
                have z1 := rowB_free hr 1
                have e2 := rowB_cell hr 2 (v := .int .i64 (ra)) rfl
                have z2 := rowB_free hr 2
                have e3 := rowB_cell hr 3 (v := .int .i64 (ca + 1)) rfl
                have z3 := rowB_free hr 3
                have e4 := rowB_cell hr 4 (v := .int .i64 (fa)) rfl
                have z4 := rowB_free hr 4
                have e5 := rowB_cell hr 5 (v := .int .i64 (ga)) rfl
                have z5 := rowB_free hr 5
                go_upto_region 29 with (fail)
                clear e0 z0 e1 z1 e2 z2 e3 z3 e4 z4 e5 z5
                clear s0 s1
                replace nx := rowB_other nx ⟨g, 3, none⟩ (.int .i64 (0)) (show g ≠ x by omega)
                replace hr : rowB _ g 3 #[.int .i64 (pa), .int .i64 (va), .int .i64 (ra), .int .i64 (0), .int .i64 (fa), .int .i64 (ga), .int .i64 (pb), .int .i64 (vb), .int .i64 (rb), .int .i64 (cb), .int .i64 (fb), .int .i64 (gb)] := rowB_set hr 3 (.int .i64 (0))
                replace hb := Below.setCell hb (p := ⟨g, 3, none⟩) (show w.heap.size + 3 ≤ g by omega) (.int .i64 (0))
                replace nx := rowB_other nx ⟨g, 4, none⟩ (.int .i64 (1 - fa)) (show g ≠ x by omega)
                replace hr : rowB _ g 3 #[.int .i64 (pa), .int .i64 (va), .int .i64 (ra), .int .i64 (0), .int .i64 (1 - fa), .int .i64 (ga), .int .i64 (pb), .int .i64 (vb), .int .i64 (rb), .int .i64 (cb), .int .i64 (fb), .int .i64 (gb)] := rowB_set hr 4 (.int .i64 (1 - fa))
                replace hb := Below.setCell hb (p := ⟨g, 4, none⟩) (show w.heap.size + 3 ≤ g by omega) (.int .i64 (1 - fa))
                change Code.wp _ _ _ _ ((wb.setCell ⟨g, 3, none⟩ (.int .i64 (0))).setCell ⟨g, 4, none⟩ (.int .i64 (1 - fa)))
                generalize ((wb.setCell ⟨g, 3, none⟩ (.int .i64 (0))).setCell ⟨g, 4, none⟩ (.int .i64 (1 - fa))) = wc at *
                obtain ⟨s0, s1, _, _⟩ := dcells2 nx
                have e0 := rowB_cell hr 0 (v := .int .i64 (pa)) rfl
                have z0 := rowB_free hr 0
                have e1 := rowB_cell hr 1 (v := .int .i64 (va)) rfl
                have z1 := rowB_free hr 1
                have e2 := rowB_cell hr 2 (v := .int .i64 (ra)) rfl
                have z2 := rowB_free hr 2
                have e3 := rowB_cell hr 3 (v := .int .i64 (0)) rfl
                have z3 := rowB_free hr 3
                have e4 := rowB_cell hr 4 (v := .int .i64 (1 - fa)) rfl
                have z4 := rowB_free hr 4
                have e5 := rowB_cell hr 5 (v := .int .i64 (ga)) rfl
                have z5 := rowB_free hr 5
                go_upto_region 31 with (fail)
                clear e0 z0 e1 z1 e2 z2 e3 z3 e4 z4 e5 z5
                clear s0 s1
                replace nx := rowB_other nx ⟨g, 5, none⟩ (.int .i64 (ga + 1)) (show g ≠ x by omega)
                replace hr : rowB _ g 3 #[.int .i64 (pa), .int .i64 (va), .int .i64 (ra), .int .i64 (0), .int .i64 (1 - fa), .int .i64 (ga + 1), .int .i64 (pb), .int .i64 (vb), .int .i64 (rb), .int .i64 (cb), .int .i64 (fb), .int .i64 (gb)] := rowB_set hr 5 (.int .i64 (ga + 1))
                replace hb := Below.setCell hb (p := ⟨g, 5, none⟩) (show w.heap.size + 3 ≤ g by omega) (.int .i64 (ga + 1))
                change Code.wp _ _ _ _ (wc.setCell ⟨g, 5, none⟩ (.int .i64 (ga + 1)))
                generalize (wc.setCell ⟨g, 5, none⟩ (.int .i64 (ga + 1))) = wd at *
                have e0 := rowB_cell hr 0 (v := .int .i64 (pa)) rfl
                have z0 := rowB_free hr 0
                have e1 := rowB_cell hr 1 (v := .int .i64 (va)) rfl
                have z1 := rowB_free hr 1
                have e2 := rowB_cell hr 2 (v := .int .i64 (ra)) rfl
                have z2 := rowB_free hr 2
                have e3 := rowB_cell hr 3 (v := .int .i64 (0)) rfl
                have z3 := rowB_free hr 3
                have e4 := rowB_cell hr 4 (v := .int .i64 (1 - fa)) rfl
                have z4 := rowB_free hr 4
                have e5 := rowB_cell hr 5 (v := .int .i64 (ga + 1)) rfl
                have z5 := rowB_free hr 5
                go_quiet (fail)
                replace nx := rowB_below nx (below_drewN wd nq _) (rowB_lt nx)
                replace hr := rowB_below hr (below_drewN wd nq _) (rowB_lt hr)
                replace hb := hb.trans (below_drewN wd nq _)
                generalize wd.drewN nq = we at *
                clear e0 z0 e1 z1 e2 z2 e3 z3 e4 z4 e5 z5
                obtain ⟨s0, s1, _, _⟩ := dcells2 nx
                have e0 := rowB_cell hr 0 (v := .int .i64 (pa)) rfl
                have z0 := rowB_free hr 0
                have e1 := rowB_cell hr 1 (v := .int .i64 (va)) rfl
                have z1 := rowB_free hr 1
                have e2 := rowB_cell hr 2 (v := .int .i64 (ra)) rfl
                have z2 := rowB_free hr 2
                have e3 := rowB_cell hr 3 (v := .int .i64 (0)) rfl
                have z3 := rowB_free hr 3
                have e4 := rowB_cell hr 4 (v := .int .i64 (1 - fa)) rfl
                have z4 := rowB_free hr 4
                have e5 := rowB_cell hr 5 (v := .int .i64 (ga + 1)) rfl
                have z5 := rowB_free hr 5
                go_wp2_with fail
                go_roundw
                case rel => exact ⟨1, by omega, rfl, hr, nx, hb⟩
                case measure => simp [intOf]
            · have et : Vc.tick ⟨pa, va, ra, ca, fa, ga⟩ = ⟨pa, va, ra, 0, 1 - fa, ga⟩ := by
                unfold Vc.tick Vc.fade Vc.wave
                rw [if_pos h1, if_pos h2]
                dsimp only
                rw [if_neg (fun q => h4 q.2)]
              have ht := et.symm.trans HTA.out
              rw [Vc.mk.injEq] at ht
              obtain ⟨rfl, rfl, rfl, rfl, rfl, rfl⟩ := ht
              clear et
              have dd1 : decide (0 < pa) = true := decide_eq_true (by omega)
              have dd2 : decide (pa ≤ ca + 1) = true := decide_eq_true (by omega)
              have ww1 : wrap64 (ca + 1) = ca + 1 := IntWalk.wrap64_in _ (by omega)
              have ww2 : wrap64 (1 - fa) = 1 - fa := IntWalk.wrap64_in _ (by omega)
              have dd3 : decide (0 < ra) = true := decide_eq_true (by omega)
              have dd4 : decide (0 < va) = false := decide_eq_false (by omega)
              obtain ⟨s0, s1, _, _⟩ := dcells2 nx
              have e0 := rowB_cell hr 0 (v := .int .i64 (pa)) rfl
              have z0 := rowB_free hr 0
              have e1 := rowB_cell hr 1 (v := .int .i64 (va)) rfl
              have z1 := rowB_free hr 1
              have e2 := rowB_cell hr 2 (v := .int .i64 (ra)) rfl
              have z2 := rowB_free hr 2
              have e3 := rowB_cell hr 3 (v := .int .i64 (ca)) rfl
              have z3 := rowB_free hr 3
              have e4 := rowB_cell hr 4 (v := .int .i64 (fa)) rfl
              have z4 := rowB_free hr 4
              have e5 := rowB_cell hr 5 (v := .int .i64 (ga)) rfl
              have z5 := rowB_free hr 5
              go_upto_region 27 with (fail)
              clear e0 z0 e1 z1 e2 z2 e3 z3 e4 z4 e5 z5
              clear s0 s1
              replace nx := rowB_other nx ⟨g, 3, none⟩ (.int .i64 (ca + 1)) (show g ≠ x by omega)
              replace hr : rowB _ g 3 #[.int .i64 (pa), .int .i64 (va), .int .i64 (ra), .int .i64 (ca + 1), .int .i64 (fa), .int .i64 (ga), .int .i64 (pb), .int .i64 (vb), .int .i64 (rb), .int .i64 (cb), .int .i64 (fb), .int .i64 (gb)] := rowB_set hr 3 (.int .i64 (ca + 1))
              replace hb := Below.setCell hb (p := ⟨g, 3, none⟩) (show w.heap.size + 3 ≤ g by omega) (.int .i64 (ca + 1))
              change Code.wp _ _ _ _ (wr.setCell ⟨g, 3, none⟩ (.int .i64 (ca + 1)))
              generalize (wr.setCell ⟨g, 3, none⟩ (.int .i64 (ca + 1))) = wa at *
              have e0 := rowB_cell hr 0 (v := .int .i64 (pa)) rfl
              have z0 := rowB_free hr 0
              have e1 := rowB_cell hr 1 (v := .int .i64 (va)) rfl
              have z1 := rowB_free hr 1
              have e2 := rowB_cell hr 2 (v := .int .i64 (ra)) rfl
              have z2 := rowB_free hr 2
              have e3 := rowB_cell hr 3 (v := .int .i64 (ca + 1)) rfl
              have z3 := rowB_free hr 3
              have e4 := rowB_cell hr 4 (v := .int .i64 (fa)) rfl
              have z4 := rowB_free hr 4
              have e5 := rowB_cell hr 5 (v := .int .i64 (ga)) rfl
              have z5 := rowB_free hr 5
              go_quiet (fail)
              replace nx := rowB_below nx (below_drewN wa nq _) (rowB_lt nx)
              replace hr := rowB_below hr (below_drewN wa nq _) (rowB_lt hr)
              replace hb := hb.trans (below_drewN wa nq _)
              generalize wa.drewN nq = wb at *
              clear e0 z0 e1 z1 e2 z2 e3 z3 e4 z4 e5 z5
              obtain ⟨s0, s1, _, _⟩ := dcells2 nx
              have e0 := rowB_cell hr 0 (v := .int .i64 (pa)) rfl
              have z0 := rowB_free hr 0
              have e1 := rowB_cell hr 1 (v := .int .i64 (va)) rfl
              have z1 := rowB_free hr 1
              have e2 := rowB_cell hr 2 (v := .int .i64 (ra)) rfl
              have z2 := rowB_free hr 2
              have e3 := rowB_cell hr 3 (v := .int .i64 (ca + 1)) rfl
              have z3 := rowB_free hr 3
              have e4 := rowB_cell hr 4 (v := .int .i64 (fa)) rfl
              have z4 := rowB_free hr 4
              have e5 := rowB_cell hr 5 (v := .int .i64 (ga)) rfl
              have z5 := rowB_free hr 5
              go_upto_region 29 with (fail)
              clear e0 z0 e1 z1 e2 z2 e3 z3 e4 z4 e5 z5
              clear s0 s1
              replace nx := rowB_other nx ⟨g, 3, none⟩ (.int .i64 (0)) (show g ≠ x by omega)
              replace hr : rowB _ g 3 #[.int .i64 (pa), .int .i64 (va), .int .i64 (ra), .int .i64 (0), .int .i64 (fa), .int .i64 (ga), .int .i64 (pb), .int .i64 (vb), .int .i64 (rb), .int .i64 (cb), .int .i64 (fb), .int .i64 (gb)] := rowB_set hr 3 (.int .i64 (0))
              replace hb := Below.setCell hb (p := ⟨g, 3, none⟩) (show w.heap.size + 3 ≤ g by omega) (.int .i64 (0))
              replace nx := rowB_other nx ⟨g, 4, none⟩ (.int .i64 (1 - fa)) (show g ≠ x by omega)
              replace hr : rowB _ g 3 #[.int .i64 (pa), .int .i64 (va), .int .i64 (ra), .int .i64 (0), .int .i64 (1 - fa), .int .i64 (ga), .int .i64 (pb), .int .i64 (vb), .int .i64 (rb), .int .i64 (cb), .int .i64 (fb), .int .i64 (gb)] := rowB_set hr 4 (.int .i64 (1 - fa))
              replace hb := Below.setCell hb (p := ⟨g, 4, none⟩) (show w.heap.size + 3 ≤ g by omega) (.int .i64 (1 - fa))
              change Code.wp _ _ _ _ ((wb.setCell ⟨g, 3, none⟩ (.int .i64 (0))).setCell ⟨g, 4, none⟩ (.int .i64 (1 - fa)))
              generalize ((wb.setCell ⟨g, 3, none⟩ (.int .i64 (0))).setCell ⟨g, 4, none⟩ (.int .i64 (1 - fa))) = wc at *
              obtain ⟨s0, s1, _, _⟩ := dcells2 nx
              have e0 := rowB_cell hr 0 (v := .int .i64 (pa)) rfl
              have z0 := rowB_free hr 0
              have e1 := rowB_cell hr 1 (v := .int .i64 (va)) rfl
              have z1 := rowB_free hr 1
              have e2 := rowB_cell hr 2 (v := .int .i64 (ra)) rfl
              have z2 := rowB_free hr 2
              have e3 := rowB_cell hr 3 (v := .int .i64 (0)) rfl
              have z3 := rowB_free hr 3
              have e4 := rowB_cell hr 4 (v := .int .i64 (1 - fa)) rfl
              have z4 := rowB_free hr 4
              have e5 := rowB_cell hr 5 (v := .int .i64 (ga)) rfl
              have z5 := rowB_free hr 5
              go_wp2_with fail
              go_roundw
              case rel => exact ⟨1, by omega, rfl, hr, nx, hb⟩
              case measure => simp [intOf]
          · have et : Vc.tick ⟨pa, va, ra, ca, fa, ga⟩ = ⟨pa, va, ra, 0, 1 - fa, ga⟩ := by
              unfold Vc.tick Vc.fade Vc.wave
              rw [if_pos h1, if_pos h2]
              dsimp only
              rw [if_neg (fun q => h3 q.1)]
            have ht := et.symm.trans HTA.out
            rw [Vc.mk.injEq] at ht
            obtain ⟨rfl, rfl, rfl, rfl, rfl, rfl⟩ := ht
            clear et
            have dd1 : decide (0 < pa) = true := decide_eq_true (by omega)
            have dd2 : decide (pa ≤ ca + 1) = true := decide_eq_true (by omega)
            have ww1 : wrap64 (ca + 1) = ca + 1 := IntWalk.wrap64_in _ (by omega)
            have ww2 : wrap64 (1 - fa) = 1 - fa := IntWalk.wrap64_in _ (by omega)
            have dd3 : decide (0 < ra) = false := decide_eq_false (by omega)
            obtain ⟨s0, s1, _, _⟩ := dcells2 nx
            have e0 := rowB_cell hr 0 (v := .int .i64 (pa)) rfl
            have z0 := rowB_free hr 0
            have e1 := rowB_cell hr 1 (v := .int .i64 (va)) rfl
            have z1 := rowB_free hr 1
            have e2 := rowB_cell hr 2 (v := .int .i64 (ra)) rfl
            have z2 := rowB_free hr 2
            have e3 := rowB_cell hr 3 (v := .int .i64 (ca)) rfl
            have z3 := rowB_free hr 3
            have e4 := rowB_cell hr 4 (v := .int .i64 (fa)) rfl
            have z4 := rowB_free hr 4
            have e5 := rowB_cell hr 5 (v := .int .i64 (ga)) rfl
            have z5 := rowB_free hr 5
            go_upto_region 27 with (fail)
            clear e0 z0 e1 z1 e2 z2 e3 z3 e4 z4 e5 z5
            clear s0 s1
            replace nx := rowB_other nx ⟨g, 3, none⟩ (.int .i64 (ca + 1)) (show g ≠ x by omega)
            replace hr : rowB _ g 3 #[.int .i64 (pa), .int .i64 (va), .int .i64 (ra), .int .i64 (ca + 1), .int .i64 (fa), .int .i64 (ga), .int .i64 (pb), .int .i64 (vb), .int .i64 (rb), .int .i64 (cb), .int .i64 (fb), .int .i64 (gb)] := rowB_set hr 3 (.int .i64 (ca + 1))
            replace hb := Below.setCell hb (p := ⟨g, 3, none⟩) (show w.heap.size + 3 ≤ g by omega) (.int .i64 (ca + 1))
            change Code.wp _ _ _ _ (wr.setCell ⟨g, 3, none⟩ (.int .i64 (ca + 1)))
            generalize (wr.setCell ⟨g, 3, none⟩ (.int .i64 (ca + 1))) = wa at *
            have e0 := rowB_cell hr 0 (v := .int .i64 (pa)) rfl
            have z0 := rowB_free hr 0
            have e1 := rowB_cell hr 1 (v := .int .i64 (va)) rfl
            have z1 := rowB_free hr 1
            have e2 := rowB_cell hr 2 (v := .int .i64 (ra)) rfl
            have z2 := rowB_free hr 2
            have e3 := rowB_cell hr 3 (v := .int .i64 (ca + 1)) rfl
            have z3 := rowB_free hr 3
            have e4 := rowB_cell hr 4 (v := .int .i64 (fa)) rfl
            have z4 := rowB_free hr 4
            have e5 := rowB_cell hr 5 (v := .int .i64 (ga)) rfl
            have z5 := rowB_free hr 5
            go_quiet (fail)
            replace nx := rowB_below nx (below_drewN wa nq _) (rowB_lt nx)
            replace hr := rowB_below hr (below_drewN wa nq _) (rowB_lt hr)
            replace hb := hb.trans (below_drewN wa nq _)
            generalize wa.drewN nq = wb at *
            clear e0 z0 e1 z1 e2 z2 e3 z3 e4 z4 e5 z5
            obtain ⟨s0, s1, _, _⟩ := dcells2 nx
            have e0 := rowB_cell hr 0 (v := .int .i64 (pa)) rfl
            have z0 := rowB_free hr 0
            have e1 := rowB_cell hr 1 (v := .int .i64 (va)) rfl
            have z1 := rowB_free hr 1
            have e2 := rowB_cell hr 2 (v := .int .i64 (ra)) rfl
            have z2 := rowB_free hr 2
            have e3 := rowB_cell hr 3 (v := .int .i64 (ca + 1)) rfl
            have z3 := rowB_free hr 3
            have e4 := rowB_cell hr 4 (v := .int .i64 (fa)) rfl
            have z4 := rowB_free hr 4
            have e5 := rowB_cell hr 5 (v := .int .i64 (ga)) rfl
            have z5 := rowB_free hr 5
            go_upto_region 29 with (fail)
            clear e0 z0 e1 z1 e2 z2 e3 z3 e4 z4 e5 z5
            clear s0 s1
            replace nx := rowB_other nx ⟨g, 3, none⟩ (.int .i64 (0)) (show g ≠ x by omega)
            replace hr : rowB _ g 3 #[.int .i64 (pa), .int .i64 (va), .int .i64 (ra), .int .i64 (0), .int .i64 (fa), .int .i64 (ga), .int .i64 (pb), .int .i64 (vb), .int .i64 (rb), .int .i64 (cb), .int .i64 (fb), .int .i64 (gb)] := rowB_set hr 3 (.int .i64 (0))
            replace hb := Below.setCell hb (p := ⟨g, 3, none⟩) (show w.heap.size + 3 ≤ g by omega) (.int .i64 (0))
            replace nx := rowB_other nx ⟨g, 4, none⟩ (.int .i64 (1 - fa)) (show g ≠ x by omega)
            replace hr : rowB _ g 3 #[.int .i64 (pa), .int .i64 (va), .int .i64 (ra), .int .i64 (0), .int .i64 (1 - fa), .int .i64 (ga), .int .i64 (pb), .int .i64 (vb), .int .i64 (rb), .int .i64 (cb), .int .i64 (fb), .int .i64 (gb)] := rowB_set hr 4 (.int .i64 (1 - fa))
            replace hb := Below.setCell hb (p := ⟨g, 4, none⟩) (show w.heap.size + 3 ≤ g by omega) (.int .i64 (1 - fa))
            change Code.wp _ _ _ _ ((wb.setCell ⟨g, 3, none⟩ (.int .i64 (0))).setCell ⟨g, 4, none⟩ (.int .i64 (1 - fa)))
            generalize ((wb.setCell ⟨g, 3, none⟩ (.int .i64 (0))).setCell ⟨g, 4, none⟩ (.int .i64 (1 - fa))) = wc at *
            obtain ⟨s0, s1, _, _⟩ := dcells2 nx
            have e0 := rowB_cell hr 0 (v := .int .i64 (pa)) rfl
            have z0 := rowB_free hr 0
            have e1 := rowB_cell hr 1 (v := .int .i64 (va)) rfl
            have z1 := rowB_free hr 1
            have e2 := rowB_cell hr 2 (v := .int .i64 (ra)) rfl
            have z2 := rowB_free hr 2
            have e3 := rowB_cell hr 3 (v := .int .i64 (0)) rfl
            have z3 := rowB_free hr 3
            have e4 := rowB_cell hr 4 (v := .int .i64 (1 - fa)) rfl
            have z4 := rowB_free hr 4
            have e5 := rowB_cell hr 5 (v := .int .i64 (ga)) rfl
            have z5 := rowB_free hr 5
            go_wp2_with fail
            go_roundw
            case rel => exact ⟨1, by omega, rfl, hr, nx, hb⟩
            case measure => simp [intOf]
        · by_cases h3 : 0 < ra
          · by_cases h4 : 0 < va
            · by_cases h5 : 64 * ra ≤ ga + 1
              · have et : Vc.tick ⟨pa, va, ra, ca, fa, ga⟩ = ⟨pa, va - 1, ra, ca + 1, fa, 0⟩ := by
                  unfold Vc.tick Vc.fade Vc.wave
                  rw [if_pos h1, if_neg h2]
                  dsimp only
                  rw [if_pos ⟨h3, h4⟩, if_pos h5]
                have ht := et.symm.trans HTA.out
                rw [Vc.mk.injEq] at ht
                obtain ⟨rfl, rfl, rfl, rfl, rfl, rfl⟩ := ht
                clear et
                have dd1 : decide (0 < pa) = true := decide_eq_true (by omega)
                have dd2 : decide (pa ≤ ca + 1) = false := decide_eq_false (by omega)
                have ww1 : wrap64 (ca + 1) = ca + 1 := IntWalk.wrap64_in _ (by omega)
                have dd3 : decide (0 < ra) = true := decide_eq_true (by omega)
                have dd4 : decide (0 < va) = true := decide_eq_true (by omega)
                have dd5 : decide (64 * ra ≤ ga + 1) = true := decide_eq_true (by omega)
                have ww3 : wrap64 (ga + 1) = ga + 1 := IntWalk.wrap64_in _ (by omega)
                have ww4 : wrap64 (64 * ra) = 64 * ra := IntWalk.wrap64_in _ (by omega)
                have ww5 : wrap64 (va - 1) = va - 1 := IntWalk.wrap64_in _ (by omega)
                obtain ⟨s0, s1, _, _⟩ := dcells2 nx
                have e0 := rowB_cell hr 0 (v := .int .i64 (pa)) rfl
                have z0 := rowB_free hr 0
                have e1 := rowB_cell hr 1 (v := .int .i64 (va)) rfl
                have z1 := rowB_free hr 1
                have e2 := rowB_cell hr 2 (v := .int .i64 (ra)) rfl
                have z2 := rowB_free hr 2
                have e3 := rowB_cell hr 3 (v := .int .i64 (ca)) rfl
                have z3 := rowB_free hr 3
                have e4 := rowB_cell hr 4 (v := .int .i64 (fa)) rfl
                have z4 := rowB_free hr 4
                have e5 := rowB_cell hr 5 (v := .int .i64 (ga)) rfl
                have z5 := rowB_free hr 5
                go_upto_region 27 with (fail)
                clear e0 z0 e1 z1 e2 z2 e3 z3 e4 z4 e5 z5
                clear s0 s1
                replace nx := rowB_other nx ⟨g, 3, none⟩ (.int .i64 (ca + 1)) (show g ≠ x by omega)
                replace hr : rowB _ g 3 #[.int .i64 (pa), .int .i64 (va), .int .i64 (ra), .int .i64 (ca + 1), .int .i64 (fa), .int .i64 (ga), .int .i64 (pb), .int .i64 (vb), .int .i64 (rb), .int .i64 (cb), .int .i64 (fb), .int .i64 (gb)] := rowB_set hr 3 (.int .i64 (ca + 1))
                replace hb := Below.setCell hb (p := ⟨g, 3, none⟩) (show w.heap.size + 3 ≤ g by omega) (.int .i64 (ca + 1))
                change Code.wp _ _ _ _ (wr.setCell ⟨g, 3, none⟩ (.int .i64 (ca + 1)))
                generalize (wr.setCell ⟨g, 3, none⟩ (.int .i64 (ca + 1))) = wa at *
                have e0 := rowB_cell hr 0 (v := .int .i64 (pa)) rfl
                have z0 := rowB_free hr 0
                have e1 := rowB_cell hr 1 (v := .int .i64 (va)) rfl
                have z1 := rowB_free hr 1
                have e2 := rowB_cell hr 2 (v := .int .i64 (ra)) rfl
                have z2 := rowB_free hr 2
                have e3 := rowB_cell hr 3 (v := .int .i64 (ca + 1)) rfl
                have z3 := rowB_free hr 3
                have e4 := rowB_cell hr 4 (v := .int .i64 (fa)) rfl
                have z4 := rowB_free hr 4
                have e5 := rowB_cell hr 5 (v := .int .i64 (ga)) rfl
                have z5 := rowB_free hr 5
                go_quiet (fail)
                replace nx := rowB_below nx (below_drewN wa nq _) (rowB_lt nx)
                replace hr := rowB_below hr (below_drewN wa nq _) (rowB_lt hr)
                replace hb := hb.trans (below_drewN wa nq _)
                generalize wa.drewN nq = wb at *
                clear e0 z0 e1 z1 e2 z2 e3 z3 e4 z4 e5 z5
                obtain ⟨s0, s1, _, _⟩ := dcells2 nx
                have e0 := rowB_cell hr 0 (v := .int .i64 (pa)) rfl
                have z0 := rowB_free hr 0
                have e1 := rowB_cell hr 1 (v := .int .i64 (va)) rfl
                have z1 := rowB_free hr 1
                have e2 := rowB_cell hr 2 (v := .int .i64 (ra)) rfl
                have z2 := rowB_free hr 2
                have e3 := rowB_cell hr 3 (v := .int .i64 (ca + 1)) rfl
                have z3 := rowB_free hr 3
                have e4 := rowB_cell hr 4 (v := .int .i64 (fa)) rfl
                have z4 := rowB_free hr 4
                have e5 := rowB_cell hr 5 (v := .int .i64 (ga)) rfl
                have z5 := rowB_free hr 5
                go_upto_region 29 with (fail)
                go_upto_region 31 with (fail)
                clear e0 z0 e1 z1 e2 z2 e3 z3 e4 z4 e5 z5
                clear s0 s1
                replace nx := rowB_other nx ⟨g, 5, none⟩ (.int .i64 (ga + 1)) (show g ≠ x by omega)
                replace hr : rowB _ g 3 #[.int .i64 (pa), .int .i64 (va), .int .i64 (ra), .int .i64 (ca + 1), .int .i64 (fa), .int .i64 (ga + 1), .int .i64 (pb), .int .i64 (vb), .int .i64 (rb), .int .i64 (cb), .int .i64 (fb), .int .i64 (gb)] := rowB_set hr 5 (.int .i64 (ga + 1))
                replace hb := Below.setCell hb (p := ⟨g, 5, none⟩) (show w.heap.size + 3 ≤ g by omega) (.int .i64 (ga + 1))
                change Code.wp _ _ _ _ (wb.setCell ⟨g, 5, none⟩ (.int .i64 (ga + 1)))
                generalize (wb.setCell ⟨g, 5, none⟩ (.int .i64 (ga + 1))) = wd at *
                have e0 := rowB_cell hr 0 (v := .int .i64 (pa)) rfl
                have z0 := rowB_free hr 0
                have e1 := rowB_cell hr 1 (v := .int .i64 (va)) rfl
                have z1 := rowB_free hr 1
                have e2 := rowB_cell hr 2 (v := .int .i64 (ra)) rfl
                have z2 := rowB_free hr 2
                have e3 := rowB_cell hr 3 (v := .int .i64 (ca + 1)) rfl
                have z3 := rowB_free hr 3
                have e4 := rowB_cell hr 4 (v := .int .i64 (fa)) rfl
                have z4 := rowB_free hr 4
                have e5 := rowB_cell hr 5 (v := .int .i64 (ga + 1)) rfl
                have z5 := rowB_free hr 5
                go_quiet (fail)
                replace nx := rowB_below nx (below_drewN wd nq _) (rowB_lt nx)
                replace hr := rowB_below hr (below_drewN wd nq _) (rowB_lt hr)
                replace hb := hb.trans (below_drewN wd nq _)
                generalize wd.drewN nq = we at *
                clear e0 z0 e1 z1 e2 z2 e3 z3 e4 z4 e5 z5
                obtain ⟨s0, s1, _, _⟩ := dcells2 nx
                have e0 := rowB_cell hr 0 (v := .int .i64 (pa)) rfl
                have z0 := rowB_free hr 0
                have e1 := rowB_cell hr 1 (v := .int .i64 (va)) rfl
                have z1 := rowB_free hr 1
                have e2 := rowB_cell hr 2 (v := .int .i64 (ra)) rfl
                have z2 := rowB_free hr 2
                have e3 := rowB_cell hr 3 (v := .int .i64 (ca + 1)) rfl
                have z3 := rowB_free hr 3
                have e4 := rowB_cell hr 4 (v := .int .i64 (fa)) rfl
                have z4 := rowB_free hr 4
                have e5 := rowB_cell hr 5 (v := .int .i64 (ga + 1)) rfl
                have z5 := rowB_free hr 5
                go_upto_region 33 with (fail)
                clear e0 z0 e1 z1 e2 z2 e3 z3 e4 z4 e5 z5
                clear s0 s1
                replace nx := rowB_other nx ⟨g, 5, none⟩ (.int .i64 (0)) (show g ≠ x by omega)
                replace hr : rowB _ g 3 #[.int .i64 (pa), .int .i64 (va), .int .i64 (ra), .int .i64 (ca + 1), .int .i64 (fa), .int .i64 (0), .int .i64 (pb), .int .i64 (vb), .int .i64 (rb), .int .i64 (cb), .int .i64 (fb), .int .i64 (gb)] := rowB_set hr 5 (.int .i64 (0))
                replace hb := Below.setCell hb (p := ⟨g, 5, none⟩) (show w.heap.size + 3 ≤ g by omega) (.int .i64 (0))
                replace nx := rowB_other nx ⟨g, 1, none⟩ (.int .i64 (va - 1)) (show g ≠ x by omega)
                replace hr : rowB _ g 3 #[.int .i64 (pa), .int .i64 (va - 1), .int .i64 (ra), .int .i64 (ca + 1), .int .i64 (fa), .int .i64 (0), .int .i64 (pb), .int .i64 (vb), .int .i64 (rb), .int .i64 (cb), .int .i64 (fb), .int .i64 (gb)] := rowB_set hr 1 (.int .i64 (va - 1))
                replace hb := Below.setCell hb (p := ⟨g, 1, none⟩) (show w.heap.size + 3 ≤ g by omega) (.int .i64 (va - 1))
                change Code.wp _ _ _ _ ((we.setCell ⟨g, 5, none⟩ (.int .i64 (0))).setCell ⟨g, 1, none⟩ (.int .i64 (va - 1)))
                generalize ((we.setCell ⟨g, 5, none⟩ (.int .i64 (0))).setCell ⟨g, 1, none⟩ (.int .i64 (va - 1))) = wh at *
                go_wp2_with fail
                go_roundw
                case rel => exact ⟨1, by omega, rfl, hr, nx, hb⟩
                case measure => simp [intOf]
              · have et : Vc.tick ⟨pa, va, ra, ca, fa, ga⟩ = ⟨pa, va, ra, ca + 1, fa, ga + 1⟩ := by
                  unfold Vc.tick Vc.fade Vc.wave
                  rw [if_pos h1, if_neg h2]
                  dsimp only
                  rw [if_pos ⟨h3, h4⟩, if_neg h5]
                have ht := et.symm.trans HTA.out
                rw [Vc.mk.injEq] at ht
                obtain ⟨rfl, rfl, rfl, rfl, rfl, rfl⟩ := ht
                clear et
                have dd1 : decide (0 < pa) = true := decide_eq_true (by omega)
                have dd2 : decide (pa ≤ ca + 1) = false := decide_eq_false (by omega)
                have ww1 : wrap64 (ca + 1) = ca + 1 := IntWalk.wrap64_in _ (by omega)
                have dd3 : decide (0 < ra) = true := decide_eq_true (by omega)
                have dd4 : decide (0 < va) = true := decide_eq_true (by omega)
                have dd5 : decide (64 * ra ≤ ga + 1) = false := decide_eq_false (by omega)
                have ww3 : wrap64 (ga + 1) = ga + 1 := IntWalk.wrap64_in _ (by omega)
                have ww4 : wrap64 (64 * ra) = 64 * ra := IntWalk.wrap64_in _ (by omega)
                obtain ⟨s0, s1, _, _⟩ := dcells2 nx
                have e0 := rowB_cell hr 0 (v := .int .i64 (pa)) rfl
                have z0 := rowB_free hr 0
                have e1 := rowB_cell hr 1 (v := .int .i64 (va)) rfl
                have z1 := rowB_free hr 1
                have e2 := rowB_cell hr 2 (v := .int .i64 (ra)) rfl
                have z2 := rowB_free hr 2
                have e3 := rowB_cell hr 3 (v := .int .i64 (ca)) rfl
                have z3 := rowB_free hr 3
                have e4 := rowB_cell hr 4 (v := .int .i64 (fa)) rfl
                have z4 := rowB_free hr 4
                have e5 := rowB_cell hr 5 (v := .int .i64 (ga)) rfl
                have z5 := rowB_free hr 5
                go_upto_region 27 with (fail)
                clear e0 z0 e1 z1 e2 z2 e3 z3 e4 z4 e5 z5
                clear s0 s1
                replace nx := rowB_other nx ⟨g, 3, none⟩ (.int .i64 (ca + 1)) (show g ≠ x by omega)
                replace hr : rowB _ g 3 #[.int .i64 (pa), .int .i64 (va), .int .i64 (ra), .int .i64 (ca + 1), .int .i64 (fa), .int .i64 (ga), .int .i64 (pb), .int .i64 (vb), .int .i64 (rb), .int .i64 (cb), .int .i64 (fb), .int .i64 (gb)] := rowB_set hr 3 (.int .i64 (ca + 1))
                replace hb := Below.setCell hb (p := ⟨g, 3, none⟩) (show w.heap.size + 3 ≤ g by omega) (.int .i64 (ca + 1))
                change Code.wp _ _ _ _ (wr.setCell ⟨g, 3, none⟩ (.int .i64 (ca + 1)))
                generalize (wr.setCell ⟨g, 3, none⟩ (.int .i64 (ca + 1))) = wa at *
                have e0 := rowB_cell hr 0 (v := .int .i64 (pa)) rfl
                have z0 := rowB_free hr 0
                have e1 := rowB_cell hr 1 (v := .int .i64 (va)) rfl
                have z1 := rowB_free hr 1
                have e2 := rowB_cell hr 2 (v := .int .i64 (ra)) rfl
                have z2 := rowB_free hr 2
                have e3 := rowB_cell hr 3 (v := .int .i64 (ca + 1)) rfl
                have z3 := rowB_free hr 3
                have e4 := rowB_cell hr 4 (v := .int .i64 (fa)) rfl
                have z4 := rowB_free hr 4
                have e5 := rowB_cell hr 5 (v := .int .i64 (ga)) rfl
                have z5 := rowB_free hr 5
                go_quiet (fail)
                replace nx := rowB_below nx (below_drewN wa nq _) (rowB_lt nx)
                replace hr := rowB_below hr (below_drewN wa nq _) (rowB_lt hr)
                replace hb := hb.trans (below_drewN wa nq _)
                generalize wa.drewN nq = wb at *
                clear e0 z0 e1 z1 e2 z2 e3 z3 e4 z4 e5 z5
                obtain ⟨s0, s1, _, _⟩ := dcells2 nx
                have e0 := rowB_cell hr 0 (v := .int .i64 (pa)) rfl
                have z0 := rowB_free hr 0
                have e1 := rowB_cell hr 1 (v := .int .i64 (va)) rfl
                have z1 := rowB_free hr 1
                have e2 := rowB_cell hr 2 (v := .int .i64 (ra)) rfl
                have z2 := rowB_free hr 2
                have e3 := rowB_cell hr 3 (v := .int .i64 (ca + 1)) rfl
                have z3 := rowB_free hr 3
                have e4 := rowB_cell hr 4 (v := .int .i64 (fa)) rfl
                have z4 := rowB_free hr 4
                have e5 := rowB_cell hr 5 (v := .int .i64 (ga)) rfl
                have z5 := rowB_free hr 5
                go_upto_region 29 with (fail)
                go_upto_region 31 with (fail)
                clear e0 z0 e1 z1 e2 z2 e3 z3 e4 z4 e5 z5
                clear s0 s1
                replace nx := rowB_other nx ⟨g, 5, none⟩ (.int .i64 (ga + 1)) (show g ≠ x by omega)
                replace hr : rowB _ g 3 #[.int .i64 (pa), .int .i64 (va), .int .i64 (ra), .int .i64 (ca + 1), .int .i64 (fa), .int .i64 (ga + 1), .int .i64 (pb), .int .i64 (vb), .int .i64 (rb), .int .i64 (cb), .int .i64 (fb), .int .i64 (gb)] := rowB_set hr 5 (.int .i64 (ga + 1))
                replace hb := Below.setCell hb (p := ⟨g, 5, none⟩) (show w.heap.size + 3 ≤ g by omega) (.int .i64 (ga + 1))
                change Code.wp _ _ _ _ (wb.setCell ⟨g, 5, none⟩ (.int .i64 (ga + 1)))
                generalize (wb.setCell ⟨g, 5, none⟩ (.int .i64 (ga + 1))) = wd at *
                have e0 := rowB_cell hr 0 (v := .int .i64 (pa)) rfl
                have z0 := rowB_free hr 0
                have e1 := rowB_cell hr 1 (v := .int .i64 (va)) rfl
                have z1 := rowB_free hr 1
                have e2 := rowB_cell hr 2 (v := .int .i64 (ra)) rfl
                have z2 := rowB_free hr 2
                have e3 := rowB_cell hr 3 (v := .int .i64 (ca + 1)) rfl
                have z3 := rowB_free hr 3
                have e4 := rowB_cell hr 4 (v := .int .i64 (fa)) rfl
                have z4 := rowB_free hr 4
                have e5 := rowB_cell hr 5 (v := .int .i64 (ga + 1)) rfl
                have z5 := rowB_free hr 5
                go_quiet (fail)
                replace nx := rowB_below nx (below_drewN wd nq _) (rowB_lt nx)
                replace hr := rowB_below hr (below_drewN wd nq _) (rowB_lt hr)
                replace hb := hb.trans (below_drewN wd nq _)
                generalize wd.drewN nq = we at *
                clear e0 z0 e1 z1 e2 z2 e3 z3 e4 z4 e5 z5
                obtain ⟨s0, s1, _, _⟩ := dcells2 nx
                have e0 := rowB_cell hr 0 (v := .int .i64 (pa)) rfl
                have z0 := rowB_free hr 0
                have e1 := rowB_cell hr 1 (v := .int .i64 (va)) rfl
                have z1 := rowB_free hr 1
                have e2 := rowB_cell hr 2 (v := .int .i64 (ra)) rfl
                have z2 := rowB_free hr 2
                have e3 := rowB_cell hr 3 (v := .int .i64 (ca + 1)) rfl
                have z3 := rowB_free hr 3
                have e4 := rowB_cell hr 4 (v := .int .i64 (fa)) rfl
                have z4 := rowB_free hr 4
                have e5 := rowB_cell hr 5 (v := .int .i64 (ga + 1)) rfl
                have z5 := rowB_free hr 5
                go_wp2_with fail
                go_roundw
                case rel => exact ⟨1, by omega, rfl, hr, nx, hb⟩
                case measure => simp [intOf]
            · have et : Vc.tick ⟨pa, va, ra, ca, fa, ga⟩ = ⟨pa, va, ra, ca + 1, fa, ga⟩ := by
                unfold Vc.tick Vc.fade Vc.wave
                rw [if_pos h1, if_neg h2]
                dsimp only
                rw [if_neg (fun q => h4 q.2)]
              have ht := et.symm.trans HTA.out
              rw [Vc.mk.injEq] at ht
              obtain ⟨rfl, rfl, rfl, rfl, rfl, rfl⟩ := ht
              clear et
              have dd1 : decide (0 < pa) = true := decide_eq_true (by omega)
              have dd2 : decide (pa ≤ ca + 1) = false := decide_eq_false (by omega)
              have ww1 : wrap64 (ca + 1) = ca + 1 := IntWalk.wrap64_in _ (by omega)
              have dd3 : decide (0 < ra) = true := decide_eq_true (by omega)
              have dd4 : decide (0 < va) = false := decide_eq_false (by omega)
              obtain ⟨s0, s1, _, _⟩ := dcells2 nx
              have e0 := rowB_cell hr 0 (v := .int .i64 (pa)) rfl
              have z0 := rowB_free hr 0
              have e1 := rowB_cell hr 1 (v := .int .i64 (va)) rfl
              have z1 := rowB_free hr 1
              have e2 := rowB_cell hr 2 (v := .int .i64 (ra)) rfl
              have z2 := rowB_free hr 2
              have e3 := rowB_cell hr 3 (v := .int .i64 (ca)) rfl
              have z3 := rowB_free hr 3
              have e4 := rowB_cell hr 4 (v := .int .i64 (fa)) rfl
              have z4 := rowB_free hr 4
              have e5 := rowB_cell hr 5 (v := .int .i64 (ga)) rfl
              have z5 := rowB_free hr 5
              go_upto_region 27 with (fail)
              clear e0 z0 e1 z1 e2 z2 e3 z3 e4 z4 e5 z5
              clear s0 s1
              replace nx := rowB_other nx ⟨g, 3, none⟩ (.int .i64 (ca + 1)) (show g ≠ x by omega)
              replace hr : rowB _ g 3 #[.int .i64 (pa), .int .i64 (va), .int .i64 (ra), .int .i64 (ca + 1), .int .i64 (fa), .int .i64 (ga), .int .i64 (pb), .int .i64 (vb), .int .i64 (rb), .int .i64 (cb), .int .i64 (fb), .int .i64 (gb)] := rowB_set hr 3 (.int .i64 (ca + 1))
              replace hb := Below.setCell hb (p := ⟨g, 3, none⟩) (show w.heap.size + 3 ≤ g by omega) (.int .i64 (ca + 1))
              change Code.wp _ _ _ _ (wr.setCell ⟨g, 3, none⟩ (.int .i64 (ca + 1)))
              generalize (wr.setCell ⟨g, 3, none⟩ (.int .i64 (ca + 1))) = wa at *
              have e0 := rowB_cell hr 0 (v := .int .i64 (pa)) rfl
              have z0 := rowB_free hr 0
              have e1 := rowB_cell hr 1 (v := .int .i64 (va)) rfl
              have z1 := rowB_free hr 1
              have e2 := rowB_cell hr 2 (v := .int .i64 (ra)) rfl
              have z2 := rowB_free hr 2
              have e3 := rowB_cell hr 3 (v := .int .i64 (ca + 1)) rfl
              have z3 := rowB_free hr 3
              have e4 := rowB_cell hr 4 (v := .int .i64 (fa)) rfl
              have z4 := rowB_free hr 4
              have e5 := rowB_cell hr 5 (v := .int .i64 (ga)) rfl
              have z5 := rowB_free hr 5
              go_quiet (fail)
              replace nx := rowB_below nx (below_drewN wa nq _) (rowB_lt nx)
              replace hr := rowB_below hr (below_drewN wa nq _) (rowB_lt hr)
              replace hb := hb.trans (below_drewN wa nq _)
              generalize wa.drewN nq = wb at *
              clear e0 z0 e1 z1 e2 z2 e3 z3 e4 z4 e5 z5
              obtain ⟨s0, s1, _, _⟩ := dcells2 nx
              have e0 := rowB_cell hr 0 (v := .int .i64 (pa)) rfl
              have z0 := rowB_free hr 0
              have e1 := rowB_cell hr 1 (v := .int .i64 (va)) rfl
              have z1 := rowB_free hr 1
              have e2 := rowB_cell hr 2 (v := .int .i64 (ra)) rfl
              have z2 := rowB_free hr 2
              have e3 := rowB_cell hr 3 (v := .int .i64 (ca + 1)) rfl
              have z3 := rowB_free hr 3
              have e4 := rowB_cell hr 4 (v := .int .i64 (fa)) rfl
              have z4 := rowB_free hr 4
              have e5 := rowB_cell hr 5 (v := .int .i64 (ga)) rfl
              have z5 := rowB_free hr 5
              go_upto_region 29 with (fail)
              go_wp2_with fail
              go_roundw
              case rel => exact ⟨1, by omega, rfl, hr, nx, hb⟩
              case measure => simp [intOf]
          · have et : Vc.tick ⟨pa, va, ra, ca, fa, ga⟩ = ⟨pa, va, ra, ca + 1, fa, ga⟩ := by
              unfold Vc.tick Vc.fade Vc.wave
              rw [if_pos h1, if_neg h2]
              dsimp only
              rw [if_neg (fun q => h3 q.1)]
            have ht := et.symm.trans HTA.out
            rw [Vc.mk.injEq] at ht
            obtain ⟨rfl, rfl, rfl, rfl, rfl, rfl⟩ := ht
            clear et
            have dd1 : decide (0 < pa) = true := decide_eq_true (by omega)
            have dd2 : decide (pa ≤ ca + 1) = false := decide_eq_false (by omega)
            have ww1 : wrap64 (ca + 1) = ca + 1 := IntWalk.wrap64_in _ (by omega)
            have dd3 : decide (0 < ra) = false := decide_eq_false (by omega)
            obtain ⟨s0, s1, _, _⟩ := dcells2 nx
            have e0 := rowB_cell hr 0 (v := .int .i64 (pa)) rfl
            have z0 := rowB_free hr 0
            have e1 := rowB_cell hr 1 (v := .int .i64 (va)) rfl
            have z1 := rowB_free hr 1
            have e2 := rowB_cell hr 2 (v := .int .i64 (ra)) rfl
            have z2 := rowB_free hr 2
            have e3 := rowB_cell hr 3 (v := .int .i64 (ca)) rfl
            have z3 := rowB_free hr 3
            have e4 := rowB_cell hr 4 (v := .int .i64 (fa)) rfl
            have z4 := rowB_free hr 4
            have e5 := rowB_cell hr 5 (v := .int .i64 (ga)) rfl
            have z5 := rowB_free hr 5
            go_upto_region 27 with (fail)
            clear e0 z0 e1 z1 e2 z2 e3 z3 e4 z4 e5 z5
            clear s0 s1
            replace nx := rowB_other nx ⟨g, 3, none⟩ (.int .i64 (ca + 1)) (show g ≠ x by omega)
            replace hr : rowB _ g 3 #[.int .i64 (pa), .int .i64 (va), .int .i64 (ra), .int .i64 (ca + 1), .int .i64 (fa), .int .i64 (ga), .int .i64 (pb), .int .i64 (vb), .int .i64 (rb), .int .i64 (cb), .int .i64 (fb), .int .i64 (gb)] := rowB_set hr 3 (.int .i64 (ca + 1))
            replace hb := Below.setCell hb (p := ⟨g, 3, none⟩) (show w.heap.size + 3 ≤ g by omega) (.int .i64 (ca + 1))
            change Code.wp _ _ _ _ (wr.setCell ⟨g, 3, none⟩ (.int .i64 (ca + 1)))
            generalize (wr.setCell ⟨g, 3, none⟩ (.int .i64 (ca + 1))) = wa at *
            have e0 := rowB_cell hr 0 (v := .int .i64 (pa)) rfl
            have z0 := rowB_free hr 0
            have e1 := rowB_cell hr 1 (v := .int .i64 (va)) rfl
            have z1 := rowB_free hr 1
            have e2 := rowB_cell hr 2 (v := .int .i64 (ra)) rfl
            have z2 := rowB_free hr 2
            have e3 := rowB_cell hr 3 (v := .int .i64 (ca + 1)) rfl
            have z3 := rowB_free hr 3
            have e4 := rowB_cell hr 4 (v := .int .i64 (fa)) rfl
            have z4 := rowB_free hr 4
            have e5 := rowB_cell hr 5 (v := .int .i64 (ga)) rfl
            have z5 := rowB_free hr 5
            go_quiet (fail)
            replace nx := rowB_below nx (below_drewN wa nq _) (rowB_lt nx)
            replace hr := rowB_below hr (below_drewN wa nq _) (rowB_lt hr)
            replace hb := hb.trans (below_drewN wa nq _)
            generalize wa.drewN nq = wb at *
            clear e0 z0 e1 z1 e2 z2 e3 z3 e4 z4 e5 z5
            obtain ⟨s0, s1, _, _⟩ := dcells2 nx
            have e0 := rowB_cell hr 0 (v := .int .i64 (pa)) rfl
            have z0 := rowB_free hr 0
            have e1 := rowB_cell hr 1 (v := .int .i64 (va)) rfl
            have z1 := rowB_free hr 1
            have e2 := rowB_cell hr 2 (v := .int .i64 (ra)) rfl
            have z2 := rowB_free hr 2
            have e3 := rowB_cell hr 3 (v := .int .i64 (ca + 1)) rfl
            have z3 := rowB_free hr 3
            have e4 := rowB_cell hr 4 (v := .int .i64 (fa)) rfl
            have z4 := rowB_free hr 4
            have e5 := rowB_cell hr 5 (v := .int .i64 (ga)) rfl
            have z5 := rowB_free hr 5
            go_upto_region 29 with (fail)
            go_wp2_with fail
            go_roundw
            case rel => exact ⟨1, by omega, rfl, hr, nx, hb⟩
            case measure => simp [intOf]
      · by_cases h3 : 0 < ra
        · by_cases h4 : 0 < va
          · by_cases h5 : 64 * ra ≤ ga + 1
            · have et : Vc.tick ⟨pa, va, ra, ca, fa, ga⟩ = ⟨pa, va - 1, ra, ca, fa, 0⟩ := by
                unfold Vc.tick Vc.fade Vc.wave
                rw [if_neg h1]
                dsimp only
                rw [if_pos ⟨h3, h4⟩, if_pos h5]
              have ht := et.symm.trans HTA.out
              rw [Vc.mk.injEq] at ht
              obtain ⟨rfl, rfl, rfl, rfl, rfl, rfl⟩ := ht
              clear et
              have dd1 : decide (0 < pa) = false := decide_eq_false (by omega)
              have dd3 : decide (0 < ra) = true := decide_eq_true (by omega)
              have dd4 : decide (0 < va) = true := decide_eq_true (by omega)
              have dd5 : decide (64 * ra ≤ ga + 1) = true := decide_eq_true (by omega)
              have ww3 : wrap64 (ga + 1) = ga + 1 := IntWalk.wrap64_in _ (by omega)
              have ww4 : wrap64 (64 * ra) = 64 * ra := IntWalk.wrap64_in _ (by omega)
              have ww5 : wrap64 (va - 1) = va - 1 := IntWalk.wrap64_in _ (by omega)
              obtain ⟨s0, s1, _, _⟩ := dcells2 nx
              have e0 := rowB_cell hr 0 (v := .int .i64 (pa)) rfl
              have z0 := rowB_free hr 0
              have e1 := rowB_cell hr 1 (v := .int .i64 (va)) rfl
              have z1 := rowB_free hr 1
              have e2 := rowB_cell hr 2 (v := .int .i64 (ra)) rfl
              have z2 := rowB_free hr 2
              have e3 := rowB_cell hr 3 (v := .int .i64 (ca)) rfl
              have z3 := rowB_free hr 3
              have e4 := rowB_cell hr 4 (v := .int .i64 (fa)) rfl
              have z4 := rowB_free hr 4
              have e5 := rowB_cell hr 5 (v := .int .i64 (ga)) rfl
              have z5 := rowB_free hr 5
              go_upto_region 31 with (fail)
              clear e0 z0 e1 z1 e2 z2 e3 z3 e4 z4 e5 z5
              clear s0 s1
              replace nx := rowB_other nx ⟨g, 5, none⟩ (.int .i64 (ga + 1)) (show g ≠ x by omega)
              replace hr : rowB _ g 3 #[.int .i64 (pa), .int .i64 (va), .int .i64 (ra), .int .i64 (ca), .int .i64 (fa), .int .i64 (ga + 1), .int .i64 (pb), .int .i64 (vb), .int .i64 (rb), .int .i64 (cb), .int .i64 (fb), .int .i64 (gb)] := rowB_set hr 5 (.int .i64 (ga + 1))
              replace hb := Below.setCell hb (p := ⟨g, 5, none⟩) (show w.heap.size + 3 ≤ g by omega) (.int .i64 (ga + 1))
              change Code.wp _ _ _ _ (wr.setCell ⟨g, 5, none⟩ (.int .i64 (ga + 1)))
              generalize (wr.setCell ⟨g, 5, none⟩ (.int .i64 (ga + 1))) = wd at *
              have e0 := rowB_cell hr 0 (v := .int .i64 (pa)) rfl
              have z0 := rowB_free hr 0
              have e1 := rowB_cell hr 1 (v := .int .i64 (va)) rfl
              have z1 := rowB_free hr 1
              have e2 := rowB_cell hr 2 (v := .int .i64 (ra)) rfl
              have z2 := rowB_free hr 2
              have e3 := rowB_cell hr 3 (v := .int .i64 (ca)) rfl
              have z3 := rowB_free hr 3
              have e4 := rowB_cell hr 4 (v := .int .i64 (fa)) rfl
              have z4 := rowB_free hr 4
              have e5 := rowB_cell hr 5 (v := .int .i64 (ga + 1)) rfl
              have z5 := rowB_free hr 5
              go_quiet (fail)
              replace nx := rowB_below nx (below_drewN wd nq _) (rowB_lt nx)
              replace hr := rowB_below hr (below_drewN wd nq _) (rowB_lt hr)
              replace hb := hb.trans (below_drewN wd nq _)
              generalize wd.drewN nq = we at *
              clear e0 z0 e1 z1 e2 z2 e3 z3 e4 z4 e5 z5
              obtain ⟨s0, s1, _, _⟩ := dcells2 nx
              have e0 := rowB_cell hr 0 (v := .int .i64 (pa)) rfl
              have z0 := rowB_free hr 0
              have e1 := rowB_cell hr 1 (v := .int .i64 (va)) rfl
              have z1 := rowB_free hr 1
              have e2 := rowB_cell hr 2 (v := .int .i64 (ra)) rfl
              have z2 := rowB_free hr 2
              have e3 := rowB_cell hr 3 (v := .int .i64 (ca)) rfl
              have z3 := rowB_free hr 3
              have e4 := rowB_cell hr 4 (v := .int .i64 (fa)) rfl
              have z4 := rowB_free hr 4
              have e5 := rowB_cell hr 5 (v := .int .i64 (ga + 1)) rfl
              have z5 := rowB_free hr 5
              go_upto_region 33 with (fail)
              clear e0 z0 e1 z1 e2 z2 e3 z3 e4 z4 e5 z5
              clear s0 s1
              replace nx := rowB_other nx ⟨g, 5, none⟩ (.int .i64 (0)) (show g ≠ x by omega)
              replace hr : rowB _ g 3 #[.int .i64 (pa), .int .i64 (va), .int .i64 (ra), .int .i64 (ca), .int .i64 (fa), .int .i64 (0), .int .i64 (pb), .int .i64 (vb), .int .i64 (rb), .int .i64 (cb), .int .i64 (fb), .int .i64 (gb)] := rowB_set hr 5 (.int .i64 (0))
              replace hb := Below.setCell hb (p := ⟨g, 5, none⟩) (show w.heap.size + 3 ≤ g by omega) (.int .i64 (0))
              replace nx := rowB_other nx ⟨g, 1, none⟩ (.int .i64 (va - 1)) (show g ≠ x by omega)
              replace hr : rowB _ g 3 #[.int .i64 (pa), .int .i64 (va - 1), .int .i64 (ra), .int .i64 (ca), .int .i64 (fa), .int .i64 (0), .int .i64 (pb), .int .i64 (vb), .int .i64 (rb), .int .i64 (cb), .int .i64 (fb), .int .i64 (gb)] := rowB_set hr 1 (.int .i64 (va - 1))
              replace hb := Below.setCell hb (p := ⟨g, 1, none⟩) (show w.heap.size + 3 ≤ g by omega) (.int .i64 (va - 1))
              change Code.wp _ _ _ _ ((we.setCell ⟨g, 5, none⟩ (.int .i64 (0))).setCell ⟨g, 1, none⟩ (.int .i64 (va - 1)))
              generalize ((we.setCell ⟨g, 5, none⟩ (.int .i64 (0))).setCell ⟨g, 1, none⟩ (.int .i64 (va - 1))) = wh at *
              go_wp2_with fail
              go_roundw
              case rel => exact ⟨1, by omega, rfl, hr, nx, hb⟩
              case measure => simp [intOf]
            · have et : Vc.tick ⟨pa, va, ra, ca, fa, ga⟩ = ⟨pa, va, ra, ca, fa, ga + 1⟩ := by
                unfold Vc.tick Vc.fade Vc.wave
                rw [if_neg h1]
                dsimp only
                rw [if_pos ⟨h3, h4⟩, if_neg h5]
              have ht := et.symm.trans HTA.out
              rw [Vc.mk.injEq] at ht
              obtain ⟨rfl, rfl, rfl, rfl, rfl, rfl⟩ := ht
              clear et
              have dd1 : decide (0 < pa) = false := decide_eq_false (by omega)
              have dd3 : decide (0 < ra) = true := decide_eq_true (by omega)
              have dd4 : decide (0 < va) = true := decide_eq_true (by omega)
              have dd5 : decide (64 * ra ≤ ga + 1) = false := decide_eq_false (by omega)
              have ww3 : wrap64 (ga + 1) = ga + 1 := IntWalk.wrap64_in _ (by omega)
              have ww4 : wrap64 (64 * ra) = 64 * ra := IntWalk.wrap64_in _ (by omega)
              obtain ⟨s0, s1, _, _⟩ := dcells2 nx
              have e0 := rowB_cell hr 0 (v := .int .i64 (pa)) rfl
              have z0 := rowB_free hr 0
              have e1 := rowB_cell hr 1 (v := .int .i64 (va)) rfl
              have z1 := rowB_free hr 1
              have e2 := rowB_cell hr 2 (v := .int .i64 (ra)) rfl
              have z2 := rowB_free hr 2
              have e3 := rowB_cell hr 3 (v := .int .i64 (ca)) rfl
              have z3 := rowB_free hr 3
              have e4 := rowB_cell hr 4 (v := .int .i64 (fa)) rfl
              have z4 := rowB_free hr 4
              have e5 := rowB_cell hr 5 (v := .int .i64 (ga)) rfl
              have z5 := rowB_free hr 5
              go_upto_region 31 with (fail)
              clear e0 z0 e1 z1 e2 z2 e3 z3 e4 z4 e5 z5
              clear s0 s1
              replace nx := rowB_other nx ⟨g, 5, none⟩ (.int .i64 (ga + 1)) (show g ≠ x by omega)
              replace hr : rowB _ g 3 #[.int .i64 (pa), .int .i64 (va), .int .i64 (ra), .int .i64 (ca), .int .i64 (fa), .int .i64 (ga + 1), .int .i64 (pb), .int .i64 (vb), .int .i64 (rb), .int .i64 (cb), .int .i64 (fb), .int .i64 (gb)] := rowB_set hr 5 (.int .i64 (ga + 1))
              replace hb := Below.setCell hb (p := ⟨g, 5, none⟩) (show w.heap.size + 3 ≤ g by omega) (.int .i64 (ga + 1))
              change Code.wp _ _ _ _ (wr.setCell ⟨g, 5, none⟩ (.int .i64 (ga + 1)))
              generalize (wr.setCell ⟨g, 5, none⟩ (.int .i64 (ga + 1))) = wd at *
              have e0 := rowB_cell hr 0 (v := .int .i64 (pa)) rfl
              have z0 := rowB_free hr 0
              have e1 := rowB_cell hr 1 (v := .int .i64 (va)) rfl
              have z1 := rowB_free hr 1
              have e2 := rowB_cell hr 2 (v := .int .i64 (ra)) rfl
              have z2 := rowB_free hr 2
              have e3 := rowB_cell hr 3 (v := .int .i64 (ca)) rfl
              have z3 := rowB_free hr 3
              have e4 := rowB_cell hr 4 (v := .int .i64 (fa)) rfl
              have z4 := rowB_free hr 4
              have e5 := rowB_cell hr 5 (v := .int .i64 (ga + 1)) rfl
              have z5 := rowB_free hr 5
              go_quiet (fail)
              replace nx := rowB_below nx (below_drewN wd nq _) (rowB_lt nx)
              replace hr := rowB_below hr (below_drewN wd nq _) (rowB_lt hr)
              replace hb := hb.trans (below_drewN wd nq _)
              generalize wd.drewN nq = we at *
              clear e0 z0 e1 z1 e2 z2 e3 z3 e4 z4 e5 z5
              obtain ⟨s0, s1, _, _⟩ := dcells2 nx
              have e0 := rowB_cell hr 0 (v := .int .i64 (pa)) rfl
              have z0 := rowB_free hr 0
              have e1 := rowB_cell hr 1 (v := .int .i64 (va)) rfl
              have z1 := rowB_free hr 1
              have e2 := rowB_cell hr 2 (v := .int .i64 (ra)) rfl
              have z2 := rowB_free hr 2
              have e3 := rowB_cell hr 3 (v := .int .i64 (ca)) rfl
              have z3 := rowB_free hr 3
              have e4 := rowB_cell hr 4 (v := .int .i64 (fa)) rfl
              have z4 := rowB_free hr 4
              have e5 := rowB_cell hr 5 (v := .int .i64 (ga + 1)) rfl
              have z5 := rowB_free hr 5
              go_wp2_with fail
              go_roundw
              case rel => exact ⟨1, by omega, rfl, hr, nx, hb⟩
              case measure => simp [intOf]
          · have et : Vc.tick ⟨pa, va, ra, ca, fa, ga⟩ = ⟨pa, va, ra, ca, fa, ga⟩ := by
              unfold Vc.tick Vc.fade Vc.wave
              rw [if_neg h1]
              dsimp only
              rw [if_neg (fun q => h4 q.2)]
            have ht := et.symm.trans HTA.out
            rw [Vc.mk.injEq] at ht
            obtain ⟨rfl, rfl, rfl, rfl, rfl, rfl⟩ := ht
            clear et
            have dd1 : decide (0 < pa) = false := decide_eq_false (by omega)
            have dd3 : decide (0 < ra) = true := decide_eq_true (by omega)
            have dd4 : decide (0 < va) = false := decide_eq_false (by omega)
            obtain ⟨s0, s1, _, _⟩ := dcells2 nx
            have e0 := rowB_cell hr 0 (v := .int .i64 (pa)) rfl
            have z0 := rowB_free hr 0
            have e1 := rowB_cell hr 1 (v := .int .i64 (va)) rfl
            have z1 := rowB_free hr 1
            have e2 := rowB_cell hr 2 (v := .int .i64 (ra)) rfl
            have z2 := rowB_free hr 2
            have e3 := rowB_cell hr 3 (v := .int .i64 (ca)) rfl
            have z3 := rowB_free hr 3
            have e4 := rowB_cell hr 4 (v := .int .i64 (fa)) rfl
            have z4 := rowB_free hr 4
            have e5 := rowB_cell hr 5 (v := .int .i64 (ga)) rfl
            have z5 := rowB_free hr 5
            go_wp2_with fail
            go_roundw
            case rel => exact ⟨1, by omega, rfl, hr, nx, hb⟩
            case measure => simp [intOf]
        · have et : Vc.tick ⟨pa, va, ra, ca, fa, ga⟩ = ⟨pa, va, ra, ca, fa, ga⟩ := by
            unfold Vc.tick Vc.fade Vc.wave
            rw [if_neg h1]
            dsimp only
            rw [if_neg (fun q => h3 q.1)]
          have ht := et.symm.trans HTA.out
          rw [Vc.mk.injEq] at ht
          obtain ⟨rfl, rfl, rfl, rfl, rfl, rfl⟩ := ht
          clear et
          have dd1 : decide (0 < pa) = false := decide_eq_false (by omega)
          have dd3 : decide (0 < ra) = false := decide_eq_false (by omega)
          obtain ⟨s0, s1, _, _⟩ := dcells2 nx
          have e0 := rowB_cell hr 0 (v := .int .i64 (pa)) rfl
          have z0 := rowB_free hr 0
          have e1 := rowB_cell hr 1 (v := .int .i64 (va)) rfl
          have z1 := rowB_free hr 1
          have e2 := rowB_cell hr 2 (v := .int .i64 (ra)) rfl
          have z2 := rowB_free hr 2
          have e3 := rowB_cell hr 3 (v := .int .i64 (ca)) rfl
          have z3 := rowB_free hr 3
          have e4 := rowB_cell hr 4 (v := .int .i64 (fa)) rfl
          have z4 := rowB_free hr 4
          have e5 := rowB_cell hr 5 (v := .int .i64 (ga)) rfl
          have z5 := rowB_free hr 5
          go_wp2_with fail
          go_roundw
          case rel => exact ⟨1, by omega, rfl, hr, nx, hb⟩
          case measure => simp [intOf]
    · replace hr : rowB wr g 3 #[.int .i64 ta0, .int .i64 ta1, .int .i64 ta2, .int .i64 ta3, .int .i64 ta4, .int .i64 ta5, .int .i64 pb, .int .i64 vb, .int .i64 rb, .int .i64 cb, .int .i64 fb, .int .i64 gb] := hr
      by_cases h1 : 0 < pb
      · by_cases h2 : pb ≤ cb + 1
        · by_cases h3 : 0 < rb
          · by_cases h4 : 0 < vb
            · by_cases h5 : 64 * rb ≤ gb + 1
              · have et : Vc.tick ⟨pb, vb, rb, cb, fb, gb⟩ = ⟨pb, vb - 1, rb, 0, 1 - fb, 0⟩ := by
                  unfold Vc.tick Vc.fade Vc.wave
                  rw [if_pos h1, if_pos h2]
                  dsimp only
                  rw [if_pos ⟨h3, h4⟩, if_pos h5]
                have ht := et.symm.trans HTB.out
                rw [Vc.mk.injEq] at ht
                obtain ⟨rfl, rfl, rfl, rfl, rfl, rfl⟩ := ht
                clear et
                have dd1 : decide (0 < pb) = true := decide_eq_true (by omega)
                have dd2 : decide (pb ≤ cb + 1) = true := decide_eq_true (by omega)
                have ww1 : wrap64 (cb + 1) = cb + 1 := IntWalk.wrap64_in _ (by omega)
                have ww2 : wrap64 (1 - fb) = 1 - fb := IntWalk.wrap64_in _ (by omega)
                have dd3 : decide (0 < rb) = true := decide_eq_true (by omega)
                have dd4 : decide (0 < vb) = true := decide_eq_true (by omega)
                have dd5 : decide (64 * rb ≤ gb + 1) = true := decide_eq_true (by omega)
                have ww3 : wrap64 (gb + 1) = gb + 1 := IntWalk.wrap64_in _ (by omega)
                have ww4 : wrap64 (64 * rb) = 64 * rb := IntWalk.wrap64_in _ (by omega)
                have ww5 : wrap64 (vb - 1) = vb - 1 := IntWalk.wrap64_in _ (by omega)
                obtain ⟨s0, s1, _, _⟩ := dcells2 nx
                have e0 := rowB_cell hr 6 (v := .int .i64 (pb)) rfl
                have z0 := rowB_free hr 6
                have e1 := rowB_cell hr 7 (v := .int .i64 (vb)) rfl
                have z1 := rowB_free hr 7
                have e2 := rowB_cell hr 8 (v := .int .i64 (rb)) rfl
                have z2 := rowB_free hr 8
                have e3 := rowB_cell hr 9 (v := .int .i64 (cb)) rfl
                have z3 := rowB_free hr 9
                have e4 := rowB_cell hr 10 (v := .int .i64 (fb)) rfl
                have z4 := rowB_free hr 10
                have e5 := rowB_cell hr 11 (v := .int .i64 (gb)) rfl
                have z5 := rowB_free hr 11
                go_upto_region 27 with (fail)
                clear e0 z0 e1 z1 e2 z2 e3 z3 e4 z4 e5 z5
                clear s0 s1
                replace nx := rowB_other nx ⟨g, 9, none⟩ (.int .i64 (cb + 1)) (show g ≠ x by omega)
                replace hr : rowB _ g 3 #[.int .i64 (ta0), .int .i64 (ta1), .int .i64 (ta2), .int .i64 (ta3), .int .i64 (ta4), .int .i64 (ta5), .int .i64 (pb), .int .i64 (vb), .int .i64 (rb), .int .i64 (cb + 1), .int .i64 (fb), .int .i64 (gb)] := rowB_set hr 9 (.int .i64 (cb + 1))
                replace hb := Below.setCell hb (p := ⟨g, 9, none⟩) (show w.heap.size + 3 ≤ g by omega) (.int .i64 (cb + 1))
                change Code.wp _ _ _ _ (wr.setCell ⟨g, 9, none⟩ (.int .i64 (cb + 1)))
                generalize (wr.setCell ⟨g, 9, none⟩ (.int .i64 (cb + 1))) = wa at *
                have e0 := rowB_cell hr 6 (v := .int .i64 (pb)) rfl
                have z0 := rowB_free hr 6
                have e1 := rowB_cell hr 7 (v := .int .i64 (vb)) rfl
                have z1 := rowB_free hr 7
                have e2 := rowB_cell hr 8 (v := .int .i64 (rb)) rfl
                have z2 := rowB_free hr 8
                have e3 := rowB_cell hr 9 (v := .int .i64 (cb + 1)) rfl
                have z3 := rowB_free hr 9
                have e4 := rowB_cell hr 10 (v := .int .i64 (fb)) rfl
                have z4 := rowB_free hr 10
                have e5 := rowB_cell hr 11 (v := .int .i64 (gb)) rfl
                have z5 := rowB_free hr 11
                go_quiet (fail)
                replace nx := rowB_below nx (below_drewN wa nq _) (rowB_lt nx)
                replace hr := rowB_below hr (below_drewN wa nq _) (rowB_lt hr)
                replace hb := hb.trans (below_drewN wa nq _)
                generalize wa.drewN nq = wb at *
                clear e0 z0 e1 z1 e2 z2 e3 z3 e4 z4 e5 z5
                obtain ⟨s0, s1, _, _⟩ := dcells2 nx
                have e0 := rowB_cell hr 6 (v := .int .i64 (pb)) rfl
                have z0 := rowB_free hr 6
                have e1 := rowB_cell hr 7 (v := .int .i64 (vb)) rfl
                have z1 := rowB_free hr 7
                have e2 := rowB_cell hr 8 (v := .int .i64 (rb)) rfl
                have z2 := rowB_free hr 8
                have e3 := rowB_cell hr 9 (v := .int .i64 (cb + 1)) rfl
                have z3 := rowB_free hr 9
                have e4 := rowB_cell hr 10 (v := .int .i64 (fb)) rfl
                have z4 := rowB_free hr 10
                have e5 := rowB_cell hr 11 (v := .int .i64 (gb)) rfl
                have z5 := rowB_free hr 11
                go_upto_region 29 with (fail)
                clear e0 z0 e1 z1 e2 z2 e3 z3 e4 z4 e5 z5
                clear s0 s1
                replace nx := rowB_other nx ⟨g, 9, none⟩ (.int .i64 (0)) (show g ≠ x by omega)
                replace hr : rowB _ g 3 #[.int .i64 (ta0), .int .i64 (ta1), .int .i64 (ta2), .int .i64 (ta3), .int .i64 (ta4), .int .i64 (ta5), .int .i64 (pb), .int .i64 (vb), .int .i64 (rb), .int .i64 (0), .int .i64 (fb), .int .i64 (gb)] := rowB_set hr 9 (.int .i64 (0))
                replace hb := Below.setCell hb (p := ⟨g, 9, none⟩) (show w.heap.size + 3 ≤ g by omega) (.int .i64 (0))
                replace nx := rowB_other nx ⟨g, 10, none⟩ (.int .i64 (1 - fb)) (show g ≠ x by omega)
                replace hr : rowB _ g 3 #[.int .i64 (ta0), .int .i64 (ta1), .int .i64 (ta2), .int .i64 (ta3), .int .i64 (ta4), .int .i64 (ta5), .int .i64 (pb), .int .i64 (vb), .int .i64 (rb), .int .i64 (0), .int .i64 (1 - fb), .int .i64 (gb)] := rowB_set hr 10 (.int .i64 (1 - fb))
                replace hb := Below.setCell hb (p := ⟨g, 10, none⟩) (show w.heap.size + 3 ≤ g by omega) (.int .i64 (1 - fb))
                change Code.wp _ _ _ _ ((wb.setCell ⟨g, 9, none⟩ (.int .i64 (0))).setCell ⟨g, 10, none⟩ (.int .i64 (1 - fb)))
                generalize ((wb.setCell ⟨g, 9, none⟩ (.int .i64 (0))).setCell ⟨g, 10, none⟩ (.int .i64 (1 - fb))) = wc at *
                obtain ⟨s0, s1, _, _⟩ := dcells2 nx
                have e0 := rowB_cell hr 6 (v := .int .i64 (pb)) rfl
                have z0 := rowB_free hr 6
                have e1 := rowB_cell hr 7 (v := .int .i64 (vb)) rfl
                have z1 := rowB_free hr 7
                have e2 := rowB_cell hr 8 (v := .int .i64 (rb)) rfl
                have z2 := rowB_free hr 8
                have e3 := rowB_cell hr 9 (v := .int .i64 (0)) rfl
                have z3 := rowB_free hr 9
                have e4 := rowB_cell hr 10 (v := .int .i64 (1 - fb)) rfl
                have z4 := rowB_free hr 10
                have e5 := rowB_cell hr 11 (v := .int .i64 (gb)) rfl
                have z5 := rowB_free hr 11
                go_upto_region 31 with (fail)
                clear e0 z0 e1 z1 e2 z2 e3 z3 e4 z4 e5 z5
                clear s0 s1
                replace nx := rowB_other nx ⟨g, 11, none⟩ (.int .i64 (gb + 1)) (show g ≠ x by omega)
                replace hr : rowB _ g 3 #[.int .i64 (ta0), .int .i64 (ta1), .int .i64 (ta2), .int .i64 (ta3), .int .i64 (ta4), .int .i64 (ta5), .int .i64 (pb), .int .i64 (vb), .int .i64 (rb), .int .i64 (0), .int .i64 (1 - fb), .int .i64 (gb + 1)] := rowB_set hr 11 (.int .i64 (gb + 1))
                replace hb := Below.setCell hb (p := ⟨g, 11, none⟩) (show w.heap.size + 3 ≤ g by omega) (.int .i64 (gb + 1))
                change Code.wp _ _ _ _ (wc.setCell ⟨g, 11, none⟩ (.int .i64 (gb + 1)))
                generalize (wc.setCell ⟨g, 11, none⟩ (.int .i64 (gb + 1))) = wd at *
                have e0 := rowB_cell hr 6 (v := .int .i64 (pb)) rfl
                have z0 := rowB_free hr 6
                have e1 := rowB_cell hr 7 (v := .int .i64 (vb)) rfl
                have z1 := rowB_free hr 7
                have e2 := rowB_cell hr 8 (v := .int .i64 (rb)) rfl
                have z2 := rowB_free hr 8
                have e3 := rowB_cell hr 9 (v := .int .i64 (0)) rfl
                have z3 := rowB_free hr 9
                have e4 := rowB_cell hr 10 (v := .int .i64 (1 - fb)) rfl
                have z4 := rowB_free hr 10
                have e5 := rowB_cell hr 11 (v := .int .i64 (gb + 1)) rfl
                have z5 := rowB_free hr 11
                go_quiet (fail)
                replace nx := rowB_below nx (below_drewN wd nq _) (rowB_lt nx)
                replace hr := rowB_below hr (below_drewN wd nq _) (rowB_lt hr)
                replace hb := hb.trans (below_drewN wd nq _)
                generalize wd.drewN nq = we at *
                clear e0 z0 e1 z1 e2 z2 e3 z3 e4 z4 e5 z5
                obtain ⟨s0, s1, _, _⟩ := dcells2 nx
                have e0 := rowB_cell hr 6 (v := .int .i64 (pb)) rfl
                have z0 := rowB_free hr 6
                have e1 := rowB_cell hr 7 (v := .int .i64 (vb)) rfl
                have z1 := rowB_free hr 7
                have e2 := rowB_cell hr 8 (v := .int .i64 (rb)) rfl
                have z2 := rowB_free hr 8
                have e3 := rowB_cell hr 9 (v := .int .i64 (0)) rfl
                have z3 := rowB_free hr 9
                have e4 := rowB_cell hr 10 (v := .int .i64 (1 - fb)) rfl
                have z4 := rowB_free hr 10
                have e5 := rowB_cell hr 11 (v := .int .i64 (gb + 1)) rfl
                have z5 := rowB_free hr 11
                go_upto_region 33 with (fail)
                clear e0 z0 e1 z1 e2 z2 e3 z3 e4 z4 e5 z5
                clear s0 s1
                replace nx := rowB_other nx ⟨g, 11, none⟩ (.int .i64 (0)) (show g ≠ x by omega)
                replace hr : rowB _ g 3 #[.int .i64 (ta0), .int .i64 (ta1), .int .i64 (ta2), .int .i64 (ta3), .int .i64 (ta4), .int .i64 (ta5), .int .i64 (pb), .int .i64 (vb), .int .i64 (rb), .int .i64 (0), .int .i64 (1 - fb), .int .i64 (0)] := rowB_set hr 11 (.int .i64 (0))
                replace hb := Below.setCell hb (p := ⟨g, 11, none⟩) (show w.heap.size + 3 ≤ g by omega) (.int .i64 (0))
                replace nx := rowB_other nx ⟨g, 7, none⟩ (.int .i64 (vb - 1)) (show g ≠ x by omega)
                replace hr : rowB _ g 3 #[.int .i64 (ta0), .int .i64 (ta1), .int .i64 (ta2), .int .i64 (ta3), .int .i64 (ta4), .int .i64 (ta5), .int .i64 (pb), .int .i64 (vb - 1), .int .i64 (rb), .int .i64 (0), .int .i64 (1 - fb), .int .i64 (0)] := rowB_set hr 7 (.int .i64 (vb - 1))
                replace hb := Below.setCell hb (p := ⟨g, 7, none⟩) (show w.heap.size + 3 ≤ g by omega) (.int .i64 (vb - 1))
                change Code.wp _ _ _ _ ((we.setCell ⟨g, 11, none⟩ (.int .i64 (0))).setCell ⟨g, 7, none⟩ (.int .i64 (vb - 1)))
                generalize ((we.setCell ⟨g, 11, none⟩ (.int .i64 (0))).setCell ⟨g, 7, none⟩ (.int .i64 (vb - 1))) = wh at *
                go_wp2_with fail
                go_roundw
                case rel => exact ⟨2, by omega, rfl, hr, nx, hb⟩
                case measure => simp [intOf]
              · have et : Vc.tick ⟨pb, vb, rb, cb, fb, gb⟩ = ⟨pb, vb, rb, 0, 1 - fb, gb + 1⟩ := by
                  unfold Vc.tick Vc.fade Vc.wave
                  rw [if_pos h1, if_pos h2]
                  dsimp only
                  rw [if_pos ⟨h3, h4⟩, if_neg h5]
                have ht := et.symm.trans HTB.out
                rw [Vc.mk.injEq] at ht
                obtain ⟨rfl, rfl, rfl, rfl, rfl, rfl⟩ := ht
                clear et
                have dd1 : decide (0 < pb) = true := decide_eq_true (by omega)
                have dd2 : decide (pb ≤ cb + 1) = true := decide_eq_true (by omega)
                have ww1 : wrap64 (cb + 1) = cb + 1 := IntWalk.wrap64_in _ (by omega)
                have ww2 : wrap64 (1 - fb) = 1 - fb := IntWalk.wrap64_in _ (by omega)
                have dd3 : decide (0 < rb) = true := decide_eq_true (by omega)
                have dd4 : decide (0 < vb) = true := decide_eq_true (by omega)
                have dd5 : decide (64 * rb ≤ gb + 1) = false := decide_eq_false (by omega)
                have ww3 : wrap64 (gb + 1) = gb + 1 := IntWalk.wrap64_in _ (by omega)
                have ww4 : wrap64 (64 * rb) = 64 * rb := IntWalk.wrap64_in _ (by omega)
                obtain ⟨s0, s1, _, _⟩ := dcells2 nx
                have e0 := rowB_cell hr 6 (v := .int .i64 (pb)) rfl
                have z0 := rowB_free hr 6
                have e1 := rowB_cell hr 7 (v := .int .i64 (vb)) rfl
                have z1 := rowB_free hr 7
                have e2 := rowB_cell hr 8 (v := .int .i64 (rb)) rfl
                have z2 := rowB_free hr 8
                have e3 := rowB_cell hr 9 (v := .int .i64 (cb)) rfl
                have z3 := rowB_free hr 9
                have e4 := rowB_cell hr 10 (v := .int .i64 (fb)) rfl
                have z4 := rowB_free hr 10
                have e5 := rowB_cell hr 11 (v := .int .i64 (gb)) rfl
                have z5 := rowB_free hr 11
                go_upto_region 27 with (fail)
                clear e0 z0 e1 z1 e2 z2 e3 z3 e4 z4 e5 z5
                clear s0 s1
                replace nx := rowB_other nx ⟨g, 9, none⟩ (.int .i64 (cb + 1)) (show g ≠ x by omega)
                replace hr : rowB _ g 3 #[.int .i64 (ta0), .int .i64 (ta1), .int .i64 (ta2), .int .i64 (ta3), .int .i64 (ta4), .int .i64 (ta5), .int .i64 (pb), .int .i64 (vb), .int .i64 (rb), .int .i64 (cb + 1), .int .i64 (fb), .int .i64 (gb)] := rowB_set hr 9 (.int .i64 (cb + 1))
                replace hb := Below.setCell hb (p := ⟨g, 9, none⟩) (show w.heap.size + 3 ≤ g by omega) (.int .i64 (cb + 1))
                change Code.wp _ _ _ _ (wr.setCell ⟨g, 9, none⟩ (.int .i64 (cb + 1)))
                generalize (wr.setCell ⟨g, 9, none⟩ (.int .i64 (cb + 1))) = wa at *
                have e0 := rowB_cell hr 6 (v := .int .i64 (pb)) rfl
                have z0 := rowB_free hr 6
                have e1 := rowB_cell hr 7 (v := .int .i64 (vb)) rfl
                have z1 := rowB_free hr 7
                have e2 := rowB_cell hr 8 (v := .int .i64 (rb)) rfl
                have z2 := rowB_free hr 8
                have e3 := rowB_cell hr 9 (v := .int .i64 (cb + 1)) rfl
                have z3 := rowB_free hr 9
                have e4 := rowB_cell hr 10 (v := .int .i64 (fb)) rfl
                have z4 := rowB_free hr 10
                have e5 := rowB_cell hr 11 (v := .int .i64 (gb)) rfl
                have z5 := rowB_free hr 11
                go_quiet (fail)
                replace nx := rowB_below nx (below_drewN wa nq _) (rowB_lt nx)
                replace hr := rowB_below hr (below_drewN wa nq _) (rowB_lt hr)
                replace hb := hb.trans (below_drewN wa nq _)
                generalize wa.drewN nq = wb at *
                clear e0 z0 e1 z1 e2 z2 e3 z3 e4 z4 e5 z5
                obtain ⟨s0, s1, _, _⟩ := dcells2 nx
                have e0 := rowB_cell hr 6 (v := .int .i64 (pb)) rfl
                have z0 := rowB_free hr 6
                have e1 := rowB_cell hr 7 (v := .int .i64 (vb)) rfl
                have z1 := rowB_free hr 7
                have e2 := rowB_cell hr 8 (v := .int .i64 (rb)) rfl
                have z2 := rowB_free hr 8
                have e3 := rowB_cell hr 9 (v := .int .i64 (cb + 1)) rfl
                have z3 := rowB_free hr 9
                have e4 := rowB_cell hr 10 (v := .int .i64 (fb)) rfl
                have z4 := rowB_free hr 10
                have e5 := rowB_cell hr 11 (v := .int .i64 (gb)) rfl
                have z5 := rowB_free hr 11
                go_upto_region 29 with (fail)
                clear e0 z0 e1 z1 e2 z2 e3 z3 e4 z4 e5 z5
                clear s0 s1
                replace nx := rowB_other nx ⟨g, 9, none⟩ (.int .i64 (0)) (show g ≠ x by omega)
                replace hr : rowB _ g 3 #[.int .i64 (ta0), .int .i64 (ta1), .int .i64 (ta2), .int .i64 (ta3), .int .i64 (ta4), .int .i64 (ta5), .int .i64 (pb), .int .i64 (vb), .int .i64 (rb), .int .i64 (0), .int .i64 (fb), .int .i64 (gb)] := rowB_set hr 9 (.int .i64 (0))
                replace hb := Below.setCell hb (p := ⟨g, 9, none⟩) (show w.heap.size + 3 ≤ g by omega) (.int .i64 (0))
                replace nx := rowB_other nx ⟨g, 10, none⟩ (.int .i64 (1 - fb)) (show g ≠ x by omega)
                replace hr : rowB _ g 3 #[.int .i64 (ta0), .int .i64 (ta1), .int .i64 (ta2), .int .i64 (ta3), .int .i64 (ta4), .int .i64 (ta5), .int .i64 (pb), .int .i64 (vb), .int .i64 (rb), .int .i64 (0), .int .i64 (1 - fb), .int .i64 (gb)] := rowB_set hr 10 (.int .i64 (1 - fb))
                replace hb := Below.setCell hb (p := ⟨g, 10, none⟩) (show w.heap.size + 3 ≤ g by omega) (.int .i64 (1 - fb))
                change Code.wp _ _ _ _ ((wb.setCell ⟨g, 9, none⟩ (.int .i64 (0))).setCell ⟨g, 10, none⟩ (.int .i64 (1 - fb)))
                generalize ((wb.setCell ⟨g, 9, none⟩ (.int .i64 (0))).setCell ⟨g, 10, none⟩ (.int .i64 (1 - fb))) = wc at *
                obtain ⟨s0, s1, _, _⟩ := dcells2 nx
                have e0 := rowB_cell hr 6 (v := .int .i64 (pb)) rfl
                have z0 := rowB_free hr 6
                have e1 := rowB_cell hr 7 (v := .int .i64 (vb)) rfl
                have z1 := rowB_free hr 7
                have e2 := rowB_cell hr 8 (v := .int .i64 (rb)) rfl
                have z2 := rowB_free hr 8
                have e3 := rowB_cell hr 9 (v := .int .i64 (0)) rfl
                have z3 := rowB_free hr 9
                have e4 := rowB_cell hr 10 (v := .int .i64 (1 - fb)) rfl
                have z4 := rowB_free hr 10
                have e5 := rowB_cell hr 11 (v := .int .i64 (gb)) rfl
                have z5 := rowB_free hr 11
                go_upto_region 31 with (fail)
                clear e0 z0 e1 z1 e2 z2 e3 z3 e4 z4 e5 z5
                clear s0 s1
                replace nx := rowB_other nx ⟨g, 11, none⟩ (.int .i64 (gb + 1)) (show g ≠ x by omega)
                replace hr : rowB _ g 3 #[.int .i64 (ta0), .int .i64 (ta1), .int .i64 (ta2), .int .i64 (ta3), .int .i64 (ta4), .int .i64 (ta5), .int .i64 (pb), .int .i64 (vb), .int .i64 (rb), .int .i64 (0), .int .i64 (1 - fb), .int .i64 (gb + 1)] := rowB_set hr 11 (.int .i64 (gb + 1))
                replace hb := Below.setCell hb (p := ⟨g, 11, none⟩) (show w.heap.size + 3 ≤ g by omega) (.int .i64 (gb + 1))
                change Code.wp _ _ _ _ (wc.setCell ⟨g, 11, none⟩ (.int .i64 (gb + 1)))
                generalize (wc.setCell ⟨g, 11, none⟩ (.int .i64 (gb + 1))) = wd at *
                have e0 := rowB_cell hr 6 (v := .int .i64 (pb)) rfl
                have z0 := rowB_free hr 6
                have e1 := rowB_cell hr 7 (v := .int .i64 (vb)) rfl
                have z1 := rowB_free hr 7
                have e2 := rowB_cell hr 8 (v := .int .i64 (rb)) rfl
                have z2 := rowB_free hr 8
                have e3 := rowB_cell hr 9 (v := .int .i64 (0)) rfl
                have z3 := rowB_free hr 9
                have e4 := rowB_cell hr 10 (v := .int .i64 (1 - fb)) rfl
                have z4 := rowB_free hr 10
                have e5 := rowB_cell hr 11 (v := .int .i64 (gb + 1)) rfl
                have z5 := rowB_free hr 11
                go_quiet (fail)
                replace nx := rowB_below nx (below_drewN wd nq _) (rowB_lt nx)
                replace hr := rowB_below hr (below_drewN wd nq _) (rowB_lt hr)
                replace hb := hb.trans (below_drewN wd nq _)
                generalize wd.drewN nq = we at *
                clear e0 z0 e1 z1 e2 z2 e3 z3 e4 z4 e5 z5
                obtain ⟨s0, s1, _, _⟩ := dcells2 nx
                have e0 := rowB_cell hr 6 (v := .int .i64 (pb)) rfl
                have z0 := rowB_free hr 6
                have e1 := rowB_cell hr 7 (v := .int .i64 (vb)) rfl
                have z1 := rowB_free hr 7
                have e2 := rowB_cell hr 8 (v := .int .i64 (rb)) rfl
                have z2 := rowB_free hr 8
                have e3 := rowB_cell hr 9 (v := .int .i64 (0)) rfl
                have z3 := rowB_free hr 9
                have e4 := rowB_cell hr 10 (v := .int .i64 (1 - fb)) rfl
                have z4 := rowB_free hr 10
                have e5 := rowB_cell hr 11 (v := .int .i64 (gb + 1)) rfl
                have z5 := rowB_free hr 11
                go_wp2_with fail
                go_roundw
                case rel => exact ⟨2, by omega, rfl, hr, nx, hb⟩
                case measure => simp [intOf]
            · have et : Vc.tick ⟨pb, vb, rb, cb, fb, gb⟩ = ⟨pb, vb, rb, 0, 1 - fb, gb⟩ := by
                unfold Vc.tick Vc.fade Vc.wave
                rw [if_pos h1, if_pos h2]
                dsimp only
                rw [if_neg (fun q => h4 q.2)]
              have ht := et.symm.trans HTB.out
              rw [Vc.mk.injEq] at ht
              obtain ⟨rfl, rfl, rfl, rfl, rfl, rfl⟩ := ht
              clear et
              have dd1 : decide (0 < pb) = true := decide_eq_true (by omega)
              have dd2 : decide (pb ≤ cb + 1) = true := decide_eq_true (by omega)
              have ww1 : wrap64 (cb + 1) = cb + 1 := IntWalk.wrap64_in _ (by omega)
              have ww2 : wrap64 (1 - fb) = 1 - fb := IntWalk.wrap64_in _ (by omega)
              have dd3 : decide (0 < rb) = true := decide_eq_true (by omega)
              have dd4 : decide (0 < vb) = false := decide_eq_false (by omega)
              obtain ⟨s0, s1, _, _⟩ := dcells2 nx
              have e0 := rowB_cell hr 6 (v := .int .i64 (pb)) rfl
              have z0 := rowB_free hr 6
              have e1 := rowB_cell hr 7 (v := .int .i64 (vb)) rfl
              have z1 := rowB_free hr 7
              have e2 := rowB_cell hr 8 (v := .int .i64 (rb)) rfl
              have z2 := rowB_free hr 8
              have e3 := rowB_cell hr 9 (v := .int .i64 (cb)) rfl
              have z3 := rowB_free hr 9
              have e4 := rowB_cell hr 10 (v := .int .i64 (fb)) rfl
              have z4 := rowB_free hr 10
              have e5 := rowB_cell hr 11 (v := .int .i64 (gb)) rfl
              have z5 := rowB_free hr 11
              go_upto_region 27 with (fail)
              clear e0 z0 e1 z1 e2 z2 e3 z3 e4 z4 e5 z5
              clear s0 s1
              replace nx := rowB_other nx ⟨g, 9, none⟩ (.int .i64 (cb + 1)) (show g ≠ x by omega)
              replace hr : rowB _ g 3 #[.int .i64 (ta0), .int .i64 (ta1), .int .i64 (ta2), .int .i64 (ta3), .int .i64 (ta4), .int .i64 (ta5), .int .i64 (pb), .int .i64 (vb), .int .i64 (rb), .int .i64 (cb + 1), .int .i64 (fb), .int .i64 (gb)] := rowB_set hr 9 (.int .i64 (cb + 1))
              replace hb := Below.setCell hb (p := ⟨g, 9, none⟩) (show w.heap.size + 3 ≤ g by omega) (.int .i64 (cb + 1))
              change Code.wp _ _ _ _ (wr.setCell ⟨g, 9, none⟩ (.int .i64 (cb + 1)))
              generalize (wr.setCell ⟨g, 9, none⟩ (.int .i64 (cb + 1))) = wa at *
              have e0 := rowB_cell hr 6 (v := .int .i64 (pb)) rfl
              have z0 := rowB_free hr 6
              have e1 := rowB_cell hr 7 (v := .int .i64 (vb)) rfl
              have z1 := rowB_free hr 7
              have e2 := rowB_cell hr 8 (v := .int .i64 (rb)) rfl
              have z2 := rowB_free hr 8
              have e3 := rowB_cell hr 9 (v := .int .i64 (cb + 1)) rfl
              have z3 := rowB_free hr 9
              have e4 := rowB_cell hr 10 (v := .int .i64 (fb)) rfl
              have z4 := rowB_free hr 10
              have e5 := rowB_cell hr 11 (v := .int .i64 (gb)) rfl
              have z5 := rowB_free hr 11
              go_quiet (fail)
              replace nx := rowB_below nx (below_drewN wa nq _) (rowB_lt nx)
              replace hr := rowB_below hr (below_drewN wa nq _) (rowB_lt hr)
              replace hb := hb.trans (below_drewN wa nq _)
              generalize wa.drewN nq = wb at *
              clear e0 z0 e1 z1 e2 z2 e3 z3 e4 z4 e5 z5
              obtain ⟨s0, s1, _, _⟩ := dcells2 nx
              have e0 := rowB_cell hr 6 (v := .int .i64 (pb)) rfl
              have z0 := rowB_free hr 6
              have e1 := rowB_cell hr 7 (v := .int .i64 (vb)) rfl
              have z1 := rowB_free hr 7
              have e2 := rowB_cell hr 8 (v := .int .i64 (rb)) rfl
              have z2 := rowB_free hr 8
              have e3 := rowB_cell hr 9 (v := .int .i64 (cb + 1)) rfl
              have z3 := rowB_free hr 9
              have e4 := rowB_cell hr 10 (v := .int .i64 (fb)) rfl
              have z4 := rowB_free hr 10
              have e5 := rowB_cell hr 11 (v := .int .i64 (gb)) rfl
              have z5 := rowB_free hr 11
              go_upto_region 29 with (fail)
              clear e0 z0 e1 z1 e2 z2 e3 z3 e4 z4 e5 z5
              clear s0 s1
              replace nx := rowB_other nx ⟨g, 9, none⟩ (.int .i64 (0)) (show g ≠ x by omega)
              replace hr : rowB _ g 3 #[.int .i64 (ta0), .int .i64 (ta1), .int .i64 (ta2), .int .i64 (ta3), .int .i64 (ta4), .int .i64 (ta5), .int .i64 (pb), .int .i64 (vb), .int .i64 (rb), .int .i64 (0), .int .i64 (fb), .int .i64 (gb)] := rowB_set hr 9 (.int .i64 (0))
              replace hb := Below.setCell hb (p := ⟨g, 9, none⟩) (show w.heap.size + 3 ≤ g by omega) (.int .i64 (0))
              replace nx := rowB_other nx ⟨g, 10, none⟩ (.int .i64 (1 - fb)) (show g ≠ x by omega)
              replace hr : rowB _ g 3 #[.int .i64 (ta0), .int .i64 (ta1), .int .i64 (ta2), .int .i64 (ta3), .int .i64 (ta4), .int .i64 (ta5), .int .i64 (pb), .int .i64 (vb), .int .i64 (rb), .int .i64 (0), .int .i64 (1 - fb), .int .i64 (gb)] := rowB_set hr 10 (.int .i64 (1 - fb))
              replace hb := Below.setCell hb (p := ⟨g, 10, none⟩) (show w.heap.size + 3 ≤ g by omega) (.int .i64 (1 - fb))
              change Code.wp _ _ _ _ ((wb.setCell ⟨g, 9, none⟩ (.int .i64 (0))).setCell ⟨g, 10, none⟩ (.int .i64 (1 - fb)))
              generalize ((wb.setCell ⟨g, 9, none⟩ (.int .i64 (0))).setCell ⟨g, 10, none⟩ (.int .i64 (1 - fb))) = wc at *
              obtain ⟨s0, s1, _, _⟩ := dcells2 nx
              have e0 := rowB_cell hr 6 (v := .int .i64 (pb)) rfl
              have z0 := rowB_free hr 6
              have e1 := rowB_cell hr 7 (v := .int .i64 (vb)) rfl
              have z1 := rowB_free hr 7
              have e2 := rowB_cell hr 8 (v := .int .i64 (rb)) rfl
              have z2 := rowB_free hr 8
              have e3 := rowB_cell hr 9 (v := .int .i64 (0)) rfl
              have z3 := rowB_free hr 9
              have e4 := rowB_cell hr 10 (v := .int .i64 (1 - fb)) rfl
              have z4 := rowB_free hr 10
              have e5 := rowB_cell hr 11 (v := .int .i64 (gb)) rfl
              have z5 := rowB_free hr 11
              go_wp2_with fail
              go_roundw
              case rel => exact ⟨2, by omega, rfl, hr, nx, hb⟩
              case measure => simp [intOf]
          · have et : Vc.tick ⟨pb, vb, rb, cb, fb, gb⟩ = ⟨pb, vb, rb, 0, 1 - fb, gb⟩ := by
              unfold Vc.tick Vc.fade Vc.wave
              rw [if_pos h1, if_pos h2]
              dsimp only
              rw [if_neg (fun q => h3 q.1)]
            have ht := et.symm.trans HTB.out
            rw [Vc.mk.injEq] at ht
            obtain ⟨rfl, rfl, rfl, rfl, rfl, rfl⟩ := ht
            clear et
            have dd1 : decide (0 < pb) = true := decide_eq_true (by omega)
            have dd2 : decide (pb ≤ cb + 1) = true := decide_eq_true (by omega)
            have ww1 : wrap64 (cb + 1) = cb + 1 := IntWalk.wrap64_in _ (by omega)
            have ww2 : wrap64 (1 - fb) = 1 - fb := IntWalk.wrap64_in _ (by omega)
            have dd3 : decide (0 < rb) = false := decide_eq_false (by omega)
            obtain ⟨s0, s1, _, _⟩ := dcells2 nx
            have e0 := rowB_cell hr 6 (v := .int .i64 (pb)) rfl
            have z0 := rowB_free hr 6
            have e1 := rowB_cell hr 7 (v := .int .i64 (vb)) rfl
            have z1 := rowB_free hr 7
            have e2 := rowB_cell hr 8 (v := .int .i64 (rb)) rfl
            have z2 := rowB_free hr 8
            have e3 := rowB_cell hr 9 (v := .int .i64 (cb)) rfl
            have z3 := rowB_free hr 9
            have e4 := rowB_cell hr 10 (v := .int .i64 (fb)) rfl
            have z4 := rowB_free hr 10
            have e5 := rowB_cell hr 11 (v := .int .i64 (gb)) rfl
            have z5 := rowB_free hr 11
            go_upto_region 27 with (fail)
            clear e0 z0 e1 z1 e2 z2 e3 z3 e4 z4 e5 z5
            clear s0 s1
            replace nx := rowB_other nx ⟨g, 9, none⟩ (.int .i64 (cb + 1)) (show g ≠ x by omega)
            replace hr : rowB _ g 3 #[.int .i64 (ta0), .int .i64 (ta1), .int .i64 (ta2), .int .i64 (ta3), .int .i64 (ta4), .int .i64 (ta5), .int .i64 (pb), .int .i64 (vb), .int .i64 (rb), .int .i64 (cb + 1), .int .i64 (fb), .int .i64 (gb)] := rowB_set hr 9 (.int .i64 (cb + 1))
            replace hb := Below.setCell hb (p := ⟨g, 9, none⟩) (show w.heap.size + 3 ≤ g by omega) (.int .i64 (cb + 1))
            change Code.wp _ _ _ _ (wr.setCell ⟨g, 9, none⟩ (.int .i64 (cb + 1)))
            generalize (wr.setCell ⟨g, 9, none⟩ (.int .i64 (cb + 1))) = wa at *
            have e0 := rowB_cell hr 6 (v := .int .i64 (pb)) rfl
            have z0 := rowB_free hr 6
            have e1 := rowB_cell hr 7 (v := .int .i64 (vb)) rfl
            have z1 := rowB_free hr 7
            have e2 := rowB_cell hr 8 (v := .int .i64 (rb)) rfl
            have z2 := rowB_free hr 8
            have e3 := rowB_cell hr 9 (v := .int .i64 (cb + 1)) rfl
            have z3 := rowB_free hr 9
            have e4 := rowB_cell hr 10 (v := .int .i64 (fb)) rfl
            have z4 := rowB_free hr 10
            have e5 := rowB_cell hr 11 (v := .int .i64 (gb)) rfl
            have z5 := rowB_free hr 11
            go_quiet (fail)
            replace nx := rowB_below nx (below_drewN wa nq _) (rowB_lt nx)
            replace hr := rowB_below hr (below_drewN wa nq _) (rowB_lt hr)
            replace hb := hb.trans (below_drewN wa nq _)
            generalize wa.drewN nq = wb at *
            clear e0 z0 e1 z1 e2 z2 e3 z3 e4 z4 e5 z5
            obtain ⟨s0, s1, _, _⟩ := dcells2 nx
            have e0 := rowB_cell hr 6 (v := .int .i64 (pb)) rfl
            have z0 := rowB_free hr 6
            have e1 := rowB_cell hr 7 (v := .int .i64 (vb)) rfl
            have z1 := rowB_free hr 7
            have e2 := rowB_cell hr 8 (v := .int .i64 (rb)) rfl
            have z2 := rowB_free hr 8
            have e3 := rowB_cell hr 9 (v := .int .i64 (cb + 1)) rfl
            have z3 := rowB_free hr 9
            have e4 := rowB_cell hr 10 (v := .int .i64 (fb)) rfl
            have z4 := rowB_free hr 10
            have e5 := rowB_cell hr 11 (v := .int .i64 (gb)) rfl
            have z5 := rowB_free hr 11
            go_upto_region 29 with (fail)
            clear e0 z0 e1 z1 e2 z2 e3 z3 e4 z4 e5 z5
            clear s0 s1
            replace nx := rowB_other nx ⟨g, 9, none⟩ (.int .i64 (0)) (show g ≠ x by omega)
            replace hr : rowB _ g 3 #[.int .i64 (ta0), .int .i64 (ta1), .int .i64 (ta2), .int .i64 (ta3), .int .i64 (ta4), .int .i64 (ta5), .int .i64 (pb), .int .i64 (vb), .int .i64 (rb), .int .i64 (0), .int .i64 (fb), .int .i64 (gb)] := rowB_set hr 9 (.int .i64 (0))
            replace hb := Below.setCell hb (p := ⟨g, 9, none⟩) (show w.heap.size + 3 ≤ g by omega) (.int .i64 (0))
            replace nx := rowB_other nx ⟨g, 10, none⟩ (.int .i64 (1 - fb)) (show g ≠ x by omega)
            replace hr : rowB _ g 3 #[.int .i64 (ta0), .int .i64 (ta1), .int .i64 (ta2), .int .i64 (ta3), .int .i64 (ta4), .int .i64 (ta5), .int .i64 (pb), .int .i64 (vb), .int .i64 (rb), .int .i64 (0), .int .i64 (1 - fb), .int .i64 (gb)] := rowB_set hr 10 (.int .i64 (1 - fb))
            replace hb := Below.setCell hb (p := ⟨g, 10, none⟩) (show w.heap.size + 3 ≤ g by omega) (.int .i64 (1 - fb))
            change Code.wp _ _ _ _ ((wb.setCell ⟨g, 9, none⟩ (.int .i64 (0))).setCell ⟨g, 10, none⟩ (.int .i64 (1 - fb)))
            generalize ((wb.setCell ⟨g, 9, none⟩ (.int .i64 (0))).setCell ⟨g, 10, none⟩ (.int .i64 (1 - fb))) = wc at *
            obtain ⟨s0, s1, _, _⟩ := dcells2 nx
            have e0 := rowB_cell hr 6 (v := .int .i64 (pb)) rfl
            have z0 := rowB_free hr 6
            have e1 := rowB_cell hr 7 (v := .int .i64 (vb)) rfl
            have z1 := rowB_free hr 7
            have e2 := rowB_cell hr 8 (v := .int .i64 (rb)) rfl
            have z2 := rowB_free hr 8
            have e3 := rowB_cell hr 9 (v := .int .i64 (0)) rfl
            have z3 := rowB_free hr 9
            have e4 := rowB_cell hr 10 (v := .int .i64 (1 - fb)) rfl
            have z4 := rowB_free hr 10
            have e5 := rowB_cell hr 11 (v := .int .i64 (gb)) rfl
            have z5 := rowB_free hr 11
            go_wp2_with fail
            go_roundw
            case rel => exact ⟨2, by omega, rfl, hr, nx, hb⟩
            case measure => simp [intOf]
        · by_cases h3 : 0 < rb
          · by_cases h4 : 0 < vb
            · by_cases h5 : 64 * rb ≤ gb + 1
              · have et : Vc.tick ⟨pb, vb, rb, cb, fb, gb⟩ = ⟨pb, vb - 1, rb, cb + 1, fb, 0⟩ := by
                  unfold Vc.tick Vc.fade Vc.wave
                  rw [if_pos h1, if_neg h2]
                  dsimp only
                  rw [if_pos ⟨h3, h4⟩, if_pos h5]
                have ht := et.symm.trans HTB.out
                rw [Vc.mk.injEq] at ht
                obtain ⟨rfl, rfl, rfl, rfl, rfl, rfl⟩ := ht
                clear et
                have dd1 : decide (0 < pb) = true := decide_eq_true (by omega)
                have dd2 : decide (pb ≤ cb + 1) = false := decide_eq_false (by omega)
                have ww1 : wrap64 (cb + 1) = cb + 1 := IntWalk.wrap64_in _ (by omega)
                have dd3 : decide (0 < rb) = true := decide_eq_true (by omega)
                have dd4 : decide (0 < vb) = true := decide_eq_true (by omega)
                have dd5 : decide (64 * rb ≤ gb + 1) = true := decide_eq_true (by omega)
                have ww3 : wrap64 (gb + 1) = gb + 1 := IntWalk.wrap64_in _ (by omega)
                have ww4 : wrap64 (64 * rb) = 64 * rb := IntWalk.wrap64_in _ (by omega)
                have ww5 : wrap64 (vb - 1) = vb - 1 := IntWalk.wrap64_in _ (by omega)
                obtain ⟨s0, s1, _, _⟩ := dcells2 nx
                have e0 := rowB_cell hr 6 (v := .int .i64 (pb)) rfl
                have z0 := rowB_free hr 6
                have e1 := rowB_cell hr 7 (v := .int .i64 (vb)) rfl
                have z1 := rowB_free hr 7
                have e2 := rowB_cell hr 8 (v := .int .i64 (rb)) rfl
                have z2 := rowB_free hr 8
                have e3 := rowB_cell hr 9 (v := .int .i64 (cb)) rfl
                have z3 := rowB_free hr 9
                have e4 := rowB_cell hr 10 (v := .int .i64 (fb)) rfl
                have z4 := rowB_free hr 10
                have e5 := rowB_cell hr 11 (v := .int .i64 (gb)) rfl
                have z5 := rowB_free hr 11
                go_upto_region 27 with (fail)
                clear e0 z0 e1 z1 e2 z2 e3 z3 e4 z4 e5 z5
                clear s0 s1
                replace nx := rowB_other nx ⟨g, 9, none⟩ (.int .i64 (cb + 1)) (show g ≠ x by omega)
                replace hr : rowB _ g 3 #[.int .i64 (ta0), .int .i64 (ta1), .int .i64 (ta2), .int .i64 (ta3), .int .i64 (ta4), .int .i64 (ta5), .int .i64 (pb), .int .i64 (vb), .int .i64 (rb), .int .i64 (cb + 1), .int .i64 (fb), .int .i64 (gb)] := rowB_set hr 9 (.int .i64 (cb + 1))
                replace hb := Below.setCell hb (p := ⟨g, 9, none⟩) (show w.heap.size + 3 ≤ g by omega) (.int .i64 (cb + 1))
                change Code.wp _ _ _ _ (wr.setCell ⟨g, 9, none⟩ (.int .i64 (cb + 1)))
                generalize (wr.setCell ⟨g, 9, none⟩ (.int .i64 (cb + 1))) = wa at *
                have e0 := rowB_cell hr 6 (v := .int .i64 (pb)) rfl
                have z0 := rowB_free hr 6
                have e1 := rowB_cell hr 7 (v := .int .i64 (vb)) rfl
                have z1 := rowB_free hr 7
                have e2 := rowB_cell hr 8 (v := .int .i64 (rb)) rfl
                have z2 := rowB_free hr 8
                have e3 := rowB_cell hr 9 (v := .int .i64 (cb + 1)) rfl
                have z3 := rowB_free hr 9
                have e4 := rowB_cell hr 10 (v := .int .i64 (fb)) rfl
                have z4 := rowB_free hr 10
                have e5 := rowB_cell hr 11 (v := .int .i64 (gb)) rfl
                have z5 := rowB_free hr 11
                go_quiet (fail)
                replace nx := rowB_below nx (below_drewN wa nq _) (rowB_lt nx)
                replace hr := rowB_below hr (below_drewN wa nq _) (rowB_lt hr)
                replace hb := hb.trans (below_drewN wa nq _)
                generalize wa.drewN nq = wb at *
                clear e0 z0 e1 z1 e2 z2 e3 z3 e4 z4 e5 z5
                obtain ⟨s0, s1, _, _⟩ := dcells2 nx
                have e0 := rowB_cell hr 6 (v := .int .i64 (pb)) rfl
                have z0 := rowB_free hr 6
                have e1 := rowB_cell hr 7 (v := .int .i64 (vb)) rfl
                have z1 := rowB_free hr 7
                have e2 := rowB_cell hr 8 (v := .int .i64 (rb)) rfl
                have z2 := rowB_free hr 8
                have e3 := rowB_cell hr 9 (v := .int .i64 (cb + 1)) rfl
                have z3 := rowB_free hr 9
                have e4 := rowB_cell hr 10 (v := .int .i64 (fb)) rfl
                have z4 := rowB_free hr 10
                have e5 := rowB_cell hr 11 (v := .int .i64 (gb)) rfl
                have z5 := rowB_free hr 11
                go_upto_region 29 with (fail)
                go_upto_region 31 with (fail)
                clear e0 z0 e1 z1 e2 z2 e3 z3 e4 z4 e5 z5
                clear s0 s1
                replace nx := rowB_other nx ⟨g, 11, none⟩ (.int .i64 (gb + 1)) (show g ≠ x by omega)
                replace hr : rowB _ g 3 #[.int .i64 (ta0), .int .i64 (ta1), .int .i64 (ta2), .int .i64 (ta3), .int .i64 (ta4), .int .i64 (ta5), .int .i64 (pb), .int .i64 (vb), .int .i64 (rb), .int .i64 (cb + 1), .int .i64 (fb), .int .i64 (gb + 1)] := rowB_set hr 11 (.int .i64 (gb + 1))
                replace hb := Below.setCell hb (p := ⟨g, 11, none⟩) (show w.heap.size + 3 ≤ g by omega) (.int .i64 (gb + 1))
                change Code.wp _ _ _ _ (wb.setCell ⟨g, 11, none⟩ (.int .i64 (gb + 1)))
                generalize (wb.setCell ⟨g, 11, none⟩ (.int .i64 (gb + 1))) = wd at *
                have e0 := rowB_cell hr 6 (v := .int .i64 (pb)) rfl
                have z0 := rowB_free hr 6
                have e1 := rowB_cell hr 7 (v := .int .i64 (vb)) rfl
                have z1 := rowB_free hr 7
                have e2 := rowB_cell hr 8 (v := .int .i64 (rb)) rfl
                have z2 := rowB_free hr 8
                have e3 := rowB_cell hr 9 (v := .int .i64 (cb + 1)) rfl
                have z3 := rowB_free hr 9
                have e4 := rowB_cell hr 10 (v := .int .i64 (fb)) rfl
                have z4 := rowB_free hr 10
                have e5 := rowB_cell hr 11 (v := .int .i64 (gb + 1)) rfl
                have z5 := rowB_free hr 11
                go_quiet (fail)
                replace nx := rowB_below nx (below_drewN wd nq _) (rowB_lt nx)
                replace hr := rowB_below hr (below_drewN wd nq _) (rowB_lt hr)
                replace hb := hb.trans (below_drewN wd nq _)
                generalize wd.drewN nq = we at *
                clear e0 z0 e1 z1 e2 z2 e3 z3 e4 z4 e5 z5
                obtain ⟨s0, s1, _, _⟩ := dcells2 nx
                have e0 := rowB_cell hr 6 (v := .int .i64 (pb)) rfl
                have z0 := rowB_free hr 6
                have e1 := rowB_cell hr 7 (v := .int .i64 (vb)) rfl
                have z1 := rowB_free hr 7
                have e2 := rowB_cell hr 8 (v := .int .i64 (rb)) rfl
                have z2 := rowB_free hr 8
                have e3 := rowB_cell hr 9 (v := .int .i64 (cb + 1)) rfl
                have z3 := rowB_free hr 9
                have e4 := rowB_cell hr 10 (v := .int .i64 (fb)) rfl
                have z4 := rowB_free hr 10
                have e5 := rowB_cell hr 11 (v := .int .i64 (gb + 1)) rfl
                have z5 := rowB_free hr 11
                go_upto_region 33 with (fail)
                clear e0 z0 e1 z1 e2 z2 e3 z3 e4 z4 e5 z5
                clear s0 s1
                replace nx := rowB_other nx ⟨g, 11, none⟩ (.int .i64 (0)) (show g ≠ x by omega)
                replace hr : rowB _ g 3 #[.int .i64 (ta0), .int .i64 (ta1), .int .i64 (ta2), .int .i64 (ta3), .int .i64 (ta4), .int .i64 (ta5), .int .i64 (pb), .int .i64 (vb), .int .i64 (rb), .int .i64 (cb + 1), .int .i64 (fb), .int .i64 (0)] := rowB_set hr 11 (.int .i64 (0))
                replace hb := Below.setCell hb (p := ⟨g, 11, none⟩) (show w.heap.size + 3 ≤ g by omega) (.int .i64 (0))
                replace nx := rowB_other nx ⟨g, 7, none⟩ (.int .i64 (vb - 1)) (show g ≠ x by omega)
                replace hr : rowB _ g 3 #[.int .i64 (ta0), .int .i64 (ta1), .int .i64 (ta2), .int .i64 (ta3), .int .i64 (ta4), .int .i64 (ta5), .int .i64 (pb), .int .i64 (vb - 1), .int .i64 (rb), .int .i64 (cb + 1), .int .i64 (fb), .int .i64 (0)] := rowB_set hr 7 (.int .i64 (vb - 1))
                replace hb := Below.setCell hb (p := ⟨g, 7, none⟩) (show w.heap.size + 3 ≤ g by omega) (.int .i64 (vb - 1))
                change Code.wp _ _ _ _ ((we.setCell ⟨g, 11, none⟩ (.int .i64 (0))).setCell ⟨g, 7, none⟩ (.int .i64 (vb - 1)))
                generalize ((we.setCell ⟨g, 11, none⟩ (.int .i64 (0))).setCell ⟨g, 7, none⟩ (.int .i64 (vb - 1))) = wh at *
                go_wp2_with fail
                go_roundw
                case rel => exact ⟨2, by omega, rfl, hr, nx, hb⟩
                case measure => simp [intOf]
              · have et : Vc.tick ⟨pb, vb, rb, cb, fb, gb⟩ = ⟨pb, vb, rb, cb + 1, fb, gb + 1⟩ := by
                  unfold Vc.tick Vc.fade Vc.wave
                  rw [if_pos h1, if_neg h2]
                  dsimp only
                  rw [if_pos ⟨h3, h4⟩, if_neg h5]
                have ht := et.symm.trans HTB.out
                rw [Vc.mk.injEq] at ht
                obtain ⟨rfl, rfl, rfl, rfl, rfl, rfl⟩ := ht
                clear et
                have dd1 : decide (0 < pb) = true := decide_eq_true (by omega)
                have dd2 : decide (pb ≤ cb + 1) = false := decide_eq_false (by omega)
                have ww1 : wrap64 (cb + 1) = cb + 1 := IntWalk.wrap64_in _ (by omega)
                have dd3 : decide (0 < rb) = true := decide_eq_true (by omega)
                have dd4 : decide (0 < vb) = true := decide_eq_true (by omega)
                have dd5 : decide (64 * rb ≤ gb + 1) = false := decide_eq_false (by omega)
                have ww3 : wrap64 (gb + 1) = gb + 1 := IntWalk.wrap64_in _ (by omega)
                have ww4 : wrap64 (64 * rb) = 64 * rb := IntWalk.wrap64_in _ (by omega)
                obtain ⟨s0, s1, _, _⟩ := dcells2 nx
                have e0 := rowB_cell hr 6 (v := .int .i64 (pb)) rfl
                have z0 := rowB_free hr 6
                have e1 := rowB_cell hr 7 (v := .int .i64 (vb)) rfl
                have z1 := rowB_free hr 7
                have e2 := rowB_cell hr 8 (v := .int .i64 (rb)) rfl
                have z2 := rowB_free hr 8
                have e3 := rowB_cell hr 9 (v := .int .i64 (cb)) rfl
                have z3 := rowB_free hr 9
                have e4 := rowB_cell hr 10 (v := .int .i64 (fb)) rfl
                have z4 := rowB_free hr 10
                have e5 := rowB_cell hr 11 (v := .int .i64 (gb)) rfl
                have z5 := rowB_free hr 11
                go_upto_region 27 with (fail)
                clear e0 z0 e1 z1 e2 z2 e3 z3 e4 z4 e5 z5
                clear s0 s1
                replace nx := rowB_other nx ⟨g, 9, none⟩ (.int .i64 (cb + 1)) (show g ≠ x by omega)
                replace hr : rowB _ g 3 #[.int .i64 (ta0), .int .i64 (ta1), .int .i64 (ta2), .int .i64 (ta3), .int .i64 (ta4), .int .i64 (ta5), .int .i64 (pb), .int .i64 (vb), .int .i64 (rb), .int .i64 (cb + 1), .int .i64 (fb), .int .i64 (gb)] := rowB_set hr 9 (.int .i64 (cb + 1))
                replace hb := Below.setCell hb (p := ⟨g, 9, none⟩) (show w.heap.size + 3 ≤ g by omega) (.int .i64 (cb + 1))
                change Code.wp _ _ _ _ (wr.setCell ⟨g, 9, none⟩ (.int .i64 (cb + 1)))
                generalize (wr.setCell ⟨g, 9, none⟩ (.int .i64 (cb + 1))) = wa at *
                have e0 := rowB_cell hr 6 (v := .int .i64 (pb)) rfl
                have z0 := rowB_free hr 6
                have e1 := rowB_cell hr 7 (v := .int .i64 (vb)) rfl
                have z1 := rowB_free hr 7
                have e2 := rowB_cell hr 8 (v := .int .i64 (rb)) rfl
                have z2 := rowB_free hr 8
                have e3 := rowB_cell hr 9 (v := .int .i64 (cb + 1)) rfl
                have z3 := rowB_free hr 9
                have e4 := rowB_cell hr 10 (v := .int .i64 (fb)) rfl
                have z4 := rowB_free hr 10
                have e5 := rowB_cell hr 11 (v := .int .i64 (gb)) rfl
                have z5 := rowB_free hr 11
                go_quiet (fail)
                replace nx := rowB_below nx (below_drewN wa nq _) (rowB_lt nx)
                replace hr := rowB_below hr (below_drewN wa nq _) (rowB_lt hr)
                replace hb := hb.trans (below_drewN wa nq _)
                generalize wa.drewN nq = wb at *
                clear e0 z0 e1 z1 e2 z2 e3 z3 e4 z4 e5 z5
                obtain ⟨s0, s1, _, _⟩ := dcells2 nx
                have e0 := rowB_cell hr 6 (v := .int .i64 (pb)) rfl
                have z0 := rowB_free hr 6
                have e1 := rowB_cell hr 7 (v := .int .i64 (vb)) rfl
                have z1 := rowB_free hr 7
                have e2 := rowB_cell hr 8 (v := .int .i64 (rb)) rfl
                have z2 := rowB_free hr 8
                have e3 := rowB_cell hr 9 (v := .int .i64 (cb + 1)) rfl
                have z3 := rowB_free hr 9
                have e4 := rowB_cell hr 10 (v := .int .i64 (fb)) rfl
                have z4 := rowB_free hr 10
                have e5 := rowB_cell hr 11 (v := .int .i64 (gb)) rfl
                have z5 := rowB_free hr 11
                go_upto_region 29 with (fail)
                go_upto_region 31 with (fail)
                clear e0 z0 e1 z1 e2 z2 e3 z3 e4 z4 e5 z5
                clear s0 s1
                replace nx := rowB_other nx ⟨g, 11, none⟩ (.int .i64 (gb + 1)) (show g ≠ x by omega)
                replace hr : rowB _ g 3 #[.int .i64 (ta0), .int .i64 (ta1), .int .i64 (ta2), .int .i64 (ta3), .int .i64 (ta4), .int .i64 (ta5), .int .i64 (pb), .int .i64 (vb), .int .i64 (rb), .int .i64 (cb + 1), .int .i64 (fb), .int .i64 (gb + 1)] := rowB_set hr 11 (.int .i64 (gb + 1))
                replace hb := Below.setCell hb (p := ⟨g, 11, none⟩) (show w.heap.size + 3 ≤ g by omega) (.int .i64 (gb + 1))
                change Code.wp _ _ _ _ (wb.setCell ⟨g, 11, none⟩ (.int .i64 (gb + 1)))
                generalize (wb.setCell ⟨g, 11, none⟩ (.int .i64 (gb + 1))) = wd at *
                have e0 := rowB_cell hr 6 (v := .int .i64 (pb)) rfl
                have z0 := rowB_free hr 6
                have e1 := rowB_cell hr 7 (v := .int .i64 (vb)) rfl
                have z1 := rowB_free hr 7
                have e2 := rowB_cell hr 8 (v := .int .i64 (rb)) rfl
                have z2 := rowB_free hr 8
                have e3 := rowB_cell hr 9 (v := .int .i64 (cb + 1)) rfl
                have z3 := rowB_free hr 9
                have e4 := rowB_cell hr 10 (v := .int .i64 (fb)) rfl
                have z4 := rowB_free hr 10
                have e5 := rowB_cell hr 11 (v := .int .i64 (gb + 1)) rfl
                have z5 := rowB_free hr 11
                go_quiet (fail)
                replace nx := rowB_below nx (below_drewN wd nq _) (rowB_lt nx)
                replace hr := rowB_below hr (below_drewN wd nq _) (rowB_lt hr)
                replace hb := hb.trans (below_drewN wd nq _)
                generalize wd.drewN nq = we at *
                clear e0 z0 e1 z1 e2 z2 e3 z3 e4 z4 e5 z5
                obtain ⟨s0, s1, _, _⟩ := dcells2 nx
                have e0 := rowB_cell hr 6 (v := .int .i64 (pb)) rfl
                have z0 := rowB_free hr 6
                have e1 := rowB_cell hr 7 (v := .int .i64 (vb)) rfl
                have z1 := rowB_free hr 7
                have e2 := rowB_cell hr 8 (v := .int .i64 (rb)) rfl
                have z2 := rowB_free hr 8
                have e3 := rowB_cell hr 9 (v := .int .i64 (cb + 1)) rfl
                have z3 := rowB_free hr 9
                have e4 := rowB_cell hr 10 (v := .int .i64 (fb)) rfl
                have z4 := rowB_free hr 10
                have e5 := rowB_cell hr 11 (v := .int .i64 (gb + 1)) rfl
                have z5 := rowB_free hr 11
                go_wp2_with fail
                go_roundw
                case rel => exact ⟨2, by omega, rfl, hr, nx, hb⟩
                case measure => simp [intOf]
            · have et : Vc.tick ⟨pb, vb, rb, cb, fb, gb⟩ = ⟨pb, vb, rb, cb + 1, fb, gb⟩ := by
                unfold Vc.tick Vc.fade Vc.wave
                rw [if_pos h1, if_neg h2]
                dsimp only
                rw [if_neg (fun q => h4 q.2)]
              have ht := et.symm.trans HTB.out
              rw [Vc.mk.injEq] at ht
              obtain ⟨rfl, rfl, rfl, rfl, rfl, rfl⟩ := ht
              clear et
              have dd1 : decide (0 < pb) = true := decide_eq_true (by omega)
              have dd2 : decide (pb ≤ cb + 1) = false := decide_eq_false (by omega)
              have ww1 : wrap64 (cb + 1) = cb + 1 := IntWalk.wrap64_in _ (by omega)
              have dd3 : decide (0 < rb) = true := decide_eq_true (by omega)
              have dd4 : decide (0 < vb) = false := decide_eq_false (by omega)
              obtain ⟨s0, s1, _, _⟩ := dcells2 nx
              have e0 := rowB_cell hr 6 (v := .int .i64 (pb)) rfl
              have z0 := rowB_free hr 6
              have e1 := rowB_cell hr 7 (v := .int .i64 (vb)) rfl
              have z1 := rowB_free hr 7
              have e2 := rowB_cell hr 8 (v := .int .i64 (rb)) rfl
              have z2 := rowB_free hr 8
              have e3 := rowB_cell hr 9 (v := .int .i64 (cb)) rfl
              have z3 := rowB_free hr 9
              have e4 := rowB_cell hr 10 (v := .int .i64 (fb)) rfl
              have z4 := rowB_free hr 10
              have e5 := rowB_cell hr 11 (v := .int .i64 (gb)) rfl
              have z5 := rowB_free hr 11
              go_upto_region 27 with (fail)
              clear e0 z0 e1 z1 e2 z2 e3 z3 e4 z4 e5 z5
              clear s0 s1
              replace nx := rowB_other nx ⟨g, 9, none⟩ (.int .i64 (cb + 1)) (show g ≠ x by omega)
              replace hr : rowB _ g 3 #[.int .i64 (ta0), .int .i64 (ta1), .int .i64 (ta2), .int .i64 (ta3), .int .i64 (ta4), .int .i64 (ta5), .int .i64 (pb), .int .i64 (vb), .int .i64 (rb), .int .i64 (cb + 1), .int .i64 (fb), .int .i64 (gb)] := rowB_set hr 9 (.int .i64 (cb + 1))
              replace hb := Below.setCell hb (p := ⟨g, 9, none⟩) (show w.heap.size + 3 ≤ g by omega) (.int .i64 (cb + 1))
              change Code.wp _ _ _ _ (wr.setCell ⟨g, 9, none⟩ (.int .i64 (cb + 1)))
              generalize (wr.setCell ⟨g, 9, none⟩ (.int .i64 (cb + 1))) = wa at *
              have e0 := rowB_cell hr 6 (v := .int .i64 (pb)) rfl
              have z0 := rowB_free hr 6
              have e1 := rowB_cell hr 7 (v := .int .i64 (vb)) rfl
              have z1 := rowB_free hr 7
              have e2 := rowB_cell hr 8 (v := .int .i64 (rb)) rfl
              have z2 := rowB_free hr 8
              have e3 := rowB_cell hr 9 (v := .int .i64 (cb + 1)) rfl
              have z3 := rowB_free hr 9
              have e4 := rowB_cell hr 10 (v := .int .i64 (fb)) rfl
              have z4 := rowB_free hr 10
              have e5 := rowB_cell hr 11 (v := .int .i64 (gb)) rfl
              have z5 := rowB_free hr 11
              go_quiet (fail)
              replace nx := rowB_below nx (below_drewN wa nq _) (rowB_lt nx)
              replace hr := rowB_below hr (below_drewN wa nq _) (rowB_lt hr)
              replace hb := hb.trans (below_drewN wa nq _)
              generalize wa.drewN nq = wb at *
              clear e0 z0 e1 z1 e2 z2 e3 z3 e4 z4 e5 z5
              obtain ⟨s0, s1, _, _⟩ := dcells2 nx
              have e0 := rowB_cell hr 6 (v := .int .i64 (pb)) rfl
              have z0 := rowB_free hr 6
              have e1 := rowB_cell hr 7 (v := .int .i64 (vb)) rfl
              have z1 := rowB_free hr 7
              have e2 := rowB_cell hr 8 (v := .int .i64 (rb)) rfl
              have z2 := rowB_free hr 8
              have e3 := rowB_cell hr 9 (v := .int .i64 (cb + 1)) rfl
              have z3 := rowB_free hr 9
              have e4 := rowB_cell hr 10 (v := .int .i64 (fb)) rfl
              have z4 := rowB_free hr 10
              have e5 := rowB_cell hr 11 (v := .int .i64 (gb)) rfl
              have z5 := rowB_free hr 11
              go_upto_region 29 with (fail)
              go_wp2_with fail
              go_roundw
              case rel => exact ⟨2, by omega, rfl, hr, nx, hb⟩
              case measure => simp [intOf]
          · have et : Vc.tick ⟨pb, vb, rb, cb, fb, gb⟩ = ⟨pb, vb, rb, cb + 1, fb, gb⟩ := by
              unfold Vc.tick Vc.fade Vc.wave
              rw [if_pos h1, if_neg h2]
              dsimp only
              rw [if_neg (fun q => h3 q.1)]
            have ht := et.symm.trans HTB.out
            rw [Vc.mk.injEq] at ht
            obtain ⟨rfl, rfl, rfl, rfl, rfl, rfl⟩ := ht
            clear et
            have dd1 : decide (0 < pb) = true := decide_eq_true (by omega)
            have dd2 : decide (pb ≤ cb + 1) = false := decide_eq_false (by omega)
            have ww1 : wrap64 (cb + 1) = cb + 1 := IntWalk.wrap64_in _ (by omega)
            have dd3 : decide (0 < rb) = false := decide_eq_false (by omega)
            obtain ⟨s0, s1, _, _⟩ := dcells2 nx
            have e0 := rowB_cell hr 6 (v := .int .i64 (pb)) rfl
            have z0 := rowB_free hr 6
            have e1 := rowB_cell hr 7 (v := .int .i64 (vb)) rfl
            have z1 := rowB_free hr 7
            have e2 := rowB_cell hr 8 (v := .int .i64 (rb)) rfl
            have z2 := rowB_free hr 8
            have e3 := rowB_cell hr 9 (v := .int .i64 (cb)) rfl
            have z3 := rowB_free hr 9
            have e4 := rowB_cell hr 10 (v := .int .i64 (fb)) rfl
            have z4 := rowB_free hr 10
            have e5 := rowB_cell hr 11 (v := .int .i64 (gb)) rfl
            have z5 := rowB_free hr 11
            go_upto_region 27 with (fail)
            clear e0 z0 e1 z1 e2 z2 e3 z3 e4 z4 e5 z5
            clear s0 s1
            replace nx := rowB_other nx ⟨g, 9, none⟩ (.int .i64 (cb + 1)) (show g ≠ x by omega)
            replace hr : rowB _ g 3 #[.int .i64 (ta0), .int .i64 (ta1), .int .i64 (ta2), .int .i64 (ta3), .int .i64 (ta4), .int .i64 (ta5), .int .i64 (pb), .int .i64 (vb), .int .i64 (rb), .int .i64 (cb + 1), .int .i64 (fb), .int .i64 (gb)] := rowB_set hr 9 (.int .i64 (cb + 1))
            replace hb := Below.setCell hb (p := ⟨g, 9, none⟩) (show w.heap.size + 3 ≤ g by omega) (.int .i64 (cb + 1))
            change Code.wp _ _ _ _ (wr.setCell ⟨g, 9, none⟩ (.int .i64 (cb + 1)))
            generalize (wr.setCell ⟨g, 9, none⟩ (.int .i64 (cb + 1))) = wa at *
            have e0 := rowB_cell hr 6 (v := .int .i64 (pb)) rfl
            have z0 := rowB_free hr 6
            have e1 := rowB_cell hr 7 (v := .int .i64 (vb)) rfl
            have z1 := rowB_free hr 7
            have e2 := rowB_cell hr 8 (v := .int .i64 (rb)) rfl
            have z2 := rowB_free hr 8
            have e3 := rowB_cell hr 9 (v := .int .i64 (cb + 1)) rfl
            have z3 := rowB_free hr 9
            have e4 := rowB_cell hr 10 (v := .int .i64 (fb)) rfl
            have z4 := rowB_free hr 10
            have e5 := rowB_cell hr 11 (v := .int .i64 (gb)) rfl
            have z5 := rowB_free hr 11
            go_quiet (fail)
            replace nx := rowB_below nx (below_drewN wa nq _) (rowB_lt nx)
            replace hr := rowB_below hr (below_drewN wa nq _) (rowB_lt hr)
            replace hb := hb.trans (below_drewN wa nq _)
            generalize wa.drewN nq = wb at *
            clear e0 z0 e1 z1 e2 z2 e3 z3 e4 z4 e5 z5
            obtain ⟨s0, s1, _, _⟩ := dcells2 nx
            have e0 := rowB_cell hr 6 (v := .int .i64 (pb)) rfl
            have z0 := rowB_free hr 6
            have e1 := rowB_cell hr 7 (v := .int .i64 (vb)) rfl
            have z1 := rowB_free hr 7
            have e2 := rowB_cell hr 8 (v := .int .i64 (rb)) rfl
            have z2 := rowB_free hr 8
            have e3 := rowB_cell hr 9 (v := .int .i64 (cb + 1)) rfl
            have z3 := rowB_free hr 9
            have e4 := rowB_cell hr 10 (v := .int .i64 (fb)) rfl
            have z4 := rowB_free hr 10
            have e5 := rowB_cell hr 11 (v := .int .i64 (gb)) rfl
            have z5 := rowB_free hr 11
            go_upto_region 29 with (fail)
            go_wp2_with fail
            go_roundw
            case rel => exact ⟨2, by omega, rfl, hr, nx, hb⟩
            case measure => simp [intOf]
      · by_cases h3 : 0 < rb
        · by_cases h4 : 0 < vb
          · by_cases h5 : 64 * rb ≤ gb + 1
            · have et : Vc.tick ⟨pb, vb, rb, cb, fb, gb⟩ = ⟨pb, vb - 1, rb, cb, fb, 0⟩ := by
                unfold Vc.tick Vc.fade Vc.wave
                rw [if_neg h1]
                dsimp only
                rw [if_pos ⟨h3, h4⟩, if_pos h5]
              have ht := et.symm.trans HTB.out
              rw [Vc.mk.injEq] at ht
              obtain ⟨rfl, rfl, rfl, rfl, rfl, rfl⟩ := ht
              clear et
              have dd1 : decide (0 < pb) = false := decide_eq_false (by omega)
              have dd3 : decide (0 < rb) = true := decide_eq_true (by omega)
              have dd4 : decide (0 < vb) = true := decide_eq_true (by omega)
              have dd5 : decide (64 * rb ≤ gb + 1) = true := decide_eq_true (by omega)
              have ww3 : wrap64 (gb + 1) = gb + 1 := IntWalk.wrap64_in _ (by omega)
              have ww4 : wrap64 (64 * rb) = 64 * rb := IntWalk.wrap64_in _ (by omega)
              have ww5 : wrap64 (vb - 1) = vb - 1 := IntWalk.wrap64_in _ (by omega)
              obtain ⟨s0, s1, _, _⟩ := dcells2 nx
              have e0 := rowB_cell hr 6 (v := .int .i64 (pb)) rfl
              have z0 := rowB_free hr 6
              have e1 := rowB_cell hr 7 (v := .int .i64 (vb)) rfl
              have z1 := rowB_free hr 7
              have e2 := rowB_cell hr 8 (v := .int .i64 (rb)) rfl
              have z2 := rowB_free hr 8
              have e3 := rowB_cell hr 9 (v := .int .i64 (cb)) rfl
              have z3 := rowB_free hr 9
              have e4 := rowB_cell hr 10 (v := .int .i64 (fb)) rfl
              have z4 := rowB_free hr 10
              have e5 := rowB_cell hr 11 (v := .int .i64 (gb)) rfl
              have z5 := rowB_free hr 11
              go_upto_region 31 with (fail)
              clear e0 z0 e1 z1 e2 z2 e3 z3 e4 z4 e5 z5
              clear s0 s1
              replace nx := rowB_other nx ⟨g, 11, none⟩ (.int .i64 (gb + 1)) (show g ≠ x by omega)
              replace hr : rowB _ g 3 #[.int .i64 (ta0), .int .i64 (ta1), .int .i64 (ta2), .int .i64 (ta3), .int .i64 (ta4), .int .i64 (ta5), .int .i64 (pb), .int .i64 (vb), .int .i64 (rb), .int .i64 (cb), .int .i64 (fb), .int .i64 (gb + 1)] := rowB_set hr 11 (.int .i64 (gb + 1))
              replace hb := Below.setCell hb (p := ⟨g, 11, none⟩) (show w.heap.size + 3 ≤ g by omega) (.int .i64 (gb + 1))
              change Code.wp _ _ _ _ (wr.setCell ⟨g, 11, none⟩ (.int .i64 (gb + 1)))
              generalize (wr.setCell ⟨g, 11, none⟩ (.int .i64 (gb + 1))) = wd at *
              have e0 := rowB_cell hr 6 (v := .int .i64 (pb)) rfl
              have z0 := rowB_free hr 6
              have e1 := rowB_cell hr 7 (v := .int .i64 (vb)) rfl
              have z1 := rowB_free hr 7
              have e2 := rowB_cell hr 8 (v := .int .i64 (rb)) rfl
              have z2 := rowB_free hr 8
              have e3 := rowB_cell hr 9 (v := .int .i64 (cb)) rfl
              have z3 := rowB_free hr 9
              have e4 := rowB_cell hr 10 (v := .int .i64 (fb)) rfl
              have z4 := rowB_free hr 10
              have e5 := rowB_cell hr 11 (v := .int .i64 (gb + 1)) rfl
              have z5 := rowB_free hr 11
              go_quiet (fail)
              replace nx := rowB_below nx (below_drewN wd nq _) (rowB_lt nx)
              replace hr := rowB_below hr (below_drewN wd nq _) (rowB_lt hr)
              replace hb := hb.trans (below_drewN wd nq _)
              generalize wd.drewN nq = we at *
              clear e0 z0 e1 z1 e2 z2 e3 z3 e4 z4 e5 z5
              obtain ⟨s0, s1, _, _⟩ := dcells2 nx
              have e0 := rowB_cell hr 6 (v := .int .i64 (pb)) rfl
              have z0 := rowB_free hr 6
              have e1 := rowB_cell hr 7 (v := .int .i64 (vb)) rfl
              have z1 := rowB_free hr 7
              have e2 := rowB_cell hr 8 (v := .int .i64 (rb)) rfl
              have z2 := rowB_free hr 8
              have e3 := rowB_cell hr 9 (v := .int .i64 (cb)) rfl
              have z3 := rowB_free hr 9
              have e4 := rowB_cell hr 10 (v := .int .i64 (fb)) rfl
              have z4 := rowB_free hr 10
              have e5 := rowB_cell hr 11 (v := .int .i64 (gb + 1)) rfl
              have z5 := rowB_free hr 11
              go_upto_region 33 with (fail)
              clear e0 z0 e1 z1 e2 z2 e3 z3 e4 z4 e5 z5
              clear s0 s1
              replace nx := rowB_other nx ⟨g, 11, none⟩ (.int .i64 (0)) (show g ≠ x by omega)
              replace hr : rowB _ g 3 #[.int .i64 (ta0), .int .i64 (ta1), .int .i64 (ta2), .int .i64 (ta3), .int .i64 (ta4), .int .i64 (ta5), .int .i64 (pb), .int .i64 (vb), .int .i64 (rb), .int .i64 (cb), .int .i64 (fb), .int .i64 (0)] := rowB_set hr 11 (.int .i64 (0))
              replace hb := Below.setCell hb (p := ⟨g, 11, none⟩) (show w.heap.size + 3 ≤ g by omega) (.int .i64 (0))
              replace nx := rowB_other nx ⟨g, 7, none⟩ (.int .i64 (vb - 1)) (show g ≠ x by omega)
              replace hr : rowB _ g 3 #[.int .i64 (ta0), .int .i64 (ta1), .int .i64 (ta2), .int .i64 (ta3), .int .i64 (ta4), .int .i64 (ta5), .int .i64 (pb), .int .i64 (vb - 1), .int .i64 (rb), .int .i64 (cb), .int .i64 (fb), .int .i64 (0)] := rowB_set hr 7 (.int .i64 (vb - 1))
              replace hb := Below.setCell hb (p := ⟨g, 7, none⟩) (show w.heap.size + 3 ≤ g by omega) (.int .i64 (vb - 1))
              change Code.wp _ _ _ _ ((we.setCell ⟨g, 11, none⟩ (.int .i64 (0))).setCell ⟨g, 7, none⟩ (.int .i64 (vb - 1)))
              generalize ((we.setCell ⟨g, 11, none⟩ (.int .i64 (0))).setCell ⟨g, 7, none⟩ (.int .i64 (vb - 1))) = wh at *
              go_wp2_with fail
              go_roundw
              case rel => exact ⟨2, by omega, rfl, hr, nx, hb⟩
              case measure => simp [intOf]
            · have et : Vc.tick ⟨pb, vb, rb, cb, fb, gb⟩ = ⟨pb, vb, rb, cb, fb, gb + 1⟩ := by
                unfold Vc.tick Vc.fade Vc.wave
                rw [if_neg h1]
                dsimp only
                rw [if_pos ⟨h3, h4⟩, if_neg h5]
              have ht := et.symm.trans HTB.out
              rw [Vc.mk.injEq] at ht
              obtain ⟨rfl, rfl, rfl, rfl, rfl, rfl⟩ := ht
              clear et
              have dd1 : decide (0 < pb) = false := decide_eq_false (by omega)
              have dd3 : decide (0 < rb) = true := decide_eq_true (by omega)
              have dd4 : decide (0 < vb) = true := decide_eq_true (by omega)
              have dd5 : decide (64 * rb ≤ gb + 1) = false := decide_eq_false (by omega)
              have ww3 : wrap64 (gb + 1) = gb + 1 := IntWalk.wrap64_in _ (by omega)
              have ww4 : wrap64 (64 * rb) = 64 * rb := IntWalk.wrap64_in _ (by omega)
              obtain ⟨s0, s1, _, _⟩ := dcells2 nx
              have e0 := rowB_cell hr 6 (v := .int .i64 (pb)) rfl
              have z0 := rowB_free hr 6
              have e1 := rowB_cell hr 7 (v := .int .i64 (vb)) rfl
              have z1 := rowB_free hr 7
              have e2 := rowB_cell hr 8 (v := .int .i64 (rb)) rfl
              have z2 := rowB_free hr 8
              have e3 := rowB_cell hr 9 (v := .int .i64 (cb)) rfl
              have z3 := rowB_free hr 9
              have e4 := rowB_cell hr 10 (v := .int .i64 (fb)) rfl
              have z4 := rowB_free hr 10
              have e5 := rowB_cell hr 11 (v := .int .i64 (gb)) rfl
              have z5 := rowB_free hr 11
              go_upto_region 31 with (fail)
              clear e0 z0 e1 z1 e2 z2 e3 z3 e4 z4 e5 z5
              clear s0 s1
              replace nx := rowB_other nx ⟨g, 11, none⟩ (.int .i64 (gb + 1)) (show g ≠ x by omega)
              replace hr : rowB _ g 3 #[.int .i64 (ta0), .int .i64 (ta1), .int .i64 (ta2), .int .i64 (ta3), .int .i64 (ta4), .int .i64 (ta5), .int .i64 (pb), .int .i64 (vb), .int .i64 (rb), .int .i64 (cb), .int .i64 (fb), .int .i64 (gb + 1)] := rowB_set hr 11 (.int .i64 (gb + 1))
              replace hb := Below.setCell hb (p := ⟨g, 11, none⟩) (show w.heap.size + 3 ≤ g by omega) (.int .i64 (gb + 1))
              change Code.wp _ _ _ _ (wr.setCell ⟨g, 11, none⟩ (.int .i64 (gb + 1)))
              generalize (wr.setCell ⟨g, 11, none⟩ (.int .i64 (gb + 1))) = wd at *
              have e0 := rowB_cell hr 6 (v := .int .i64 (pb)) rfl
              have z0 := rowB_free hr 6
              have e1 := rowB_cell hr 7 (v := .int .i64 (vb)) rfl
              have z1 := rowB_free hr 7
              have e2 := rowB_cell hr 8 (v := .int .i64 (rb)) rfl
              have z2 := rowB_free hr 8
              have e3 := rowB_cell hr 9 (v := .int .i64 (cb)) rfl
              have z3 := rowB_free hr 9
              have e4 := rowB_cell hr 10 (v := .int .i64 (fb)) rfl
              have z4 := rowB_free hr 10
              have e5 := rowB_cell hr 11 (v := .int .i64 (gb + 1)) rfl
              have z5 := rowB_free hr 11
              go_quiet (fail)
              replace nx := rowB_below nx (below_drewN wd nq _) (rowB_lt nx)
              replace hr := rowB_below hr (below_drewN wd nq _) (rowB_lt hr)
              replace hb := hb.trans (below_drewN wd nq _)
              generalize wd.drewN nq = we at *
              clear e0 z0 e1 z1 e2 z2 e3 z3 e4 z4 e5 z5
              obtain ⟨s0, s1, _, _⟩ := dcells2 nx
              have e0 := rowB_cell hr 6 (v := .int .i64 (pb)) rfl
              have z0 := rowB_free hr 6
              have e1 := rowB_cell hr 7 (v := .int .i64 (vb)) rfl
              have z1 := rowB_free hr 7
              have e2 := rowB_cell hr 8 (v := .int .i64 (rb)) rfl
              have z2 := rowB_free hr 8
              have e3 := rowB_cell hr 9 (v := .int .i64 (cb)) rfl
              have z3 := rowB_free hr 9
              have e4 := rowB_cell hr 10 (v := .int .i64 (fb)) rfl
              have z4 := rowB_free hr 10
              have e5 := rowB_cell hr 11 (v := .int .i64 (gb + 1)) rfl
              have z5 := rowB_free hr 11
              go_wp2_with fail
              go_roundw
              case rel => exact ⟨2, by omega, rfl, hr, nx, hb⟩
              case measure => simp [intOf]
          · have et : Vc.tick ⟨pb, vb, rb, cb, fb, gb⟩ = ⟨pb, vb, rb, cb, fb, gb⟩ := by
              unfold Vc.tick Vc.fade Vc.wave
              rw [if_neg h1]
              dsimp only
              rw [if_neg (fun q => h4 q.2)]
            have ht := et.symm.trans HTB.out
            rw [Vc.mk.injEq] at ht
            obtain ⟨rfl, rfl, rfl, rfl, rfl, rfl⟩ := ht
            clear et
            have dd1 : decide (0 < pb) = false := decide_eq_false (by omega)
            have dd3 : decide (0 < rb) = true := decide_eq_true (by omega)
            have dd4 : decide (0 < vb) = false := decide_eq_false (by omega)
            obtain ⟨s0, s1, _, _⟩ := dcells2 nx
            have e0 := rowB_cell hr 6 (v := .int .i64 (pb)) rfl
            have z0 := rowB_free hr 6
            have e1 := rowB_cell hr 7 (v := .int .i64 (vb)) rfl
            have z1 := rowB_free hr 7
            have e2 := rowB_cell hr 8 (v := .int .i64 (rb)) rfl
            have z2 := rowB_free hr 8
            have e3 := rowB_cell hr 9 (v := .int .i64 (cb)) rfl
            have z3 := rowB_free hr 9
            have e4 := rowB_cell hr 10 (v := .int .i64 (fb)) rfl
            have z4 := rowB_free hr 10
            have e5 := rowB_cell hr 11 (v := .int .i64 (gb)) rfl
            have z5 := rowB_free hr 11
            go_wp2_with fail
            go_roundw
            case rel => exact ⟨2, by omega, rfl, hr, nx, hb⟩
            case measure => simp [intOf]
        · have et : Vc.tick ⟨pb, vb, rb, cb, fb, gb⟩ = ⟨pb, vb, rb, cb, fb, gb⟩ := by
            unfold Vc.tick Vc.fade Vc.wave
            rw [if_neg h1]
            dsimp only
            rw [if_neg (fun q => h3 q.1)]
          have ht := et.symm.trans HTB.out
          rw [Vc.mk.injEq] at ht
          obtain ⟨rfl, rfl, rfl, rfl, rfl, rfl⟩ := ht
          clear et
          have dd1 : decide (0 < pb) = false := decide_eq_false (by omega)
          have dd3 : decide (0 < rb) = false := decide_eq_false (by omega)
          obtain ⟨s0, s1, _, _⟩ := dcells2 nx
          have e0 := rowB_cell hr 6 (v := .int .i64 (pb)) rfl
          have z0 := rowB_free hr 6
          have e1 := rowB_cell hr 7 (v := .int .i64 (vb)) rfl
          have z1 := rowB_free hr 7
          have e2 := rowB_cell hr 8 (v := .int .i64 (rb)) rfl
          have z2 := rowB_free hr 8
          have e3 := rowB_cell hr 9 (v := .int .i64 (cb)) rfl
          have z3 := rowB_free hr 9
          have e4 := rowB_cell hr 10 (v := .int .i64 (fb)) rfl
          have z4 := rowB_free hr 10
          have e5 := rowB_cell hr 11 (v := .int .i64 (gb)) rfl
          have z5 := rowB_free hr 11
          go_wp2_with fail
          go_roundw
          case rel => exact ⟨2, by omega, rfl, hr, nx, hb⟩
          case measure => simp [intOf]
    · replace hr : rowB wr g 3 #[.int .i64 ta0, .int .i64 ta1, .int .i64 ta2, .int .i64 ta3, .int .i64 ta4, .int .i64 ta5, .int .i64 tb0, .int .i64 tb1, .int .i64 tb2, .int .i64 tb3, .int .i64 tb4, .int .i64 tb5] := hr
      have r1 := rowB_below q1 hb (by omega)
      have r2 := rowB_below q2 hb (by omega)
      have rg := hr
      have bY := bX.trans (hb.mono (by omega))
      clear hr
      go_wp2_with (first
        | (refine wpList_loadR rfl 27 _ rfl (w.heap.size + 1) rfl 27 #[.slice (some ⟨g, 0, none⟩) 12 12, .slice none 0 0] ?_ agDv ?_; with_reducible exact r1)
        | (refine wpList_storeR rfl 27 _ _ rfl (w.heap.size + 2) rfl #[.slice (some ⟨g, 0, none⟩) 12 12, .slice none 0 0] rfl (dev2_one _ _ _ _ _ _) 27 #[.slice none 0 0, .slice none 0 0] rfl ?_ agDv ?_; with_reducible exact r2))
      refine bodyPost_ret (resultsR rfl (w.heap.size + 2) _ rfl (rowB_row r2 _) agDv) rfl ?_
      exact ⟨_, rfl, ⟨g, rfl, by omega, by rw [HT.out]; exact rowB_row_other rg _ (show (w.heap.size + 2) ≠ g by omega)⟩, below_rowR bY _ (show w.heap.size ≤ (w.heap.size + 2) by omega)⟩
end Go.Proofs.YtakaebjojgeehaaGreat
