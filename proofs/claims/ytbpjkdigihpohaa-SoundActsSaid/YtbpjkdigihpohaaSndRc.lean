/- What the reference says of sound chips: Rests. -/
import Derived.Test.YtbpjkdigihpohaaChecked
import Derived.Test.YtbpjkdigihpohaaSndR
import Derived.Below
import Derived.BigQuiet
import Derived.ChangeMaps5
import Derived.Deep.DeepCutAuto
import Derived.Deep.Draws
import Derived.Deep.MidRow
import Derived.Deep.OwnRows
import Derived.Deep.QuietTactic
import Derived.Deep.RegionHeld3
import Derived.Deep.RegionWith
import Derived.Deep.Slices
import Derived.Deep.WholeRow
import Derived.Lib.Hide
import Derived.Lib.SmallJoins
import Derived.OpenShut
import Derived.OrdersHeld
import Derived.OwnWalk
import Derived.RowKit3
import Derived.StillTactics
import Derived.StillTail
import Derived.StillTailTactics
import Derived.WalkKit
namespace Go.Proofs.Ytbpjkdigihpohaa
open Go.RowKit
set_option maxRecDepth 100000

theorem vol_rate (v r : Int) (hv : 0 ≤ v ∧ v < 16) (hr : 0 ≤ r ∧ r < 256) : 0 ≤ v * r ∧ v * r < 4096 := ⟨Int.mul_nonneg hv.1 hr.1, by have := Int.mul_le_mul (show v ≤ 15 by omega) (show r ≤ 255 by omega) hr.1 (by decide); omega⟩
set_option maxHeartbeats 4000000 in
theorem restsSnd_any (nm : ByteArray) (b z : Int) (dat v vm : Value) (l : List Int) (w : World) (h : isArg w v l) :
    Calls Try.prog 18 #[.agg (chip5 nm 7 b z dat), .agg #[v, vm]] w fun e w' => e = .returned (.int .i64 (Sn.of l).next) ∧ Below w.heap.size w w' := by
  obtain ⟨k0, k1, bW, sW⟩ := boxes2 w (.cells #[.string nm, .int .i64 7, .int .i64 b, .int .i64 z, dat] 27) (.cells #[v, vm] 25)
  have k0 : rowB _ _ _ _ := k0
  have k1 : rowB _ _ _ _ := k1
  have h2 := isArg_below h bW (Nat.le_refl _)
  have hF := formedSnd_any nm b z dat v vm l _ h2
  rw [fmSnd] at hF
  have hfit := Sn.of_fit l
  generalize Sn.of l = s at *
  obtain ⟨⟨pa, va, ra, ca, fa, ga⟩, ⟨pb, vb, rb, cb, fb, gb⟩⟩ := s
  obtain ⟨⟨⟨b0, B0⟩, ⟨b1, B1⟩, ⟨b2, B2⟩, ⟨b3, B3⟩, ⟨b4, B4⟩, ⟨b5, B5⟩⟩, ⟨⟨b6, B6⟩, ⟨b7, B7⟩, ⟨b8, B8⟩, ⟨b9, B9⟩, ⟨b10, B10⟩, ⟨b11, B11⟩⟩⟩ := hfit
  dsimp only [Sn.ns, chip5] at *
  go_enter Try.func18, Try.ntmps18
  go_upto_region 2 with (first
    | (go_at_call 19; refine hF.mono ?_; rintro e w2 ⟨u, rfl, ⟨g, rfl, hg, hr⟩, hb⟩; have q0 := rowB_below k0 hb (rowB_lt k0); have q1 := rowB_below k1 hb (rowB_lt k1); rw [sW] at hg; have bX := bW.trans (hb.mono bW.size))
    | (refine wpList_storeR rfl 25 _ _ rfl (w.heap.size + 1) rfl #[.slice (some ⟨g, 0, none⟩) 12 12, .slice none 0 0] rfl (dev2_one _ _ _ _ _ _) 25 #[v, vm] rfl ?_ agDv ?_; with_reducible exact q1))
  replace hr : rowB w2 g 3 #[.int .i64 pa, .int .i64 va, .int .i64 ra, .int .i64 ca, .int .i64 fa, .int .i64 ga, .int .i64 pb, .int .i64 vb, .int .i64 rb, .int .i64 cb, .int .i64 fb, .int .i64 gb] := hr
  replace q0 := rowB_row_other q0 #[.slice (some ⟨g, 0, none⟩) 12 12, .slice none 0 0] (show w.heap.size + 1 ≠ w.heap.size by omega)
  replace hr := rowB_row_other hr #[.slice (some ⟨g, 0, none⟩) 12 12, .slice none 0 0] (show w.heap.size + 1 ≠ g by omega)
  replace q1 := rowB_row q1 #[.slice (some ⟨g, 0, none⟩) 12 12, .slice none 0 0]
  replace bX := below_rowR bX #[.slice (some ⟨g, 0, none⟩) 12 12, .slice none 0 0] (show w.heap.size ≤ w.heap.size + 1 by omega)
  generalize w2.setRow (w.heap.size + 1) #[.slice (some ⟨g, 0, none⟩) 12 12, .slice none 0 0] = w3 at *
  clear hb hF k0 k1 bW sW h2
  have hk := rowB_cell q0 1 (v := .int .i64 7) rfl
  obtain ⟨d0, d1, y0, y1⟩ := dcells2 q1
  have e0 := rowB_cell hr 0 (v := .int .i64 (pa)) rfl
  have z0 := rowB_free hr 0
  have e1 := rowB_cell hr 1 (v := .int .i64 (va)) rfl
  have z1 := rowB_free hr 1
  have e2 := rowB_cell hr 2 (v := .int .i64 (ra)) rfl
  have z2 := rowB_free hr 2
  have e3 := rowB_cell hr 3 (v := .int .i64 (ca)) rfl
  have z3 := rowB_free hr 3
  have e4 := rowB_cell hr 4 (v := .int .i64 (fa)) rfl
  have z4 := rowB_free hr 4
  have e5 := rowB_cell hr 5 (v := .int .i64 (ga)) rfl
  have z5 := rowB_free hr 5
  have e6 := rowB_cell hr 6 (v := .int .i64 (pb)) rfl
  have z6 := rowB_free hr 6
  have e7 := rowB_cell hr 7 (v := .int .i64 (vb)) rfl
  have z7 := rowB_free hr 7
  have e8 := rowB_cell hr 8 (v := .int .i64 (rb)) rfl
  have z8 := rowB_free hr 8
  have e9 := rowB_cell hr 9 (v := .int .i64 (cb)) rfl
  have z9 := rowB_free hr 9
  have e10 := rowB_cell hr 10 (v := .int .i64 (fb)) rfl
  have z10 := rowB_free hr 10
  have e11 := rowB_cell hr 11 (v := .int .i64 (gb)) rfl
  have z11 := rowB_free hr 11
  have hS : True := trivial
  go_upto_region 19 with (fail)
  refine wp_region_mix (fun _ => True) [(0, 1), (2, 1), (6, 1), (1, 1), (3, 1), (4, 3), (5, 0)] (by kernel_rfl) (by kernel_rfl) (fun _ _ _ _ _ h => h) ?_
  simp only [List.map_cons, List.map_nil, opOf, List.getD_cons_zero, List.getD_cons_succ]
  change wpMix _ _ _ _ _ _ w3.drew
  replace q1 : rowB w3.drew _ _ _ := q1
  replace hr : rowB w3.drew _ _ _ := hr
  replace bX := bX.drew
  generalize w3.drew = w4 at *
  refine wpMix_held (.slice (some ⟨g, 0, none⟩) 12 12) rfl hS (fun w' hw' => by go_simp) ?_
  simp only [Act.put, List.setIfInBounds_toArray, List.set_cons_zero, List.set_cons_succ]
  refine wpMix_held (.slice (some ⟨g, 0, none⟩) 12 12) rfl hS (fun w' hw' => by go_simp) ?_
  simp only [Act.put, List.setIfInBounds_toArray, List.set_cons_zero, List.set_cons_succ]
  refine wpMix_held (.int .i64 0) rfl hS (fun w' hw' => by go_simp) ?_
  simp only [Act.put, List.setIfInBounds_toArray, List.set_cons_zero, List.set_cons_succ]
  refine wpMix_held (.slice (some ⟨g, 0, none⟩) 6 12) rfl hS (fun w' hw' => by go_simp) ?_
  simp only [Act.put, List.setIfInBounds_toArray, List.set_cons_zero, List.set_cons_succ]
  refine wpMix_held (.slice (some ⟨g, 6, none⟩) 6 6) rfl hS (fun w' hw' => by go_simp) ?_
  simp only [Act.put, List.setIfInBounds_toArray, List.set_cons_zero, List.set_cons_succ]
  refine wpMix_call ?_
  go_wp2_with fail
  first | refine ⟨fun _ => hS, ?_⟩ | refine ⟨hS, ?_⟩ | refine And.intro (fun _ => hS) ?_
  (refine wpMix_still (fun K hK => ?_); go_simp; refine hK _ ?_; clear hK K)
  refine wpMix_nil ?_
  have nx := rowB_new w4 22 #[.slice (some ⟨g, 0, none⟩) 6 12, .slice (some ⟨g, 6, none⟩) 6 6]
  have lx := rowB_lt hr
  replace q1 := rowB_alloc q1 (.cells #[.slice (some ⟨g, 0, none⟩) 6 12, .slice (some ⟨g, 6, none⟩) 6 6] 22)
  replace hr := rowB_alloc hr (.cells #[.slice (some ⟨g, 0, none⟩) 6 12, .slice (some ⟨g, 6, none⟩) 6 6] 22)
  replace bX := bX.alloc (by omega) (.cells #[.slice (some ⟨g, 0, none⟩) 6 12, .slice (some ⟨g, 6, none⟩) 6 6] 22)
  have hgx : g < w4.heap.size := lx
  clear lx
  change Exit.then _ _ _ _ (w4.alloc (.cells #[.slice (some ⟨g, 0, none⟩) 6 12, .slice (some ⟨g, 6, none⟩) 6 6] 22))
  generalize w4.alloc (.cells #[.slice (some ⟨g, 0, none⟩) 6 12, .slice (some ⟨g, 6, none⟩) 6 6] 22) = w5 at *
  generalize w4.heap.size = x at *
  clear e0 z0 e1 z1 e2 z2 e3 z3 e4 z4 e5 z5 e6 z6 e7 z7 e8 z8 e9 z9 e10 z10 e11 z11 d0 d1 y0 y1 hk q0
  obtain ⟨O1, hO1⟩ : ∃ O1, Vc.rest ⟨pa, va, ra, ca, fa, ga⟩ 100000 = O1 := ⟨_, rfl⟩
  obtain ⟨O2, hO2⟩ : ∃ O2, Vc.rest ⟨pb, vb, rb, cb, fb, gb⟩ O1 = O2 := ⟨_, rfl⟩
  have hT : (⟨⟨pa, va, ra, ca, fa, ga⟩, ⟨pb, vb, rb, cb, fb, gb⟩⟩ : Sn).next = O2 := by unfold Sn.next; dsimp only; rw [hO1, hO2]
  have HT := Lib.hid hT
  have HO1 := Lib.hid hO1
  have HO2 := Lib.hid hO2
  clear hT hO1 hO2
  go_wp2_with fail
  go_loopw [6, 13, 81] (fun o y i wr => ∃ k : Nat, k ≤ 2 ∧ i = .int .i64 k ∧ o = .int .i64 (if k = 0 then 100000 else if k = 1 then O1 else O2) ∧ Qt w5 wr) (fun _ _ i _ => 2 - (intOf i).toNat)
  case atStart => exact ⟨0, by decide, rfl, rfl, Qt.refl _⟩
  case round =>
    obtain ⟨k, hk2, rfl, rfl, hq⟩ := hrel
    have hrq := rowB_below hr (hq.below _) (rowB_lt hr)
    have nxq := rowB_below nx (hq.below _) (rowB_lt nx)
    rcases (by omega : k = 0 ∨ k = 1 ∨ k = 2) with rfl | rfl | rfl
    · have mb := vol_rate va ra (by omega) (by omega)
      have ww0 : wrap64 (va * ra) = va * ra := IntWalk.wrap64_in _ (by omega)
      obtain ⟨s0, s1, _, _⟩ := dcells2 nxq
      have e0 := rowB_cell hrq 0 (v := .int .i64 (pa)) rfl
      have z0 := rowB_free hrq 0
      have e1 := rowB_cell hrq 1 (v := .int .i64 (va)) rfl
      have z1 := rowB_free hrq 1
      have e2 := rowB_cell hrq 2 (v := .int .i64 (ra)) rfl
      have z2 := rowB_free hrq 2
      have e3 := rowB_cell hrq 3 (v := .int .i64 (ca)) rfl
      have z3 := rowB_free hrq 3
      have e4 := rowB_cell hrq 4 (v := .int .i64 (fa)) rfl
      have z4 := rowB_free hrq 4
      have e5 := rowB_cell hrq 5 (v := .int .i64 (ga)) rfl
      have z5 := rowB_free hrq 5
      by_cases h1 : 0 < pa
      · have dd1 : decide (0 < pa) = true := decide_eq_true (by omega)
        have ww1 : wrap64 (pa - ca) = pa - ca := IntWalk.wrap64_in _ (by omega)
        have ww2 : wrap64 (pa - ca - 1) = pa - ca - 1 := IntWalk.wrap64_in _ (by omega)
        by_cases h2 : 0 < va * ra
        · have dd2 : decide (0 < va * ra) = true := decide_eq_true (by omega)
          have ww3 : wrap64 (64 * ra) = 64 * ra := IntWalk.wrap64_in _ (by omega)
          have ww4 : wrap64 (64 * ra - ga) = 64 * ra - ga := IntWalk.wrap64_in _ (by omega)
          have ww5 : wrap64 (64 * ra - ga - 1) = 64 * ra - ga - 1 := IntWalk.wrap64_in _ (by omega)
          have hv : Vc.rest ⟨pa, va, ra, ca, fa, ga⟩ 100000 = min (min 100000 (max 0 (pa - ca - 1))) (max 0 (64 * ra - ga - 1)) := by
            unfold Vc.rest
            dsimp only
            rw [if_pos h1, if_pos h2]
          have HV := Lib.hid (hv.symm.trans HO1.out)
          clear hv
          go_upto_region 23 with (fail)
          go_quiet (fail)
          replace hq : Qt w5 (wr.drewN nq) := hq.drewN nq
          replace hrq := rowB_below hrq (below_drewN wr nq _) (rowB_lt hrq)
          clear s0 s1 nxq
          generalize wr.drewN nq = wq1 at *
          clear e0 z0 e1 z1 e2 z2 e3 z3 e4 z4 e5 z5
          have e0 := rowB_cell hrq 0 (v := .int .i64 (pa)) rfl
          have z0 := rowB_free hrq 0
          have e1 := rowB_cell hrq 1 (v := .int .i64 (va)) rfl
          have z1 := rowB_free hrq 1
          have e2 := rowB_cell hrq 2 (v := .int .i64 (ra)) rfl
          have z2 := rowB_free hrq 2
          have e3 := rowB_cell hrq 3 (v := .int .i64 (ca)) rfl
          have z3 := rowB_free hrq 3
          have e4 := rowB_cell hrq 4 (v := .int .i64 (fa)) rfl
          have z4 := rowB_free hrq 4
          have e5 := rowB_cell hrq 5 (v := .int .i64 (ga)) rfl
          have z5 := rowB_free hrq 5
          go_upto_region 24 with (fail)
          go_quiet (fail)
          replace hq : Qt w5 (wq1.drewN nq) := hq.drewN nq
          replace hrq := rowB_below hrq (below_drewN wq1 nq _) (rowB_lt hrq)
          generalize wq1.drewN nq = wq2 at *
          clear e0 z0 e1 z1 e2 z2 e3 z3 e4 z4 e5 z5
          have e0 := rowB_cell hrq 0 (v := .int .i64 (pa)) rfl
          have z0 := rowB_free hrq 0
          have e1 := rowB_cell hrq 1 (v := .int .i64 (va)) rfl
          have z1 := rowB_free hrq 1
          have e2 := rowB_cell hrq 2 (v := .int .i64 (ra)) rfl
          have z2 := rowB_free hrq 2
          have e3 := rowB_cell hrq 3 (v := .int .i64 (ca)) rfl
          have z3 := rowB_free hrq 3
          have e4 := rowB_cell hrq 4 (v := .int .i64 (fa)) rfl
          have z4 := rowB_free hrq 4
          have e5 := rowB_cell hrq 5 (v := .int .i64 (ga)) rfl
          have z5 := rowB_free hrq 5
          go_upto_region 25 with (fail)
          go_quiet (fail)
          replace hq : Qt w5 (wq2.drewN nq) := hq.drewN nq
          replace hrq := rowB_below hrq (below_drewN wq2 nq _) (rowB_lt hrq)
          generalize wq2.drewN nq = wq3 at *
          clear e0 z0 e1 z1 e2 z2 e3 z3 e4 z4 e5 z5
          have e0 := rowB_cell hrq 0 (v := .int .i64 (pa)) rfl
          have z0 := rowB_free hrq 0
          have e1 := rowB_cell hrq 1 (v := .int .i64 (va)) rfl
          have z1 := rowB_free hrq 1
          have e2 := rowB_cell hrq 2 (v := .int .i64 (ra)) rfl
          have z2 := rowB_free hrq 2
          have e3 := rowB_cell hrq 3 (v := .int .i64 (ca)) rfl
          have z3 := rowB_free hrq 3
          have e4 := rowB_cell hrq 4 (v := .int .i64 (fa)) rfl
          have z4 := rowB_free hrq 4
          have e5 := rowB_cell hrq 5 (v := .int .i64 (ga)) rfl
          have z5 := rowB_free hrq 5
          go_wp2_with fail
          go_roundw
          case rel =>
            refine ⟨1, by omega, rfl, ?_, hq⟩
            show _ = Value.int .i64 O1
            refine Eq.trans (congrArg (Value.int .i64) ?_) (congrArg (Value.int .i64) HV.out)
            first | rfl | (simp only [Int.min_def, Int.max_def]; repeat' split) <;> omega
          case measure => simp [intOf]
        · have dd2 : decide (0 < va * ra) = false := decide_eq_false (by omega)
          have hv : Vc.rest ⟨pa, va, ra, ca, fa, ga⟩ 100000 = min 100000 (max 0 (pa - ca - 1)) := by
            unfold Vc.rest
            dsimp only
            rw [if_pos h1, if_neg h2]
          have HV := Lib.hid (hv.symm.trans HO1.out)
          clear hv
          go_upto_region 23 with (fail)
          go_quiet (fail)
          replace hq : Qt w5 (wr.drewN nq) := hq.drewN nq
          replace hrq := rowB_below hrq (below_drewN wr nq _) (rowB_lt hrq)
          clear s0 s1 nxq
          generalize wr.drewN nq = wq1 at *
          clear e0 z0 e1 z1 e2 z2 e3 z3 e4 z4 e5 z5
          have e0 := rowB_cell hrq 0 (v := .int .i64 (pa)) rfl
          have z0 := rowB_free hrq 0
          have e1 := rowB_cell hrq 1 (v := .int .i64 (va)) rfl
          have z1 := rowB_free hrq 1
          have e2 := rowB_cell hrq 2 (v := .int .i64 (ra)) rfl
          have z2 := rowB_free hrq 2
          have e3 := rowB_cell hrq 3 (v := .int .i64 (ca)) rfl
          have z3 := rowB_free hrq 3
          have e4 := rowB_cell hrq 4 (v := .int .i64 (fa)) rfl
          have z4 := rowB_free hrq 4
          have e5 := rowB_cell hrq 5 (v := .int .i64 (ga)) rfl
          have z5 := rowB_free hrq 5
          go_upto_region 24 with (fail)
          go_quiet (fail)
          replace hq : Qt w5 (wq1.drewN nq) := hq.drewN nq
          replace hrq := rowB_below hrq (below_drewN wq1 nq _) (rowB_lt hrq)
          generalize wq1.drewN nq = wq2 at *
          clear e0 z0 e1 z1 e2 z2 e3 z3 e4 z4 e5 z5
          have e0 := rowB_cell hrq 0 (v := .int .i64 (pa)) rfl
          have z0 := rowB_free hrq 0
          have e1 := rowB_cell hrq 1 (v := .int .i64 (va)) rfl
          have z1 := rowB_free hrq 1
          have e2 := rowB_cell hrq 2 (v := .int .i64 (ra)) rfl
          have z2 := rowB_free hrq 2
          have e3 := rowB_cell hrq 3 (v := .int .i64 (ca)) rfl
          have z3 := rowB_free hrq 3
          have e4 := rowB_cell hrq 4 (v := .int .i64 (fa)) rfl
          have z4 := rowB_free hrq 4
          have e5 := rowB_cell hrq 5 (v := .int .i64 (ga)) rfl
          have z5 := rowB_free hrq 5
          go_wp2_with fail
          go_roundw
          case rel =>
            refine ⟨1, by omega, rfl, ?_, hq⟩
            show _ = Value.int .i64 O1
            refine Eq.trans (congrArg (Value.int .i64) ?_) (congrArg (Value.int .i64) HV.out)
            first | rfl | (simp only [Int.min_def, Int.max_def]; repeat' split) <;> omega
          case measure => simp [intOf]
      · have dd1 : decide (0 < pa) = false := decide_eq_false (by omega)
        by_cases h2 : 0 < va * ra
        · have dd2 : decide (0 < va * ra) = true := decide_eq_true (by omega)
          have ww3 : wrap64 (64 * ra) = 64 * ra := IntWalk.wrap64_in _ (by omega)
          have ww4 : wrap64 (64 * ra - ga) = 64 * ra - ga := IntWalk.wrap64_in _ (by omega)
          have ww5 : wrap64 (64 * ra - ga - 1) = 64 * ra - ga - 1 := IntWalk.wrap64_in _ (by omega)
          have hv : Vc.rest ⟨pa, va, ra, ca, fa, ga⟩ 100000 = min (100000) (max 0 (64 * ra - ga - 1)) := by
            unfold Vc.rest
            dsimp only
            rw [if_neg h1, if_pos h2]
          have HV := Lib.hid (hv.symm.trans HO1.out)
          clear hv
          go_upto_region 24 with (fail)
          go_quiet (fail)
          replace hq : Qt w5 (wr.drewN nq) := hq.drewN nq
          replace hrq := rowB_below hrq (below_drewN wr nq _) (rowB_lt hrq)
          clear s0 s1 nxq
          generalize wr.drewN nq = wq1 at *
          clear e0 z0 e1 z1 e2 z2 e3 z3 e4 z4 e5 z5
          have e0 := rowB_cell hrq 0 (v := .int .i64 (pa)) rfl
          have z0 := rowB_free hrq 0
          have e1 := rowB_cell hrq 1 (v := .int .i64 (va)) rfl
          have z1 := rowB_free hrq 1
          have e2 := rowB_cell hrq 2 (v := .int .i64 (ra)) rfl
          have z2 := rowB_free hrq 2
          have e3 := rowB_cell hrq 3 (v := .int .i64 (ca)) rfl
          have z3 := rowB_free hrq 3
          have e4 := rowB_cell hrq 4 (v := .int .i64 (fa)) rfl
          have z4 := rowB_free hrq 4
          have e5 := rowB_cell hrq 5 (v := .int .i64 (ga)) rfl
          have z5 := rowB_free hrq 5
          go_upto_region 25 with (fail)
          go_quiet (fail)
          replace hq : Qt w5 (wq1.drewN nq) := hq.drewN nq
          replace hrq := rowB_below hrq (below_drewN wq1 nq _) (rowB_lt hrq)
          generalize wq1.drewN nq = wq2 at *
          clear e0 z0 e1 z1 e2 z2 e3 z3 e4 z4 e5 z5
          have e0 := rowB_cell hrq 0 (v := .int .i64 (pa)) rfl
          have z0 := rowB_free hrq 0
          have e1 := rowB_cell hrq 1 (v := .int .i64 (va)) rfl
          have z1 := rowB_free hrq 1
          have e2 := rowB_cell hrq 2 (v := .int .i64 (ra)) rfl
          have z2 := rowB_free hrq 2
          have e3 := rowB_cell hrq 3 (v := .int .i64 (ca)) rfl
          have z3 := rowB_free hrq 3
          have e4 := rowB_cell hrq 4 (v := .int .i64 (fa)) rfl
          have z4 := rowB_free hrq 4
          have e5 := rowB_cell hrq 5 (v := .int .i64 (ga)) rfl
          have z5 := rowB_free hrq 5
          go_wp2_with fail
          go_roundw
          case rel =>
            refine ⟨1, by omega, rfl, ?_, hq⟩
            show _ = Value.int .i64 O1
            refine Eq.trans (congrArg (Value.int .i64) ?_) (congrArg (Value.int .i64) HV.out)
            first | rfl | (simp only [Int.min_def, Int.max_def]; repeat' split) <;> omega
          case measure => simp [intOf]
        · have dd2 : decide (0 < va * ra) = false := decide_eq_false (by omega)
          have hv : Vc.rest ⟨pa, va, ra, ca, fa, ga⟩ 100000 = 100000 := by
            unfold Vc.rest
            dsimp only
            rw [if_neg h1, if_neg h2]
          have HV := Lib.hid (hv.symm.trans HO1.out)
          clear hv
          go_upto_region 24 with (fail)
          go_quiet (fail)
          replace hq : Qt w5 (wr.drewN nq) := hq.drewN nq
          replace hrq := rowB_below hrq (below_drewN wr nq _) (rowB_lt hrq)
          clear s0 s1 nxq
          generalize wr.drewN nq = wq1 at *
          clear e0 z0 e1 z1 e2 z2 e3 z3 e4 z4 e5 z5
          have e0 := rowB_cell hrq 0 (v := .int .i64 (pa)) rfl
          have z0 := rowB_free hrq 0
          have e1 := rowB_cell hrq 1 (v := .int .i64 (va)) rfl
          have z1 := rowB_free hrq 1
          have e2 := rowB_cell hrq 2 (v := .int .i64 (ra)) rfl
          have z2 := rowB_free hrq 2
          have e3 := rowB_cell hrq 3 (v := .int .i64 (ca)) rfl
          have z3 := rowB_free hrq 3
          have e4 := rowB_cell hrq 4 (v := .int .i64 (fa)) rfl
          have z4 := rowB_free hrq 4
          have e5 := rowB_cell hrq 5 (v := .int .i64 (ga)) rfl
          have z5 := rowB_free hrq 5
          go_wp2_with fail
          go_roundw
          case rel =>
            refine ⟨1, by omega, rfl, ?_, hq⟩
            show _ = Value.int .i64 O1
            refine Eq.trans (congrArg (Value.int .i64) ?_) (congrArg (Value.int .i64) HV.out)
            first | rfl | (simp only [Int.min_def, Int.max_def]; repeat' split) <;> omega
          case measure => simp [intOf]
    · have mb := vol_rate vb rb (by omega) (by omega)
      have ww0 : wrap64 (vb * rb) = vb * rb := IntWalk.wrap64_in _ (by omega)
      obtain ⟨s0, s1, _, _⟩ := dcells2 nxq
      have e0 := rowB_cell hrq 6 (v := .int .i64 (pb)) rfl
      have z0 := rowB_free hrq 6
      have e1 := rowB_cell hrq 7 (v := .int .i64 (vb)) rfl
      have z1 := rowB_free hrq 7
      have e2 := rowB_cell hrq 8 (v := .int .i64 (rb)) rfl
      have z2 := rowB_free hrq 8
      have e3 := rowB_cell hrq 9 (v := .int .i64 (cb)) rfl
      have z3 := rowB_free hrq 9
      have e4 := rowB_cell hrq 10 (v := .int .i64 (fb)) rfl
      have z4 := rowB_free hrq 10
      have e5 := rowB_cell hrq 11 (v := .int .i64 (gb)) rfl
      have z5 := rowB_free hrq 11
      by_cases h1 : 0 < pb
      · have dd1 : decide (0 < pb) = true := decide_eq_true (by omega)
        have ww1 : wrap64 (pb - cb) = pb - cb := IntWalk.wrap64_in _ (by omega)
        have ww2 : wrap64 (pb - cb - 1) = pb - cb - 1 := IntWalk.wrap64_in _ (by omega)
        by_cases h2 : 0 < vb * rb
        · have dd2 : decide (0 < vb * rb) = true := decide_eq_true (by omega)
          have ww3 : wrap64 (64 * rb) = 64 * rb := IntWalk.wrap64_in _ (by omega)
          have ww4 : wrap64 (64 * rb - gb) = 64 * rb - gb := IntWalk.wrap64_in _ (by omega)
          have ww5 : wrap64 (64 * rb - gb - 1) = 64 * rb - gb - 1 := IntWalk.wrap64_in _ (by omega)
          have hv : Vc.rest ⟨pb, vb, rb, cb, fb, gb⟩ O1 = min (min O1 (max 0 (pb - cb - 1))) (max 0 (64 * rb - gb - 1)) := by
            unfold Vc.rest
            dsimp only
            rw [if_pos h1, if_pos h2]
          have HV := Lib.hid (hv.symm.trans HO2.out)
          clear hv
          go_upto_region 23 with (fail)
          go_quiet (fail)
          replace hq : Qt w5 (wr.drewN nq) := hq.drewN nq
          replace hrq := rowB_below hrq (below_drewN wr nq _) (rowB_lt hrq)
          clear s0 s1 nxq
          generalize wr.drewN nq = wq1 at *
          clear e0 z0 e1 z1 e2 z2 e3 z3 e4 z4 e5 z5
          have e0 := rowB_cell hrq 6 (v := .int .i64 (pb)) rfl
          have z0 := rowB_free hrq 6
          have e1 := rowB_cell hrq 7 (v := .int .i64 (vb)) rfl
          have z1 := rowB_free hrq 7
          have e2 := rowB_cell hrq 8 (v := .int .i64 (rb)) rfl
          have z2 := rowB_free hrq 8
          have e3 := rowB_cell hrq 9 (v := .int .i64 (cb)) rfl
          have z3 := rowB_free hrq 9
          have e4 := rowB_cell hrq 10 (v := .int .i64 (fb)) rfl
          have z4 := rowB_free hrq 10
          have e5 := rowB_cell hrq 11 (v := .int .i64 (gb)) rfl
          have z5 := rowB_free hrq 11
          go_upto_region 24 with (fail)
          go_quiet (fail)
          replace hq : Qt w5 (wq1.drewN nq) := hq.drewN nq
          replace hrq := rowB_below hrq (below_drewN wq1 nq _) (rowB_lt hrq)
          generalize wq1.drewN nq = wq2 at *
          clear e0 z0 e1 z1 e2 z2 e3 z3 e4 z4 e5 z5
          have e0 := rowB_cell hrq 6 (v := .int .i64 (pb)) rfl
          have z0 := rowB_free hrq 6
          have e1 := rowB_cell hrq 7 (v := .int .i64 (vb)) rfl
          have z1 := rowB_free hrq 7
          have e2 := rowB_cell hrq 8 (v := .int .i64 (rb)) rfl
          have z2 := rowB_free hrq 8
          have e3 := rowB_cell hrq 9 (v := .int .i64 (cb)) rfl
          have z3 := rowB_free hrq 9
          have e4 := rowB_cell hrq 10 (v := .int .i64 (fb)) rfl
          have z4 := rowB_free hrq 10
          have e5 := rowB_cell hrq 11 (v := .int .i64 (gb)) rfl
          have z5 := rowB_free hrq 11
          go_upto_region 25 with (fail)
          go_quiet (fail)
          replace hq : Qt w5 (wq2.drewN nq) := hq.drewN nq
          replace hrq := rowB_below hrq (below_drewN wq2 nq _) (rowB_lt hrq)
          generalize wq2.drewN nq = wq3 at *
          clear e0 z0 e1 z1 e2 z2 e3 z3 e4 z4 e5 z5
          have e0 := rowB_cell hrq 6 (v := .int .i64 (pb)) rfl
          have z0 := rowB_free hrq 6
          have e1 := rowB_cell hrq 7 (v := .int .i64 (vb)) rfl
          have z1 := rowB_free hrq 7
          have e2 := rowB_cell hrq 8 (v := .int .i64 (rb)) rfl
          have z2 := rowB_free hrq 8
          have e3 := rowB_cell hrq 9 (v := .int .i64 (cb)) rfl
          have z3 := rowB_free hrq 9
          have e4 := rowB_cell hrq 10 (v := .int .i64 (fb)) rfl
          have z4 := rowB_free hrq 10
          have e5 := rowB_cell hrq 11 (v := .int .i64 (gb)) rfl
          have z5 := rowB_free hrq 11
          go_wp2_with fail
          go_roundw
          case rel =>
            refine ⟨2, by omega, rfl, ?_, hq⟩
            show _ = Value.int .i64 O2
            refine Eq.trans (congrArg (Value.int .i64) ?_) (congrArg (Value.int .i64) HV.out)
            first | rfl | (simp only [Int.min_def, Int.max_def]; repeat' split) <;> omega
          case measure => simp [intOf]
        · have dd2 : decide (0 < vb * rb) = false := decide_eq_false (by omega)
          have hv : Vc.rest ⟨pb, vb, rb, cb, fb, gb⟩ O1 = min O1 (max 0 (pb - cb - 1)) := by
            unfold Vc.rest
            dsimp only
            rw [if_pos h1, if_neg h2]
          have HV := Lib.hid (hv.symm.trans HO2.out)
          clear hv
          go_upto_region 23 with (fail)
          go_quiet (fail)
          replace hq : Qt w5 (wr.drewN nq) := hq.drewN nq
          replace hrq := rowB_below hrq (below_drewN wr nq _) (rowB_lt hrq)
          clear s0 s1 nxq
          generalize wr.drewN nq = wq1 at *
          clear e0 z0 e1 z1 e2 z2 e3 z3 e4 z4 e5 z5
          have e0 := rowB_cell hrq 6 (v := .int .i64 (pb)) rfl
          have z0 := rowB_free hrq 6
          have e1 := rowB_cell hrq 7 (v := .int .i64 (vb)) rfl
          have z1 := rowB_free hrq 7
          have e2 := rowB_cell hrq 8 (v := .int .i64 (rb)) rfl
          have z2 := rowB_free hrq 8
          have e3 := rowB_cell hrq 9 (v := .int .i64 (cb)) rfl
          have z3 := rowB_free hrq 9
          have e4 := rowB_cell hrq 10 (v := .int .i64 (fb)) rfl
          have z4 := rowB_free hrq 10
          have e5 := rowB_cell hrq 11 (v := .int .i64 (gb)) rfl
          have z5 := rowB_free hrq 11
          go_upto_region 24 with (fail)
          go_quiet (fail)
          replace hq : Qt w5 (wq1.drewN nq) := hq.drewN nq
          replace hrq := rowB_below hrq (below_drewN wq1 nq _) (rowB_lt hrq)
          generalize wq1.drewN nq = wq2 at *
          clear e0 z0 e1 z1 e2 z2 e3 z3 e4 z4 e5 z5
          have e0 := rowB_cell hrq 6 (v := .int .i64 (pb)) rfl
          have z0 := rowB_free hrq 6
          have e1 := rowB_cell hrq 7 (v := .int .i64 (vb)) rfl
          have z1 := rowB_free hrq 7
          have e2 := rowB_cell hrq 8 (v := .int .i64 (rb)) rfl
          have z2 := rowB_free hrq 8
          have e3 := rowB_cell hrq 9 (v := .int .i64 (cb)) rfl
          have z3 := rowB_free hrq 9
          have e4 := rowB_cell hrq 10 (v := .int .i64 (fb)) rfl
          have z4 := rowB_free hrq 10
          have e5 := rowB_cell hrq 11 (v := .int .i64 (gb)) rfl
          have z5 := rowB_free hrq 11
          go_wp2_with fail
          go_roundw
          case rel =>
            refine ⟨2, by omega, rfl, ?_, hq⟩
            show _ = Value.int .i64 O2
            refine Eq.trans (congrArg (Value.int .i64) ?_) (congrArg (Value.int .i64) HV.out)
            first | rfl | (simp only [Int.min_def, Int.max_def]; repeat' split) <;> omega
          case measure => simp [intOf]
      · have dd1 : decide (0 < pb) = false := decide_eq_false (by omega)
        by_cases h2 : 0 < vb * rb
        · have dd2 : decide (0 < vb * rb) = true := decide_eq_true (by omega)
          have ww3 : wrap64 (64 * rb) = 64 * rb := IntWalk.wrap64_in _ (by omega)
          have ww4 : wrap64 (64 * rb - gb) = 64 * rb - gb := IntWalk.wrap64_in _ (by omega)
          have ww5 : wrap64 (64 * rb - gb - 1) = 64 * rb - gb - 1 := IntWalk.wrap64_in _ (by omega)
          have hv : Vc.rest ⟨pb, vb, rb, cb, fb, gb⟩ O1 = min (O1) (max 0 (64 * rb - gb - 1)) := by
            unfold Vc.rest
            dsimp only
            rw [if_neg h1, if_pos h2]
          have HV := Lib.hid (hv.symm.trans HO2.out)
          clear hv
          go_upto_region 24 with (fail)
          go_quiet (fail)
          replace hq : Qt w5 (wr.drewN nq) := hq.drewN nq
          replace hrq := rowB_below hrq (below_drewN wr nq _) (rowB_lt hrq)
          clear s0 s1 nxq
          generalize wr.drewN nq = wq1 at *
          clear e0 z0 e1 z1 e2 z2 e3 z3 e4 z4 e5 z5
          have e0 := rowB_cell hrq 6 (v := .int .i64 (pb)) rfl
          have z0 := rowB_free hrq 6
          have e1 := rowB_cell hrq 7 (v := .int .i64 (vb)) rfl
          have z1 := rowB_free hrq 7
          have e2 := rowB_cell hrq 8 (v := .int .i64 (rb)) rfl
          have z2 := rowB_free hrq 8
          have e3 := rowB_cell hrq 9 (v := .int .i64 (cb)) rfl
          have z3 := rowB_free hrq 9
          have e4 := rowB_cell hrq 10 (v := .int .i64 (fb)) rfl
          have z4 := rowB_free hrq 10
          have e5 := rowB_cell hrq 11 (v := .int .i64 (gb)) rfl
          have z5 := rowB_free hrq 11
          go_upto_region 25 with (fail)
          go_quiet (fail)
          replace hq : Qt w5 (wq1.drewN nq) := hq.drewN nq
          replace hrq := rowB_below hrq (below_drewN wq1 nq _) (rowB_lt hrq)
          generalize wq1.drewN nq = wq2 at *
          clear e0 z0 e1 z1 e2 z2 e3 z3 e4 z4 e5 z5
          have e0 := rowB_cell hrq 6 (v := .int .i64 (pb)) rfl
          have z0 := rowB_free hrq 6
          have e1 := rowB_cell hrq 7 (v := .int .i64 (vb)) rfl
          have z1 := rowB_free hrq 7
          have e2 := rowB_cell hrq 8 (v := .int .i64 (rb)) rfl
          have z2 := rowB_free hrq 8
          have e3 := rowB_cell hrq 9 (v := .int .i64 (cb)) rfl
          have z3 := rowB_free hrq 9
          have e4 := rowB_cell hrq 10 (v := .int .i64 (fb)) rfl
          have z4 := rowB_free hrq 10
          have e5 := rowB_cell hrq 11 (v := .int .i64 (gb)) rfl
          have z5 := rowB_free hrq 11
          go_wp2_with fail
          go_roundw
          case rel =>
            refine ⟨2, by omega, rfl, ?_, hq⟩
            show _ = Value.int .i64 O2
            refine Eq.trans (congrArg (Value.int .i64) ?_) (congrArg (Value.int .i64) HV.out)
            first | rfl | (simp only [Int.min_def, Int.max_def]; repeat' split) <;> omega
          case measure => simp [intOf]
        · have dd2 : decide (0 < vb * rb) = false := decide_eq_false (by omega)
          have hv : Vc.rest ⟨pb, vb, rb, cb, fb, gb⟩ O1 = O1 := by
            unfold Vc.rest
            dsimp only
            rw [if_neg h1, if_neg h2]
          have HV := Lib.hid (hv.symm.trans HO2.out)
          clear hv
          go_upto_region 24 with (fail)
          go_quiet (fail)
          replace hq : Qt w5 (wr.drewN nq) := hq.drewN nq
          replace hrq := rowB_below hrq (below_drewN wr nq _) (rowB_lt hrq)
          clear s0 s1 nxq
          generalize wr.drewN nq = wq1 at *
          clear e0 z0 e1 z1 e2 z2 e3 z3 e4 z4 e5 z5
          have e0 := rowB_cell hrq 6 (v := .int .i64 (pb)) rfl
          have z0 := rowB_free hrq 6
          have e1 := rowB_cell hrq 7 (v := .int .i64 (vb)) rfl
          have z1 := rowB_free hrq 7
          have e2 := rowB_cell hrq 8 (v := .int .i64 (rb)) rfl
          have z2 := rowB_free hrq 8
          have e3 := rowB_cell hrq 9 (v := .int .i64 (cb)) rfl
          have z3 := rowB_free hrq 9
          have e4 := rowB_cell hrq 10 (v := .int .i64 (fb)) rfl
          have z4 := rowB_free hrq 10
          have e5 := rowB_cell hrq 11 (v := .int .i64 (gb)) rfl
          have z5 := rowB_free hrq 11
          go_wp2_with fail
          go_roundw
          case rel =>
            refine ⟨2, by omega, rfl, ?_, hq⟩
            show _ = Value.int .i64 O2
            refine Eq.trans (congrArg (Value.int .i64) ?_) (congrArg (Value.int .i64) HV.out)
            first | rfl | (simp only [Int.min_def, Int.max_def]; repeat' split) <;> omega
          case measure => simp [intOf]
    · have hO : (if (2 : Nat) = 0 then (100000 : Int) else if (2 : Nat) = 1 then O1 else O2) = O2 := rfl
      go_wp2_with fail
      go_ret
      exact ⟨by rw [HT.out]; rfl, bX.trans ((hq.below _).mono bX.size)⟩
end Go.Proofs.Ytbpjkdigihpohaa
