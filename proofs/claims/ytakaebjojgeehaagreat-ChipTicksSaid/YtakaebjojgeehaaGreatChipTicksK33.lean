/- A part of the proof of ChipTicks: SndCb. -/
import Derived.Test.YtakaebjojgeehaaGreatChipTicksK01
import Derived.Test.YtakaebjojgeehaaGreatChipTicksK02
import Derived.Test.YtakaebjojgeehaaGreatChipTicksK03
import Derived.Test.YtakaebjojgeehaaGreatChipTicksK04
import Derived.Test.YtakaebjojgeehaaGreatChipTicksK05
import Derived.Test.YtakaebjojgeehaaGreatChipTicksK06
import Derived.Test.YtakaebjojgeehaaGreatChipTicksK08
import Derived.Test.YtakaebjojgeehaaGreatChipTicksK09
import Derived.Test.YtakaebjojgeehaaGreatChipTicksK13
import Derived.Test.YtakaebjojgeehaaGreatChipTicksK31
import Derived.Test.YtakaebjojgeehaaGreatChipTicksK32
import Derived.Below
import Derived.BigQuiet
import Derived.ChangeMaps5
import Derived.Deep.AppendSrc
import Derived.Deep.DeepCutAuto
import Derived.Deep.Draws
import Derived.Deep.MidRow
import Derived.Deep.OwnRows
import Derived.Deep.QuietTactic
import Derived.Deep.RegionHeld3
import Derived.Deep.RegionWith
import Derived.Deep.Slices
import Derived.Deep.WholeRow
import Derived.Lib.Hide
import Derived.Lib.SmallJoins
import Derived.OpenShut
import Derived.OrdersHeld
import Derived.OwnWalk
import Derived.RowKit3
import Derived.StillTactics
import Derived.StillTail
import Derived.StillTailTactics
import Derived.Test.YtakaebjojgeehaaGreatChecked
import Derived.WalkKit
namespace Go.Proofs.YtakaebjojgeehaaGreat
open Go.RowKit
set_option maxRecDepth 100000
theorem partA (pa va ra ca fa ga pb vb rb cb fb gb : Int) : ∀ j, j < (#[.int .i64 pa, .int .i64 va, .int .i64 ra, .int .i64 ca, .int .i64 fa, .int .i64 ga] : Array Value).size → (#[.int .i64 pa, .int .i64 va, .int .i64 ra, .int .i64 ca, .int .i64 fa, .int .i64 ga] : Array Value)[j]? = (#[.int .i64 pa, .int .i64 va, .int .i64 ra, .int .i64 ca, .int .i64 fa, .int .i64 ga, .int .i64 pb, .int .i64 vb, .int .i64 rb, .int .i64 cb, .int .i64 fb, .int .i64 gb] : Array Value)[0 + j]? := by
  intro j hj
  have : j < 6 := hj
  rcases (by omega : j = 0 ∨ j = 1 ∨ j = 2 ∨ j = 3 ∨ j = 4 ∨ j = 5) with rfl | rfl | rfl | rfl | rfl | rfl <;> rfl
theorem partB (pa va ra ca fa ga pb vb rb cb fb gb : Int) : ∀ j, j < (#[.int .i64 pb, .int .i64 vb, .int .i64 rb, .int .i64 cb, .int .i64 fb, .int .i64 gb] : Array Value).size → (#[.int .i64 pb, .int .i64 vb, .int .i64 rb, .int .i64 cb, .int .i64 fb, .int .i64 gb] : Array Value)[j]? = (#[.int .i64 pa, .int .i64 va, .int .i64 ra, .int .i64 ca, .int .i64 fa, .int .i64 ga, .int .i64 pb, .int .i64 vb, .int .i64 rb, .int .i64 cb, .int .i64 fb, .int .i64 gb] : Array Value)[6 + j]? := by
  intro j hj
  have : j < 6 := hj
  rcases (by omega : j = 0 ∨ j = 1 ∨ j = 2 ∨ j = 3 ∨ j = 4 ∨ j = 5) with rfl | rfl | rfl | rfl | rfl | rfl <;> rfl
theorem sndReg_any (a : Int) (w : World) :
    Calls Tryz.prog 116 #[.int .i64 a] w fun e w' => e = .returned (.bool (decide (0 ≤ a ∧ a < 8))) ∧ w = w' := by
  by_cases h : 0 ≤ a
  · have hd : decide (0 ≤ a) = true := decide_eq_true h
    have e : decide (0 ≤ a ∧ a < 8) = decide (a < 8) := by by_cases h2 : a < 8 <;> simp [h, h2]
    rw [e]
    go_enter Tryz.func116, Tryz.ntmps116
    go_wp2_with fail
    go_ret
    exact ⟨rfl, rfl⟩
  · have hd : decide (0 ≤ a) = false := decide_eq_false h
    have e : decide (0 ≤ a ∧ a < 8) = false := decide_eq_false (fun q => h q.1)
    rw [e]
    go_enter Tryz.func116, Tryz.ntmps116
    go_wp2_with fail
    go_ret
    exact ⟨rfl, rfl⟩
theorem sndNew_any (w : World) : Calls Tryz.prog 72 #[] w fun e w' => ∃ v, e = .returned v ∧ devO w.heap.size w' v [0, 0, 0, 0, 0, 0, 0, 0, 0, 0, 0, 0] ∧ Below w.heap.size w w' := by
  obtain ⟨k0, bW, sW⟩ := boxes1 w (.cells #[.slice none 0 0, .slice none 0 0] 27)
  have k0 : rowB _ _ _ _ := k0
  go_enter Tryz.func72, Tryz.ntmps72
  go_wp2_with (first
    | (go_at_call 91; refine (sndDev_any ⟨⟨_, _, _, _, _, _⟩, ⟨_, _, _, _, _, _⟩⟩ _).mono ?_; rintro e w2 ⟨u, rfl, ⟨g, rfl, hg, hr⟩, hb⟩; have r1 := rowB_below k0 hb (rowB_lt k0); dsimp only [Sn.ns, List.length] at hr; rw [sW] at hg; have bX := bW.trans (hb.mono bW.size))
    | (refine wpList_storeR rfl 27 _ _ rfl w.heap.size rfl #[.slice (some ⟨g, 0, none⟩) 12 12, .slice none 0 0] rfl (dev2_one _ _ _ _ _ _) 27 #[.slice none 0 0, .slice none 0 0] rfl ?_ agDv ?_; with_reducible exact r1))
  refine bodyPost_ret (resultsR rfl w.heap.size _ rfl (rowB_row r1 _) agDv) rfl ?_
  exact ⟨_, rfl, ⟨g, rfl, by omega, rowB_row_other hr _ (by omega)⟩, below_rowR bX _ (by omega)⟩
set_option maxHeartbeats 2000000 in
theorem sndRead_any (v vm : Value) (l : List Int) (a : Int) (w : World) (h : isArg w v l) :
    Calls Tryz.prog 59 #[.agg #[v, vm], .int .i64 a] w fun e w' => ∃ v, e = .returned (.tuple #[v, .int .i64 ((Sn.of l).reg a)]) ∧ devO w.heap.size w' v (Sn.of l).ns ∧ Below w.heap.size w w' := by
  obtain ⟨k0, k1, bW, sW⟩ := boxes2 w (.cells #[v, vm] 27) (.cells #[.slice none 0 0, .slice none 0 0] 27)
  have k0 : rowB _ _ _ _ := k0
  have k1 : rowB _ _ _ _ := k1
  have h2 := isArg_below h bW (Nat.le_refl _)
  have hload := sndLoad_any v vm l _ h2
  have hfit := Sn.of_fit l
  generalize Sn.of l = s at *
  obtain ⟨⟨pa, va, ra, ca, fa, ga⟩, ⟨pb, vb, rb, cb, fb, gb⟩⟩ := s
  dsimp only [Sn.cs] at *
  rcases (by omega : ¬ (0 ≤ a ∧ a < 8) ∨ (0 ≤ a ∧ a < 4) ∨ (4 ≤ a ∧ a < 8)) with hc | hc | hc
  · have hreg : decide (0 ≤ a ∧ a < 8) = false := decide_eq_false hc
    have e : (⟨⟨pa, va, ra, ca, fa, ga⟩, ⟨pb, vb, rb, cb, fb, gb⟩⟩ : Sn).reg a = 0 := by unfold Sn.reg; rw [if_neg (by omega), if_neg (by omega)]
    rw [e]
    clear e
    dsimp only [Sn.ns]
    go_enter Tryz.func59, Tryz.ntmps59
    go_upto_region 2 with (go_at_call 89; refine hload.mono ?_; rintro e w1 ⟨rfl, hb⟩; have bX := bW.trans (hb.mono bW.size); have r1 := rowB_below k1 hb (rowB_lt k1); have hs := hb.size; rw [sW] at hs; clear hb hload)
    have nP := rowB_new w1 97 #[.int .i64 pa, .int .i64 va, .int .i64 ra, .int .i64 ca, .int .i64 fa, .int .i64 ga, .int .i64 pb, .int .i64 vb, .int .i64 rb, .int .i64 cb, .int .i64 fb, .int .i64 gb]
    replace r1 := rowB_alloc r1 (.cells #[.int .i64 pa, .int .i64 va, .int .i64 ra, .int .i64 ca, .int .i64 fa, .int .i64 ga, .int .i64 pb, .int .i64 vb, .int .i64 rb, .int .i64 cb, .int .i64 fb, .int .i64 gb] 97)
    replace bX := bX.alloc (by omega) (.cells #[.int .i64 pa, .int .i64 va, .int .i64 ra, .int .i64 ca, .int .i64 fa, .int .i64 ga, .int .i64 pb, .int .i64 vb, .int .i64 rb, .int .i64 cb, .int .i64 fb, .int .i64 gb] 97)
    have hlt := rowB_lt nP
    obtain ⟨y, hy⟩ : ∃ y, w1.heap.size = y := ⟨_, rfl⟩
    rw [hy] at nP hlt hs
    have HY := Lib.hid hy
    change Code.wp _ _ _ _ (w1.alloc (.cells #[.int .i64 pa, .int .i64 va, .int .i64 ra, .int .i64 ca, .int .i64 fa, .int .i64 ga, .int .i64 pb, .int .i64 vb, .int .i64 rb, .int .i64 cb, .int .i64 fb, .int .i64 gb] 97))
    rw [hy]
    clear hy HY
    generalize w1.alloc (.cells #[.int .i64 pa, .int .i64 va, .int .i64 ra, .int .i64 ca, .int .i64 fa, .int .i64 ga, .int .i64 pb, .int .i64 vb, .int .i64 rb, .int .i64 cb, .int .i64 fb, .int .i64 gb] 97) = w2 at *
    go_upto_region 3 with (go_at_call 116; refine (sndReg_any _ _).mono ?_; rintro e w' ⟨rfl, rfl⟩; rw [hreg])
    go_wp2_with (first
        | (refine wpList_loadR rfl 97 _ rfl y rfl 97 #[.int .i64 pa, .int .i64 va, .int .i64 ra, .int .i64 ca, .int .i64 fa, .int .i64 ga, .int .i64 pb, .int .i64 vb, .int .i64 rb, .int .i64 cb, .int .i64 fb, .int .i64 gb] ?_ agSn ?_; with_reducible exact nP)
        | (go_at_call 91; refine (sndDev_any ⟨⟨pa, va, ra, ca, fa, ga⟩, ⟨pb, vb, rb, cb, fb, gb⟩⟩ _).mono ?_; rintro e w3 ⟨u, rfl, ⟨g, rfl, hg, hr⟩, hb⟩; have r2 := rowB_below r1 hb (rowB_lt r1); dsimp only [Sn.ns, List.length] at hr; have l2 := rowB_lt r1; replace bX := bX.trans (hb.mono bX.size))
        | (refine wpList_storeR rfl 27 _ _ rfl (w.heap.size + 1) rfl #[.slice (some ⟨g, 0, none⟩) 12 12, .slice none 0 0] rfl (dev2_one _ _ _ _ _ _) 27 #[.slice none 0 0, .slice none 0 0] rfl ?_ agDv ?_; with_reducible exact r2)
  )
    refine bodyPost_ret (resultsRT rfl (w.heap.size + 1) _ rfl (rowB_row r2 _) agDv rfl) rfl ?_
    exact ⟨_, rfl, ⟨g, rfl, by omega, rowB_row_other hr _ (by omega)⟩, below_rowR bX _ (by omega)⟩
  · have hreg : decide (0 ≤ a ∧ a < 8) = true := decide_eq_true (by omega)
    have t1 : a.tdiv 4 = 0 := by rw [Int.tdiv_eq_ediv_of_nonneg (by omega)]; omega
    have t2 : a.tmod 4 = a := by rw [Int.tmod_eq_emod_of_nonneg (by omega)]; omega
    obtain ⟨R, hR⟩ : ∃ R, (⟨pa, va, ra, ca, fa, ga⟩ : Vc).reg (a) = R := ⟨_, rfl⟩
    have hRd := fun w => vcRead_any ⟨pa, va, ra, ca, fa, ga⟩ hfit.a (a) (by omega) w
    dsimp only [Vc.cs] at hRd
    simp only [hR] at hRd
    have e : (⟨⟨pa, va, ra, ca, fa, ga⟩, ⟨pb, vb, rb, cb, fb, gb⟩⟩ : Sn).reg a = R := by unfold Sn.reg; rw [if_pos (by omega)]; exact hR
    rw [e]
    clear e hR
    dsimp only [Sn.ns]
    go_enter Tryz.func59, Tryz.ntmps59
    go_upto_region 2 with (go_at_call 89; refine hload.mono ?_; rintro e w1 ⟨rfl, hb⟩; have bX := bW.trans (hb.mono bW.size); have r1 := rowB_below k1 hb (rowB_lt k1); have hs := hb.size; rw [sW] at hs; clear hb hload)
    have nP := rowB_new w1 97 #[.int .i64 pa, .int .i64 va, .int .i64 ra, .int .i64 ca, .int .i64 fa, .int .i64 ga, .int .i64 pb, .int .i64 vb, .int .i64 rb, .int .i64 cb, .int .i64 fb, .int .i64 gb]
    replace r1 := rowB_alloc r1 (.cells #[.int .i64 pa, .int .i64 va, .int .i64 ra, .int .i64 ca, .int .i64 fa, .int .i64 ga, .int .i64 pb, .int .i64 vb, .int .i64 rb, .int .i64 cb, .int .i64 fb, .int .i64 gb] 97)
    replace bX := bX.alloc (by omega) (.cells #[.int .i64 pa, .int .i64 va, .int .i64 ra, .int .i64 ca, .int .i64 fa, .int .i64 ga, .int .i64 pb, .int .i64 vb, .int .i64 rb, .int .i64 cb, .int .i64 fb, .int .i64 gb] 97)
    have hlt := rowB_lt nP
    obtain ⟨y, hy⟩ : ∃ y, w1.heap.size = y := ⟨_, rfl⟩
    rw [hy] at nP hlt hs
    have HY := Lib.hid hy
    change Code.wp _ _ _ _ (w1.alloc (.cells #[.int .i64 pa, .int .i64 va, .int .i64 ra, .int .i64 ca, .int .i64 fa, .int .i64 ga, .int .i64 pb, .int .i64 vb, .int .i64 rb, .int .i64 cb, .int .i64 fb, .int .i64 gb] 97))
    rw [hy]
    clear hy HY
    generalize w1.alloc (.cells #[.int .i64 pa, .int .i64 va, .int .i64 ra, .int .i64 ca, .int .i64 fa, .int .i64 ga, .int .i64 pb, .int .i64 vb, .int .i64 rb, .int .i64 cb, .int .i64 fb, .int .i64 gb] 97) = w2 at *
    go_upto_region 4 with (go_at_call 116; refine (sndReg_any _ _).mono ?_; rintro e w' ⟨rfl, rfl⟩; rw [hreg])
    have hS : Below w2.heap.size w2 w2.drew := (Below.refl _ _).drew
    refine wp_region_mix (fun w' => Below w2.heap.size w2 w') [(0, 1), (2, 1), (3, 1), (4, 1), (5, 1), (6, 1), (7, 1), (1, 3), (8, 2), (9, 2), (10, 0)] (by kernel_rfl) (by kernel_rfl) (fun _ _ _ _ _ h => h) ?_
    simp only [List.map_cons, List.map_nil, opOf, List.getD_cons_zero, List.getD_cons_succ]
    change wpMix _ _ _ _ _ _ w2.drew
    refine wpMix_held ((.agg #[.int .i64 pa, .int .i64 va, .int .i64 ra, .int .i64 ca, .int .i64 fa, .int .i64 ga, .int .i64 pb, .int .i64 vb, .int .i64 rb, .int .i64 cb, .int .i64 fb, .int .i64 gb])) rfl hS (fun w' hw' => exec_rowR 97 _ rfl y rfl 97 #[.int .i64 pa, .int .i64 va, .int .i64 ra, .int .i64 ca, .int .i64 fa, .int .i64 ga, .int .i64 pb, .int .i64 vb, .int .i64 rb, .int .i64 cb, .int .i64 fb, .int .i64 gb] (rowB_below nP hw' hlt) agSn) ?_
    simp only [Act.put, List.setIfInBounds_toArray, List.set_cons_zero, List.set_cons_succ]
    refine wpMix_held (.int .i64 a) rfl hS (fun w' hw' => by go_simp) ?_
    simp only [Act.put, List.setIfInBounds_toArray, List.set_cons_zero, List.set_cons_succ]
    refine wpMix_held (.int .i64 0) rfl hS (fun w' hw' => by go_simp; try decide) ?_
    simp only [Act.put, List.setIfInBounds_toArray, List.set_cons_zero, List.set_cons_succ]
    refine wpMix_held (.pointer (some ⟨y, 0, none⟩)) rfl hS (fun w' hw' => by go_simp) ?_
    simp only [Act.put, List.setIfInBounds_toArray, List.set_cons_zero, List.set_cons_succ]
    refine wpMix_held ((.agg #[.int .i64 pa, .int .i64 va, .int .i64 ra, .int .i64 ca, .int .i64 fa, .int .i64 ga])) rfl hS (fun w' hw' => exec_rowP 95 _ rfl y 0 rfl #[.int .i64 pa, .int .i64 va, .int .i64 ra, .int .i64 ca, .int .i64 fa, .int .i64 ga] 97 #[.int .i64 pa, .int .i64 va, .int .i64 ra, .int .i64 ca, .int .i64 fa, .int .i64 ga, .int .i64 pb, .int .i64 vb, .int .i64 rb, .int .i64 cb, .int .i64 fb, .int .i64 gb] (rowB_below nP hw' hlt) (partA _ _ _ _ _ _ _ _ _ _ _ _) agVc) ?_
    simp only [Act.put, List.setIfInBounds_toArray, List.set_cons_zero, List.set_cons_succ]
    refine wpMix_held (.int .i64 a) rfl hS (fun w' hw' => by go_simp) ?_
    simp only [Act.put, List.setIfInBounds_toArray, List.set_cons_zero, List.set_cons_succ]
    refine wpMix_held (.int .i64 (a)) rfl hS (fun w' hw' => by go_simp) ?_
    simp only [Act.put, List.setIfInBounds_toArray, List.set_cons_zero, List.set_cons_succ]
    refine wpMix_call ?_
    go_wp2_with (go_at_call 91; refine (sndDev_any ⟨⟨pa, va, ra, ca, fa, ga⟩, ⟨pb, vb, rb, cb, fb, gb⟩⟩ _).mono ?_; rintro e w3 ⟨u, rfl, ⟨g, rfl, hg, hr⟩, hb⟩; have hg2 := Nat.le_trans hS.size hg; replace hS := hS.trans (hb.mono hS.size); clear hb hg)
    first | refine ⟨fun _ => hS, ?_⟩ | refine ⟨hS, ?_⟩ | refine And.intro (fun _ => hS) ?_
    refine wpMix_call ?_
    go_wp2_with (go_at_call 117; refine (hRd _).mono ?_; rintro e w4 ⟨rfl, hb⟩; replace hr := rowB_below hr hb (rowB_lt hr); replace hS := hS.trans (hb.mono hS.size); clear hb)
    have q1 := rowB_below r1 hS (rowB_lt r1)
    dsimp only [Sn.ns, List.length] at hr
    try refine ⟨fun h => (by cases h), ?_⟩
    refine wpMix_call ?_
    go_wp2_with (refine wpList_storeR rfl 27 _ _ rfl (w.heap.size + 1) rfl #[.slice (some ⟨g, 0, none⟩) 12 12, .slice none 0 0] rfl (dev2_one _ _ _ _ _ _) 27 #[.slice none 0 0, .slice none 0 0] rfl ?_ agDv ?_; with_reducible exact q1)
    try refine ⟨fun h => (by cases h), ?_⟩
    (refine wpMix_still (fun K hK => ?_); go_simp; refine hK _ ?_; clear hK K)
    refine wpMix_nil ?_
    go_wp2_with fail
    have hl2 := rowB_lt r1
    refine bodyPost_ret (resultsRT rfl (w.heap.size + 1) _ rfl (rowB_row q1 _) agDv rfl) rfl ?_
    exact ⟨_, rfl, ⟨g, rfl, by omega, rowB_row_other hr _ (by omega)⟩, below_rowR (bX.trans (hS.mono bX.size)) _ (by omega)⟩
  · have hreg : decide (0 ≤ a ∧ a < 8) = true := decide_eq_true (by omega)
    have t1 : a.tdiv 4 = 1 := by rw [Int.tdiv_eq_ediv_of_nonneg (by omega)]; omega
    have t2 : a.tmod 4 = a - 4 := by rw [Int.tmod_eq_emod_of_nonneg (by omega)]; omega
    obtain ⟨R, hR⟩ : ∃ R, (⟨pb, vb, rb, cb, fb, gb⟩ : Vc).reg (a - 4) = R := ⟨_, rfl⟩
    have hRd := fun w => vcRead_any ⟨pb, vb, rb, cb, fb, gb⟩ hfit.b (a - 4) (by omega) w
    dsimp only [Vc.cs] at hRd
    simp only [hR] at hRd
    have e : (⟨⟨pa, va, ra, ca, fa, ga⟩, ⟨pb, vb, rb, cb, fb, gb⟩⟩ : Sn).reg a = R := by unfold Sn.reg; rw [if_neg (by omega), if_pos (by omega)]; exact hR
    rw [e]
    clear e hR
    dsimp only [Sn.ns]
    go_enter Tryz.func59, Tryz.ntmps59
    go_upto_region 2 with (go_at_call 89; refine hload.mono ?_; rintro e w1 ⟨rfl, hb⟩; have bX := bW.trans (hb.mono bW.size); have r1 := rowB_below k1 hb (rowB_lt k1); have hs := hb.size; rw [sW] at hs; clear hb hload)
    have nP := rowB_new w1 97 #[.int .i64 pa, .int .i64 va, .int .i64 ra, .int .i64 ca, .int .i64 fa, .int .i64 ga, .int .i64 pb, .int .i64 vb, .int .i64 rb, .int .i64 cb, .int .i64 fb, .int .i64 gb]
    replace r1 := rowB_alloc r1 (.cells #[.int .i64 pa, .int .i64 va, .int .i64 ra, .int .i64 ca, .int .i64 fa, .int .i64 ga, .int .i64 pb, .int .i64 vb, .int .i64 rb, .int .i64 cb, .int .i64 fb, .int .i64 gb] 97)
    replace bX := bX.alloc (by omega) (.cells #[.int .i64 pa, .int .i64 va, .int .i64 ra, .int .i64 ca, .int .i64 fa, .int .i64 ga, .int .i64 pb, .int .i64 vb, .int .i64 rb, .int .i64 cb, .int .i64 fb, .int .i64 gb] 97)
    have hlt := rowB_lt nP
    obtain ⟨y, hy⟩ : ∃ y, w1.heap.size = y := ⟨_, rfl⟩
    rw [hy] at nP hlt hs
    have HY := Lib.hid hy
    change Code.wp _ _ _ _ (w1.alloc (.cells #[.int .i64 pa, .int .i64 va, .int .i64 ra, .int .i64 ca, .int .i64 fa, .int .i64 ga, .int .i64 pb, .int .i64 vb, .int .i64 rb, .int .i64 cb, .int .i64 fb, .int .i64 gb] 97))
    rw [hy]
    clear hy HY
    generalize w1.alloc (.cells #[.int .i64 pa, .int .i64 va, .int .i64 ra, .int .i64 ca, .int .i64 fa, .int .i64 ga, .int .i64 pb, .int .i64 vb, .int .i64 rb, .int .i64 cb, .int .i64 fb, .int .i64 gb] 97) = w2 at *
    go_upto_region 4 with (go_at_call 116; refine (sndReg_any _ _).mono ?_; rintro e w' ⟨rfl, rfl⟩; rw [hreg])
    have hS : Below w2.heap.size w2 w2.drew := (Below.refl _ _).drew
    refine wp_region_mix (fun w' => Below w2.heap.size w2 w') [(0, 1), (2, 1), (3, 1), (4, 1), (5, 1), (6, 1), (7, 1), (1, 3), (8, 2), (9, 2), (10, 0)] (by kernel_rfl) (by kernel_rfl) (fun _ _ _ _ _ h => h) ?_
    simp only [List.map_cons, List.map_nil, opOf, List.getD_cons_zero, List.getD_cons_succ]
    change wpMix _ _ _ _ _ _ w2.drew
    refine wpMix_held ((.agg #[.int .i64 pa, .int .i64 va, .int .i64 ra, .int .i64 ca, .int .i64 fa, .int .i64 ga, .int .i64 pb, .int .i64 vb, .int .i64 rb, .int .i64 cb, .int .i64 fb, .int .i64 gb])) rfl hS (fun w' hw' => exec_rowR 97 _ rfl y rfl 97 #[.int .i64 pa, .int .i64 va, .int .i64 ra, .int .i64 ca, .int .i64 fa, .int .i64 ga, .int .i64 pb, .int .i64 vb, .int .i64 rb, .int .i64 cb, .int .i64 fb, .int .i64 gb] (rowB_below nP hw' hlt) agSn) ?_
    simp only [Act.put, List.setIfInBounds_toArray, List.set_cons_zero, List.set_cons_succ]
    refine wpMix_held (.int .i64 a) rfl hS (fun w' hw' => by go_simp) ?_
    simp only [Act.put, List.setIfInBounds_toArray, List.set_cons_zero, List.set_cons_succ]
    refine wpMix_held (.int .i64 1) rfl hS (fun w' hw' => by go_simp; try decide) ?_
    simp only [Act.put, List.setIfInBounds_toArray, List.set_cons_zero, List.set_cons_succ]
    refine wpMix_held (.pointer (some ⟨y, 6, none⟩)) rfl hS (fun w' hw' => by go_simp) ?_
    simp only [Act.put, List.setIfInBounds_toArray, List.set_cons_zero, List.set_cons_succ]
    refine wpMix_held ((.agg #[.int .i64 pb, .int .i64 vb, .int .i64 rb, .int .i64 cb, .int .i64 fb, .int .i64 gb])) rfl hS (fun w' hw' => exec_rowP 95 _ rfl y 6 rfl #[.int .i64 pb, .int .i64 vb, .int .i64 rb, .int .i64 cb, .int .i64 fb, .int .i64 gb] 97 #[.int .i64 pa, .int .i64 va, .int .i64 ra, .int .i64 ca, .int .i64 fa, .int .i64 ga, .int .i64 pb, .int .i64 vb, .int .i64 rb, .int .i64 cb, .int .i64 fb, .int .i64 gb] (rowB_below nP hw' hlt) (partB _ _ _ _ _ _ _ _ _ _ _ _) agVc) ?_
    simp only [Act.put, List.setIfInBounds_toArray, List.set_cons_zero, List.set_cons_succ]
    refine wpMix_held (.int .i64 a) rfl hS (fun w' hw' => by go_simp) ?_
    simp only [Act.put, List.setIfInBounds_toArray, List.set_cons_zero, List.set_cons_succ]
    refine wpMix_held (.int .i64 (a - 4)) rfl hS (fun w' hw' => by go_simp) ?_
    simp only [Act.put, List.setIfInBounds_toArray, List.set_cons_zero, List.set_cons_succ]
    refine wpMix_call ?_
    go_wp2_with (go_at_call 91; refine (sndDev_any ⟨⟨pa, va, ra, ca, fa, ga⟩, ⟨pb, vb, rb, cb, fb, gb⟩⟩ _).mono ?_; rintro e w3 ⟨u, rfl, ⟨g, rfl, hg, hr⟩, hb⟩; have hg2 := Nat.le_trans hS.size hg; replace hS := hS.trans (hb.mono hS.size); clear hb hg)
    first | refine ⟨fun _ => hS, ?_⟩ | refine ⟨hS, ?_⟩ | refine And.intro (fun _ => hS) ?_
    refine wpMix_call ?_
    go_wp2_with (go_at_call 117; refine (hRd _).mono ?_; rintro e w4 ⟨rfl, hb⟩; replace hr := rowB_below hr hb (rowB_lt hr); replace hS := hS.trans (hb.mono hS.size); clear hb)
    have q1 := rowB_below r1 hS (rowB_lt r1)
    dsimp only [Sn.ns, List.length] at hr
    try refine ⟨fun h => (by cases h), ?_⟩
    refine wpMix_call ?_
    go_wp2_with (refine wpList_storeR rfl 27 _ _ rfl (w.heap.size + 1) rfl #[.slice (some ⟨g, 0, none⟩) 12 12, .slice none 0 0] rfl (dev2_one _ _ _ _ _ _) 27 #[.slice none 0 0, .slice none 0 0] rfl ?_ agDv ?_; with_reducible exact q1)
    try refine ⟨fun h => (by cases h), ?_⟩
    (refine wpMix_still (fun K hK => ?_); go_simp; refine hK _ ?_; clear hK K)
    refine wpMix_nil ?_
    go_wp2_with fail
    have hl2 := rowB_lt r1
    refine bodyPost_ret (resultsRT rfl (w.heap.size + 1) _ rfl (rowB_row q1 _) agDv rfl) rfl ?_
    exact ⟨_, rfl, ⟨g, rfl, by omega, rowB_row_other hr _ (by omega)⟩, below_rowR (bX.trans (hS.mono bX.size)) _ (by omega)⟩
set_option maxHeartbeats 2000000 in
theorem sndWrite_any (v vm : Value) (l : List Int) (a : Int) (x : Int) (w : World) (h : isArg w v l) :
    Calls Tryz.prog 66 #[.agg #[v, vm], .int .i64 a, .int .i64 x] w fun e w' => ∃ v, e = .returned v ∧ devO w.heap.size w' v ((Sn.of l).write a x).ns ∧ Below w.heap.size w w' := by
  obtain ⟨k0, k1, bW, sW⟩ := boxes2 w (.cells #[v, vm] 27) (.cells #[.slice none 0 0, .slice none 0 0] 27)
  have k0 : rowB _ _ _ _ := k0
  have k1 : rowB _ _ _ _ := k1
  have h2 := isArg_below h bW (Nat.le_refl _)
  have hload := sndLoad_any v vm l _ h2
  have hfit := Sn.of_fit l
  generalize Sn.of l = s at *
  obtain ⟨⟨pa, va, ra, ca, fa, ga⟩, ⟨pb, vb, rb, cb, fb, gb⟩⟩ := s
  dsimp only [Sn.cs] at *
  rcases (by omega : ¬ (0 ≤ a ∧ a < 8) ∨ (0 ≤ a ∧ a < 4) ∨ (4 ≤ a ∧ a < 8)) with hc | hc | hc
  · have hreg : decide (0 ≤ a ∧ a < 8) = false := decide_eq_false hc
    have e : (⟨⟨pa, va, ra, ca, fa, ga⟩, ⟨pb, vb, rb, cb, fb, gb⟩⟩ : Sn).write a x = ⟨⟨pa, va, ra, ca, fa, ga⟩, ⟨pb, vb, rb, cb, fb, gb⟩⟩ := by unfold Sn.write; rw [if_neg (by omega), if_neg (by omega)]
    rw [e]
    clear e
    dsimp only [Sn.ns]
    go_enter Tryz.func66, Tryz.ntmps66
    go_upto_region 2 with (go_at_call 89; refine hload.mono ?_; rintro e w1 ⟨rfl, hb⟩; have bX := bW.trans (hb.mono bW.size); have r1 := rowB_below k1 hb (rowB_lt k1); have hs := hb.size; rw [sW] at hs; clear hb hload)
    have nP := rowB_new w1 97 #[.int .i64 pa, .int .i64 va, .int .i64 ra, .int .i64 ca, .int .i64 fa, .int .i64 ga, .int .i64 pb, .int .i64 vb, .int .i64 rb, .int .i64 cb, .int .i64 fb, .int .i64 gb]
    replace r1 := rowB_alloc r1 (.cells #[.int .i64 pa, .int .i64 va, .int .i64 ra, .int .i64 ca, .int .i64 fa, .int .i64 ga, .int .i64 pb, .int .i64 vb, .int .i64 rb, .int .i64 cb, .int .i64 fb, .int .i64 gb] 97)
    replace bX := bX.alloc (by omega) (.cells #[.int .i64 pa, .int .i64 va, .int .i64 ra, .int .i64 ca, .int .i64 fa, .int .i64 ga, .int .i64 pb, .int .i64 vb, .int .i64 rb, .int .i64 cb, .int .i64 fb, .int .i64 gb] 97)
    have hlt := rowB_lt nP
    obtain ⟨y, hy⟩ : ∃ y, w1.heap.size = y := ⟨_, rfl⟩
    rw [hy] at nP hlt hs
    have HY := Lib.hid hy
    change Code.wp _ _ _ _ (w1.alloc (.cells #[.int .i64 pa, .int .i64 va, .int .i64 ra, .int .i64 ca, .int .i64 fa, .int .i64 ga, .int .i64 pb, .int .i64 vb, .int .i64 rb, .int .i64 cb, .int .i64 fb, .int .i64 gb] 97))
    rw [hy]
    clear hy HY
    generalize w1.alloc (.cells #[.int .i64 pa, .int .i64 va, .int .i64 ra, .int .i64 ca, .int .i64 fa, .int .i64 ga, .int .i64 pb, .int .i64 vb, .int .i64 rb, .int .i64 cb, .int .i64 fb, .int .i64 gb] 97) = w2 at *
    go_upto_region 4 with (go_at_call 116; refine (sndReg_any _ _).mono ?_; rintro e w' ⟨rfl, rfl⟩; rw [hreg])
    go_wp2_with (first
        | (refine wpList_loadR rfl 97 _ rfl y rfl 97 #[.int .i64 pa, .int .i64 va, .int .i64 ra, .int .i64 ca, .int .i64 fa, .int .i64 ga, .int .i64 pb, .int .i64 vb, .int .i64 rb, .int .i64 cb, .int .i64 fb, .int .i64 gb] ?_ agSn ?_; with_reducible exact nP)
        | (go_at_call 91; refine (sndDev_any ⟨⟨pa, va, ra, ca, fa, ga⟩, ⟨pb, vb, rb, cb, fb, gb⟩⟩ _).mono ?_; rintro e w3 ⟨u, rfl, ⟨g, rfl, hg, hr⟩, hb⟩; have r2 := rowB_below r1 hb (rowB_lt r1); dsimp only [Sn.ns, List.length] at hr; have l2 := rowB_lt r1; replace bX := bX.trans (hb.mono bX.size))
        | (refine wpList_storeR rfl 27 _ _ rfl (w.heap.size + 1) rfl #[.slice (some ⟨g, 0, none⟩) 12 12, .slice none 0 0] rfl (dev2_one _ _ _ _ _ _) 27 #[.slice none 0 0, .slice none 0 0] rfl ?_ agDv ?_; with_reducible exact r2)
  )
    refine bodyPost_ret (resultsR rfl (w.heap.size + 1) _ rfl (rowB_row r2 _) agDv) rfl ?_
    exact ⟨_, rfl, ⟨g, rfl, by omega, rowB_row_other hr _ (by omega)⟩, below_rowR bX _ (by omega)⟩
  · have hreg : decide (0 ≤ a ∧ a < 8) = true := decide_eq_true (by omega)
    have t1 : a.tdiv 4 = 0 := by rw [Int.tdiv_eq_ediv_of_nonneg (by omega)]; omega
    have t2 : a.tmod 4 = a := by rw [Int.tmod_eq_emod_of_nonneg (by omega)]; omega
    obtain ⟨⟨tpa, tva, tra, tca, tfa, tga⟩, hR⟩ : ∃ R, (⟨pa, va, ra, ca, fa, ga⟩ : Vc).write (a) x = R := ⟨_, rfl⟩
    have hWr := fun w => vcWrite_any ⟨pa, va, ra, ca, fa, ga⟩ hfit.a (a) x (by omega) w
    simp only [hR] at hWr
    dsimp only [Vc.cs] at hWr
    have e : (⟨⟨pa, va, ra, ca, fa, ga⟩, ⟨pb, vb, rb, cb, fb, gb⟩⟩ : Sn).write a x = ⟨⟨tpa, tva, tra, tca, tfa, tga⟩, ⟨pb, vb, rb, cb, fb, gb⟩⟩ := by unfold Sn.write; rw [if_pos (by omega)]; dsimp only; rw [hR]
    rw [e]
    clear e hR
    dsimp only [Sn.ns]
    go_enter Tryz.func66, Tryz.ntmps66
    go_upto_region 2 with (go_at_call 89; refine hload.mono ?_; rintro e w1 ⟨rfl, hb⟩; have bX := bW.trans (hb.mono bW.size); have r1 := rowB_below k1 hb (rowB_lt k1); have hs := hb.size; rw [sW] at hs; clear hb hload)
    have nP := rowB_new w1 97 #[.int .i64 pa, .int .i64 va, .int .i64 ra, .int .i64 ca, .int .i64 fa, .int .i64 ga, .int .i64 pb, .int .i64 vb, .int .i64 rb, .int .i64 cb, .int .i64 fb, .int .i64 gb]
    replace r1 := rowB_alloc r1 (.cells #[.int .i64 pa, .int .i64 va, .int .i64 ra, .int .i64 ca, .int .i64 fa, .int .i64 ga, .int .i64 pb, .int .i64 vb, .int .i64 rb, .int .i64 cb, .int .i64 fb, .int .i64 gb] 97)
    replace bX := bX.alloc (by omega) (.cells #[.int .i64 pa, .int .i64 va, .int .i64 ra, .int .i64 ca, .int .i64 fa, .int .i64 ga, .int .i64 pb, .int .i64 vb, .int .i64 rb, .int .i64 cb, .int .i64 fb, .int .i64 gb] 97)
    have hlt := rowB_lt nP
    obtain ⟨y, hy⟩ : ∃ y, w1.heap.size = y := ⟨_, rfl⟩
    rw [hy] at nP hlt hs
    have HY := Lib.hid hy
    change Code.wp _ _ _ _ (w1.alloc (.cells #[.int .i64 pa, .int .i64 va, .int .i64 ra, .int .i64 ca, .int .i64 fa, .int .i64 ga, .int .i64 pb, .int .i64 vb, .int .i64 rb, .int .i64 cb, .int .i64 fb, .int .i64 gb] 97))
    rw [hy]
    clear hy HY
    generalize w1.alloc (.cells #[.int .i64 pa, .int .i64 va, .int .i64 ra, .int .i64 ca, .int .i64 fa, .int .i64 ga, .int .i64 pb, .int .i64 vb, .int .i64 rb, .int .i64 cb, .int .i64 fb, .int .i64 gb] 97) = w2 at *
    go_upto_region 3 with (go_at_call 116; refine (sndReg_any _ _).mono ?_; rintro e w' ⟨rfl, rfl⟩; rw [hreg])
    go_upto_region 4 with (first
        | (refine wpList_loadP rfl 95 _ rfl y 0 rfl #[.int .i64 pa, .int .i64 va, .int .i64 ra, .int .i64 ca, .int .i64 fa, .int .i64 ga] 97 #[.int .i64 pa, .int .i64 va, .int .i64 ra, .int .i64 ca, .int .i64 fa, .int .i64 ga, .int .i64 pb, .int .i64 vb, .int .i64 rb, .int .i64 cb, .int .i64 fb, .int .i64 gb] ?_ (partA _ _ _ _ _ _ _ _ _ _ _ _) agVc ?_; with_reducible exact nP)
        | (go_at_call 120; refine (hWr _).mono ?_; rintro e w4 ⟨rfl, hb⟩; have n4 := rowB_below nP hb hlt; replace r1 := rowB_below r1 hb (rowB_lt r1); replace bX := bX.trans (hb.mono bX.size); clear hb)
        | (refine wpList_storeP rfl 95 _ _ rfl y 0 rfl #[.int .i64 tpa, .int .i64 tva, .int .i64 tra, .int .i64 tca, .int .i64 tfa, .int .i64 tga] rfl (Vc.one _ _ _ _ _ _) 97 #[.int .i64 pa, .int .i64 va, .int .i64 ra, .int .i64 ca, .int .i64 fa, .int .i64 ga, .int .i64 pb, .int .i64 vb, .int .i64 rb, .int .i64 cb, .int .i64 fb, .int .i64 gb] ?_ (Nat.le_of_ble_eq_true rfl) agVc ?_; with_reducible exact n4)
  )
    replace nP : rowB _ y 97 #[.int .i64 tpa, .int .i64 tva, .int .i64 tra, .int .i64 tca, .int .i64 tfa, .int .i64 tga, .int .i64 pb, .int .i64 vb, .int .i64 rb, .int .i64 cb, .int .i64 fb, .int .i64 gb] := rowB_eq (rowB_puts n4 0 #[.int .i64 tpa, .int .i64 tva, .int .i64 tra, .int .i64 tca, .int .i64 tfa, .int .i64 tga].toList) rfl
    replace r1 := rowB_puts_other r1 (show y ≠ _ by omega) 0 #[.int .i64 tpa, .int .i64 tva, .int .i64 tra, .int .i64 tca, .int .i64 tfa, .int .i64 tga].toList
    replace bX := below_puts bX (show w.heap.size ≤ y by omega) 0 #[.int .i64 tpa, .int .i64 tva, .int .i64 tra, .int .i64 tca, .int .i64 tfa, .int .i64 tga].toList
    go_wp2_with (first
        | (refine wpList_loadR rfl 97 _ rfl y rfl 97 #[.int .i64 tpa, .int .i64 tva, .int .i64 tra, .int .i64 tca, .int .i64 tfa, .int .i64 tga, .int .i64 pb, .int .i64 vb, .int .i64 rb, .int .i64 cb, .int .i64 fb, .int .i64 gb] ?_ agSn ?_; with_reducible exact nP)
        | (go_at_call 91; refine (sndDev_any ⟨⟨tpa, tva, tra, tca, tfa, tga⟩, ⟨pb, vb, rb, cb, fb, gb⟩⟩ _).mono ?_; rintro e w3 ⟨u, rfl, ⟨g, rfl, hg, hr⟩, hb⟩; have r2 := rowB_below r1 hb (rowB_lt r1); dsimp only [Sn.ns, List.length] at hr; have l2 := rowB_lt r1; replace bX := bX.trans (hb.mono bX.size))
        | (refine wpList_storeR rfl 27 _ _ rfl (w.heap.size + 1) rfl #[.slice (some ⟨g, 0, none⟩) 12 12, .slice none 0 0] rfl (dev2_one _ _ _ _ _ _) 27 #[.slice none 0 0, .slice none 0 0] rfl ?_ agDv ?_; with_reducible exact r2)
  )
    refine bodyPost_ret (resultsR rfl (w.heap.size + 1) _ rfl (rowB_row r2 _) agDv) rfl ?_
    exact ⟨_, rfl, ⟨g, rfl, by omega, rowB_row_other hr _ (by omega)⟩, below_rowR bX _ (by omega)⟩
  · have hreg : decide (0 ≤ a ∧ a < 8) = true := decide_eq_true (by omega)
    have t1 : a.tdiv 4 = 1 := by rw [Int.tdiv_eq_ediv_of_nonneg (by omega)]; omega
    have t2 : a.tmod 4 = a - 4 := by rw [Int.tmod_eq_emod_of_nonneg (by omega)]; omega
    obtain ⟨⟨tpb, tvb, trb, tcb, tfb, tgb⟩, hR⟩ : ∃ R, (⟨pb, vb, rb, cb, fb, gb⟩ : Vc).write (a - 4) x = R := ⟨_, rfl⟩
    have hWr := fun w => vcWrite_any ⟨pb, vb, rb, cb, fb, gb⟩ hfit.b (a - 4) x (by omega) w
    simp only [hR] at hWr
    dsimp only [Vc.cs] at hWr
    have e : (⟨⟨pa, va, ra, ca, fa, ga⟩, ⟨pb, vb, rb, cb, fb, gb⟩⟩ : Sn).write a x = ⟨⟨pa, va, ra, ca, fa, ga⟩, ⟨tpb, tvb, trb, tcb, tfb, tgb⟩⟩ := by unfold Sn.write; rw [if_neg (by omega), if_pos (by omega)]; dsimp only; rw [hR]
    rw [e]
    clear e hR
    dsimp only [Sn.ns]
    go_enter Tryz.func66, Tryz.ntmps66
    go_upto_region 2 with (go_at_call 89; refine hload.mono ?_; rintro e w1 ⟨rfl, hb⟩; have bX := bW.trans (hb.mono bW.size); have r1 := rowB_below k1 hb (rowB_lt k1); have hs := hb.size; rw [sW] at hs; clear hb hload)
    have nP := rowB_new w1 97 #[.int .i64 pa, .int .i64 va, .int .i64 ra, .int .i64 ca, .int .i64 fa, .int .i64 ga, .int .i64 pb, .int .i64 vb, .int .i64 rb, .int .i64 cb, .int .i64 fb, .int .i64 gb]
    replace r1 := rowB_alloc r1 (.cells #[.int .i64 pa, .int .i64 va, .int .i64 ra, .int .i64 ca, .int .i64 fa, .int .i64 ga, .int .i64 pb, .int .i64 vb, .int .i64 rb, .int .i64 cb, .int .i64 fb, .int .i64 gb] 97)
    replace bX := bX.alloc (by omega) (.cells #[.int .i64 pa, .int .i64 va, .int .i64 ra, .int .i64 ca, .int .i64 fa, .int .i64 ga, .int .i64 pb, .int .i64 vb, .int .i64 rb, .int .i64 cb, .int .i64 fb, .int .i64 gb] 97)
    have hlt := rowB_lt nP
    obtain ⟨y, hy⟩ : ∃ y, w1.heap.size = y := ⟨_, rfl⟩
    rw [hy] at nP hlt hs
    have HY := Lib.hid hy
    change Code.wp _ _ _ _ (w1.alloc (.cells #[.int .i64 pa, .int .i64 va, .int .i64 ra, .int .i64 ca, .int .i64 fa, .int .i64 ga, .int .i64 pb, .int .i64 vb, .int .i64 rb, .int .i64 cb, .int .i64 fb, .int .i64 gb] 97))
    rw [hy]
    clear hy HY
    generalize w1.alloc (.cells #[.int .i64 pa, .int .i64 va, .int .i64 ra, .int .i64 ca, .int .i64 fa, .int .i64 ga, .int .i64 pb, .int .i64 vb, .int .i64 rb, .int .i64 cb, .int .i64 fb, .int .i64 gb] 97) = w2 at *
    go_upto_region 3 with (go_at_call 116; refine (sndReg_any _ _).mono ?_; rintro e w' ⟨rfl, rfl⟩; rw [hreg])
    go_upto_region 4 with (first
        | (refine wpList_loadP rfl 95 _ rfl y 6 rfl #[.int .i64 pb, .int .i64 vb, .int .i64 rb, .int .i64 cb, .int .i64 fb, .int .i64 gb] 97 #[.int .i64 pa, .int .i64 va, .int .i64 ra, .int .i64 ca, .int .i64 fa, .int .i64 ga, .int .i64 pb, .int .i64 vb, .int .i64 rb, .int .i64 cb, .int .i64 fb, .int .i64 gb] ?_ (partB _ _ _ _ _ _ _ _ _ _ _ _) agVc ?_; with_reducible exact nP)
        | (go_at_call 120; refine (hWr _).mono ?_; rintro e w4 ⟨rfl, hb⟩; have n4 := rowB_below nP hb hlt; replace r1 := rowB_below r1 hb (rowB_lt r1); replace bX := bX.trans (hb.mono bX.size); clear hb)
        | (refine wpList_storeP rfl 95 _ _ rfl y 6 rfl #[.int .i64 tpb, .int .i64 tvb, .int .i64 trb, .int .i64 tcb, .int .i64 tfb, .int .i64 tgb] rfl (Vc.one _ _ _ _ _ _) 97 #[.int .i64 pa, .int .i64 va, .int .i64 ra, .int .i64 ca, .int .i64 fa, .int .i64 ga, .int .i64 pb, .int .i64 vb, .int .i64 rb, .int .i64 cb, .int .i64 fb, .int .i64 gb] ?_ (Nat.le_of_ble_eq_true rfl) agVc ?_; with_reducible exact n4)
  )
    replace nP : rowB _ y 97 #[.int .i64 pa, .int .i64 va, .int .i64 ra, .int .i64 ca, .int .i64 fa, .int .i64 ga, .int .i64 tpb, .int .i64 tvb, .int .i64 trb, .int .i64 tcb, .int .i64 tfb, .int .i64 tgb] := rowB_eq (rowB_puts n4 6 #[.int .i64 tpb, .int .i64 tvb, .int .i64 trb, .int .i64 tcb, .int .i64 tfb, .int .i64 tgb].toList) rfl
    replace r1 := rowB_puts_other r1 (show y ≠ _ by omega) 6 #[.int .i64 tpb, .int .i64 tvb, .int .i64 trb, .int .i64 tcb, .int .i64 tfb, .int .i64 tgb].toList
    replace bX := below_puts bX (show w.heap.size ≤ y by omega) 6 #[.int .i64 tpb, .int .i64 tvb, .int .i64 trb, .int .i64 tcb, .int .i64 tfb, .int .i64 tgb].toList
    go_wp2_with (first
        | (refine wpList_loadR rfl 97 _ rfl y rfl 97 #[.int .i64 pa, .int .i64 va, .int .i64 ra, .int .i64 ca, .int .i64 fa, .int .i64 ga, .int .i64 tpb, .int .i64 tvb, .int .i64 trb, .int .i64 tcb, .int .i64 tfb, .int .i64 tgb] ?_ agSn ?_; with_reducible exact nP)
        | (go_at_call 91; refine (sndDev_any ⟨⟨pa, va, ra, ca, fa, ga⟩, ⟨tpb, tvb, trb, tcb, tfb, tgb⟩⟩ _).mono ?_; rintro e w3 ⟨u, rfl, ⟨g, rfl, hg, hr⟩, hb⟩; have r2 := rowB_below r1 hb (rowB_lt r1); dsimp only [Sn.ns, List.length] at hr; have l2 := rowB_lt r1; replace bX := bX.trans (hb.mono bX.size))
        | (refine wpList_storeR rfl 27 _ _ rfl (w.heap.size + 1) rfl #[.slice (some ⟨g, 0, none⟩) 12 12, .slice none 0 0] rfl (dev2_one _ _ _ _ _ _) 27 #[.slice none 0 0, .slice none 0 0] rfl ?_ agDv ?_; with_reducible exact r2)
  )
    refine bodyPost_ret (resultsR rfl (w.heap.size + 1) _ rfl (rowB_row r2 _) agDv) rfl ?_
    exact ⟨_, rfl, ⟨g, rfl, by omega, rowB_row_other hr _ (by omega)⟩, below_rowR bX _ (by omega)⟩
def Sn.skip (s : Sn) (n : Int) : Sn := if 0 < n then ⟨s.a.skip (min n 10000000), s.b.skip (min n 10000000)⟩ else s
theorem Sn.skip_ticks {s : Sn} (h : s.fit) (n : Nat) (hn : n ≤ 10000000) : s.skip n = s.ticks n := by
  rw [Sn.ticks_ab, Vc.ticks_skip h.a, Vc.ticks_skip h.b]
  unfold Sn.skip
  split
  · rw [show min (n : Int) 10000000 = n by omega]
  · obtain rfl : n = 0 := by omega
    rw [show ((0 : Nat) : Int) = 0 from rfl, Vc.skip_zero h.a, Vc.skip_zero h.b]
theorem Sn.skip_neg {s : Sn} {n : Int} (h : n ≤ 0) : s.skip n = s := if_neg (by omega)
set_option maxHeartbeats 2000000 in
theorem sndSkip_any (v vm : Value) (l : List Int) (k : Int) (w : World) (h : isArg w v l) (hk : -9223372036854775808 ≤ k ∧ k ≤ 9223372036854775807) :
    Calls Tryz.prog 33 #[.agg #[v, vm], .int .i64 k] w fun e w' => ∃ v, e = .returned v ∧ devO w.heap.size w' v ((Sn.of l).skip k).ns ∧ Below w.heap.size w w' := by
  obtain ⟨k0, k1, bW, sW⟩ := boxes2 w (.cells #[v, vm] 27) (.cells #[.slice none 0 0, .slice none 0 0] 27)
  have k0 : rowB _ _ _ _ := k0
  have k1 : rowB _ _ _ _ := k1
  have h2 := isArg_below h bW (Nat.le_refl _)
  have hload := sndLoad_any v vm l _ h2
  have hfit := Sn.of_fit l
  generalize Sn.of l = s at *
  obtain ⟨⟨pa, va, ra, ca, fa, ga⟩, ⟨pb, vb, rb, cb, fb, gb⟩⟩ := s
  dsimp only [Sn.cs] at *
  by_cases hc : 0 < k
  · obtain ⟨K, hM⟩ : ∃ K, min k 10000000 = K := ⟨_, rfl⟩
    have hK : 0 < K ∧ K ≤ 10000000 := by omega
    have hd : decide (0 < K) = true := decide_eq_true hK.1
    obtain ⟨⟨tpa, tva, tra, tca, tfa, tga⟩, hRA⟩ : ∃ R, (⟨pa, va, ra, ca, fa, ga⟩ : Vc).skip K = R := ⟨_, rfl⟩
    obtain ⟨⟨tpb, tvb, trb, tcb, tfb, tgb⟩, hRB⟩ : ∃ R, (⟨pb, vb, rb, cb, fb, gb⟩ : Vc).skip K = R := ⟨_, rfl⟩
    have hAA := fun w => vcAfter_any ⟨pa, va, ra, ca, fa, ga⟩ hfit.a K hK w
    have hAB := fun w => vcAfter_any ⟨pb, vb, rb, cb, fb, gb⟩ hfit.b K hK w
    simp only [hRA] at hAA
    simp only [hRB] at hAB
    dsimp only [Vc.cs] at hAA hAB
    have e : (⟨⟨pa, va, ra, ca, fa, ga⟩, ⟨pb, vb, rb, cb, fb, gb⟩⟩ : Sn).skip k = ⟨⟨tpa, tva, tra, tca, tfa, tga⟩, ⟨tpb, tvb, trb, tcb, tfb, tgb⟩⟩ := by unfold Sn.skip; rw [if_pos hc]; dsimp only; rw [hM, hRA, hRB]
    rw [e]
    clear e hRA hRB
    dsimp only [Sn.ns]
    go_enter Tryz.func33, Tryz.ntmps33
    go_upto_region 2 with (go_at_call 89; refine hload.mono ?_; rintro e w1 ⟨rfl, hb⟩; have bX := bW.trans (hb.mono bW.size); have r1 := rowB_below k1 hb (rowB_lt k1); have hs := hb.size; rw [sW] at hs; clear hb hload)
    have nP := rowB_new w1 97 #[.int .i64 pa, .int .i64 va, .int .i64 ra, .int .i64 ca, .int .i64 fa, .int .i64 ga, .int .i64 pb, .int .i64 vb, .int .i64 rb, .int .i64 cb, .int .i64 fb, .int .i64 gb]
    replace r1 := rowB_alloc r1 (.cells #[.int .i64 pa, .int .i64 va, .int .i64 ra, .int .i64 ca, .int .i64 fa, .int .i64 ga, .int .i64 pb, .int .i64 vb, .int .i64 rb, .int .i64 cb, .int .i64 fb, .int .i64 gb] 97)
    replace bX := bX.alloc (by omega) (.cells #[.int .i64 pa, .int .i64 va, .int .i64 ra, .int .i64 ca, .int .i64 fa, .int .i64 ga, .int .i64 pb, .int .i64 vb, .int .i64 rb, .int .i64 cb, .int .i64 fb, .int .i64 gb] 97)
    have hlt := rowB_lt nP
    obtain ⟨y, hy⟩ : ∃ y, w1.heap.size = y := ⟨_, rfl⟩
    rw [hy] at nP hlt hs
    have HY := Lib.hid hy
    change Code.wp _ _ _ _ (w1.alloc (.cells #[.int .i64 pa, .int .i64 va, .int .i64 ra, .int .i64 ca, .int .i64 fa, .int .i64 ga, .int .i64 pb, .int .i64 vb, .int .i64 rb, .int .i64 cb, .int .i64 fb, .int .i64 gb] 97))
    rw [hy]
    clear hy HY
    generalize w1.alloc (.cells #[.int .i64 pa, .int .i64 va, .int .i64 ra, .int .i64 ca, .int .i64 fa, .int .i64 ga, .int .i64 pb, .int .i64 vb, .int .i64 rb, .int .i64 cb, .int .i64 fb, .int .i64 gb] 97) = w2 at *
    go_upto_region 4 with (refine wpList_min2 rfl _ _ _ rfl .i64 k 10000000 rfl rfl ?_; rw [hM])
    go_wp2_with fail
    go_loopw [13] (fun i wr => ∃ j : Nat, j ≤ 2 ∧ i = .int .i64 j ∧ rowB wr y 97 (if j = 0 then #[.int .i64 pa, .int .i64 va, .int .i64 ra, .int .i64 ca, .int .i64 fa, .int .i64 ga, .int .i64 pb, .int .i64 vb, .int .i64 rb, .int .i64 cb, .int .i64 fb, .int .i64 gb] else if j = 1 then #[.int .i64 tpa, .int .i64 tva, .int .i64 tra, .int .i64 tca, .int .i64 tfa, .int .i64 tga, .int .i64 pb, .int .i64 vb, .int .i64 rb, .int .i64 cb, .int .i64 fb, .int .i64 gb] else #[.int .i64 tpa, .int .i64 tva, .int .i64 tra, .int .i64 tca, .int .i64 tfa, .int .i64 tga, .int .i64 tpb, .int .i64 tvb, .int .i64 trb, .int .i64 tcb, .int .i64 tfb, .int .i64 tgb]) ∧ Below y w2 wr) (fun i _ => 2 - (intOf i).toNat)
    case atStart => exact ⟨0, by decide, rfl, nP, Below.refl _ _⟩
    case round =>
      clear nP
      obtain ⟨j, hj2, rfl, nP, hB⟩ := hrel
      have hsz := hB.size
      have lz := rowB_lt nP
      rcases (by omega : j = 0 ∨ j = 1 ∨ j = 2) with rfl | rfl | rfl
      · replace nP : rowB wr y 97 #[.int .i64 pa, .int .i64 va, .int .i64 ra, .int .i64 ca, .int .i64 fa, .int .i64 ga, .int .i64 pb, .int .i64 vb, .int .i64 rb, .int .i64 cb, .int .i64 fb, .int .i64 gb] := nP
        go_wp2_with (first
            | (refine wpList_loadP rfl 95 _ rfl y 0 rfl #[.int .i64 pa, .int .i64 va, .int .i64 ra, .int .i64 ca, .int .i64 fa, .int .i64 ga] 97 #[.int .i64 pa, .int .i64 va, .int .i64 ra, .int .i64 ca, .int .i64 fa, .int .i64 ga, .int .i64 pb, .int .i64 vb, .int .i64 rb, .int .i64 cb, .int .i64 fb, .int .i64 gb] ?_ (partA _ _ _ _ _ _ _ _ _ _ _ _) agVc ?_; with_reducible exact nP)
            | (go_at_call 90; refine (hAA _).mono ?_; rintro e w4 ⟨rfl, hb⟩; have n4 := rowB_below nP hb lz; replace hB := hB.trans (hb.mono (by omega)); clear hb)
            | (refine wpList_storeP rfl 95 _ _ rfl y 0 rfl #[.int .i64 tpa, .int .i64 tva, .int .i64 tra, .int .i64 tca, .int .i64 tfa, .int .i64 tga] rfl (Vc.one _ _ _ _ _ _) 97 #[.int .i64 pa, .int .i64 va, .int .i64 ra, .int .i64 ca, .int .i64 fa, .int .i64 ga, .int .i64 pb, .int .i64 vb, .int .i64 rb, .int .i64 cb, .int .i64 fb, .int .i64 gb] ?_ (Nat.le_of_ble_eq_true rfl) agVc ?_; with_reducible exact n4)
      )
        go_roundw
        case rel => exact ⟨1, by omega, rfl, rowB_eq (rowB_puts n4 0 _) rfl, below_puts hB (Nat.le_refl _) 0 _⟩
        case measure => simp [intOf]
      · replace nP : rowB wr y 97 #[.int .i64 tpa, .int .i64 tva, .int .i64 tra, .int .i64 tca, .int .i64 tfa, .int .i64 tga, .int .i64 pb, .int .i64 vb, .int .i64 rb, .int .i64 cb, .int .i64 fb, .int .i64 gb] := nP
        go_wp2_with (first
            | (refine wpList_loadP rfl 95 _ rfl y 6 rfl #[.int .i64 pb, .int .i64 vb, .int .i64 rb, .int .i64 cb, .int .i64 fb, .int .i64 gb] 97 #[.int .i64 tpa, .int .i64 tva, .int .i64 tra, .int .i64 tca, .int .i64 tfa, .int .i64 tga, .int .i64 pb, .int .i64 vb, .int .i64 rb, .int .i64 cb, .int .i64 fb, .int .i64 gb] ?_ (partB _ _ _ _ _ _ _ _ _ _ _ _) agVc ?_; with_reducible exact nP)
            | (go_at_call 90; refine (hAB _).mono ?_; rintro e w4 ⟨rfl, hb⟩; have n4 := rowB_below nP hb lz; replace hB := hB.trans (hb.mono (by omega)); clear hb)
            | (refine wpList_storeP rfl 95 _ _ rfl y 6 rfl #[.int .i64 tpb, .int .i64 tvb, .int .i64 trb, .int .i64 tcb, .int .i64 tfb, .int .i64 tgb] rfl (Vc.one _ _ _ _ _ _) 97 #[.int .i64 tpa, .int .i64 tva, .int .i64 tra, .int .i64 tca, .int .i64 tfa, .int .i64 tga, .int .i64 pb, .int .i64 vb, .int .i64 rb, .int .i64 cb, .int .i64 fb, .int .i64 gb] ?_ (Nat.le_of_ble_eq_true rfl) agVc ?_; with_reducible exact n4)
      )
        go_roundw
        case rel => exact ⟨2, by omega, rfl, rowB_eq (rowB_puts n4 6 _) rfl, below_puts hB (Nat.le_refl _) 6 _⟩
        case measure => simp [intOf]
      · replace nP : rowB wr y 97 #[.int .i64 tpa, .int .i64 tva, .int .i64 tra, .int .i64 tca, .int .i64 tfa, .int .i64 tga, .int .i64 tpb, .int .i64 tvb, .int .i64 trb, .int .i64 tcb, .int .i64 tfb, .int .i64 tgb] := nP
        replace r1 := rowB_below r1 hB (by omega)
        replace bX := bX.trans (hB.mono (by omega))
        go_wp2_with (first
            | (refine wpList_loadR rfl 97 _ rfl y rfl 97 #[.int .i64 tpa, .int .i64 tva, .int .i64 tra, .int .i64 tca, .int .i64 tfa, .int .i64 tga, .int .i64 tpb, .int .i64 tvb, .int .i64 trb, .int .i64 tcb, .int .i64 tfb, .int .i64 tgb] ?_ agSn ?_; with_reducible exact nP)
            | (go_at_call 91; refine (sndDev_any ⟨⟨tpa, tva, tra, tca, tfa, tga⟩, ⟨tpb, tvb, trb, tcb, tfb, tgb⟩⟩ _).mono ?_; rintro e w3 ⟨u, rfl, ⟨g, rfl, hg, hr⟩, hb⟩; have r2 := rowB_below r1 hb (rowB_lt r1); dsimp only [Sn.ns, List.length] at hr; have l2 := rowB_lt r1; replace bX := bX.trans (hb.mono bX.size))
            | (refine wpList_storeR rfl 27 _ _ rfl (w.heap.size + 1) rfl #[.slice (some ⟨g, 0, none⟩) 12 12, .slice none 0 0] rfl (dev2_one _ _ _ _ _ _) 27 #[.slice none 0 0, .slice none 0 0] rfl ?_ agDv ?_; with_reducible exact r2)
      )
        refine bodyPost_ret (resultsR rfl (w.heap.size + 1) _ rfl (rowB_row r2 _) agDv) rfl ?_
        exact ⟨_, rfl, ⟨g, rfl, by omega, rowB_row_other hr _ (by omega)⟩, below_rowR bX _ (by omega)⟩
  · obtain ⟨K, hM⟩ : ∃ K, min k 10000000 = K := ⟨_, rfl⟩
    have hd : decide (0 < K) = false := decide_eq_false (by omega)
    have e : (⟨⟨pa, va, ra, ca, fa, ga⟩, ⟨pb, vb, rb, cb, fb, gb⟩⟩ : Sn).skip k = ⟨⟨pa, va, ra, ca, fa, ga⟩, ⟨pb, vb, rb, cb, fb, gb⟩⟩ := if_neg hc
    rw [e]
    clear e
    dsimp only [Sn.ns]
    go_enter Tryz.func33, Tryz.ntmps33
    go_upto_region 2 with (go_at_call 89; refine hload.mono ?_; rintro e w1 ⟨rfl, hb⟩; have bX := bW.trans (hb.mono bW.size); have r1 := rowB_below k1 hb (rowB_lt k1); have hs := hb.size; rw [sW] at hs; clear hb hload)
    have nP := rowB_new w1 97 #[.int .i64 pa, .int .i64 va, .int .i64 ra, .int .i64 ca, .int .i64 fa, .int .i64 ga, .int .i64 pb, .int .i64 vb, .int .i64 rb, .int .i64 cb, .int .i64 fb, .int .i64 gb]
    replace r1 := rowB_alloc r1 (.cells #[.int .i64 pa, .int .i64 va, .int .i64 ra, .int .i64 ca, .int .i64 fa, .int .i64 ga, .int .i64 pb, .int .i64 vb, .int .i64 rb, .int .i64 cb, .int .i64 fb, .int .i64 gb] 97)
    replace bX := bX.alloc (by omega) (.cells #[.int .i64 pa, .int .i64 va, .int .i64 ra, .int .i64 ca, .int .i64 fa, .int .i64 ga, .int .i64 pb, .int .i64 vb, .int .i64 rb, .int .i64 cb, .int .i64 fb, .int .i64 gb] 97)
    have hlt := rowB_lt nP
    obtain ⟨y, hy⟩ : ∃ y, w1.heap.size = y := ⟨_, rfl⟩
    rw [hy] at nP hlt hs
    have HY := Lib.hid hy
    change Code.wp _ _ _ _ (w1.alloc (.cells #[.int .i64 pa, .int .i64 va, .int .i64 ra, .int .i64 ca, .int .i64 fa, .int .i64 ga, .int .i64 pb, .int .i64 vb, .int .i64 rb, .int .i64 cb, .int .i64 fb, .int .i64 gb] 97))
    rw [hy]
    clear hy HY
    generalize w1.alloc (.cells #[.int .i64 pa, .int .i64 va, .int .i64 ra, .int .i64 ca, .int .i64 fa, .int .i64 ga, .int .i64 pb, .int .i64 vb, .int .i64 rb, .int .i64 cb, .int .i64 fb, .int .i64 gb] 97) = w2 at *
    go_upto_region 9 with (refine wpList_min2 rfl _ _ _ rfl .i64 k 10000000 rfl rfl ?_; rw [hM])
    go_wp2_with (first
        | (refine wpList_loadR rfl 97 _ rfl y rfl 97 #[.int .i64 pa, .int .i64 va, .int .i64 ra, .int .i64 ca, .int .i64 fa, .int .i64 ga, .int .i64 pb, .int .i64 vb, .int .i64 rb, .int .i64 cb, .int .i64 fb, .int .i64 gb] ?_ agSn ?_; with_reducible exact nP)
        | (go_at_call 91; refine (sndDev_any ⟨⟨pa, va, ra, ca, fa, ga⟩, ⟨pb, vb, rb, cb, fb, gb⟩⟩ _).mono ?_; rintro e w3 ⟨u, rfl, ⟨g, rfl, hg, hr⟩, hb⟩; have r2 := rowB_below r1 hb (rowB_lt r1); dsimp only [Sn.ns, List.length] at hr; have l2 := rowB_lt r1; replace bX := bX.trans (hb.mono bX.size))
        | (refine wpList_storeR rfl 27 _ _ rfl (w.heap.size + 1) rfl #[.slice (some ⟨g, 0, none⟩) 12 12, .slice none 0 0] rfl (dev2_one _ _ _ _ _ _) 27 #[.slice none 0 0, .slice none 0 0] rfl ?_ agDv ?_; with_reducible exact r2)
  )
    refine bodyPost_ret (resultsR rfl (w.heap.size + 1) _ rfl (rowB_row r2 _) agDv) rfl ?_
    exact ⟨_, rfl, ⟨g, rfl, by omega, rowB_row_other hr _ (by omega)⟩, below_rowR bX _ (by omega)⟩
end Go.Proofs.YtakaebjojgeehaaGreat
