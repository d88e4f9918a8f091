/- A part of the proof of ChipBanks: SndCb. -/
import Derived.Test.YtakaebjojgeehaaChipBanksK01
import Derived.Test.YtakaebjojgeehaaChipBanksK02
import Derived.Test.YtakaebjojgeehaaChipBanksK03
import Derived.Test.YtakaebjojgeehaaChipBanksK04
import Derived.Test.YtakaebjojgeehaaChipBanksK05
import Derived.Test.YtakaebjojgeehaaChipBanksK06
import Derived.Test.YtakaebjojgeehaaChipBanksK07
import Derived.Test.YtakaebjojgeehaaChipBanksK08
import Derived.Test.YtakaebjojgeehaaChipBanksK09
import Derived.Test.YtakaebjojgeehaaChipBanksK11
import Derived.Test.YtakaebjojgeehaaChipBanksK16
import Derived.Test.YtakaebjojgeehaaChipBanksK30
import Derived.Test.YtakaebjojgeehaaChipBanksK31
import Derived.Test.YtakaebjojgeehaaChipBanksK32
import Derived.Below
import Derived.BigQuiet
import Derived.ChangeMaps5
import Derived.Deep.AppendSrc
import Derived.Deep.DeepCutAuto
import Derived.Deep.Draws
import Derived.Deep.MidRow
import Derived.Deep.OwnRows
import Derived.Deep.QuietTactic
import Derived.Deep.RegionHeld3
import Derived.Deep.RegionWith
import Derived.Deep.Slices
import Derived.Deep.WholeRow
import Derived.Lib.Hide
import Derived.Lib.SmallJoins
import Derived.OpenShut
import Derived.OrdersHeld
import Derived.OwnWalk
import Derived.RowKit3
import Derived.StillTactics
import Derived.StillTail
import Derived.StillTailTactics
import Derived.Test.YtakaebjojgeehaaChecked
import Derived.WalkKit
namespace Go.Proofs.Ytakaebjojgeehaa
open Go.RowKit
set_option maxRecDepth 100000
theorem partA (pa va ra ca fa ga pb vb rb cb fb gb : Int) : ∀ j, j < (#[.int .i64 pa, .int .i64 va, .int .i64 ra, .int .i64 ca, .int .i64 fa, .int .i64 ga] : Array Value).size → (#[.int .i64 pa, .int .i64 va, .int .i64 ra, .int .i64 ca, .int .i64 fa, .int .i64 ga] : Array Value)[j]? = (#[.int .i64 pa, .int .i64 va, .int .i64 ra, .int .i64 ca, .int .i64 fa, .int .i64 ga, .int .i64 pb, .int .i64 vb, .int .i64 rb, .int .i64 cb, .int .i64 fb, .int .i64 gb] : Array Value)[0 + j]? := by
  intro j hj
  have : j < 6 := hj
  rcases (by omega : j = 0 ∨ j = 1 ∨ j = 2 ∨ j = 3 ∨ j = 4 ∨ j = 5) with rfl | rfl | rfl | rfl | rfl | rfl <;> rfl
theorem partB (pa va ra ca fa ga pb vb rb cb fb gb : Int) : ∀ j, j < (#[.int .i64 pb, .int .i64 vb, .int .i64 rb, .int .i64 cb, .int .i64 fb, .int .i64 gb] : Array Value).size → (#[.int .i64 pb, .int .i64 vb, .int .i64 rb, .int .i64 cb, .int .i64 fb, .int .i64 gb] : Array Value)[j]? = (#[.int .i64 pa, .int .i64 va, .int .i64 ra, .int .i64 ca, .int .i64 fa, .int .i64 ga, .int .i64 pb, .int .i64 vb, .int .i64 rb, .int .i64 cb, .int .i64 fb, .int .i64 gb] : Array Value)[6 + j]? := by
  intro j hj
  have : j < 6 := hj
  rcases (by omega : j = 0 ∨ j = 1 ∨ j = 2 ∨ j = 3 ∨ j = 4 ∨ j = 5) with rfl | rfl | rfl | rfl | rfl | rfl <;> rfl
theorem sndReg_any (a : Int) (w : World) :
    Calls Try.prog 72 #[.int .i64 a] w fun e w' => e = .returned (.bool (decide (0 ≤ a ∧ a < 8))) ∧ w = w' := by
  by_cases h : 0 ≤ a
  · have hd : decide (0 ≤ a) = true := decide_eq_true h
    have e : decide (0 ≤ a ∧ a < 8) = decide (a < 8) := by by_cases h2 : a < 8 <;> simp [h, h2]
    rw [e]
    go_enter Try.func72, Try.ntmps72
    go_wp2_with fail
    go_ret
    exact ⟨rfl, rfl⟩
  · have hd : decide (0 ≤ a) = false := decide_eq_false h
    have e : decide (0 ≤ a ∧ a < 8) = false := decide_eq_false (fun q => h q.1)
    rw [e]
    go_enter Try.func72, Try.ntmps72
    go_wp2_with fail
    go_ret
    exact ⟨rfl, rfl⟩
theorem sndNew_any (w : World) : Calls Try.prog 32 #[] w fun e w' => ∃ v, e = .returned v ∧ devO w.heap.size w' v [0, 0, 0, 0, 0, 0, 0, 0, 0, 0, 0, 0] ∧ Below w.heap.size w w' := by
  obtain ⟨k0, bW, sW⟩ := boxes1 w (.cells #[.slice none 0 0, .slice none 0 0] 34)
  have k0 : rowB _ _ _ _ := k0
  go_enter Try.func32, Try.ntmps32
  go_wp2_with (first
    | (go_at_call 61; refine (sndDev_any ⟨⟨_, _, _, _, _, _⟩, ⟨_, _, _, _, _, _⟩⟩ _).mono ?_; rintro e w2 ⟨u, rfl, ⟨g, rfl, hg, hr⟩, hb⟩; have r1 := rowB_below k0 hb (rowB_lt k0); dsimp only [Sn.ns, List.length] at hr; rw [sW] at hg; have bX := bW.trans (hb.mono bW.size))
    | (refine wpList_storeR rfl 34 _ _ rfl w.heap.size rfl #[.slice (some ⟨g, 0, none⟩) 12 12, .slice none 0 0] rfl (dev2_one _ _ _ _ _ _) 34 #[.slice none 0 0, .slice none 0 0] rfl ?_ agDv ?_; with_reducible exact r1))
  refine bodyPost_ret (resultsR rfl w.heap.size _ rfl (rowB_row r1 _) agDv) rfl ?_
  exact ⟨_, rfl, ⟨g, rfl, by omega, rowB_row_other hr _ (by omega)⟩, below_rowR bX _ (by omega)⟩
set_option maxHeartbeats 2000000 in
theorem sndRead_any (v vm : Value) (l : List Int) (a : Int) (w : World) (h : isArg w v l) :
    Calls Try.prog 47 #[.agg #[v, vm], .int .i64 a] w fun e w' => ∃ v, e = .returned (.tuple #[v, .int .i64 ((Sn.of l).reg a)]) ∧ devO w.heap.size w' v (Sn.of l).ns ∧ Below w.heap.size w w' := by
  obtain ⟨k0, k1, bW, sW⟩ := boxes2 w (.cells #[v, vm] 34) (.cells #[.slice none 0 0, .slice none 0 0] 34)
  have k0 : rowB _ _ _ _ := k0
  have k1 : rowB _ _ _ _ := k1
  have h2 := isArg_below h bW (Nat.le_refl _)
  have hload := sndLoad_any v vm l _ h2
  have hfit := Sn.of_fit l
  generalize Sn.of l = s at *
  obtain ⟨⟨pa, va, ra, ca, fa, ga⟩, ⟨pb, vb, rb, cb, fb, gb⟩⟩ := s
  dsimp only [Sn.cs] at *
  rcases (by omega : ¬ (0 ≤ a ∧ a < 8) ∨ (0 ≤ a ∧ a < 4) ∨ (4 ≤ a ∧ a < 8)) with hc | hc | hc
  · have hreg : decide (0 ≤ a ∧ a < 8) = false := decide_eq_false hc
    have e : (⟨⟨pa, va, ra, ca, fa, ga⟩, ⟨pb, vb, rb, cb, fb, gb⟩⟩ : Sn).reg a = 0 := by unfold Sn.reg; rw [if_neg (by omega), if_neg (by omega)]
    rw [e]
    clear e
    dsimp only [Sn.ns]
    go_enter Try.func47, Try.ntmps47
    go_upto_region 2 with (go_at_call 71; refine hload.mono ?_; rintro e w1 ⟨rfl, hb⟩; have bX := bW.trans (hb.mono bW.size); have r1 := rowB_below k1 hb (rowB_lt k1); have hs := hb.size; rw [sW] at hs; clear hb hload)
    have nP := rowB_new w1 73 #[.int .i64 pa, .int .i64 va, .int .i64 ra, .int .i64 ca, .int .i64 fa, .int .i64 ga, .int .i64 pb, .int .i64 vb, .int .i64 rb, .int .i64 cb, .int .i64 fb, .int .i64 gb]
    replace r1 := rowB_alloc r1 (.cells #[.int .i64 pa, .int .i64 va, .int .i64 ra, .int .i64 ca, .int .i64 fa, .int .i64 ga, .int .i64 pb, .int .i64 vb, .int .i64 rb, .int .i64 cb, .int .i64 fb, .int .i64 gb] 73)
    replace bX := bX.alloc (by omega) (.cells #[.int .i64 pa, .int .i64 va, .int .i64 ra, .int .i64 ca, .int .i64 fa, .int .i64 ga, .int .i64 pb, .int .i64 vb, .int .i64 rb, .int .i64 cb, .int .i64 fb, .int .i64 gb] 73)
    have hlt := rowB_lt nP
    obtain ⟨y, hy⟩ : ∃ y, w1.heap.size = y := ⟨_, rfl⟩
    rw [hy] at nP hlt hs
    have HY := Lib.hid hy
    change Code.wp _ _ _ _ (w1.alloc (.cells #[.int .i64 pa, .int .i64 va, .int .i64 ra, .int .i64 ca, .int .i64 fa, .int .i64 ga, .int .i64 pb, .int .i64 vb, .int .i64 rb, .int .i64 cb, .int .i64 fb, .int .i64 gb] 73))
    rw [hy]
    clear hy HY
    generalize w1.alloc (.cells #[.int .i64 pa, .int .i64 va, .int .i64 ra, .int .i64 ca, .int .i64 fa, .int .i64 ga, .int .i64 pb, .int .i64 vb, .int .i64 rb, .int .i64 cb, .int .i64 fb, .int .i64 gb] 73) = w2 at *
    go_upto_region 3 with (go_at_call 72; refine (sndReg_any _ _).mono ?_; rintro e w' ⟨rfl, rfl⟩; rw [hreg])
    go_wp2_with (first
        | (refine wpList_loadR rfl 73 _ rfl y rfl 73 #[.int .i64 pa, .int .i64 va, .int .i64 ra, .int .i64 ca, .int .i64 fa, .int .i64 ga, .int .i64 pb, .int .i64 vb, .int .i64 rb, .int .i64 cb, .int .i64 fb, .int .i64 gb] ?_ agSn ?_; with_reducible exact nP)
        | (go_at_call 61; refine (sndDev_any ⟨⟨pa, va, ra, ca, fa, ga⟩, ⟨pb, vb, rb, cb, fb, gb⟩⟩ _).mono ?_; rintro e w3 ⟨u, rfl, ⟨g, rfl, hg, hr⟩, hb⟩; have r2 := rowB_below r1 hb (rowB_lt r1); dsimp only [Sn.ns, List.length] at hr; have l2 := rowB_lt r1; replace bX := bX.trans (hb.mono bX.size))
        | (refine wpList_storeR rfl 34 _ _ rfl (w.heap.size + 1) rfl #[.slice (some ⟨g, 0, none⟩) 12 12, .slice none 0 0] rfl (dev2_one _ _ _ _ _ _) 34 #[.slice none 0 0, .slice none 0 0] rfl ?_ agDv ?_; with_reducible exact r2)
  )
    refine bodyPost_ret (resultsRT rfl (w.heap.size + 1) _ rfl (rowB_row r2 _) agDv rfl) rfl ?_
    exact ⟨_, rfl, ⟨g, rfl, by omega, rowB_row_other hr _ (by omega)⟩, below_rowR bX _ (by omega)⟩
  · have hreg : decide (0 ≤ a ∧ a < 8) = true := decide_eq_true (by omega)
    have t1 : a.tdiv 4 = 0 := by rw [Int.tdiv_eq_ediv_of_nonneg (by omega)]; omega
    have t2 : a.tmod 4 = a := by rw [Int.tmod_eq_emod_of_nonneg (by omega)]; omega
    obtain ⟨R, hR⟩ : ∃ R, (⟨pa, va, ra, ca, fa, ga⟩ : Vc).reg (a) = R := ⟨_, rfl⟩
    have hRd := fun w => vcRead_any ⟨pa, va, ra, ca, fa, ga⟩ hfit.a (a) (by omega) w
    dsimp only [Vc.cs] at hRd
    simp only [hR] at hRd
    have e : (⟨⟨pa, va, ra, ca, fa, ga⟩, ⟨pb, vb, rb, cb, fb, gb⟩⟩ : Sn).reg a = R := by unfold Sn.reg; rw [if_pos (by omega)]; exact hR
    rw [e]
    clear e hR
    dsimp only [Sn.ns]
    go_enter Try.func47, Try.ntmps47
    go_upto_region 2 with (go_at_call 71; refine hload.mono ?_; rintro e w1 ⟨rfl, hb⟩; have bX := bW.trans (hb.mono bW.size); have r1 := rowB_below k1 hb (rowB_lt k1); have hs := hb.size; rw [sW] at hs; clear hb hload)
    have nP := rowB_new w1 73 #[.int .i64 pa, .int .i64 va, .int .i64 ra, .int .i64 ca, .int .i64 fa, .int .i64 ga, .int .i64 pb, .int .i64 vb, .int .i64 rb, .int .i64 cb, .int .i64 fb, .int .i64 gb]
    replace r1 := rowB_alloc r1 (.cells #[.int .i64 pa, .int .i64 va, .int .i64 ra, .int .i64 ca, .int .i64 fa, .int .i64 ga, .int .i64 pb, .int .i64 vb, .int .i64 rb, .int .i64 cb, .int .i64 fb, .int .i64 gb] 73)
    replace bX := bX.alloc (by omega) (.cells #[.int .i64 pa, .int .i64 va, .int .i64 ra, .int .i64 ca, .int .i64 fa, .int .i64 ga, .int .i64 pb, .int .i64 vb, .int .i64 rb, .int .i64 cb, .int .i64 fb, .int .i64 gb] 73)
    have hlt := rowB_lt nP
    obtain ⟨y, hy⟩ : ∃ y, w1.heap.size = y := ⟨_, rfl⟩
    rw [hy] at nP hlt hs
    have HY := Lib.hid hy
    change Code.wp _ _ _ _ (w1.alloc (.cells #[.int .i64 pa, .int .i64 va, .int .i64 ra, .int .i64 ca, .int .i64 fa, .int .i64 ga, .int .i64 pb, .int .i64 vb, .int .i64 rb, .int .i64 cb, .int .i64 fb, .int .i64 gb] 73))
    rw [hy]
    clear hy HY
    generalize w1.alloc (.cells #[.int .i64 pa, .int .i64 va, .int .i64 ra, .int .i64 ca, .int .i64 fa, .int .i64 ga, .int .i64 pb, .int .i64 vb, .int .i64 rb, .int .i64 cb, .int .i64 fb, .int .i64 gb] 73) = w2 at *
    go_upto_region 4 with (go_at_call 72; refine (sndReg_any _ _).mono ?_; rintro e w' ⟨rfl, rfl⟩; rw [hreg])
    have hS : Below w2.heap.size w2 w2.drew := (Below.refl _ _).drew
    refine wp_region_mix (fun w' => Below w2.heap.size w2 w') [(0, 1), (2, 1), (3, 1), (4, 1), (5, 1), (6, 1), (7, 1), (1, 3), (8, 2), (9, 2), (10, 0)] (by kernel_rfl) (by kernel_rfl) (fun _ _ _ _ _ h => h) ?_
    simp only [List.map_cons, List.map_nil, opOf, List.getD_cons_zero, List.getD_cons_succ]
    change wpMix _ _ _ _ _ _ w2.drew
    refine wpMix_held ((.agg #[.int .i64 pa, .int .i64 va, .int .i64 ra, .int .i64 ca, .int .i64 fa, .int .i64 ga, .int .i64 pb, .int .i64 vb, .int .i64 rb, .int .i64 cb, .int .i64 fb, .int .i64 gb])) rfl hS (fun w' hw' => exec_rowR 73 _ rfl y rfl 73 #[.int .i64 pa, .int .i64 va, .int .i64 ra, .int .i64 ca, .int .i64 fa, .int .i64 ga, .int .i64 pb, .int .i64 vb, .int .i64 rb, .int .i64 cb, .int .i64 fb, .int .i64 gb] (rowB_below nP hw' hlt) agSn) ?_
    simp only [Act.put, List.setIfInBounds_toArray, List.set_cons_zero, List.set_cons_succ]
    refine wpMix_held (.int .i64 a) rfl hS (fun w' hw' => by go_simp) ?_
    simp only [Act.put, List.setIfInBounds_toArray, List.set_cons_zero, List.set_cons_succ]
    refine wpMix_held (.int .i64 0) rfl hS (fun w' hw' => by go_simp; try decide) ?_
    simp only [Act.put, List.setIfInBounds_toArray, List.set_cons_zero, List.set_cons_succ]
    refine wpMix_held (.pointer (some ⟨y, 0, none⟩)) rfl hS (fun w' hw' => by go_simp) ?_
    simp only [Act.put, List.setIfInBounds_toArray, List.set_cons_zero, List.set_cons_succ]
    refine wpMix_held ((.agg #[.int .i64 pa, .int .i64 va, .int .i64 ra, .int .i64 ca, .int .i64 fa, .int .i64 ga])) rfl hS (fun w' hw' => exec_rowP 71 _ rfl y 0 rfl #[.int .i64 pa, .int .i64 va, .int .i64 ra, .int .i64 ca, .int .i64 fa, .int .i64 ga] 73 #[.int .i64 pa, .int .i64 va, .int .i64 ra, .int .i64 ca, .int .i64 fa, .int .i64 ga, .int .i64 pb, .int .i64 vb, .int .i64 rb, .int .i64 cb, .int .i64 fb, .int .i64 gb] (rowB_below nP hw' hlt) (partA _ _ _ _ _ _ _ _ _ _ _ _) agVc) ?_
    simp only [Act.put, List.setIfInBounds_toArray, List.set_cons_zero, List.set_cons_succ]
    refine wpMix_held (.int .i64 a) rfl hS (fun w' hw' => by go_simp) ?_
    simp only [Act.put, List.setIfInBounds_toArray, List.set_cons_zero, List.set_cons_succ]
    refine wpMix_held (.int .i64 (a)) rfl hS (fun w' hw' => by go_simp) ?_
    simp only [Act.put, List.setIfInBounds_toArray, List.set_cons_zero, List.set_cons_succ]
    refine wpMix_call ?_
    go_wp2_with (go_at_call 61; refine (sndDev_any ⟨⟨pa, va, ra, ca, fa, ga⟩, ⟨pb, vb, rb, cb, fb, gb⟩⟩ _).mono ?_; rintro e w3 ⟨u, rfl, ⟨g, rfl, hg, hr⟩, hb⟩; have hg2 := Nat.le_trans hS.size hg; replace hS := hS.trans (hb.mono hS.size); clear hb hg)
    first | refine ⟨fun _ => hS, ?_⟩ | refine ⟨hS, ?_⟩ | refine And.intro (fun _ => hS) ?_
    refine wpMix_call ?_
    go_wp2_with (go_at_call 79; refine (hRd _).mono ?_; rintro e w4 ⟨rfl, hb⟩; replace hr := rowB_below hr hb (rowB_lt hr); replace hS := hS.trans (hb.mono hS.size); clear hb)
    have q1 := rowB_below r1 hS (rowB_lt r1)
    dsimp only [Sn.ns, List.length] at hr
    try refine ⟨fun h => (by cases h), ?_⟩
    refine wpMix_call ?_
    go_wp2_with (refine wpList_storeR rfl 34 _ _ rfl (w.heap.size + 1) rfl #[.slice (some ⟨g, 0, none⟩) 12 12, .slice none 0 0] rfl (dev2_one _ _ _ _ _ _) 34 #[.slice none 0 0, .slice none 0 0] rfl ?_ agDv ?_; with_reducible exact q1)
    try refine ⟨fun h => (by cases h), ?_⟩
    (refine wpMix_still (fun K hK => ?_); go_simp; refine hK _ ?_; clear hK K)
    refine wpMix_nil ?_
    go_wp2_with fail
    have hl2 := rowB_lt r1
    refine bodyPost_ret (resultsRT rfl (w.heap.size + 1) _ rfl (rowB_row q1 _) agDv rfl) rfl ?_
    exact ⟨_, rfl, ⟨g, rfl, by omega, rowB_row_other hr _ (by omega)⟩, below_rowR (bX.trans (hS.mono bX.size)) _ (by omega)⟩
  · have hreg : decide (0 ≤ a ∧ a < 8) = true := decide_eq_true (by omega)
    have t1 : a.tdiv 4 = 1 := by rw [Int.tdiv_eq_ediv_of_nonneg (by omega)]; omega
    have t2 : a.tmod 4 = a - 4 := by rw [Int.tmod_eq_emod_of_nonneg (by omega)]; omega
    obtain ⟨R, hR⟩ : ∃ R, (⟨pb, vb, rb, cb, fb, gb⟩ : Vc).reg (a - 4) = R := ⟨_, rfl⟩
    have hRd := fun w => vcRead_any ⟨pb, vb, rb, cb, fb, gb⟩ hfit.b (a - 4) (by omega) w
    dsimp only [Vc.cs] at hRd
    simp only [hR] at hRd
    have e : (⟨⟨pa, va, ra, ca, fa, ga⟩, ⟨pb, vb, rb, cb, fb, gb⟩⟩ : Sn).reg a = R := by unfold Sn.reg; rw [if_neg (by omega), if_pos (by omega)]; exact hR
    rw [e]
    clear e hR
    dsimp only [Sn.ns]
    go_enter Try.func47, Try.ntmps47
    go_upto_region 2 with (go_at_call 71; refine hload.mono ?_; rintro e w1 ⟨rfl, hb⟩; have bX := bW.trans (hb.mono bW.size); have r1 := rowB_below k1 hb (rowB_lt k1); have hs := hb.size; rw [sW] at hs; clear hb hload)
    have nP := rowB_new w1 73 #[.int .i64 pa, .int .i64 va, .int .i64 ra, .int .i64 ca, .int .i64 fa, .int .i64 ga, .int .i64 pb, .int .i64 vb, .int .i64 rb, .int .i64 cb, .int .i64 fb, .int .i64 gb]
    replace r1 := rowB_alloc r1 (.cells #[.int .i64 pa, .int .i64 va, .int .i64 ra, .int .i64 ca, .int .i64 fa, .int .i64 ga, .int .i64 pb, .int .i64 vb, .int .i64 rb, .int .i64 cb, .int .i64 fb, .int .i64 gb] 73)
    replace bX := bX.alloc (by omega) (.cells #[.int .i64 pa, .int .i64 va, .int .i64 ra, .int .i64 ca, .int .i64 fa, .int .i64 ga, .int .i64 pb, .int .i64 vb, .int .i64 rb, .int .i64 cb, .int .i64 fb, .int .i64 gb] 73)
    have hlt := rowB_lt nP
    obtain ⟨y, hy⟩ : ∃ y, w1.heap.size = y := ⟨_, rfl⟩
    rw [hy] at nP hlt hs
    have HY := Lib.hid hy
    change Code.wp _ _ _ _ (w1.alloc (.cells #[.int .i64 pa, .int .i64 va, .int .i64 ra, .int .i64 ca, .int .i64 fa, .int .i64 ga, .int .i64 pb, .int .i64 vb, .int .i64 rb, .int .i64 cb, .int .i64 fb, .int .i64 gb] 73))
    rw [hy]
    clear hy HY
    generalize w1.alloc (.cells #[.int .i64 pa, .int .i64 va, .int .i64 ra, .int .i64 ca, .int .i64 fa, .int .i64 ga, .int .i64 pb, .int .i64 vb, .int .i64 rb, .int .i64 cb, .int .i64 fb, .int .i64 gb] 73) = w2 at *
    go_upto_region 4 with (go_at_call 72; refine (sndReg_any _ _).mono ?_; rintro e w' ⟨rfl, rfl⟩; rw [hreg])
    have hS : Below w2.heap.size w2 w2.drew := (Below.refl _ _).drew
    refine wp_region_mix (fun w' => Below w2.heap.size w2 w') [(0, 1), (2, 1), (3, 1), (4, 1), (5, 1), (6, 1), (7, 1), (1, 3), (8, 2), (9, 2), (10, 0)] (by kernel_rfl) (by kernel_rfl) (fun _ _ _ _ _ h => h) ?_
    simp only [List.map_cons, List.map_nil, opOf, List.getD_cons_zero, List.getD_cons_succ]
    change wpMix _ _ _ _ _ _ w2.drew
    refine wpMix_held ((.agg #[.int .i64 pa, .int .i64 va, .int .i64 ra, .int .i64 ca, .int .i64 fa, .int .i64 ga, .int .i64 pb, .int .i64 vb, .int .i64 rb, .int .i64 cb, .int .i64 fb, .int .i64 gb])) rfl hS (fun w' hw' => exec_rowR 73 _ rfl y rfl 73 #[.int .i64 pa, .int .i64 va, .int .i64 ra, .int .i64 ca, .int .i64 fa, .int .i64 ga, .int .i64 pb, .int .i64 vb, .int .i64 rb, .int .i64 cb, .int .i64 fb, .int .i64 gb] (rowB_below nP hw' hlt) agSn) ?_
    simp only [Act.put, List.setIfInBounds_toArray, List.set_cons_zero, List.set_cons_succ]
    refine wpMix_held (.int .i64 a) rfl hS (fun w' hw' => by go_simp) ?_
    simp only [Act.put, List.setIfInBounds_toArray, List.set_cons_zero, List.set_cons_succ]
    refine wpMix_held (.int .i64 1) rfl hS (fun w' hw' => by go_simp; try decide) ?_
    simp only [Act.put, List.setIfInBounds_toArray, List.set_cons_zero, List.set_cons_succ]
    refine wpMix_held (.pointer (some ⟨y, 6, none⟩)) rfl hS (fun w' hw' => by go_simp) ?_
    simp only [Act.put, List.setIfInBounds_toArray, List.set_cons_zero, List.set_cons_succ]
    refine wpMix_held ((.agg #[.int .i64 pb, .int .i64 vb, .int .i64 rb, .int .i64 cb, .int .i64 fb, .int .i64 gb])) rfl hS (fun w' hw' => exec_rowP 71 _ rfl y 6 rfl #[.int .i64 pb, .int .i64 vb, .int .i64 rb, .int .i64 cb, .int .i64 fb, .int .i64 gb] 73 #[.int .i64 pa, .int .i64 va, .int .i64 ra, .int .i64 ca, .int .i64 fa, .int .i64 ga, .int .i64 pb, .int .i64 vb, .int .i64 rb, .int .i64 cb, .int .i64 fb, .int .i64 gb] (rowB_below nP hw' hlt) (partB _ _ _ _ _ _ _ _ _ _ _ _) agVc) ?_
    simp only [Act.put, List.setIfInBounds_toArray, List.set_cons_zero, List.set_cons_succ]
    refine wpMix_held (.int .i64 a) rfl hS (fun w' hw' => by go_simp) ?_
    simp only [Act.put, List.setIfInBounds_toArray, List.set_cons_zero, List.set_cons_succ]
    refine wpMix_held (.int .i64 (a - 4)) rfl hS (fun w' hw' => by go_simp) ?_
    simp only [Act.put, List.setIfInBounds_toArray, List.set_cons_zero, List.set_cons_succ]
    refine wpMix_call ?_
    go_wp2_with (go_at_call 61; refine (sndDev_any ⟨⟨pa, va, ra, ca, fa, ga⟩, ⟨pb, vb, rb, cb, fb, gb⟩⟩ _).mono ?_; rintro e w3 ⟨u, rfl, ⟨g, rfl, hg, hr⟩, hb⟩; have hg2 := Nat.le_trans hS.size hg; replace hS := hS.trans (hb.mono hS.size); clear hb hg)
    first | refine ⟨fun _ => hS, ?_⟩ | refine ⟨hS, ?_⟩ | refine And.intro (fun _ => hS) ?_
    refine wpMix_call ?_
    go_wp2_with (go_at_call 79; refine (hRd _).mono ?_; rintro e w4 ⟨rfl, hb⟩; replace hr := rowB_below hr hb (rowB_lt hr); replace hS := hS.trans (hb.mono hS.size); clear hb)
    have q1 := rowB_below r1 hS (rowB_lt r1)
    dsimp only [Sn.ns, List.length] at hr
    try refine ⟨fun h => (by cases h), ?_⟩
    refine wpMix_call ?_
    go_wp2_with (refine wpList_storeR rfl 34 _ _ rfl (w.heap.size + 1) rfl #[.slice (some ⟨g, 0, none⟩) 12 12, .slice none 0 0] rfl (dev2_one _ _ _ _ _ _) 34 #[.slice none 0 0, .slice none 0 0] rfl ?_ agDv ?_; with_reducible exact q1)
    try refine ⟨fun h => (by cases h), ?_⟩
    (refine wpMix_still (fun K hK => ?_); go_simp; refine hK _ ?_; clear hK K)
    refine wpMix_nil ?_
    go_wp2_with fail
    have hl2 := rowB_lt r1
    refine bodyPost_ret (resultsRT rfl (w.heap.size + 1) _ rfl (rowB_row q1 _) agDv rfl) rfl ?_
    exact ⟨_, rfl, ⟨g, rfl, by omega, rowB_row_other hr _ (by omega)⟩, below_rowR (bX.trans (hS.mono bX.size)) _ (by omega)⟩
set_option maxHeartbeats 2000000 in
theorem sndWrite_any (v vm : Value) (l : List Int) (a : Int) (x : Int) (w : World) (h : isArg w v l) :
    Calls Try.prog 40 #[.agg #[v, vm], .int .i64 a, .int .i64 x] w fun e w' => ∃ v, e = .returned v ∧ devO w.heap.size w' v ((Sn.of l).write a x).ns ∧ Below w.heap.size w w' := by
  obtain ⟨k0, k1, bW, sW⟩ := boxes2 w (.cells #[v, vm] 34) (.cells #[.slice none 0 0, .slice none 0 0] 34)
  have k0 : rowB _ _ _ _ := k0
  have k1 : rowB _ _ _ _ := k1
  have h2 := isArg_below h bW (Nat.le_refl _)
  have hload := sndLoad_any v vm l _ h2
  have hfit := Sn.of_fit l
  generalize Sn.of l = s at *
  obtain ⟨⟨pa, va, ra, ca, fa, ga⟩, ⟨pb, vb, rb, cb, fb, gb⟩⟩ := s
  dsimp only [Sn.cs] at *
  rcases (by omega : ¬ (0 ≤ a ∧ a < 8) ∨ (0 ≤ a ∧ a < 4) ∨ (4 ≤ a ∧ a < 8)) with hc | hc | hc
  · have hreg : decide (0 ≤ a ∧ a < 8) = false := decide_eq_false hc
    have e : (⟨⟨pa, va, ra, ca, fa, ga⟩, ⟨pb, vb, rb, cb, fb, gb⟩⟩ : Sn).write a x = ⟨⟨pa, va, ra, ca, fa, ga⟩, ⟨pb, vb, rb, cb, fb, gb⟩⟩ := by unfold Sn.write; rw [if_neg (by omega), if_neg (by omega)]
    rw [e]
    clear e
    dsimp only [Sn.ns]
    go_enter Try.func40, Try.ntmps40
    go_upto_region 2 with (go_at_call 71; refine hload.mono ?_; rintro e w1 ⟨rfl, hb⟩; have bX := bW.trans (hb.mono bW.size); have r1 := rowB_below k1 hb (rowB_lt k1); have hs := hb.size; rw [sW] at hs; clear hb hload)
    have nP := rowB_new w1 73 #[.int .i64 pa, .int .i64 va, .int .i64 ra, .int .i64 ca, .int .i64 fa, .int .i64 ga, .int .i64 pb, .int .i64 vb, .int .i64 rb, .int .i64 cb, .int .i64 fb, .int .i64 gb]
    replace r1 := rowB_alloc r1 (.cells #[.int .i64 pa, .int .i64 va, .int .i64 ra, .int .i64 ca, .int .i64 fa, .int .i64 ga, .int .i64 pb, .int .i64 vb, .int .i64 rb, .int .i64 cb, .int .i64 fb, .int .i64 gb] 73)
    replace bX := bX.alloc (by omega) (.cells #[.int .i64 pa, .int .i64 va, .int .i64 ra, .int .i64 ca, .int .i64 fa, .int .i64 ga, .int .i64 pb, .int .i64 vb, .int .i64 rb, .int .i64 cb, .int .i64 fb, .int .i64 gb] 73)
    have hlt := rowB_lt nP
    obtain ⟨y, hy⟩ : ∃ y, w1.heap.size = y := ⟨_, rfl⟩
    rw [hy] at nP hlt hs
    have HY := Lib.hid hy
    change Code.wp _ _ _ _ (w1.alloc (.cells #[.int .i64 pa, .int .i64 va, .int .i64 ra, .int .i64 ca, .int .i64 fa, .int .i64 ga, .int .i64 pb, .int .i64 vb, .int .i64 rb, .int .i64 cb, .int .i64 fb, .int .i64 gb] 73))
    rw [hy]
    clear hy HY
    generalize w1.alloc (.cells #[.int .i64 pa, .int .i64 va, .int .i64 ra, .int .i64 ca, .int .i64 fa, .int .i64 ga, .int .i64 pb, .int .i64 vb, .int .i64 rb, .int .i64 cb, .int .i64 fb, .int .i64 gb] 73) = w2 at *
    go_upto_region 4 with (go_at_call 72; refine (sndReg_any _ _).mono ?_; rintro e w' ⟨rfl, rfl⟩; rw [hreg])
    go_wp2_with (first
        | (refine wpList_loadR rfl 73 _ rfl y rfl 73 #[.int .i64 pa, .int .i64 va, .int .i64 ra, .int .i64 ca, .int .i64 fa, .int .i64 ga, .int .i64 pb, .int .i64 vb, .int .i64 rb, .int .i64 cb, .int .i64 fb, .int .i64 gb] ?_ agSn ?_; with_reducible exact nP)
        | (go_at_call 61; refine (sndDev_any ⟨⟨pa, va, ra, ca, fa, ga⟩, ⟨pb, vb, rb, cb, fb, gb⟩⟩ _).mono ?_; rintro e w3 ⟨u, rfl, ⟨g, rfl, hg, hr⟩, hb⟩; have r2 := rowB_below r1 hb (rowB_lt r1); dsimp only [Sn.ns, List.length] at hr; have l2 := rowB_lt r1; replace bX := bX.trans (hb.mono bX.size))
        | (refine wpList_storeR rfl 34 _ _ rfl (w.heap.size + 1) rfl #[.slice (some ⟨g, 0, none⟩) 12 12, .slice none 0 0] rfl (dev2_one _ _ _ _ _ _) 34 #[.slice none 0 0, .slice none 0 0] rfl ?_ agDv ?_; with_reducible exact r2)
  )
    refine bodyPost_ret (resultsR rfl (w.heap.size + 1) _ rfl (rowB_row r2 _) agDv) rfl ?_
    exact ⟨_, rfl, ⟨g, rfl, by omega, rowB_row_other hr _ (by omega)⟩, below_rowR bX _ (by omega)⟩
  · have hreg : decide (0 ≤ a ∧ a < 8) = true := decide_eq_true (by omega)
    have t1 : a.tdiv 4 = 0 := by rw [Int.tdiv_eq_ediv_of_nonneg (by omega)]; omega
    have t2 : a.tmod 4 = a := by rw [Int.tmod_eq_emod_of_nonneg (by omega)]; omega
    obtain ⟨⟨tpa, tva, tra, tca, tfa, tga⟩, hR⟩ : ∃ R, (⟨pa, va, ra, ca, fa, ga⟩ : Vc).write (a) x = R := ⟨_, rfl⟩
    have hWr := fun w => vcWrite_any ⟨pa, va, ra, ca, fa, ga⟩ hfit.a (a) x (by omega) w
    simp only [hR] at hWr
    dsimp only [Vc.cs] at hWr
    have e : (⟨⟨pa, va, ra, ca, fa, ga⟩, ⟨pb, vb, rb, cb, fb, gb⟩⟩ : Sn).write a x = ⟨⟨tpa, tva, tra, tca, tfa, tga⟩, ⟨pb, vb, rb, cb, fb, gb⟩⟩ := by unfold Sn.write; rw [if_pos (by omega)]; dsimp only; rw [hR]
    rw [e]
    clear e hR
    dsimp only [Sn.ns]
    go_enter Try.func40, Try.ntmps40
    go_upto_region 2 with (go_at_call 71; refine hload.mono ?_; rintro e w1 ⟨rfl, hb⟩; have bX := bW.trans (hb.mono bW.size); have r1 := rowB_below k1 hb (rowB_lt k1); have hs := hb.size; rw [sW] at hs; clear hb hload)
    have nP := rowB_new w1 73 #[.int .i64 pa, .int .i64 va, .int .i64 ra, .int .i64 ca, .int .i64 fa, .int .i64 ga, .int .i64 pb, .int .i64 vb, .int .i64 rb, .int .i64 cb, .int .i64 fb, .int .i64 gb]
    replace r1 := rowB_alloc r1 (.cells #[.int .i64 pa, .int .i64 va, .int .i64 ra, .int .i64 ca, .int .i64 fa, .int .i64 ga, .int .i64 pb, .int .i64 vb, .int .i64 rb, .int .i64 cb, .int .i64 fb, .int .i64 gb] 73)
    replace bX := bX.alloc (by omega) (.cells #[.int .i64 pa, .int .i64 va, .int .i64 ra, .int .i64 ca, .int .i64 fa, .int .i64 ga, .int .i64 pb, .int .i64 vb, .int .i64 rb, .int .i64 cb, .int .i64 fb, .int .i64 gb] 73)
    have hlt := rowB_lt nP
    obtain ⟨y, hy⟩ : ∃ y, w1.heap.size = y := ⟨_, rfl⟩
    rw [hy] at nP hlt hs
    have HY := Lib.hid hy
    change Code.wp _ _ _ _ (w1.alloc (.cells #[.int .i64 pa, .int .i64 va, .int .i64 ra, .int .i64 ca, .int .i64 fa, .int .i64 ga, .int .i64 pb, .int .i64 vb, .int .i64 rb, .int .i64 cb, .int .i64 fb, .int .i64 gb] 73))
    rw [hy]
    clear hy HY
    generalize w1.alloc (.cells #[.int .i64 pa, .int .i64 va, .int .i64 ra, .int .i64 ca, .int .i64 fa, .int .i64 ga, .int .i64 pb, .int .i64 vb, .int .i64 rb, .int .i64 cb, .int .i64 fb, .int .i64 gb] 73) = w2 at *
    go_upto_region 3 with (go_at_call 72; refine (sndReg_any _ _).mono ?_; rintro e w' ⟨rfl, rfl⟩; rw [hreg])
    go_upto_region 4 with (first
        | (refine wpList_loadP rfl 71 _ rfl y 0 rfl #[.int .i64 pa, .int .i64 va, .int .i64 ra, .int .i64 ca, .int .i64 fa, .int .i64 ga] 73 #[.int .i64 pa, .int .i64 va, .int .i64 ra, .int .i64 ca, .int .i64 fa, .int .i64 ga, .int .i64 pb, .int .i64 vb, .int .i64 rb, .int .i64 cb, .int .i64 fb, .int .i64 gb] ?_ (partA _ _ _ _ _ _ _ _ _ _ _ _) agVc ?_; with_reducible exact nP)
        | (go_at_call 73; refine (hWr _).mono ?_; rintro e w4 ⟨rfl, hb⟩; have n4 := rowB_below nP hb hlt; replace r1 := rowB_below r1 hb (rowB_lt r1); replace bX := bX.trans (hb.mono bX.size); clear hb)
        | (refine wpList_storeP rfl 71 _ _ rfl y 0 rfl #[.int .i64 tpa, .int .i64 tva, .int .i64 tra, .int .i64 tca, .int .i64 tfa, .int .i64 tga] rfl (Vc.one _ _ _ _ _ _) 73 #[.int .i64 pa, .int .i64 va, .int .i64 ra, .int .i64 ca, .int .i64 fa, .int .i64 ga, .int .i64 pb, .int .i64 vb, .int .i64 rb, .int .i64 cb, .int .i64 fb, .int .i64 gb] ?_ (Nat.le_of_ble_eq_true rfl) agVc ?_; with_reducible exact n4)
  )
    replace nP : rowB _ y 73 #[.int .i64 tpa, .int .i64 tva, .int .i64 tra, .int .i64 tca, .int .i64 tfa, .int .i64 tga, .int .i64 pb, .int .i64 vb, .int .i64 rb, .int .i64 cb, .int .i64 fb, .int .i64 gb] := rowB_eq (rowB_puts n4 0 #[.int .i64 tpa, .int .i64 tva, .int .i64 tra, .int .i64 tca, .int .i64 tfa, .int .i64 tga].toList) rfl
    replace r1 := rowB_puts_other r1 (show y ≠ _ by omega) 0 #[.int .i64 tpa, .int .i64 tva, .int .i64 tra, .int .i64 tca, .int .i64 tfa, .int .i64 tga].toList
    replace bX := below_puts bX (show w.heap.size ≤ y by omega) 0 #[.int .i64 tpa, .int .i64 tva, .int .i64 tra, .int .i64 tca, .int .i64 tfa, .int .i64 tga].toList
    go_wp2_with (first
        | (refine wpList_loadR rfl 73 _ rfl y rfl 73 #[.int .i64 tpa, .int .i64 tva, .int .i64 tra, .int .i64 tca, .int .i64 tfa, .int .i64 tga, .int .i64 pb, .int .i64 vb, .int .i64 rb, .int .i64 cb, .int .i64 fb, .int .i64 gb] ?_ agSn ?_; with_reducible exact nP)
        | (go_at_call 61; refine (sndDev_any ⟨⟨tpa, tva, tra, tca, tfa, tga⟩, ⟨pb, vb, rb, cb, fb, gb⟩⟩ _).mono ?_; rintro e w3 ⟨u, rfl, ⟨g, rfl, hg, hr⟩, hb⟩; have r2 := rowB_below r1 hb (rowB_lt r1); dsimp only [Sn.ns, List.length] at hr; have l2 := rowB_lt r1; replace bX := bX.trans (hb.mono bX.size))
        | (refine wpList_storeR rfl 34 _ _ rfl (w.heap.size + 1) rfl #[.slice (some ⟨g, 0, none⟩) 12 12, .slice none 0 0] rfl (dev2_one _ _ _ _ _ _) 34 #[.slice none 0 0, .slice none 0 0] rfl ?_ agDv ?_; with_reducible exact r2)
  )
    refine bodyPost_ret (resultsR rfl (w.heap.size + 1) _ rfl (rowB_row r2 _) agDv) rfl ?_
    exact ⟨_, rfl, ⟨g, rfl, by omega, rowB_row_other hr _ (by omega)⟩, below_rowR bX _ (by omega)⟩
  · have hreg : decide (0 ≤ a ∧ a < 8) = true := decide_eq_true (by omega)
    have t1 : a.tdiv 4 = 1 := by rw [Int.tdiv_eq_ediv_of_nonneg (by omega)]; omega
    have t2 : a.tmod 4 = a - 4 := by rw [Int.tmod_eq_emod_of_nonneg (by omega)]; omega
    obtain ⟨⟨tpb, tvb, trb, tcb, tfb, tgb⟩, hR⟩ : ∃ R, (⟨pb, vb, rb, cb, fb, gb⟩ : Vc).write (a - 4) x = R := ⟨_, rfl⟩
    have hWr := fun w => vcWrite_any ⟨pb, vb, rb, cb, fb, gb⟩ hfit.b (a - 4) x (by omega) w
    simp only [hR] at hWr
    dsimp only [Vc.cs] at hWr
    have e : (⟨⟨pa, va, ra, ca, fa, ga⟩, ⟨pb, vb, rb, cb, fb, gb⟩⟩ : Sn).write a x = ⟨⟨pa, va, ra, ca, fa, ga⟩, ⟨tpb, tvb, trb, tcb, tfb, tgb⟩⟩ := by unfold Sn.write; rw [if_neg (by omega), if_pos (by omega)]; dsimp only; rw [hR]
    rw [e]
    clear e hR
    dsimp only [Sn.ns]
    go_enter Try.func40, Try.ntmps40
    go_upto_region 2 with (go_at_call 71; refine hload.mono ?_; rintro e w1 ⟨rfl, hb⟩; have bX := bW.trans (hb.mono bW.size); have r1 := rowB_below k1 hb (rowB_lt k1); have hs := hb.size; rw [sW] at hs; clear hb hload)
    have nP := rowB_new w1 73 #[.int .i64 pa, .int .i64 va, .int .i64 ra, .int .i64 ca, .int .i64 fa, .int .i64 ga, .int .i64 pb, .int .i64 vb, .int .i64 rb, .int .i64 cb, .int .i64 fb, .int .i64 gb]
    replace r1 := rowB_alloc r1 (.cells #[.int .i64 pa, .int .i64 va, .int .i64 ra, .int .i64 ca, .int .i64 fa, .int .i64 ga, .int .i64 pb, .int .i64 vb, .int .i64 rb, .int .i64 cb, .int .i64 fb, .int .i64 gb] 73)
    replace bX := bX.alloc (by omega) (.cells #[.int .i64 pa, .int .i64 va, .int .i64 ra, .int .i64 ca, .int .i64 fa, .int .i64 ga, .int .i64 pb, .int .i64 vb, .int .i64 rb, .int .i64 cb, .int .i64 fb, .int .i64 gb] 73)
    have hlt := rowB_lt nP
    obtain ⟨y, hy⟩ : ∃ y, w1.heap.size = y := ⟨_, rfl⟩
    rw [hy] at nP hlt hs
    have HY := Lib.hid hy
    change Code.wp _ _ _ _ (w1.alloc (.cells #[.int .i64 pa, .int .i64 va, .int .i64 ra, .int .i64 ca, .int .i64 fa, .int .i64 ga, .int .i64 pb, .int .i64 vb, .int .i64 rb, .int .i64 cb, .int .i64 fb, .int .i64 gb] 73))
    rw [hy]
    clear hy HY
    generalize w1.alloc (.cells #[.int .i64 pa, .int .i64 va, .int .i64 ra, .int .i64 ca, .int .i64 fa, .int .i64 ga, .int .i64 pb, .int .i64 vb, .int .i64 rb, .int .i64 cb, .int .i64 fb, .int .i64 gb] 73) = w2 at *
    go_upto_region 3 with (go_at_call 72; refine (sndReg_any _ _).mono ?_; rintro e w' ⟨rfl, rfl⟩; rw [hreg])
    go_upto_region 4 with (first
        | (refine wpList_loadP rfl 71 _ rfl y 6 rfl #[.int .i64 pb, .int .i64 vb, .int .i64 rb, .int .i64 cb, .int .i64 fb, .int .i64 gb] 73 #[.int .i64 pa, .int .i64 va, .int .i64 ra, .int .i64 ca, .int .i64 fa, .int .i64 ga, .int .i64 pb, .int .i64 vb, .int .i64 rb, .int .i64 cb, .int .i64 fb, .int .i64 gb] ?_ (partB _ _ _ _ _ _ _ _ _ _ _ _) agVc ?_; with_reducible exact nP)
        | (go_at_call 73; refine (hWr _).mono ?_; rintro e w4 ⟨rfl, hb⟩; have n4 := rowB_below nP hb hlt; replace r1 := rowB_below r1 hb (rowB_lt r1); replace bX := bX.trans (hb.mono bX.size); clear hb)
        | (refine wpList_storeP rfl 71 _ _ rfl y 6 rfl #[.int .i64 tpb, .int .i64 tvb, .int .i64 trb, .int .i64 tcb, .int .i64 tfb, .int .i64 tgb] rfl (Vc.one _ _ _ _ _ _) 73 #[.int .i64 pa, .int .i64 va, .int .i64 ra, .int .i64 ca, .int .i64 fa, .int .i64 ga, .int .i64 pb, .int .i64 vb, .int .i64 rb, .int .i64 cb, .int .i64 fb, .int .i64 gb] ?_ (Nat.le_of_ble_eq_true rfl) agVc ?_; with_reducible exact n4)
  )
    replace nP : rowB _ y 73 #[.int .i64 pa, .int .i64 va, .int .i64 ra, .int .i64 ca, .int .i64 fa, .int .i64 ga, .int .i64 tpb, .int .i64 tvb, .int .i64 trb, .int .i64 tcb, .int .i64 tfb, .int .i64 tgb] := rowB_eq (rowB_puts n4 6 #[.int .i64 tpb, .int .i64 tvb, .int .i64 trb, .int .i64 tcb, .int .i64 tfb, .int .i64 tgb].toList) rfl
    replace r1 := rowB_puts_other r1 (show y ≠ _ by omega) 6 #[.int .i64 tpb, .int .i64 tvb, .int .i64 trb, .int .i64 tcb, .int .i64 tfb, .int .i64 tgb].toList
    replace bX := below_puts bX (show w.heap.size ≤ y by omega) 6 #[.int .i64 tpb, .int .i64 tvb, .int .i64 trb, .int .i64 tcb, .int .i64 tfb, .int .i64 tgb].toList
    go_wp2_with (first
        | (refine wpList_loadR rfl 73 _ rfl y rfl 73 #[.int .i64 pa, .int .i64 va, .int .i64 ra, .int .i64 ca, .int .i64 fa, .int .i64 ga, .int .i64 tpb, .int .i64 tvb, .int .i64 trb, .int .i64 tcb, .int .i64 tfb, .int .i64 tgb] ?_ agSn ?_; with_reducible exact nP)
        | (go_at_call 61; refine (sndDev_any ⟨⟨pa, va, ra, ca, fa, ga⟩, ⟨tpb, tvb, trb, tcb, tfb, tgb⟩⟩ _).mono ?_; rintro e w3 ⟨u, rfl, ⟨g, rfl, hg, hr⟩, hb⟩; have r2 := rowB_below r1 hb (rowB_lt r1); dsimp only [Sn.ns, List.length] at hr; have l2 := rowB_lt r1; replace bX := bX.trans (hb.mono bX.size))
        | (refine wpList_storeR rfl 34 _ _ rfl (w.heap.size + 1) rfl #[.slice (some ⟨g, 0, none⟩) 12 12, .slice none 0 0] rfl (dev2_one _ _ _ _ _ _) 34 #[.slice none 0 0, .slice none 0 0] rfl ?_ agDv ?_; with_reducible exact r2)
  )
    refine bodyPost_ret (resultsR rfl (w.heap.size + 1) _ rfl (rowB_row r2 _) agDv) rfl ?_
    exact ⟨_, rfl, ⟨g, rfl, by omega, rowB_row_other hr _ (by omega)⟩, below_rowR bX _ (by omega)⟩
end Go.Proofs.Ytakaebjojgeehaa
