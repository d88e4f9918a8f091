/- The walk of the law SoundTicks. -/
import Derived.Test.YtbpjkdigihpohaaChecked
import Derived.Test.YtbpjkdigihpohaaDevSame
import Derived.Test.YtbpjkdigihpohaaSndKeep
import Derived.Test.YtbpjkdigihpohaaSndRb
import Derived.Below
import Derived.BigQuiet
import Derived.ChangeMaps5
import Derived.Deep.AppendSrc
import Derived.Deep.DeepCutAuto
import Derived.Deep.Draws
import Derived.Deep.MidRow
import Derived.Deep.OwnRows
import Derived.Deep.QuietTactic
import Derived.Deep.RegionHeld3
import Derived.Deep.RegionWith
import Derived.Deep.Slices
import Derived.Deep.WholeRow
import Derived.Lib.Hide
import Derived.Lib.SmallJoins
import Derived.OpenShut
import Derived.OrdersHeld
import Derived.OwnWalk
import Derived.RowKit3
import Derived.StillTactics
import Derived.StillTail
import Derived.StillTailTactics
import Derived.WalkKit
namespace Go.Proofs.Ytbpjkdigihpohaa
open Go.RowKit
set_option maxRecDepth 100000
set_option maxHeartbeats 4000000 in
theorem soundTicks_walk (v vm : Value) (l : List Int) (k : Int) (w : World) (h : isArg w v l) (hk : -9223372036854775808 ≤ k ∧ k ≤ 9223372036854775807) :
    Calls Try.prog 4 #[.agg #[v, vm], .int .i64 k] w fun e w' => e = .returned (.bool true) ∧ Below w.heap.size w w' := by
  obtain ⟨k0, k1, bW, sW⟩ := boxes2 w (.cells #[v, vm] 25) (.cells #[.string ByteArray.empty, .int .i64 7, .int .i64 0, .int .i64 0, .slice none 0 0] 27)
  have k0 : rowB _ _ _ _ := k0
  have k1 : rowB _ _ _ _ := k1
  have h0 := isArg_below h bW (Nat.le_refl _)
  by_cases hb : 6000 < k
  · have hd : decide (6000 < k) = true := decide_eq_true hb
    go_enter Try.func4, Try.ntmps4
    go_wp2_with fail
    go_ret
    exact ⟨rfl, bW⟩
  · have hd : decide (6000 < k) = false := decide_eq_false hb
    obtain ⟨K, hK⟩ : ∃ K : Nat, K = k.toNat := ⟨_, rfl⟩
    have hfit := Sn.of_fit l
    have hT : ((Sn.of l).ticks K) = (Sn.of l).skip k := by
      by_cases h0 : 0 ≤ k
      · rw [← Sn.skip_ticks hfit K (by omega), hK, Int.toNat_of_nonneg h0]
      · rw [Sn.skip_neg (show k ≤ 0 by omega), show K = 0 by omega]; rfl
    have hF := formedSnd_any ByteArray.empty 0 0 (.slice none 0 0) v vm l _ h0
    rw [fmSnd] at hF
    obtain ⟨s, hs⟩ : ∃ s, Sn.of l = s := ⟨_, rfl⟩
    rw [hs] at hF hfit hT
    go_enter Try.func4, Try.ntmps4
    go_upto_region 5 with (go_at_call 19; refine hF.mono ?_; rintro e w2 ⟨u, rfl, ⟨gf, rfl, hg, hr⟩, hb2⟩)
    change Code.wp _ _ _ _ (w2.alloc (.cells #[.slice (some ⟨gf, 0, none⟩) 12 12, .slice none 0 0] 25))
    have p0 := rowB_below k0 hb2 (rowB_lt k0)
    have p1 := rowB_below k1 hb2 (rowB_lt k1)
    have lp0 := rowB_lt p0
    have lp1 := rowB_lt p1
    have q2 := rowB_new w2 25 #[.slice (some ⟨gf, 0, none⟩) 12 12, .slice none 0 0]
    have hr3 := rowB_alloc hr (.cells #[.slice (some ⟨gf, 0, none⟩) 12 12, .slice none 0 0] 25)
    have hgl := rowB_lt hr
    have bX := bW.trans (hb2.mono bW.size)
    have bY := (Below.refl w2.heap.size w2).alloc (Nat.le_refl _) (.cells #[.slice (some ⟨gf, 0, none⟩) 12 12, .slice none 0 0] 25)
    have h2 := isArg_below h0 hb2 (Nat.le_refl _)
    generalize w2.alloc (.cells #[.slice (some ⟨gf, 0, none⟩) 12 12, .slice none 0 0] 25) = w3 at *
    generalize hB : w2.heap.size = b at *
    have HB := Lib.hid hB
    have HS := Lib.hid hs
    clear hF hb2 hr k0 k1 bW sW h0 h hs hB
    go_wp2_with fail
    go_loopw [14] (fun i wr => ∃ j g : Nat, j ≤ K ∧ i = .int .i64 j ∧ rowB wr b 25 #[.slice (some ⟨g, 0, none⟩) 12 12, .slice none 0 0] ∧ rowB wr g 3 ((s.ticks j).ns.map (Value.int .i64)).toArray ∧ g ≠ b ∧ Below b w2 wr) (fun i _ => K - (intOf i).toNat)
    case atStart => exact ⟨0, gf, Nat.zero_le _, rfl, q2, hr3, by omega, bY⟩
    case round =>
      clear q2 hr3 hgl bY hg
      obtain ⟨j, g, hj, rfl, r2, hr, hgb, hS⟩ := hrel
      have hsz := hS.size
      have c1 := ccells (rowB_below p1 hS lp1)
      obtain ⟨i0, i1, i2, i3, i4⟩ := c1
      obtain ⟨d0, d1, _, _⟩ := dcells2 r2
      by_cases hlt : (j : Int) < k
      · have hd2 : decide ((j : Int) < k) = true := decide_eq_true hlt
        have hT2 := tickedSnd_any ByteArray.empty 0 0 (.slice none 0 0) _ (.slice none 0 0) (s.ticks j).ns wr (numB_arg hr (by show (12 : Nat) ≤ _; decide))
        rw [Sn.of_ns (Sn.ticks_fit hfit j)] at hT2
        go_wp2_with (first
          | (go_at_call 20; refine hT2.mono ?_; rintro e w4 ⟨u, rfl, ⟨g2, rfl, hg2, hr2⟩, hb3⟩; have r3 := rowB_below r2 hb3 (rowB_lt r2); have lb := rowB_lt r2)
          | (refine wpList_storeR rfl 25 _ _ rfl b rfl #[.slice (some ⟨g2, 0, none⟩) 12 12, .slice none 0 0] rfl (dev2_one _ _ _ _ _ _) 25 #[.slice (some ⟨g, 0, none⟩) 12 12, .slice none 0 0] rfl ?_ agDv ?_; with_reducible exact r3))
        go_roundw
        case rel => exact ⟨j + 1, g2, by omega, by go_num, rowB_row r3 _, rowB_row_other hr2 _ (by omega), by omega, below_rowR (hS.trans (hb3.mono (by omega))) _ (Nat.le_refl _)⟩
        case measure => simp [intOf]; omega
      · have hd2 : decide ((j : Int) < k) = false := decide_eq_false hlt
        obtain rfl : j = K := by omega
        rw [hT] at hr
        rw [← HS.out] at hr
        go_upto_region 9 with (fail)
        have m0 := rowB_below p0 hS lp0
        have m1 := rowB_below p1 hS lp1
        have bZ := bX.trans (hS.mono (by omega))
        have h0 := isArg_below h2 hS (Nat.le_of_eq HB.out)
        have x5 : devO 0 wr.drew (.agg #[.slice (some ⟨g, 0, none⟩) 12 12, .slice none 0 0]) ((Sn.of l).skip k).ns := ⟨g, rfl, Nat.zero_le _, hr⟩
        clear hS hT i0 i1 i2 i3 i4 d0 d1 p0 p1 bX h2 hfit
        have hS := (Below.refl wr.heap.size wr).drew
        refine wp_region_mix (fun w' => Below wr.heap.size wr w') [(0, 2), (1, 0), (2, 1), (4, 1), (5, 1), (3, 3), (6, 2), (7, 2), (8, 0), (9, 0), (10, 1), (11, 0), (13, 1), (12, 3), (14, 2), (15, 0), (16, 0)] (by kernel_rfl) (by kernel_rfl) (fun _ _ _ _ _ h => h) ?_
        simp only [List.map_cons, List.map_nil, opOf, List.getD_cons_zero, List.getD_cons_succ]
        change wpMix _ _ _ _ _ _ wr.drew
        refine wpMix_call ?_
        go_wp2_with (go_at_call 7; refine (soundsL_any _).mono ?_; rintro e w6 ⟨rfl, hb⟩; replace x5 := x5.below hb; replace hS := hS.trans (hb.mono hS.size); clear hb)
        try refine ⟨fun h => (by cases h), ?_⟩
        (refine wpMix_still (fun K hK => ?_); go_simp; refine hK _ ?_; clear hK K)
        refine wpMix_held ((.agg #[v, vm])) rfl hS (fun w' hw' => exec_rowR 25 _ rfl w.heap.size rfl 25 #[v, vm] (rowB_below m0 hw' (rowB_lt m0)) agDv) ?_
        simp only [Act.put, List.setIfInBounds_toArray, List.set_cons_zero, List.set_cons_succ]
        refine wpMix_held ((.agg #[.string ByteArray.empty, .int .i64 7, .int .i64 0, .int .i64 0, .slice none 0 0])) rfl hS (fun w' hw' => exec_rowR 27 _ rfl (w.heap.size + 1) rfl 27 #[.string ByteArray.empty, .int .i64 7, .int .i64 0, .int .i64 0, .slice none 0 0] (rowB_below m1 hw' (rowB_lt m1)) agCh) ?_
        simp only [Act.put, List.setIfInBounds_toArray, List.set_cons_zero, List.set_cons_succ]
        refine wpMix_held ((.agg #[v, vm])) rfl hS (fun w' hw' => exec_rowR 25 _ rfl w.heap.size rfl 25 #[v, vm] (rowB_below m0 hw' (rowB_lt m0)) agDv) ?_
        simp only [Act.put, List.setIfInBounds_toArray, List.set_cons_zero, List.set_cons_succ]
        refine wpMix_call ?_
        go_wp2_with (go_at_call 21; refine (sndTick_any _ _ l _ (isArg_below h0 hS (Nat.le_refl _))).mono ?_; rintro e w7 ⟨u3, rfl, x3, hb⟩; replace x5 := x5.below hb; replace hS := hS.trans (hb.mono hS.size); clear hb)
        first | refine ⟨fun _ => hS, ?_⟩ | refine ⟨hS, ?_⟩ | refine And.intro (fun _ => hS) ?_
        refine wpMix_call ?_
        go_wp2_with (go_at_call 20; refine (tickedSnd_any _ _ _ _ _ _ l _ (isArg_below h0 hS (Nat.le_refl _))).mono ?_; rintro e w8 ⟨u4, rfl, x4, hb⟩; replace x3 := x3.below hb; replace x5 := x5.below hb; replace hS := hS.trans (hb.mono hS.size); clear hb)
        try refine ⟨fun h => (by cases h), ?_⟩
        refine wpMix_call ?_
        go_wp2_with (go_at_call 8; refine (sameTwo_any _ _ _ _ _ _ (by show (12 : Nat) ≤ _; decide) x3 x4).mono ?_; rintro e w9 ⟨rfl, hb⟩; replace x5 := x5.below hb; replace hS := hS.trans (hb.mono hS.size); clear hb)
        try refine ⟨fun h => (by cases h), ?_⟩
        (refine wpMix_still (fun K hK => ?_); go_simp; refine hK _ ?_; clear hK K)
        (refine wpMix_still (fun K hK => ?_); go_simp; refine hK _ ?_; clear hK K)
        refine wpMix_held ((.agg #[v, vm])) rfl hS (fun w' hw' => exec_rowR 25 _ rfl w.heap.size rfl 25 #[v, vm] (rowB_below m0 hw' (rowB_lt m0)) agDv) ?_
        simp only [Act.put, List.setIfInBounds_toArray, List.set_cons_zero, List.set_cons_succ]
        (refine wpMix_still (fun K hK => ?_); go_simp; refine hK _ ?_; clear hK K)
        refine wpMix_held ((.agg #[.slice (some ⟨g, 0, none⟩) 12 12, .slice none 0 0])) rfl hS (fun w' hw' => exec_rowR 25 _ rfl b rfl 25 #[.slice (some ⟨g, 0, none⟩) 12 12, .slice none 0 0] (rowB_below r2 hw' (rowB_lt r2)) agDv) ?_
        simp only [Act.put, List.setIfInBounds_toArray, List.set_cons_zero, List.set_cons_succ]
        refine wpMix_call ?_
        go_wp2_with (go_at_call 22; refine (sndSkip_any _ _ l _ _ (isArg_below h0 hS (Nat.le_refl _)) hk).mono ?_; rintro e wa ⟨u6, rfl, x6, hb⟩; replace x5 := x5.below hb; replace hS := hS.trans (hb.mono hS.size); clear hb)
        first | refine ⟨fun _ => hS, ?_⟩ | refine ⟨hS, ?_⟩ | refine And.intro (fun _ => hS) ?_
        refine wpMix_call ?_
        go_wp2_with (go_at_call 8; refine (sameTwo_any _ _ _ _ _ _ (by show (12 : Nat) ≤ _; decide) x6 x5).mono ?_; rintro e wb ⟨rfl, hb⟩; replace hS := hS.trans (hb.mono hS.size); clear hb)
        try refine ⟨fun h => (by cases h), ?_⟩
        (refine wpMix_still (fun K hK => ?_); go_simp; refine hK _ ?_; clear hK K)
        (refine wpMix_still (fun K hK => ?_); go_simp; refine hK _ ?_; clear hK K)
        refine wpMix_nil ?_
        go_wp2_with fail
        go_ret
        exact ⟨rfl, bZ.trans (hS.mono bZ.size)⟩
end Go.Proofs.Ytbpjkdigihpohaa
