/- The walk of the law DriveTicks. -/
import Derived.Test.YtmjddoboogccoaaChecked
import Derived.Test.YtmjddoboogccoaaDevSame
import Derived.Test.YtmjddoboogccoaaDrvKeep
import Derived.Test.YtmjddoboogccoaaDrvRb
import Derived.Below
import Derived.BigQuiet
import Derived.ChangeMaps5
import Derived.Deep.AppendSrc
import Derived.Deep.DeepAppendWide
import Derived.Deep.DeepCutAuto
import Derived.Deep.Draws
import Derived.Deep.MidRow
import Derived.Deep.OwnRows
import Derived.Deep.QuietTactic
import Derived.Deep.RegionHeld3
import Derived.Deep.RegionWith
import Derived.Deep.Slices
import Derived.Deep.WholeRow
import Derived.Laws.CopyOwn
import Derived.Laws.OwnMore
import Derived.Lib.Hide
import Derived.Lib.SmallJoins
import Derived.Maps.AppendAt
import Derived.OpenShut
import Derived.OrdersHeld
import Derived.OwnWalk
import Derived.RowKit3
import Derived.StillTactics
import Derived.StillTail
import Derived.StillTailTactics
import Derived.WalkKit
namespace Go.Proofs.Ytmjddoboogccoaa
open Go.RowKit
set_option maxRecDepth 100000
set_option maxHeartbeats 4000000 in
theorem driveTicks_walk (v vm : Value) (l lb : List Int) (k : Int) (w : World) (h : isArg w v l) (hm : isByt w vm lb) (hbb : ∀ x ∈ lb, 0 ≤ x ∧ x < 256) (hL : lb.length ≤ 140737488351232) (hk : -9223372036854775808 ≤ k ∧ k ≤ 9223372036854775807) :
    Calls Try.prog 4 #[.agg #[v, vm], .int .i64 k] w fun e w' => e = .returned (.bool true) ∧ Below w.heap.size w w' := by
  obtain ⟨k0, k1, bW, sW⟩ := boxes2 w (.cells #[v, vm] 25) (.cells #[.string ByteArray.empty, .int .i64 8, .int .i64 0, .int .i64 0, .slice none 0 0] 27)
  have k0 : rowB _ _ _ _ := k0
  have k1 : rowB _ _ _ _ := k1
  have h0 := isArg_below h bW (Nat.le_refl _)
  have m0 := isByt_below hm bW (Nat.le_refl _)
  by_cases hb : 1500 < k
  · have hd : decide (1500 < k) = true := decide_eq_true hb
    go_enter Try.func4, Try.ntmps4
    go_wp2_with fail
    go_ret
    exact ⟨rfl, bW⟩
  · have hd : decide (1500 < k) = false := decide_eq_false hb
    obtain ⟨K, hK⟩ : ∃ K : Nat, K = k.toNat := ⟨_, rfl⟩
    have hfit := Dr.of_fit l lb hbb
    have hlen := Dr.of_len l lb
    have hF := formedDrv_any ByteArray.empty 0 0 (.slice none 0 0) v vm l lb _ h0 m0 hL
    obtain ⟨s, hs⟩ : ∃ s, Dr.of l lb = s := ⟨_, rfl⟩
    rw [hs] at hF hfit hlen
    have hM : ∀ n, (s.ticks n).m.length ≤ 140737488351232 := fun n => by rw [Dr.ticks_len]; omega
    go_enter Try.func4, Try.ntmps4
    go_upto_region 5 with (go_at_call 25; refine hF.mono ?_; rintro e w2 ⟨u, rfl, hx2, hb2⟩; obtain ⟨a1, c1, b1, d1, rfl, p1, q1⟩ := (hx2.toA (by omega)).open)
    change Code.wp _ _ _ _ (w2.alloc (.cells #[.slice a1 10 c1, .slice b1 s.m.length d1] 25))
    have p0 := rowB_below k0 hb2 (rowB_lt k0)
    have p1' := rowB_below k1 hb2 (rowB_lt k1)
    have lp0 := rowB_lt p0
    have lp1 := rowB_lt p1'
    have q2 : boxA (w2.alloc (.cells #[.slice a1 10 c1, .slice b1 s.m.length d1] 25)) w2.heap.size (s.ticks 0) := ⟨_, _, rowB_new w2 25 #[.slice a1 10 c1, .slice b1 s.m.length d1], isArg_below p1 ((Below.refl _ _).alloc (Nat.le_refl _) _) (Nat.le_refl _), isByt_below q1 ((Below.refl _ _).alloc (Nat.le_refl _) _) (Nat.le_refl _)⟩
    have bX := bW.trans (hb2.mono bW.size)
    have bY := (Below.refl w2.heap.size w2).alloc (Nat.le_refl _) (.cells #[.slice a1 10 c1, .slice b1 s.m.length d1] 25)
    have h2 := isArg_below h0 hb2 (Nat.le_refl _)
    have m2 := isByt_below m0 hb2 (Nat.le_refl _)
    generalize w2.alloc (.cells #[.slice a1 10 c1, .slice b1 s.m.length d1] 25) = w3 at *
    generalize hB : w2.heap.size = b at *
    have HB := Lib.hid hB
    have HS := Lib.hid hs
    clear hF hb2 k0 k1 bW sW h0 m0 h hm hs hB hx2 p1 q1
    go_wp2_with fail
    go_loopw [14] (fun i wr => ∃ j : Nat, j ≤ K ∧ i = .int .i64 j ∧ boxA wr b (s.ticks j) ∧ Below b w2 wr) (fun i _ => K - (intOf i).toNat)
    case atStart => exact ⟨0, Nat.zero_le _, rfl, q2, bY⟩
    case round =>
      clear q2 bY
      obtain ⟨j, hj, rfl, hbox, hS⟩ := hrel
      have hsz := hS.size
      have c1 := ccells (rowB_below p1' hS lp1)
      obtain ⟨i0, i1, i2, i3, i4⟩ := c1
      obtain ⟨vx, vy, r2, hr, hq⟩ := hbox
      obtain ⟨y0, y1, _, _⟩ := dcells2 r2
      by_cases hlt : (j : Int) < k
      · have hd2 : decide ((j : Int) < k) = true := decide_eq_true hlt
        have hfj := Dr.ticks_fit hfit j
        have hT2 := tickedDrv_any ByteArray.empty 0 0 (.slice none 0 0) vx vy (s.ticks j).ns (s.ticks j).m wr hr hq hfj.y (hM j)
        rw [Dr.of_ns hfj] at hT2
        have lb' := rowB_lt r2
        go_wp2_with (first
          | (go_at_call 26; refine hT2.mono ?_; rintro e w4 ⟨u, rfl, hx4, hb3⟩; obtain ⟨a4, c4, b4, d4, rfl, p4, q4⟩ := (hx4.toA (by have := hM (j + 1); show (s.ticks (j + 1)).m.length ≤ _; omega)).open; have r3 := rowB_below r2 hb3 lb'; have bx := boxA.below ⟨_, _, r2, hr, hq⟩ hb3)
          | (refine wpList_storeR rfl 25 _ _ rfl b rfl #[.slice a4 10 c4, .slice b4 (s.ticks j).tick.m.length d4] rfl (dev2_one _ _ _ _ _ _) 25 #[vx, vy] rfl ?_ agDv ?_; with_reducible exact r3))
        go_roundw
        case rel => exact ⟨j + 1, by omega, by go_num, bx.store p4 q4, below_rowR (hS.trans (hb3.mono (by omega))) _ (Nat.le_refl _)⟩
        case measure => simp [intOf]; omega
      · have hd2 : decide ((j : Int) < k) = false := decide_eq_false hlt
        obtain rfl : j = K := by omega
        rw [← HS.out] at hr hq
        go_upto_region 9 with (fail)
        have m0' := rowB_below p0 hS lp0
        have m1 := rowB_below p1' hS lp1
        have bZ := bX.trans (hS.mono (by omega))
        have h0 := isArg_below h2 hS (Nat.le_of_eq HB.out)
        have m0 := isByt_below m2 hS (Nat.le_of_eq HB.out)
        rw [← HS.out] at hfit hlen
        have x5 : devA wr.drew (.agg #[vx, vy]) ((Dr.of l lb).ticks k.toNat) := by rw [← hK]; exact devA.below ⟨_, _, rfl, hr, hq⟩ (Below.refl wr.heap.size wr).drew
        clear hS i0 i1 i2 i3 i4 y0 y1 p0 p1' bX h2 m2 hr hq
        have hS := (Below.refl wr.heap.size wr).drew
        refine wp_region_mix (fun w' => Below wr.heap.size wr w') [(0, 2), (1, 0), (2, 1), (4, 1), (5, 1), (3, 3), (6, 2), (7, 2), (8, 0), (9, 0), (10, 1), (11, 0), (13, 1), (12, 3), (14, 2), (15, 0), (16, 0)] (by kernel_rfl) (by kernel_rfl) (fun _ _ _ _ _ h => h) ?_
        simp only [List.map_cons, List.map_nil, opOf, List.getD_cons_zero, List.getD_cons_succ]
        change wpMix _ _ _ _ _ _ wr.drew
        refine wpMix_call ?_
        go_wp2_with (go_at_call 9; refine (drivesL_any _).mono ?_; rintro e w6 ⟨rfl, hb⟩; replace x5 := x5.below hb; replace hS := hS.trans (hb.mono hS.size); clear hb)
        try refine ⟨fun h => (by cases h), ?_⟩
        (refine wpMix_still (fun K hK => ?_); go_simp; refine hK _ ?_; clear hK K)
        refine wpMix_held ((.agg #[v, vm])) rfl hS (fun w' hw' => exec_rowR 25 _ rfl w.heap.size rfl 25 #[v, vm] (rowB_below m0' hw' (rowB_lt m0')) agDv) ?_
        simp only [Act.put, List.setIfInBounds_toArray, List.set_cons_zero, List.set_cons_succ]
        refine wpMix_held ((.agg #[.string ByteArray.empty, .int .i64 8, .int .i64 0, .int .i64 0, .slice none 0 0])) rfl hS (fun w' hw' => exec_rowR 27 _ rfl (w.heap.size + 1) rfl 27 #[.string ByteArray.empty, .int .i64 8, .int .i64 0, .int .i64 0, .slice none 0 0] (rowB_below m1 hw' (rowB_lt m1)) agCh) ?_
        simp only [Act.put, List.setIfInBounds_toArray, List.set_cons_zero, List.set_cons_succ]
        refine wpMix_held ((.agg #[v, vm])) rfl hS (fun w' hw' => exec_rowR 25 _ rfl w.heap.size rfl 25 #[v, vm] (rowB_below m0' hw' (rowB_lt m0')) agDv) ?_
        simp only [Act.put, List.setIfInBounds_toArray, List.set_cons_zero, List.set_cons_succ]
        refine wpMix_call ?_
        go_wp2_with (go_at_call 27; refine (drvTick_any _ _ l lb _ (isArg_below h0 hS (Nat.le_refl _)) (isByt_below m0 hS (Nat.le_refl _)) hbb hL).mono ?_; rintro e w7 ⟨u3, rfl, x3, hb⟩; replace x5 := x5.below hb; replace hS := hS.trans (hb.mono hS.size); clear hb)
        first | refine ⟨fun _ => hS, ?_⟩ | refine ⟨hS, ?_⟩ | refine And.intro (fun _ => hS) ?_
        refine wpMix_call ?_
        go_wp2_with (go_at_call 26; refine (tickedDrv_any _ _ _ _ _ _ l lb _ (isArg_below h0 hS (Nat.le_refl _)) (isByt_below m0 hS (Nat.le_refl _)) hbb hL).mono ?_; rintro e w8 ⟨u4, rfl, x4, hb⟩; replace x3 := x3.below hb; replace x5 := x5.below hb; replace hS := hS.trans (hb.mono hS.size); clear hb)
        try refine ⟨fun h => (by cases h), ?_⟩
        refine wpMix_call ?_
        go_wp2_with (go_at_call 10; refine (sameA_any _ _ _ _ x3 (x4.toA (by rw [Dr.tick_len]; omega))).mono ?_; rintro e w9 ⟨rfl, hb⟩; replace x5 := x5.below hb; replace hS := hS.trans (hb.mono hS.size); clear hb)
        try refine ⟨fun h => (by cases h), ?_⟩
        (refine wpMix_still (fun K hK => ?_); go_simp; refine hK _ ?_; clear hK K)
        (refine wpMix_still (fun K hK => ?_); go_simp; refine hK _ ?_; clear hK K)
        refine wpMix_held ((.agg #[v, vm])) rfl hS (fun w' hw' => exec_rowR 25 _ rfl w.heap.size rfl 25 #[v, vm] (rowB_below m0' hw' (rowB_lt m0')) agDv) ?_
        simp only [Act.put, List.setIfInBounds_toArray, List.set_cons_zero, List.set_cons_succ]
        (refine wpMix_still (fun K hK => ?_); go_simp; refine hK _ ?_; clear hK K)
        refine wpMix_held ((.agg #[vx, vy])) rfl hS (fun w' hw' => exec_rowR 25 _ rfl b rfl 25 #[vx, vy] (rowB_below r2 hw' (rowB_lt r2)) agDv) ?_
        simp only [Act.put, List.setIfInBounds_toArray, List.set_cons_zero, List.set_cons_succ]
        refine wpMix_call ?_
        go_wp2_with (go_at_call 28; refine (drvSkip_any _ _ l lb _ _ (isArg_below h0 hS (Nat.le_refl _)) (isByt_below m0 hS (Nat.le_refl _)) hbb hL hk).mono ?_; rintro e wa ⟨u6, rfl, x6, hb⟩; replace x5 := x5.below hb; replace hS := hS.trans (hb.mono hS.size); clear hb)
        first | refine ⟨fun _ => hS, ?_⟩ | refine ⟨hS, ?_⟩ | refine And.intro (fun _ => hS) ?_
        refine wpMix_call ?_
        go_wp2_with (go_at_call 10; refine (sameA_any _ _ _ _ x6 x5).mono ?_; rintro e wb ⟨rfl, hb⟩; replace hS := hS.trans (hb.mono hS.size); clear hb)
        try refine ⟨fun h => (by cases h), ?_⟩
        (refine wpMix_still (fun K hK => ?_); go_simp; refine hK _ ?_; clear hK K)
        (refine wpMix_still (fun K hK => ?_); go_simp; refine hK _ ?_; clear hK K)
        refine wpMix_nil ?_
        go_wp2_with fail
        go_ret
        exact ⟨rfl, bZ.trans (hS.mono bZ.size)⟩
end Go.Proofs.Ytmjddoboogccoaa
