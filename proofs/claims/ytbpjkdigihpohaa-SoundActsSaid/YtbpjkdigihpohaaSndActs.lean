/- The walk of the law SoundActs. -/
import Derived.Test.YtbpjkdigihpohaaChecked
import Derived.Test.YtbpjkdigihpohaaDevSame
import Derived.Test.YtbpjkdigihpohaaSndKeep
import Derived.Test.YtbpjkdigihpohaaSndRc
import Derived.Below
import Derived.BigQuiet
import Derived.ChangeMaps5
import Derived.Deep.AppendSrc
import Derived.Deep.DeepCutAuto
import Derived.Deep.Draws
import Derived.Deep.MidRow
import Derived.Deep.OwnRows
import Derived.Deep.QuietTactic
import Derived.Deep.RegionHeld3
import Derived.Deep.RegionWith
import Derived.Deep.Slices
import Derived.Deep.WholeRow
import Derived.Lib.Hide
import Derived.Lib.SmallJoins
import Derived.OpenShut
import Derived.OrdersHeld
import Derived.OwnWalk
import Derived.RowKit3
import Derived.StillTactics
import Derived.StillTail
import Derived.StillTailTactics
import Derived.WalkKit
namespace Go.Proofs.Ytbpjkdigihpohaa
open Go.RowKit
set_option maxRecDepth 100000

set_option maxHeartbeats 4000000 in
theorem soundActs_walk (v vm : Value) (l : List Int) (a d : Int) (w : World) (h : isArg w v l) :
    Calls Try.prog 3 #[.agg #[v, vm], .int .i64 a, .int .i64 d] w fun e w' => e = .returned (.bool true) ∧ Below w.heap.size w w' := by
  obtain ⟨k0, k1, bW, sW⟩ := boxes2 w (.cells #[v, vm] 25) (.cells #[.string ByteArray.empty, .int .i64 7, .int .i64 0, .int .i64 0, .slice none 0 0] 27)
  have k0 : rowB _ _ _ _ := k0
  have k1 : rowB _ _ _ _ := k1
  have h0 := isArg_below h bW (Nat.le_refl _)
  go_enter Try.func3, Try.ntmps3
  go_upto_region 2 with (fail)
  change Code.wp _ _ _ _ ((w.alloc (.cells #[v, vm] 25)).alloc (.cells #[.string ByteArray.empty, .int .i64 7, .int .i64 0, .int .i64 0, .slice none 0 0] 27))
  generalize (w.alloc (.cells #[v, vm] 25)).alloc (.cells #[.string ByteArray.empty, .int .i64 7, .int .i64 0, .int .i64 0, .slice none 0 0] 27) = w1 at *
  clear h
  have hS := (Below.refl w1.heap.size w1).drew
  refine wp_region_mix (fun w' => Below w1.heap.size w1 w') [(0, 2), (1, 0), (2, 0), (4, 1), (3, 3), (5, 2), (6, 2), (7, 0), (8, 0)] (by kernel_rfl) (by kernel_rfl) (fun _ _ _ _ _ h => h) ?_
  simp only [List.map_cons, List.map_nil, opOf, List.getD_cons_zero, List.getD_cons_succ]
  change wpMix _ _ _ _ _ _ w1.drew
  generalize w1.drew = wx at *
  refine wpMix_call ?_
  go_wp2_with (go_at_call 7; refine (soundsL_any _).mono ?_; rintro e w2 ⟨rfl, hb⟩; replace hS := hS.trans (hb.mono hS.size); clear hb)
  try refine ⟨fun h => (by cases h), ?_⟩
  (refine wpMix_still (fun K hK => ?_); go_simp; refine hK _ ?_; clear hK K)
  (refine wpMix_still (fun K hK => ?_); go_simp; refine hK _ ?_; clear hK K)
  refine wpMix_held ((.agg #[.string ByteArray.empty, .int .i64 7, .int .i64 0, .int .i64 0, .slice none 0 0])) rfl hS (fun w' hw' => exec_rowR 27 _ rfl (w.heap.size + 1) rfl 27 #[.string ByteArray.empty, .int .i64 7, .int .i64 0, .int .i64 0, .slice none 0 0] (rowB_below k1 hw' (rowB_lt k1)) agCh) ?_
  simp only [Act.put, List.setIfInBounds_toArray, List.set_cons_zero, List.set_cons_succ]
  refine wpMix_call ?_
  go_wp2_with (go_at_call 9; refine (sndNew_any _).mono ?_; rintro e w3 ⟨u1, rfl, x1, hb⟩; replace hS := hS.trans (hb.mono hS.size); clear hb)
  first | refine ⟨fun _ => hS, ?_⟩ | refine ⟨hS, ?_⟩ | refine And.intro (fun _ => hS) ?_
  refine wpMix_call ?_
  go_wp2_with (go_at_call 10; refine (freshSnd_any _ _ _ _ _).mono ?_; rintro e w4 ⟨u2, rfl, x2, hb⟩; replace x1 := x1.below hb; replace hS := hS.trans (hb.mono hS.size); clear hb)
  try refine ⟨fun h => (by cases h), ?_⟩
  refine wpMix_call ?_
  go_wp2_with (go_at_call 8; refine (sameTwo_any _ _ _ _ _ _ (by simp) x1 x2).mono ?_; rintro e w5 ⟨rfl, hb⟩; replace hS := hS.trans (hb.mono hS.size); clear hb)
  try refine ⟨fun h => (by cases h), ?_⟩
  (refine wpMix_still (fun K hK => ?_); go_simp; refine hK _ ?_; clear hK K)
  (refine wpMix_still (fun K hK => ?_); go_simp; refine hK _ ?_; clear hK K)
  refine wpMix_nil ?_
  clear x1 x2
  obtain ⟨c0, c1, _, _⟩ := dcells2 (rowB_below k0 hS (rowB_lt k0))
  have k1c := rowB_below k1 hS (rowB_lt k1)
  obtain ⟨e0, e1, e2, e3, e4⟩ := ccells k1c
  obtain ⟨R, hR⟩ : ∃ R, (Sn.of l).reg a = R := ⟨_, rfl⟩
  obtain ⟨D, hD⟩ : ∃ D, Sn.of l = D := ⟨_, rfl⟩
  have hRd := sndRead_any v vm l a w5 (isArg_below h0 hS (Nat.le_refl _))
  have hLd := fun w h => loadedSnd_any ByteArray.empty 0 0 (.slice none 0 0) v vm l a w h
  rw [hR, hD] at hRd
  simp only [hR] at hLd
  simp only [hD] at hLd
  clear hR hD
  obtain ⟨⟨d0, d1, d2, d3, d4, d5⟩, ⟨d6, d7, d8, d9, d10, d11⟩⟩ := D
  dsimp only [Sn.ns] at hRd hLd
  go_upto_region 6 with (first
    | (go_at_call 11; refine hRd.mono ?_; rintro e w6 ⟨u, rfl, ⟨g1, rfl, hg1, hr1⟩, hb⟩; replace hS := hS.trans (hb.mono hS.size); have n6 := rowB_new w6 25 #[.slice (some ⟨g1, 0, none⟩) 12 12, .slice none 0 0]; clear hb; have hS6 := hS.alloc hS.size (.cells #[.slice (some ⟨g1, 0, none⟩) 12 12, .slice none 0 0] 25); obtain ⟨b0, b1, _, _⟩ := dcells2 (rowB_below k0 hS6 (rowB_lt k0)); obtain ⟨i0, i1, i2, i3, i4⟩ := ccells (rowB_below k1 hS6 (rowB_lt k1)))
    | (go_at_call 12; refine (hLd _ (isArg_below h0 hS6 (Nat.le_refl _))).mono ?_; rintro e w7 ⟨u, rfl, ⟨g2, rfl, hg2, hr2⟩, hb⟩; have n7 := rowB_new w7 25 #[.slice (some ⟨g2, 0, none⟩) 12 12, .slice none 0 0]))
  have hS7 := hS6.trans (hb.mono hS6.size)
  have x1 : devO 0 (w7.alloc (.cells #[.slice (some ⟨g2, 0, none⟩) 12 12, .slice none 0 0] 25)) (.agg #[.slice (some ⟨g1, 0, none⟩) 12 12, .slice none 0 0]) [d0, d1, d2, d3, d4, d5, d6, d7, d8, d9, d10, d11] := ⟨g1, rfl, Nat.zero_le _, rowB_alloc (rowB_below (rowB_alloc hr1 _) hb (rowB_lt (rowB_alloc hr1 _))) _⟩
  have x2 : devO 0 (w7.alloc (.cells #[.slice (some ⟨g2, 0, none⟩) 12 12, .slice none 0 0] 25)) (.agg #[.slice (some ⟨g2, 0, none⟩) 12 12, .slice none 0 0]) [d0, d1, d2, d3, d4, d5, d6, d7, d8, d9, d10, d11] := ⟨g2, rfl, Nat.zero_le _, rowB_alloc hr2 _⟩
  have n6 := rowB_alloc (rowB_below n6 hb (rowB_lt n6)) (.cells #[.slice (some ⟨g2, 0, none⟩) 12 12, .slice none 0 0] 25)
  have hS8 := hS7.alloc hS7.size (.cells #[.slice (some ⟨g2, 0, none⟩) 12 12, .slice none 0 0] 25)
  generalize w7.alloc (.cells #[.slice (some ⟨g2, 0, none⟩) 12 12, .slice none 0 0] 25) = w8 at *
  clear hS hS6 hS7 hb hRd hLd hr1 hr2 c0 c1 b0 b1 e0 e1 e2 e3 e4 i0 i1 i2 i3 i4 hg1 hg2
  have hS := hS8.drew
  replace x1 : devO 0 w8.drew _ _ := x1
  replace x2 : devO 0 w8.drew _ _ := x2
  replace n6 : rowB w8.drew _ _ _ := n6
  replace n7 : rowB w8.drew _ _ _ := n7
  obtain ⟨c0, c1, _, _⟩ := dcells2 n6
  obtain ⟨q0, q1, _, _⟩ := dcells2 n7
  refine wp_region_mixM (fun w' => Below w1.heap.size w1 w') 3399615 8192 [(0, 0, 4194300), (1, 0, 4194300), (2, 0, 4194296), (3, 0, 4194288), (4, 0, 4194240), (5, 0, 4194240), (6, 2, 0), (7, 0, 4194048), (8, 0, 4193792), (9, 0, 4193280), (10, 1, 3940352), (11, 0, 3940352), (12, 0, 3940352), (14, 1, 3932160), (15, 1, 3932160), (16, 1, 3932160), (17, 1, 3932160), (13, 3, 0), (18, 2, 0), (19, 2, 0), (20, 0, 2097152), (21, 0, 0)] (by kernel_rfl) (by kernel_rfl) (fun _ _ _ _ _ h => h) ?_
  simp only [List.map_cons, List.map_nil, opOf, List.getD_cons_zero, List.getD_cons_succ]
  change wpMix _ _ _ _ _ _ w8.drew
  (refine wpMix_still (fun K hK => ?_); go_simp; refine hK _ ?_; clear hK K)
  (refine wpMix_still (fun K hK => ?_); go_simp; refine hK _ ?_; clear hK K)
  (refine wpMix_still (fun K hK => ?_); go_simp; refine hK _ ?_; clear hK K)
  (refine wpMix_still (fun K hK => ?_); go_simp; refine hK _ ?_; clear hK K)
  (refine wpMix_still (fun K hK => ?_); go_simp; refine hK _ ?_; clear hK K)
  (refine wpMix_still (fun K hK => ?_); go_simp; refine hK _ ?_; clear hK K)
  refine wpMix_call ?_
  go_wp2_with (go_at_call 8; refine (sameTwo_any _ _ _ _ _ _ (by simp) x1 x2).mono ?_; rintro e w9 ⟨rfl, hb⟩; replace hS := hS.trans (hb.mono hS.size); clear hb)
  try refine ⟨fun h => (by cases h), ?_⟩
  (refine wpMix_still (fun K hK => ?_); go_simp; refine hK _ ?_; clear hK K)
  (refine wpMix_still (fun K hK => ?_); go_simp; refine hK _ ?_; clear hK K)
  (refine wpMix_still (fun K hK => ?_); go_simp; refine hK _ ?_; clear hK K)
  refine wpMix_held ((.agg #[v, vm])) rfl hS (fun w' hw' => exec_rowR 25 _ rfl w.heap.size rfl 25 #[v, vm] (rowB_below k0 hw' (rowB_lt k0)) agDv) ?_
  simp only [Act.put, List.setIfInBounds_toArray, List.set_cons_zero, List.set_cons_succ]
  (refine wpMix_still (fun K hK => ?_); go_simp; refine hK _ ?_; clear hK K)
  (refine wpMix_still (fun K hK => ?_); go_simp; refine hK _ ?_; clear hK K)
  refine wpMix_held ((.agg #[.string ByteArray.empty, .int .i64 7, .int .i64 0, .int .i64 0, .slice none 0 0])) rfl hS (fun w' hw' => exec_rowR 27 _ rfl (w.heap.size + 1) rfl 27 #[.string ByteArray.empty, .int .i64 7, .int .i64 0, .int .i64 0, .slice none 0 0] (rowB_below k1 hw' (rowB_lt k1)) agCh) ?_
  simp only [Act.put, List.setIfInBounds_toArray, List.set_cons_zero, List.set_cons_succ]
  refine wpMix_held ((.agg #[v, vm])) rfl hS (fun w' hw' => exec_rowR 25 _ rfl w.heap.size rfl 25 #[v, vm] (rowB_below k0 hw' (rowB_lt k0)) agDv) ?_
  simp only [Act.put, List.setIfInBounds_toArray, List.set_cons_zero, List.set_cons_succ]
  refine wpMix_held (.int .i64 a) rfl hS (fun w' hw' => by go_simp) ?_
  simp only [Act.put, List.setIfInBounds_toArray, List.set_cons_zero, List.set_cons_succ]
  refine wpMix_held (.int .i64 d) rfl hS (fun w' hw' => by go_simp) ?_
  simp only [Act.put, List.setIfInBounds_toArray, List.set_cons_zero, List.set_cons_succ]
  refine wpMix_call ?_
  go_wp2_with (go_at_call 13; refine (sndWrite_any _ _ l _ _ _ (isArg_below h0 hS (Nat.le_refl _))).mono ?_; rintro e wa ⟨u3, rfl, x3, hb⟩; replace hS := hS.trans (hb.mono hS.size); clear hb)
  first | refine ⟨fun _ => hS, ?_⟩ | refine ⟨hS, ?_⟩ | refine And.intro (fun _ => hS) ?_
  refine wpMix_call ?_
  go_wp2_with (go_at_call 14; refine (storedSnd_any _ _ _ _ _ _ l _ _ _ (isArg_below h0 hS (Nat.le_refl _))).mono ?_; rintro e wb ⟨u4, rfl, x4, hb⟩; replace x3 := x3.below hb; replace hS := hS.trans (hb.mono hS.size); clear hb)
  try refine ⟨fun h => (by cases h), ?_⟩
  refine wpMix_call ?_
  go_wp2_with (go_at_call 8; refine (sameTwo_any _ _ _ _ _ _ (by show (12 : Nat) ≤ _; decide) x3 x4).mono ?_; rintro e wc ⟨rfl, hb⟩; replace hS := hS.trans (hb.mono hS.size); clear hb)
  try refine ⟨fun h => (by cases h), ?_⟩
  (refine wpMix_still (fun K hK => ?_); go_simp; refine hK _ ?_; clear hK K)
  (refine wpMix_still (fun K hK => ?_); go_simp; refine hK _ ?_; clear hK K)
  refine wpMix_nil ?_
  clear x1 x2 x3 x4 n6 n7 c0 c1 q0 q1
  go_upto_region 8 with (fail)
  replace hS := hS.drew
  refine wp_region_mix (fun w' => Below w1.heap.size w1 w') [(0, 1), (2, 1), (3, 1), (1, 3), (4, 2), (5, 0), (6, 0), (7, 1), (9, 1), (10, 1), (8, 3), (11, 2), (12, 0), (13, 0), (14, 0)] (by kernel_rfl) (by kernel_rfl) (fun _ _ _ _ _ h => h) ?_
  simp only [List.map_cons, List.map_nil, opOf, List.getD_cons_zero, List.getD_cons_succ]
  change wpMix _ _ _ _ _ _ wc.drew
  refine wpMix_held ((.agg #[v, vm])) rfl hS (fun w' hw' => exec_rowR 25 _ rfl w.heap.size rfl 25 #[v, vm] (rowB_below k0 hw' (rowB_lt k0)) agDv) ?_
  simp only [Act.put, List.setIfInBounds_toArray, List.set_cons_zero, List.set_cons_succ]
  refine wpMix_held ((.agg #[.string ByteArray.empty, .int .i64 7, .int .i64 0, .int .i64 0, .slice none 0 0])) rfl hS (fun w' hw' => exec_rowR 27 _ rfl (w.heap.size + 1) rfl 27 #[.string ByteArray.empty, .int .i64 7, .int .i64 0, .int .i64 0, .slice none 0 0] (rowB_below k1 hw' (rowB_lt k1)) agCh) ?_
  simp only [Act.put, List.setIfInBounds_toArray, List.set_cons_zero, List.set_cons_succ]
  refine wpMix_held ((.agg #[v, vm])) rfl hS (fun w' hw' => exec_rowR 25 _ rfl w.heap.size rfl 25 #[v, vm] (rowB_below k0 hw' (rowB_lt k0)) agDv) ?_
  simp only [Act.put, List.setIfInBounds_toArray, List.set_cons_zero, List.set_cons_succ]
  refine wpMix_call ?_
  go_wp2_with (go_at_call 15; refine (sndOut_any _ _ l _ (isArg_below h0 hS (Nat.le_refl _))).mono ?_; rintro e wi ⟨rfl, hb⟩; replace hS := hS.trans (hb.mono hS.size); clear hb)
  first | refine ⟨fun _ => hS, ?_⟩ | refine ⟨hS, ?_⟩ | refine And.intro (fun _ => hS) ?_
  refine wpMix_call ?_
  go_wp2_with (go_at_call 16; refine (showsSnd_any _ _ _ _ _ _ l _ (isArg_below h0 hS (Nat.le_refl _))).mono ?_; rintro e wj ⟨rfl, hb⟩; replace hS := hS.trans (hb.mono hS.size); clear hb)
  try refine ⟨fun h => (by cases h), ?_⟩
  (refine wpMix_still (fun K hK => ?_); go_simp; refine hK _ ?_; clear hK K)
  (refine wpMix_still (fun K hK => ?_); go_simp; refine hK _ ?_; clear hK K)
  refine wpMix_held ((.agg #[v, vm])) rfl hS (fun w' hw' => exec_rowR 25 _ rfl w.heap.size rfl 25 #[v, vm] (rowB_below k0 hw' (rowB_lt k0)) agDv) ?_
  simp only [Act.put, List.setIfInBounds_toArray, List.set_cons_zero, List.set_cons_succ]
  refine wpMix_held ((.agg #[.string ByteArray.empty, .int .i64 7, .int .i64 0, .int .i64 0, .slice none 0 0])) rfl hS (fun w' hw' => exec_rowR 27 _ rfl (w.heap.size + 1) rfl 27 #[.string ByteArray.empty, .int .i64 7, .int .i64 0, .int .i64 0, .slice none 0 0] (rowB_below k1 hw' (rowB_lt k1)) agCh) ?_
  simp only [Act.put, List.setIfInBounds_toArray, List.set_cons_zero, List.set_cons_succ]
  refine wpMix_held ((.agg #[v, vm])) rfl hS (fun w' hw' => exec_rowR 25 _ rfl w.heap.size rfl 25 #[v, vm] (rowB_below k0 hw' (rowB_lt k0)) agDv) ?_
  simp only [Act.put, List.setIfInBounds_toArray, List.set_cons_zero, List.set_cons_succ]
  refine wpMix_call ?_
  go_wp2_with (go_at_call 17; refine (sndNext_any _ _ l _ (isArg_below h0 hS (Nat.le_refl _))).mono ?_; rintro e wk ⟨rfl, hb⟩; replace hS := hS.trans (hb.mono hS.size); clear hb)
  first | refine ⟨fun _ => hS, ?_⟩ | refine ⟨hS, ?_⟩ | refine And.intro (fun _ => hS) ?_
  refine wpMix_call ?_
  go_wp2_with (go_at_call 18; refine (restsSnd_any _ _ _ _ _ _ l _ (isArg_below h0 hS (Nat.le_refl _))).mono ?_; rintro e wl ⟨rfl, hb⟩; replace hS := hS.trans (hb.mono hS.size); clear hb)
  try refine ⟨fun h => (by cases h), ?_⟩
  (refine wpMix_still (fun K hK => ?_); go_simp; refine hK _ ?_; clear hK K)
  (refine wpMix_still (fun K hK => ?_); go_simp; refine hK _ ?_; clear hK K)
  (refine wpMix_still (fun K hK => ?_); go_simp; refine hK _ ?_; clear hK K)
  refine wpMix_nil ?_
  go_wp2_with fail
  go_ret
  exact ⟨rfl, bW.trans (hS.mono (by omega))⟩
end Go.Proofs.Ytbpjkdigihpohaa
