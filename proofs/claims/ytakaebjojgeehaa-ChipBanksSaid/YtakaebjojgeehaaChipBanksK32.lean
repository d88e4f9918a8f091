/- A part of the proof of ChipBanks: SndCa. -/
import Derived.Test.YtakaebjojgeehaaChipBanksK01
import Derived.Test.YtakaebjojgeehaaChipBanksK02
import Derived.Test.YtakaebjojgeehaaChipBanksK03
import Derived.Test.YtakaebjojgeehaaChipBanksK04
import Derived.Test.YtakaebjojgeehaaChipBanksK05
import Derived.Test.YtakaebjojgeehaaChipBanksK06
import Derived.Test.YtakaebjojgeehaaChipBanksK07
import Derived.Test.YtakaebjojgeehaaChipBanksK08
import Derived.Test.YtakaebjojgeehaaChipBanksK09
import Derived.Test.YtakaebjojgeehaaChipBanksK11
import Derived.Test.YtakaebjojgeehaaChipBanksK16
import Derived.Test.YtakaebjojgeehaaChipBanksK30
import Derived.Test.YtakaebjojgeehaaChipBanksK31
import Derived.Below
import Derived.BigQuiet
import Derived.ChangeMaps5
import Derived.Deep.AppendSrc
import Derived.Deep.DeepCutAuto
import Derived.Deep.Draws
import Derived.Deep.MidRow
import Derived.Deep.OwnRows
import Derived.Deep.QuietTactic
import Derived.Deep.RegionHeld3
import Derived.Deep.RegionWith
import Derived.Deep.Slices
import Derived.Deep.WholeRow
import Derived.Lib.Hide
import Derived.Lib.SmallJoins
import Derived.OpenShut
import Derived.OrdersHeld
import Derived.OwnWalk
import Derived.RowKit3
import Derived.StillTactics
import Derived.StillTail
import Derived.StillTailTactics
import Derived.Test.YtakaebjojgeehaaChecked
import Derived.WalkKit
namespace Go.Proofs.Ytakaebjojgeehaa
open Go.RowKit
set_option maxRecDepth 100000
theorem Sn.one (pa va ra ca fa ga pb vb rb cb fb gb : Int) : (#[.int .i64 pa, .int .i64 va, .int .i64 ra, .int .i64 ca, .int .i64 fa, .int .i64 ga, .int .i64 pb, .int .i64 vb, .int .i64 rb, .int .i64 cb, .int .i64 fb, .int .i64 gb] : Array Value).all (·.oneCell') = true := by simp [Value.oneCell']
set_option maxHeartbeats 2000000 in
theorem sndLoad_any (v vm : Value) (l : List Int) (w : World) (h : isArg w v l) :
    Calls Try.prog 71 #[.agg #[v, vm]] w fun e w' => e = .returned (.agg (Sn.of l).cs) ∧ Below w.heap.size w w' := by
  obtain ⟨x0, hx0⟩ : ∃ x, lo (l.getD 0 0) 12 = x := ⟨_, rfl⟩
  obtain ⟨x1, hx1⟩ : ∃ x, lo (l.getD 1 0) 4 = x := ⟨_, rfl⟩
  obtain ⟨x2, hx2⟩ : ∃ x, lo (l.getD 2 0) 8 = x := ⟨_, rfl⟩
  obtain ⟨x3, hx3⟩ : ∃ x, lo (l.getD 3 0) 12 = x := ⟨_, rfl⟩
  obtain ⟨x4, hx4⟩ : ∃ x, lo (l.getD 4 0) 1 = x := ⟨_, rfl⟩
  obtain ⟨x5, hx5⟩ : ∃ x, lo (l.getD 5 0) 14 = x := ⟨_, rfl⟩
  obtain ⟨x6, hx6⟩ : ∃ x, lo (l.getD 6 0) 12 = x := ⟨_, rfl⟩
  obtain ⟨x7, hx7⟩ : ∃ x, lo (l.getD 7 0) 4 = x := ⟨_, rfl⟩
  obtain ⟨x8, hx8⟩ : ∃ x, lo (l.getD 8 0) 8 = x := ⟨_, rfl⟩
  obtain ⟨x9, hx9⟩ : ∃ x, lo (l.getD 9 0) 12 = x := ⟨_, rfl⟩
  obtain ⟨x10, hx10⟩ : ∃ x, lo (l.getD 10 0) 1 = x := ⟨_, rfl⟩
  obtain ⟨x11, hx11⟩ : ∃ x, lo (l.getD 11 0) 14 = x := ⟨_, rfl⟩
  have hT : (Sn.of l).cs = #[.int .i64 x0, .int .i64 x1, .int .i64 x2, .int .i64 x3, .int .i64 x4, .int .i64 x5, .int .i64 x6, .int .i64 x7, .int .i64 x8, .int .i64 x9, .int .i64 x10, .int .i64 x11] := by subst hx0 hx1 hx2 hx3 hx4 hx5 hx6 hx7 hx8 hx9 hx10 hx11; rfl
  rw [hT]
  clear hT
  obtain ⟨k0, k1, k2, bW, sW⟩ := boxes3 w (.cells #[v, vm] 34) (.cells #[.int .i64 0, .int .i64 0, .int .i64 0, .int .i64 0, .int .i64 0, .int .i64 0, .int .i64 0, .int .i64 0, .int .i64 0, .int .i64 0, .int .i64 0, .int .i64 0] 73) (.cells #[.int .i64 0, .int .i64 0, .int .i64 0, .int .i64 0, .int .i64 0, .int .i64 0, .int .i64 0, .int .i64 0, .int .i64 0, .int .i64 0, .int .i64 0, .int .i64 0] 73)
  have k0 : rowB _ _ _ _ := k0
  have k1 : rowB _ _ _ _ := k1
  have k2 : rowB _ _ _ _ := k2
  go_enter Try.func71, Try.ntmps71
  go_upto_region 2 with (fail)
  change Code.wp _ _ _ _ (((w.alloc (.cells #[v, vm] 34)).alloc (.cells #[.int .i64 0, .int .i64 0, .int .i64 0, .int .i64 0, .int .i64 0, .int .i64 0, .int .i64 0, .int .i64 0, .int .i64 0, .int .i64 0, .int .i64 0, .int .i64 0] 73)).alloc (.cells #[.int .i64 0, .int .i64 0, .int .i64 0, .int .i64 0, .int .i64 0, .int .i64 0, .int .i64 0, .int .i64 0, .int .i64 0, .int .i64 0, .int .i64 0, .int .i64 0] 73))
  generalize ((w.alloc (.cells #[v, vm] 34)).alloc (.cells #[.int .i64 0, .int .i64 0, .int .i64 0, .int .i64 0, .int .i64 0, .int .i64 0, .int .i64 0, .int .i64 0, .int .i64 0, .int .i64 0, .int .i64 0, .int .i64 0] 73)).alloc (.cells #[.int .i64 0, .int .i64 0, .int .i64 0, .int .i64 0, .int .i64 0, .int .i64 0, .int .i64 0, .int .i64 0, .int .i64 0, .int .i64 0, .int .i64 0, .int .i64 0] 73) = w1 at *
  go_wp2_with fail
  go_loopw [6] (fun i wr => ∃ k : Nat, k ≤ 2 ∧ i = .int .i64 k ∧ rowB wr (w.heap.size + 2) 73 (if k = 0 then #[.int .i64 0, .int .i64 0, .int .i64 0, .int .i64 0, .int .i64 0, .int .i64 0, .int .i64 0, .int .i64 0, .int .i64 0, .int .i64 0, .int .i64 0, .int .i64 0] else if k = 1 then #[.int .i64 x0, .int .i64 x1, .int .i64 x2, .int .i64 x3, .int .i64 x4, .int .i64 x5, .int .i64 0, .int .i64 0, .int .i64 0, .int .i64 0, .int .i64 0, .int .i64 0] else #[.int .i64 x0, .int .i64 x1, .int .i64 x2, .int .i64 x3, .int .i64 x4, .int .i64 x5, .int .i64 x6, .int .i64 x7, .int .i64 x8, .int .i64 x9, .int .i64 x10, .int .i64 x11]) ∧ Below (w.heap.size + 2) w1 wr) (fun i _ => 2 - (intOf i).toNat)
  case atStart => exact ⟨0, by decide, rfl, k2, Below.refl _ _⟩
  case round =>
    obtain ⟨k, hk2, rfl, hr, hB⟩ := hrel
    have hsz := hB.size
    have lz := rowB_lt hr
    rcases (by omega : k = 0 ∨ k = 1 ∨ k = 2) with rfl | rfl | rfl
    · have h3 := isArg_below h (bW.trans (hB.mono (by omega))) (Nat.le_refl _)
      replace hr : rowB wr (w.heap.size + 2) 73 #[.int .i64 0, .int .i64 0, .int .i64 0, .int .i64 0, .int .i64 0, .int .i64 0, .int .i64 0, .int .i64 0, .int .i64 0, .int .i64 0, .int .i64 0, .int .i64 0] := hr
      have q0 := rowB_below k0 hB (by omega)
      go_upto_region 6 with (fail)
      have hS : Below wr.heap.size wr wr.drew := (Below.refl _ _).drew
      refine wp_region_mixM (fun w' => Below wr.heap.size wr w') 41383799 25725064 [(0, 1, 100663296), (1, 1, 126388360), (2, 1, 126388360), (4, 1, 126388352), (5, 1, 126388416), (6, 1, 126388352), (8, 1, 126388224), (9, 1, 126389248), (10, 1, 126388224), (12, 1, 126386176), (13, 1, 126402560), (14, 1, 126386176), (16, 1, 126353408), (17, 1, 126615552), (18, 1, 126353408), (20, 1, 125829120), (21, 1, 130023424), (22, 1, 125829120), (3, 3, 0), (7, 3, 0), (11, 3, 0), (15, 3, 0), (19, 3, 0), (23, 3, 0), (24, 3, 0), (25, 0, 67108864), (26, 2, 0)] (by kernel_rfl) (by kernel_rfl) (fun _ _ _ _ _ h => h) ?_
      simp only [List.map_cons, List.map_nil, opOf, List.getD_cons_zero, List.getD_cons_succ]
      change wpMix _ _ _ _ _ _ wr.drew
      refine wpMix_held (.int .i64 0) rfl hS (fun w' hw' => by go_simp) ?_
      simp only [Act.put, List.setIfInBounds_toArray, List.set_cons_zero, List.set_cons_succ]
      refine wpMix_held ((.agg #[v, vm])) rfl hS (fun w' hw' => exec_rowR 34 _ rfl w.heap.size rfl 34 #[v, vm] (rowB_below q0 hw' (rowB_lt q0)) agDv) ?_
      simp only [Act.put, List.setIfInBounds_toArray, List.set_cons_zero, List.set_cons_succ]
      refine wpMix_held (.int .i64 0) rfl hS (fun w' hw' => by go_simp) ?_
      simp only [Act.put, List.setIfInBounds_toArray, List.set_cons_zero, List.set_cons_succ]
      refine wpMix_held ((.agg #[v, vm])) rfl hS (fun w' hw' => exec_rowR 34 _ rfl w.heap.size rfl 34 #[v, vm] (rowB_below q0 hw' (rowB_lt q0)) agDv) ?_
      simp only [Act.put, List.setIfInBounds_toArray, List.set_cons_zero, List.set_cons_succ]
      refine wpMix_held (.int .i64 0) rfl hS (fun w' hw' => by go_simp) ?_
      simp only [Act.put, List.setIfInBounds_toArray, List.set_cons_zero, List.set_cons_succ]
      refine wpMix_held (.int .i64 1) rfl hS (fun w' hw' => by go_simp; try decide) ?_
      simp only [Act.put, List.setIfInBounds_toArray, List.set_cons_zero, List.set_cons_succ]
      refine wpMix_held ((.agg #[v, vm])) rfl hS (fun w' hw' => exec_rowR 34 _ rfl w.heap.size rfl 34 #[v, vm] (rowB_below q0 hw' (rowB_lt q0)) agDv) ?_
      simp only [Act.put, List.setIfInBounds_toArray, List.set_cons_zero, List.set_cons_succ]
      refine wpMix_held (.int .i64 0) rfl hS (fun w' hw' => by go_simp) ?_
      simp only [Act.put, List.setIfInBounds_toArray, List.set_cons_zero, List.set_cons_succ]
      refine wpMix_held (.int .i64 2) rfl hS (fun w' hw' => by go_simp; try decide) ?_
      simp only [Act.put, List.setIfInBounds_toArray, List.set_cons_zero, List.set_cons_succ]
      refine wpMix_held ((.agg #[v, vm])) rfl hS (fun w' hw' => exec_rowR 34 _ rfl w.heap.size rfl 34 #[v, vm] (rowB_below q0 hw' (rowB_lt q0)) agDv) ?_
      simp only [Act.put, List.setIfInBounds_toArray, List.set_cons_zero, List.set_cons_succ]
      refine wpMix_held (.int .i64 0) rfl hS (fun w' hw' => by go_simp) ?_
      simp only [Act.put, List.setIfInBounds_toArray, List.set_cons_zero, List.set_cons_succ]
      refine wpMix_held (.int .i64 3) rfl hS (fun w' hw' => by go_simp; try decide) ?_
      simp only [Act.put, List.setIfInBounds_toArray, List.set_cons_zero, List.set_cons_succ]
      refine wpMix_held ((.agg #[v, vm])) rfl hS (fun w' hw' => exec_rowR 34 _ rfl w.heap.size rfl 34 #[v, vm] (rowB_below q0 hw' (rowB_lt q0)) agDv) ?_
      simp only [Act.put, List.setIfInBounds_toArray, List.set_cons_zero, List.set_cons_succ]
      refine wpMix_held (.int .i64 0) rfl hS (fun w' hw' => by go_simp) ?_
      simp only [Act.put, List.setIfInBounds_toArray, List.set_cons_zero, List.set_cons_succ]
      refine wpMix_held (.int .i64 4) rfl hS (fun w' hw' => by go_simp; try decide) ?_
      simp only [Act.put, List.setIfInBounds_toArray, List.set_cons_zero, List.set_cons_succ]
      refine wpMix_held ((.agg #[v, vm])) rfl hS (fun w' hw' => exec_rowR 34 _ rfl w.heap.size rfl 34 #[v, vm] (rowB_below q0 hw' (rowB_lt q0)) agDv) ?_
      simp only [Act.put, List.setIfInBounds_toArray, List.set_cons_zero, List.set_cons_succ]
      refine wpMix_held (.int .i64 0) rfl hS (fun w' hw' => by go_simp) ?_
      simp only [Act.put, List.setIfInBounds_toArray, List.set_cons_zero, List.set_cons_succ]
      refine wpMix_held (.int .i64 5) rfl hS (fun w' hw' => by go_simp; try decide) ?_
      simp only [Act.put, List.setIfInBounds_toArray, List.set_cons_zero, List.set_cons_succ]
      refine wpMix_call ?_
      go_wp2_with (go_at_call 84; refine (devNumber_any _ _ l 0 12 _ (isArg_below h3 hS (Nat.le_refl _))).mono ?_; rintro e wa0 ⟨rfl, hb⟩; rw [show wd 12 = 12 from rfl, hx0]; replace hS := hS.trans (hb.mono hS.size); clear hb)
      first | refine ⟨fun _ => hS, ?_⟩ | refine ⟨hS, ?_⟩ | refine And.intro (fun _ => hS) ?_
      refine wpMix_call ?_
      go_wp2_with (go_at_call 84; refine (devNumber_any _ _ l 1 4 _ (isArg_below h3 hS (Nat.le_refl _))).mono ?_; rintro e wa1 ⟨rfl, hb⟩; rw [show wd 4 = 4 from rfl, hx1]; replace hS := hS.trans (hb.mono hS.size); clear hb)
      first | refine ⟨fun _ => hS, ?_⟩ | refine ⟨hS, ?_⟩ | refine And.intro (fun _ => hS) ?_
      refine wpMix_call ?_
      go_wp2_with (go_at_call 84; refine (devNumber_any _ _ l 2 8 _ (isArg_below h3 hS (Nat.le_refl _))).mono ?_; rintro e wa2 ⟨rfl, hb⟩; rw [show wd 8 = 8 from rfl, hx2]; replace hS := hS.trans (hb.mono hS.size); clear hb)
      first | refine ⟨fun _ => hS, ?_⟩ | refine ⟨hS, ?_⟩ | refine And.intro (fun _ => hS) ?_
      refine wpMix_call ?_
      go_wp2_with (go_at_call 84; refine (devNumber_any _ _ l 3 12 _ (isArg_below h3 hS (Nat.le_refl _))).mono ?_; rintro e wa3 ⟨rfl, hb⟩; rw [show wd 12 = 12 from rfl, hx3]; replace hS := hS.trans (hb.mono hS.size); clear hb)
      first | refine ⟨fun _ => hS, ?_⟩ | refine ⟨hS, ?_⟩ | refine And.intro (fun _ => hS) ?_
      refine wpMix_call ?_
      go_wp2_with (go_at_call 84; refine (devNumber_any _ _ l 4 1 _ (isArg_below h3 hS (Nat.le_refl _))).mono ?_; rintro e wa4 ⟨rfl, hb⟩; rw [show wd 1 = 1 from rfl, hx4]; replace hS := hS.trans (hb.mono hS.size); clear hb)
      first | refine ⟨fun _ => hS, ?_⟩ | refine ⟨hS, ?_⟩ | refine And.intro (fun _ => hS) ?_
      refine wpMix_call ?_
      go_wp2_with (go_at_call 84; refine (devNumber_any _ _ l 5 14 _ (isArg_below h3 hS (Nat.le_refl _))).mono ?_; rintro e wa5 ⟨rfl, hb⟩; rw [show wd 14 = 14 from rfl, hx5]; replace hS := hS.trans (hb.mono hS.size); clear hb)
      have hr2 := rowB_below hr hS lz
      first | refine ⟨fun _ => hS, ?_⟩ | refine ⟨hS, ?_⟩ | refine And.intro (fun _ => hS) ?_
      refine wpMix_call ?_
      go_wp2_with fail
      first | refine ⟨fun _ => hS, ?_⟩ | refine ⟨hS, ?_⟩ | refine And.intro (fun _ => hS) ?_
      (refine wpMix_still (fun K hK => ?_); go_simp; refine hK _ ?_; clear hK K)
      refine wpMix_call ?_
      go_wp2_with (refine wpList_storeP rfl 71 _ _ rfl (w.heap.size + 2) 0 rfl #[.int .i64 x0, .int .i64 x1, .int .i64 x2, .int .i64 x3, .int .i64 x4, .int .i64 x5] rfl (Vc.one _ _ _ _ _ _) 73 #[.int .i64 0, .int .i64 0, .int .i64 0, .int .i64 0, .int .i64 0, .int .i64 0, .int .i64 0, .int .i64 0, .int .i64 0, .int .i64 0, .int .i64 0, .int .i64 0] ?_ (Nat.le_of_ble_eq_true rfl) agVc ?_; with_reducible exact hr2)
      try refine ⟨fun h => (by cases h), ?_⟩
      refine wpMix_nil ?_
      go_wp2_with fail
      go_roundw
      case rel => exact ⟨1, by omega, rfl, rowB_eq (rowB_puts hr2 0 _) rfl, below_puts (hB.trans (hS.mono (by omega))) (by omega) 0 _⟩
      case measure => simp [intOf]
    · have h3 := isArg_below h (bW.trans (hB.mono (by omega))) (Nat.le_refl _)
      replace hr : rowB wr (w.heap.size + 2) 73 #[.int .i64 x0, .int .i64 x1, .int .i64 x2, .int .i64 x3, .int .i64 x4, .int .i64 x5, .int .i64 0, .int .i64 0, .int .i64 0, .int .i64 0, .int .i64 0, .int .i64 0] := hr
      have q0 := rowB_below k0 hB (by omega)
      go_upto_region 6 with (fail)
      have hS : Below wr.heap.size wr wr.drew := (Below.refl _ _).drew
      refine wp_region_mixM (fun w' => Below wr.heap.size wr w') 41383799 25725064 [(0, 1, 100663296), (1, 1, 126388360), (2, 1, 126388360), (4, 1, 126388352), (5, 1, 126388416), (6, 1, 126388352), (8, 1, 126388224), (9, 1, 126389248), (10, 1, 126388224), (12, 1, 126386176), (13, 1, 126402560), (14, 1, 126386176), (16, 1, 126353408), (17, 1, 126615552), (18, 1, 126353408), (20, 1, 125829120), (21, 1, 130023424), (22, 1, 125829120), (3, 3, 0), (7, 3, 0), (11, 3, 0), (15, 3, 0), (19, 3, 0), (23, 3, 0), (24, 3, 0), (25, 0, 67108864), (26, 2, 0)] (by kernel_rfl) (by kernel_rfl) (fun _ _ _ _ _ h => h) ?_
      simp only [List.map_cons, List.map_nil, opOf, List.getD_cons_zero, List.getD_cons_succ]
      change wpMix _ _ _ _ _ _ wr.drew
      refine wpMix_held (.int .i64 1) rfl hS (fun w' hw' => by go_simp) ?_
      simp only [Act.put, List.setIfInBounds_toArray, List.set_cons_zero, List.set_cons_succ]
      refine wpMix_held ((.agg #[v, vm])) rfl hS (fun w' hw' => exec_rowR 34 _ rfl w.heap.size rfl 34 #[v, vm] (rowB_below q0 hw' (rowB_lt q0)) agDv) ?_
      simp only [Act.put, List.setIfInBounds_toArray, List.set_cons_zero, List.set_cons_succ]
      refine wpMix_held (.int .i64 6) rfl hS (fun w' hw' => by go_simp) ?_
      simp only [Act.put, List.setIfInBounds_toArray, List.set_cons_zero, List.set_cons_succ]
      refine wpMix_held ((.agg #[v, vm])) rfl hS (fun w' hw' => exec_rowR 34 _ rfl w.heap.size rfl 34 #[v, vm] (rowB_below q0 hw' (rowB_lt q0)) agDv) ?_
      simp only [Act.put, List.setIfInBounds_toArray, List.set_cons_zero, List.set_cons_succ]
      refine wpMix_held (.int .i64 6) rfl hS (fun w' hw' => by go_simp) ?_
      simp only [Act.put, List.setIfInBounds_toArray, List.set_cons_zero, List.set_cons_succ]
      refine wpMix_held (.int .i64 7) rfl hS (fun w' hw' => by go_simp; try decide) ?_
      simp only [Act.put, List.setIfInBounds_toArray, List.set_cons_zero, List.set_cons_succ]
      refine wpMix_held ((.agg #[v, vm])) rfl hS (fun w' hw' => exec_rowR 34 _ rfl w.heap.size rfl 34 #[v, vm] (rowB_below q0 hw' (rowB_lt q0)) agDv) ?_
      simp only [Act.put, List.setIfInBounds_toArray, List.set_cons_zero, List.set_cons_succ]
      refine wpMix_held (.int .i64 6) rfl hS (fun w' hw' => by go_simp) ?_
      simp only [Act.put, List.setIfInBounds_toArray, List.set_cons_zero, List.set_cons_succ]
      refine wpMix_held (.int .i64 8) rfl hS (fun w' hw' => by go_simp; try decide) ?_
      simp only [Act.put, List.setIfInBounds_toArray, List.set_cons_zero, List.set_cons_succ]
      refine wpMix_held ((.agg #[v, vm])) rfl hS (fun w' hw' => exec_rowR 34 _ rfl w.heap.size rfl 34 #[v, vm] (rowB_below q0 hw' (rowB_lt q0)) agDv) ?_
      simp only [Act.put, List.setIfInBounds_toArray, List.set_cons_zero, List.set_cons_succ]
      refine wpMix_held (.int .i64 6) rfl hS (fun w' hw' => by go_simp) ?_
      simp only [Act.put, List.setIfInBounds_toArray, List.set_cons_zero, List.set_cons_succ]
      refine wpMix_held (.int .i64 9) rfl hS (fun w' hw' => by go_simp; try decide) ?_
      simp only [Act.put, List.setIfInBounds_toArray, List.set_cons_zero, List.set_cons_succ]
      refine wpMix_held ((.agg #[v, vm])) rfl hS (fun w' hw' => exec_rowR 34 _ rfl w.heap.size rfl 34 #[v, vm] (rowB_below q0 hw' (rowB_lt q0)) agDv) ?_
      simp only [Act.put, List.setIfInBounds_toArray, List.set_cons_zero, List.set_cons_succ]
      refine wpMix_held (.int .i64 6) rfl hS (fun w' hw' => by go_simp) ?_
      simp only [Act.put, List.setIfInBounds_toArray, List.set_cons_zero, List.set_cons_succ]
      refine wpMix_held (.int .i64 10) rfl hS (fun w' hw' => by go_simp; try decide) ?_
      simp only [Act.put, List.setIfInBounds_toArray, List.set_cons_zero, List.set_cons_succ]
      refine wpMix_held ((.agg #[v, vm])) rfl hS (fun w' hw' => exec_rowR 34 _ rfl w.heap.size rfl 34 #[v, vm] (rowB_below q0 hw' (rowB_lt q0)) agDv) ?_
      simp only [Act.put, List.setIfInBounds_toArray, List.set_cons_zero, List.set_cons_succ]
      refine wpMix_held (.int .i64 6) rfl hS (fun w' hw' => by go_simp) ?_
      simp only [Act.put, List.setIfInBounds_toArray, List.set_cons_zero, List.set_cons_succ]
      refine wpMix_held (.int .i64 11) rfl hS (fun w' hw' => by go_simp; try decide) ?_
      simp only [Act.put, List.setIfInBounds_toArray, List.set_cons_zero, List.set_cons_succ]
      refine wpMix_call ?_
      go_wp2_with (go_at_call 84; refine (devNumber_any _ _ l 6 12 _ (isArg_below h3 hS (Nat.le_refl _))).mono ?_; rintro e wa0 ⟨rfl, hb⟩; rw [show wd 12 = 12 from rfl, hx6]; replace hS := hS.trans (hb.mono hS.size); clear hb)
      first | refine ⟨fun _ => hS, ?_⟩ | refine ⟨hS, ?_⟩ | refine And.intro (fun _ => hS) ?_
      refine wpMix_call ?_
      go_wp2_with (go_at_call 84; refine (devNumber_any _ _ l 7 4 _ (isArg_below h3 hS (Nat.le_refl _))).mono ?_; rintro e wa1 ⟨rfl, hb⟩; rw [show wd 4 = 4 from rfl, hx7]; replace hS := hS.trans (hb.mono hS.size); clear hb)
      first | refine ⟨fun _ => hS, ?_⟩ | refine ⟨hS, ?_⟩ | refine And.intro (fun _ => hS) ?_
      refine wpMix_call ?_
      go_wp2_with (go_at_call 84; refine (devNumber_any _ _ l 8 8 _ (isArg_below h3 hS (Nat.le_refl _))).mono ?_; rintro e wa2 ⟨rfl, hb⟩; rw [show wd 8 = 8 from rfl, hx8]; replace hS := hS.trans (hb.mono hS.size); clear hb)
      first | refine ⟨fun _ => hS, ?_⟩ | refine ⟨hS, ?_⟩ | refine And.intro (fun _ => hS) ?_
      refine wpMix_call ?_
      go_wp2_with (go_at_call 84; refine (devNumber_any _ _ l 9 12 _ (isArg_below h3 hS (Nat.le_refl _))).mono ?_; rintro e wa3 ⟨rfl, hb⟩; rw [show wd 12 = 12 from rfl, hx9]; replace hS := hS.trans (hb.mono hS.size); clear hb)
      first | refine ⟨fun _ => hS, ?_⟩ | refine ⟨hS, ?_⟩ | refine And.intro (fun _ => hS) ?_
      refine wpMix_call ?_
      go_wp2_with (go_at_call 84; refine (devNumber_any _ _ l 10 1 _ (isArg_below h3 hS (Nat.le_refl _))).mono ?_; rintro e wa4 ⟨rfl, hb⟩; rw [show wd 1 = 1 from rfl, hx10]; replace hS := hS.trans (hb.mono hS.size); clear hb)
      first | refine ⟨fun _ => hS, ?_⟩ | refine ⟨hS, ?_⟩ | refine And.intro (fun _ => hS) ?_
      refine wpMix_call ?_
      go_wp2_with (go_at_call 84; refine (devNumber_any _ _ l 11 14 _ (isArg_below h3 hS (Nat.le_refl _))).mono ?_; rintro e wa5 ⟨rfl, hb⟩; rw [show wd 14 = 14 from rfl, hx11]; replace hS := hS.trans (hb.mono hS.size); clear hb)
      have hr2 := rowB_below hr hS lz
      first | refine ⟨fun _ => hS, ?_⟩ | refine ⟨hS, ?_⟩ | refine And.intro (fun _ => hS) ?_
      refine wpMix_call ?_
      go_wp2_with fail
      first | refine ⟨fun _ => hS, ?_⟩ | refine ⟨hS, ?_⟩ | refine And.intro (fun _ => hS) ?_
      (refine wpMix_still (fun K hK => ?_); go_simp; refine hK _ ?_; clear hK K)
      refine wpMix_call ?_
      go_wp2_with (refine wpList_storeP rfl 71 _ _ rfl (w.heap.size + 2) 6 rfl #[.int .i64 x6, .int .i64 x7, .int .i64 x8, .int .i64 x9, .int .i64 x10, .int .i64 x11] rfl (Vc.one _ _ _ _ _ _) 73 #[.int .i64 x0, .int .i64 x1, .int .i64 x2, .int .i64 x3, .int .i64 x4, .int .i64 x5, .int .i64 0, .int .i64 0, .int .i64 0, .int .i64 0, .int .i64 0, .int .i64 0] ?_ (Nat.le_of_ble_eq_true rfl) agVc ?_; with_reducible exact hr2)
      try refine ⟨fun h => (by cases h), ?_⟩
      refine wpMix_nil ?_
      go_wp2_with fail
      go_roundw
      case rel => exact ⟨2, by omega, rfl, rowB_eq (rowB_puts hr2 6 _) rfl, below_puts (hB.trans (hS.mono (by omega))) (by omega) 6 _⟩
      case measure => simp [intOf]
    · replace hr : rowB wr (w.heap.size + 2) 73 #[.int .i64 x0, .int .i64 x1, .int .i64 x2, .int .i64 x3, .int .i64 x4, .int .i64 x5, .int .i64 x6, .int .i64 x7, .int .i64 x8, .int .i64 x9, .int .i64 x10, .int .i64 x11] := hr
      have q1 := rowB_below k1 hB (by omega)
      have bX := bW.trans (hB.mono (by omega))
      go_wp2_with (first
        | (refine wpList_loadR rfl 73 _ rfl (w.heap.size + 2) rfl 73 #[.int .i64 x0, .int .i64 x1, .int .i64 x2, .int .i64 x3, .int .i64 x4, .int .i64 x5, .int .i64 x6, .int .i64 x7, .int .i64 x8, .int .i64 x9, .int .i64 x10, .int .i64 x11] ?_ agSn ?_; with_reducible exact hr)
        | (refine wpList_storeR rfl 73 _ _ rfl (w.heap.size + 1) rfl #[.int .i64 x0, .int .i64 x1, .int .i64 x2, .int .i64 x3, .int .i64 x4, .int .i64 x5, .int .i64 x6, .int .i64 x7, .int .i64 x8, .int .i64 x9, .int .i64 x10, .int .i64 x11] rfl (Sn.one _ _ _ _ _ _ _ _ _ _ _ _) 73 #[.int .i64 0, .int .i64 0, .int .i64 0, .int .i64 0, .int .i64 0, .int .i64 0, .int .i64 0, .int .i64 0, .int .i64 0, .int .i64 0, .int .i64 0, .int .i64 0] rfl ?_ agSn ?_; with_reducible exact q1))
      exact bodyPost_ret (resultsR rfl (w.heap.size + 1) _ rfl (rowB_row q1 _) agSn) rfl ⟨rfl, below_rowR bX _ (by omega)⟩
theorem run_indexA (pa va ra ca fa ga pb vb rb cb fb gb : Int) (w : World) : (Instr.index 73 (.agg #[.int .i64 pa, .int .i64 va, .int .i64 ra, .int .i64 ca, .int .i64 fa, .int .i64 ga, .int .i64 pb, .int .i64 vb, .int .i64 rb, .int .i64 cb, .int .i64 fb, .int .i64 gb]) (.int .i64 0)).run Try.prog w = .ok (.agg #[.int .i64 pa, .int .i64 va, .int .i64 ra, .int .i64 ca, .int .i64 fa, .int .i64 ga]) w := by
  have h1 : (Instr.index 73 (.agg #[.int .i64 pa, .int .i64 va, .int .i64 ra, .int .i64 ca, .int .i64 fa, .int .i64 ga, .int .i64 pb, .int .i64 vb, .int .i64 rb, .int .i64 cb, .int .i64 fb, .int .i64 gb]) (.int .i64 0)).run Try.prog w = .ok (.agg (#[.int .i64 pa, .int .i64 va, .int .i64 ra, .int .i64 ca, .int .i64 fa, .int .i64 ga, .int .i64 pb, .int .i64 vb, .int .i64 rb, .int .i64 cb, .int .i64 fb, .int .i64 gb].extract 0 (0 + 6))) w := by
    simp [Instr.index, run_underlying Try.underlying73, asIntOf, go_sem, part, Try.sizeOf71, Try.isAgg71]
  exact h1
theorem run_indexB (pa va ra ca fa ga pb vb rb cb fb gb : Int) (w : World) : (Instr.index 73 (.agg #[.int .i64 pa, .int .i64 va, .int .i64 ra, .int .i64 ca, .int .i64 fa, .int .i64 ga, .int .i64 pb, .int .i64 vb, .int .i64 rb, .int .i64 cb, .int .i64 fb, .int .i64 gb]) (.int .i64 1)).run Try.prog w = .ok (.agg #[.int .i64 pb, .int .i64 vb, .int .i64 rb, .int .i64 cb, .int .i64 fb, .int .i64 gb]) w := by
  have h1 : (Instr.index 73 (.agg #[.int .i64 pa, .int .i64 va, .int .i64 ra, .int .i64 ca, .int .i64 fa, .int .i64 ga, .int .i64 pb, .int .i64 vb, .int .i64 rb, .int .i64 cb, .int .i64 fb, .int .i64 gb]) (.int .i64 1)).run Try.prog w = .ok (.agg (#[.int .i64 pa, .int .i64 va, .int .i64 ra, .int .i64 ca, .int .i64 fa, .int .i64 ga, .int .i64 pb, .int .i64 vb, .int .i64 rb, .int .i64 cb, .int .i64 fb, .int .i64 gb].extract 6 (6 + 6))) w := by
    simp [Instr.index, run_underlying Try.underlying73, asIntOf, go_sem, part, Try.sizeOf71, Try.isAgg71]
  exact h1
attribute [local go_sem ↓] run_indexA run_indexB
set_option maxHeartbeats 2000000 in
theorem sndDev_any (s : Sn) (w : World) :
    Calls Try.prog 61 #[.agg s.cs] w fun e w' => ∃ v, e = .returned v ∧ devO w.heap.size w' v s.ns ∧ Below w.heap.size w w' := by
  obtain ⟨⟨pa, va, ra, ca, fa, ga⟩, ⟨pb, vb, rb, cb, fb, gb⟩⟩ := s
  dsimp only [Sn.cs, Sn.ns]
  obtain ⟨k0, k1, bW, sW⟩ := boxes2 w (.cells #[.int .i64 pa, .int .i64 va, .int .i64 ra, .int .i64 ca, .int .i64 fa, .int .i64 ga, .int .i64 pb, .int .i64 vb, .int .i64 rb, .int .i64 cb, .int .i64 fb, .int .i64 gb] 73) (.cells #[.slice none 0 0, .slice none 0 0] 34)
  have k0 : rowB _ _ _ _ := k0
  have k1 : rowB _ _ _ _ := k1
  obtain ⟨ii, i1, i2, i3, i4⟩ := infoNm
  have hZA : madeCells #[Value.int .i64 0] 12 = #[.int .i64 0, .int .i64 0, .int .i64 0, .int .i64 0, .int .i64 0, .int .i64 0, .int .i64 0, .int .i64 0, .int .i64 0, .int .i64 0, .int .i64 0, .int .i64 0] := (made_nums 12).trans rfl
  have HZA := Lib.hid hZA
  clear hZA
  go_enter Try.func61, Try.ntmps61
  go_upto_region 1 with (fail)
  generalize (w.alloc (.cells #[.int .i64 pa, .int .i64 va, .int .i64 ra, .int .i64 ca, .int .i64 fa, .int .i64 ga, .int .i64 pb, .int .i64 vb, .int .i64 rb, .int .i64 cb, .int .i64 fb, .int .i64 gb] 73)).alloc (.cells #[.slice none 0 0, .slice none 0 0] 34) = w1 at *
  have n0 := rowB_new w1 3 #[.int .i64 0, .int .i64 0, .int .i64 0, .int .i64 0, .int .i64 0, .int .i64 0, .int .i64 0, .int .i64 0, .int .i64 0, .int .i64 0, .int .i64 0, .int .i64 0]
  have m0 := rowB_alloc k0 (.cells #[.int .i64 0, .int .i64 0, .int .i64 0, .int .i64 0, .int .i64 0, .int .i64 0, .int .i64 0, .int .i64 0, .int .i64 0, .int .i64 0, .int .i64 0, .int .i64 0] 3)
  have m1 := rowB_alloc k1 (.cells #[.int .i64 0, .int .i64 0, .int .i64 0, .int .i64 0, .int .i64 0, .int .i64 0, .int .i64 0, .int .i64 0, .int .i64 0, .int .i64 0, .int .i64 0, .int .i64 0] 3)
  have b1 := bW.alloc bW.size (.cells #[.int .i64 0, .int .i64 0, .int .i64 0, .int .i64 0, .int .i64 0, .int .i64 0, .int .i64 0, .int .i64 0, .int .i64 0, .int .i64 0, .int .i64 0, .int .i64 0] 3)
  have s1 : (w1.alloc (.cells #[.int .i64 0, .int .i64 0, .int .i64 0, .int .i64 0, .int .i64 0, .int .i64 0, .int .i64 0, .int .i64 0, .int .i64 0, .int .i64 0, .int .i64 0, .int .i64 0] 3)).heap.size = w.heap.size + 3 := by rw [(boxes1 w1 _).2.2, sW]
  rw [sW] at n0
  have HQ := Lib.hid sW
  clear sW k0 k1 bW
  go_upto_region 2 with (at_make; refine wpList_make_room rfl _ _ _ rfl 3 ii (.int .i64 0) Try.underlying32 i1 i2 i3 rfl _ _ 12 rfl rfl (by rw [i4]; omega) (by omega) ?_; rw [HZA.out, HQ.out])
  generalize w1.alloc (.cells #[.int .i64 0, .int .i64 0, .int .i64 0, .int .i64 0, .int .i64 0, .int .i64 0, .int .i64 0, .int .i64 0, .int .i64 0, .int .i64 0, .int .i64 0, .int .i64 0] 3) = w2 at *
  clear HZA HQ
  go_wp2_with (refine wpList_loadR rfl 73 _ rfl w.heap.size rfl 73 #[.int .i64 pa, .int .i64 va, .int .i64 ra, .int .i64 ca, .int .i64 fa, .int .i64 ga, .int .i64 pb, .int .i64 vb, .int .i64 rb, .int .i64 cb, .int .i64 fb, .int .i64 gb] ?_ agSn ?_; with_reducible exact m0)
  go_loopw [3, 8] (fun n i wr => ∃ k : Nat, k ≤ 2 ∧ i = .int .i64 k ∧ n = .slice (some ⟨w.heap.size + 2, 0, none⟩) (6 * k) 12 ∧ rowB wr (w.heap.size + 2) 3 (if k = 0 then #[.int .i64 0, .int .i64 0, .int .i64 0, .int .i64 0, .int .i64 0, .int .i64 0, .int .i64 0, .int .i64 0, .int .i64 0, .int .i64 0, .int .i64 0, .int .i64 0] else if k = 1 then #[.int .i64 pa, .int .i64 va, .int .i64 ra, .int .i64 ca, .int .i64 fa, .int .i64 ga, .int .i64 0, .int .i64 0, .int .i64 0, .int .i64 0, .int .i64 0, .int .i64 0] else #[.int .i64 pa, .int .i64 va, .int .i64 ra, .int .i64 ca, .int .i64 fa, .int .i64 ga, .int .i64 pb, .int .i64 vb, .int .i64 rb, .int .i64 cb, .int .i64 fb, .int .i64 gb]) ∧ Below (w.heap.size + 2) w2 wr) (fun _ i _ => 2 - (intOf i).toNat)
  case atStart => exact ⟨0, by decide, rfl, rfl, n0, Below.refl _ _⟩
  case round =>
    obtain ⟨k, hk2, rfl, rfl, hr, hB⟩ := hrel
    have hsz := hB.size
    have lz := rowB_lt hr
    rcases (by omega : k = 0 ∨ k = 1 ∨ k = 2) with rfl | rfl | rfl
    · replace hr : rowB wr (w.heap.size + 2) 3 #[.int .i64 0, .int .i64 0, .int .i64 0, .int .i64 0, .int .i64 0, .int .i64 0, .int .i64 0, .int .i64 0, .int .i64 0, .int .i64 0, .int .i64 0, .int .i64 0] := hr
      have nB := rowB_new wr 71 #[.int .i64 pa, .int .i64 va, .int .i64 ra, .int .i64 ca, .int .i64 fa, .int .i64 ga]
      have hrA := rowB_alloc hr (.cells #[.int .i64 pa, .int .i64 va, .int .i64 ra, .int .i64 ca, .int .i64 fa, .int .i64 ga] 71)
      have hBA := hB.alloc (by omega) (.cells #[.int .i64 pa, .int .i64 va, .int .i64 ra, .int .i64 ca, .int .i64 fa, .int .i64 ga] 71)
      go_upto_region 5 with (fail)
      change Code.wp _ _ _ _ (wr.alloc (.cells #[.int .i64 pa, .int .i64 va, .int .i64 ra, .int .i64 ca, .int .i64 fa, .int .i64 ga] 71))
      generalize wr.alloc (.cells #[.int .i64 pa, .int .i64 va, .int .i64 ra, .int .i64 ca, .int .i64 fa, .int .i64 ga] 71) = wA at *
      generalize wr.heap.size = y at *
      obtain ⟨e0, e1, e2, e3, e4, e5, z0, z1, z2, z3, z4, z5⟩ := vcCells nB
      have hrX := rowB_alloc hrA (.cells #[.int .i64 pa, .int .i64 va, .int .i64 ra, .int .i64 ca, .int .i64 fa, .int .i64 ga] 3)
      have nX : rowB (wA.alloc (.cells #[.int .i64 pa, .int .i64 va, .int .i64 ra, .int .i64 ca, .int .i64 fa, .int .i64 ga] 3)) wA.heap.size 3 (nums [pa, va, ra, ca, fa, ga]) := rowB_new wA 3 #[.int .i64 pa, .int .i64 va, .int .i64 ra, .int .i64 ca, .int .i64 fa, .int .i64 ga]
      have lA := rowB_lt hrA
      have hBX := hBA.alloc (by omega) (.cells #[.int .i64 pa, .int .i64 va, .int .i64 ra, .int .i64 ca, .int .i64 fa, .int .i64 ga] 3)
      go_wp2_with (at_builtin; refine wpList_append_fit rfl _ _ _ rfl Try.underlying32 ii i1 i3 (w.heap.size + 2) 0 12 rfl 3 #[.int .i64 0, .int .i64 0, .int .i64 0, .int .i64 0, .int .i64 0, .int .i64 0, .int .i64 0, .int .i64 0, .int .i64 0, .int .i64 0, .int .i64 0, .int .i64 0] ?_ (Nat.le_of_ble_eq_true rfl) wA.heap.size 6 6 rfl 3 [pa, va, ra, ca, fa, ga] rfl ?_ (by omega) ?_; with_reducible exact hrX; with_reducible exact nX)
      go_roundw
      case rel => exact ⟨1, by omega, rfl, rfl, rowB_eq (rowB_puts hrX 0 _) rfl, below_puts hBX (Nat.le_refl _) 0 _⟩
      case measure => simp [intOf]
    · replace hr : rowB wr (w.heap.size + 2) 3 #[.int .i64 pa, .int .i64 va, .int .i64 ra, .int .i64 ca, .int .i64 fa, .int .i64 ga, .int .i64 0, .int .i64 0, .int .i64 0, .int .i64 0, .int .i64 0, .int .i64 0] := hr
      have nB := rowB_new wr 71 #[.int .i64 pb, .int .i64 vb, .int .i64 rb, .int .i64 cb, .int .i64 fb, .int .i64 gb]
      have hrA := rowB_alloc hr (.cells #[.int .i64 pb, .int .i64 vb, .int .i64 rb, .int .i64 cb, .int .i64 fb, .int .i64 gb] 71)
      have hBA := hB.alloc (by omega) (.cells #[.int .i64 pb, .int .i64 vb, .int .i64 rb, .int .i64 cb, .int .i64 fb, .int .i64 gb] 71)
      go_upto_region 5 with (fail)
      change Code.wp _ _ _ _ (wr.alloc (.cells #[.int .i64 pb, .int .i64 vb, .int .i64 rb, .int .i64 cb, .int .i64 fb, .int .i64 gb] 71))
      generalize wr.alloc (.cells #[.int .i64 pb, .int .i64 vb, .int .i64 rb, .int .i64 cb, .int .i64 fb, .int .i64 gb] 71) = wA at *
      generalize wr.heap.size = y at *
      obtain ⟨e0, e1, e2, e3, e4, e5, z0, z1, z2, z3, z4, z5⟩ := vcCells nB
      have hrX := rowB_alloc hrA (.cells #[.int .i64 pb, .int .i64 vb, .int .i64 rb, .int .i64 cb, .int .i64 fb, .int .i64 gb] 3)
      have nX : rowB (wA.alloc (.cells #[.int .i64 pb, .int .i64 vb, .int .i64 rb, .int .i64 cb, .int .i64 fb, .int .i64 gb] 3)) wA.heap.size 3 (nums [pb, vb, rb, cb, fb, gb]) := rowB_new wA 3 #[.int .i64 pb, .int .i64 vb, .int .i64 rb, .int .i64 cb, .int .i64 fb, .int .i64 gb]
      have lA := rowB_lt hrA
      have hBX := hBA.alloc (by omega) (.cells #[.int .i64 pb, .int .i64 vb, .int .i64 rb, .int .i64 cb, .int .i64 fb, .int .i64 gb] 3)
      go_wp2_with (at_builtin; refine wpList_append_fit rfl _ _ _ rfl Try.underlying32 ii i1 i3 (w.heap.size + 2) 6 12 rfl 3 #[.int .i64 pa, .int .i64 va, .int .i64 ra, .int .i64 ca, .int .i64 fa, .int .i64 ga, .int .i64 0, .int .i64 0, .int .i64 0, .int .i64 0, .int .i64 0, .int .i64 0] ?_ (Nat.le_of_ble_eq_true rfl) wA.heap.size 6 6 rfl 3 [pb, vb, rb, cb, fb, gb] rfl ?_ (by omega) ?_; with_reducible exact hrX; with_reducible exact nX)
      go_roundw
      case rel => exact ⟨2, by omega, rfl, rfl, rowB_eq (rowB_puts hrX 6 _) rfl, below_puts hBX (Nat.le_refl _) 6 _⟩
      case measure => simp [intOf]
    · replace hr : rowB wr (w.heap.size + 2) 3 #[.int .i64 pa, .int .i64 va, .int .i64 ra, .int .i64 ca, .int .i64 fa, .int .i64 ga, .int .i64 pb, .int .i64 vb, .int .i64 rb, .int .i64 cb, .int .i64 fb, .int .i64 gb] := hr
      have q1 := rowB_below m1 hB (by omega)
      have bX := b1.trans (hB.mono (by omega))
      go_wp2_with (refine wpList_storeR rfl 34 _ _ rfl (w.heap.size + 1) rfl #[.slice (some ⟨w.heap.size + 2, 0, none⟩) 12 12, .slice none 0 0] rfl (dev2_one _ _ _ _ _ _) 34 #[.slice none 0 0, .slice none 0 0] rfl ?_ agDv ?_; with_reducible exact q1)
      refine bodyPost_ret (resultsR rfl (w.heap.size + 1) _ rfl (rowB_row q1 _) agDv) rfl ?_
      exact ⟨_, rfl, ⟨w.heap.size + 2, rfl, by omega, rowB_row_other hr _ (by omega)⟩, below_rowR bX _ (by omega)⟩
end Go.Proofs.Ytakaebjojgeehaa
