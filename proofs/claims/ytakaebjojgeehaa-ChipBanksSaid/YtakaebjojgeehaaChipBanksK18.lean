/- A part of the proof of ChipBanks: ChMem. -/
import Derived.Test.YtakaebjojgeehaaChipBanksK01
import Derived.Test.YtakaebjojgeehaaChipBanksK02
import Derived.Test.YtakaebjojgeehaaChipBanksK03
import Derived.Test.YtakaebjojgeehaaChipBanksK04
import Derived.Test.YtakaebjojgeehaaChipBanksK05
import Derived.Test.YtakaebjojgeehaaChipBanksK06
import Derived.Test.YtakaebjojgeehaaChipBanksK08
import Derived.Test.YtakaebjojgeehaaChipBanksK09
import Derived.Test.YtakaebjojgeehaaChipBanksK11
import Derived.Test.YtakaebjojgeehaaChipBanksK15
import Derived.Test.YtakaebjojgeehaaChipBanksK16
import Derived.Test.YtakaebjojgeehaaChipBanksK17
import Derived.Below
import Derived.BigQuiet
import Derived.ChangeMaps5
import Derived.Deep.AppendSrc
import Derived.Deep.DeepAppendWide
import Derived.Deep.DeepCutAuto
import Derived.Deep.Draws
import Derived.Deep.MidRow
import Derived.Deep.OwnRows
import Derived.Deep.QuietTactic
import Derived.Deep.RegionHeld3
import Derived.Deep.RegionWith
import Derived.Deep.Slices
import Derived.Deep.WholeRow
import Derived.Laws.CopyOwn
import Derived.Laws.OwnMore
import Derived.Lib.Hide
import Derived.Lib.SmallJoins
import Derived.Maps.AppendAt
import Derived.OpenShut
import Derived.OrdersHeld
import Derived.OwnWalk
import Derived.RowKit3
import Derived.StillTactics
import Derived.StillTail
import Derived.StillTailTactics
import Derived.Test.YtakaebjojgeehaaChecked
import Derived.WalkKit
namespace Go.Proofs.Ytakaebjojgeehaa
open Go.RowKit
set_option maxRecDepth 100000
theorem mbank_max (n : Nat) (W : Int) (hW : 1 ≤ W) : max 1 (((n : Int) + W - 1) / W) = mbank n W := by
  unfold mbank
  split
  · rename_i h
    subst h
    have : (((0 : Nat) : Int) + W - 1) / W = 0 := Int.ediv_eq_zero_of_lt (by omega) (by omega)
    rw [this]; rfl
  · have : 1 ≤ ((n : Int) + W - 1) / W := Int.le_ediv_of_mul_le (by omega) (by omega)
    omega
set_option maxHeartbeats 1000000 in
theorem chWindow_any (nm : ByteArray) (k b z : Int) (dat : Value) (w : World) (hz : -9223372036854775808 ≤ z ∧ z ≤ 9223372036854775807) :
    Calls Try.prog 23 #[.agg (chip5 nm k b z dat)] w fun e w' => e = .returned (.int .i64 (mwin z)) ∧ Below w.heap.size w w' := by
  dsimp only [chip5]
  obtain ⟨k0, bW, sW⟩ := boxes1 w (.cells #[.string nm, .int .i64 k, .int .i64 b, .int .i64 z, dat] 24)
  obtain ⟨M, hM⟩ : ∃ M, max z 2 = M := ⟨_, rfl⟩
  have wm : wrap64 (M - 1) = M - 1 := IntWalk.wrap64_in _ (by omega)
  have hW : min (M - 1) 4096 = mwin z := by unfold mwin near; omega
  have HW := Lib.hid hW
  clear hW
  go_enter Try.func23, Try.ntmps23
  go_wp2_with (first
    | (refine wpList_max2 rfl _ _ _ rfl .i64 z 2 rfl rfl ?_; rw [hM])
    | (refine wpList_min2 rfl _ _ _ rfl .i64 (M - 1) 4096 rfl rfl ?_; rw [HW.out]))
  go_ret
  exact ⟨rfl, bW⟩
set_option maxHeartbeats 1000000 in
theorem chBanks_any (nm : ByteArray) (k b z : Int) (da : Option Addr) (nd dc : Nat) (w : World) (hd : nd ≤ 140737488351232) (hz : -9223372036854775808 ≤ z ∧ z ≤ 9223372036854775807) :
    Calls Try.prog 9 #[.agg (chip5 nm k b z (.slice da nd dc))] w fun e w' => e = .returned (.int .i64 (mbank nd (mwin z))) ∧ Below w.heap.size w w' := by
  have hwin := fun w => chWindow_any nm k b z (.slice da nd dc) w hz
  have hwb := mwin_bd z
  obtain ⟨W, hW⟩ : ∃ W, mwin z = W := ⟨_, rfl⟩
  simp only [hW] at hwin hwb
  rw [hW]
  have hq : max 1 (((nd : Int) + W - 1) / W) = mbank nd W := mbank_max nd W hwb.1
  clear hW
  dsimp only [chip5] at *
  obtain ⟨k0, bW, sW⟩ := boxes1 w (.cells #[.string nm, .int .i64 k, .int .i64 b, .int .i64 z, .slice da nd dc] 24)
  have k0 : rowB _ _ _ _ := k0
  have HQ := Lib.hid hq
  clear hq
  have w1 : wrap64 ((nd : Int) + W) = (nd : Int) + W := IntWalk.wrap64_in _ (by omega)
  have w2 : wrap64 ((nd : Int) + W - 1) = (nd : Int) + W - 1 := IntWalk.wrap64_in _ (by omega)
  have h0 : (0 : Int) ≤ (nd : Int) + W - 1 := by omega
  have q0 : (W == 0) = false := beq_eq_false_iff_ne.2 (by omega)
  obtain ⟨P, hP⟩ : ∃ P, ((nd : Int) + W - 1) / W = P := ⟨_, rfl⟩
  have hPd : Int.tdiv ((nd : Int) + W - 1) W = P := by rw [Int.tdiv_eq_ediv_of_nonneg h0, hP]
  have hPb : 0 ≤ P ∧ P ≤ nd + W := by
    rw [← hP]
    exact ⟨Int.ediv_nonneg h0 (by omega), Int.le_trans (Int.ediv_le_self _ h0) (by omega)⟩
  rw [hP] at HQ
  have wP : wrap64 P = P := IntWalk.wrap64_in _ (by omega)
  go_enter Try.func9, Try.ntmps9
  go_upto_region 2 with (first
    | (refine wpList_loadR rfl 24 _ rfl w.heap.size rfl 24 #[.string nm, .int .i64 k, .int .i64 b, .int .i64 z, .slice da nd dc] ?_ agCh ?_; with_reducible exact k0)
    | (go_at_call 23; refine (hwin _).mono ?_; rintro e w3 ⟨rfl, hb⟩; have k1 := rowB_below k0 hb (rowB_lt k0); have bX := bW.trans (hb.mono bW.size); clear hb))
  obtain ⟨c0, c1, c2, c3, c4⟩ := ccells k1
  clear k0 k1 hwin bW sW
  go_wp2_with (refine wpList_max2 rfl _ _ _ rfl .i64 1 P rfl rfl ?_; rw [HQ.out])
  go_ret
  exact ⟨rfl, bX⟩
/-- How many bytes a memory has. -/
def memSize (k z : Int) (nd : Nat) : Nat := if k = 2 then (mbank nd (mwin z) * mwin z).toNat else (near z 0 65536).toNat
theorem memSize_bank (z : Int) (nd : Nat) : ((memSize 2 z nd : Nat) : Int) = mbank nd (mwin z) * mwin z := by
  unfold memSize
  rw [if_pos rfl]
  have h := mbank_bd nd (mwin z) (mwin_bd z).1
  exact Int.toNat_of_nonneg (Int.mul_nonneg (by omega) (by have := (mwin_bd z).1; omega))
theorem memSize_plain {k z : Int} (hk : k ≠ 2) (nd : Nat) : ((memSize k z nd : Nat) : Int) = near z 0 65536 := by
  unfold memSize
  rw [if_neg hk]
  exact Int.toNat_of_nonneg (by unfold near; omega)
theorem memSize_bd (k z : Int) (nd : Nat) : memSize k z nd ≤ nd + 65536 := by
  by_cases h : k = 2
  · subst h
    have h1 := memSize_bank z nd
    have h2 := mbank_bd nd (mwin z) (mwin_bd z).1
    have := (mwin_bd z).2
    omega
  · have h1 := memSize_plain (z := z) h nd
    unfold near at h1
    omega
set_option maxHeartbeats 1000000 in
theorem chLength_any (nm : ByteArray) (k b z : Int) (da : Option Addr) (nd dc : Nat) (w : World) (hd : nd ≤ 140737488351232) (hz : -9223372036854775808 ≤ z ∧ z ≤ 9223372036854775807) :
    Calls Try.prog 53 #[.agg (chip5 nm k b z (.slice da nd dc))] w fun e w' => e = .returned (.int .i64 (memSize k z nd)) ∧ Below w.heap.size w w' := by
  by_cases hk : k = 2
  · subst hk
    have hwin := fun w => chWindow_any nm 2 b z (.slice da nd dc) w hz
    have hbk := fun w => chBanks_any nm 2 b z da nd dc w hd hz
    have hsz := memSize_bank z nd
    have hbd := memSize_bd 2 z nd
    obtain ⟨L, hL⟩ : ∃ L, memSize 2 z nd = L := ⟨_, rfl⟩
    rw [hL] at hsz hbd
    rw [hL]
    clear hL
    obtain ⟨W, hW⟩ : ∃ W, mwin z = W := ⟨_, rfl⟩
    simp only [hW] at hwin hsz hbk
    obtain ⟨K, hK⟩ : ∃ K, mbank nd W = K := ⟨_, rfl⟩
    simp only [hK] at hbk hsz
    clear hK hW
    have wm : IntKind.i64.wrap (K * W) = L := by rw [← hsz]; exact IntWalk.i64_in _ (by omega)
    clear hsz
    dsimp only [chip5] at *
    obtain ⟨k0, bW, sW⟩ := boxes1 w (.cells #[.string nm, .int .i64 2, .int .i64 b, .int .i64 z, .slice da nd dc] 24)
    have k0 : rowB _ _ _ _ := k0
    obtain ⟨c0, c1, c2, c3, c4⟩ := ccells k0
    go_enter Try.func53, Try.ntmps53
    go_upto_region 2 with (fail)
    change Code.wp _ _ _ _ (w.alloc (.cells #[.string nm, .int .i64 2, .int .i64 b, .int .i64 z, .slice da nd dc] 24))
    generalize w.alloc (.cells #[.string nm, .int .i64 2, .int .i64 b, .int .i64 z, .slice da nd dc] 24) = w1 at *
    clear c0 c1 c2 c3 c4 sW
    have hS := (Below.refl w1.heap.size w1).drew
    refine wp_region_mix (fun w' => Below w1.heap.size w1 w') [(0, 1), (2, 1), (1, 3), (3, 2), (4, 0), (5, 0)] (by kernel_rfl) (by kernel_rfl) (fun _ _ _ _ _ h => h) ?_
    simp only [List.map_cons, List.map_nil, opOf, List.getD_cons_zero, List.getD_cons_succ]
    change wpMix _ _ _ _ _ _ w1.drew
    refine wpMix_held (.agg #[.string nm, .int .i64 2, .int .i64 b, .int .i64 z, .slice da nd dc]) rfl hS (fun w' hw' => exec_rowR 24 _ rfl w.heap.size rfl 24 #[.string nm, .int .i64 2, .int .i64 b, .int .i64 z, .slice da nd dc] (rowB_below k0 hw' (rowB_lt k0)) agCh) ?_
    simp only [Act.put, List.setIfInBounds_toArray, List.set_cons_zero, List.set_cons_succ]
    refine wpMix_held (.agg #[.string nm, .int .i64 2, .int .i64 b, .int .i64 z, .slice da nd dc]) rfl hS (fun w' hw' => exec_rowR 24 _ rfl w.heap.size rfl 24 #[.string nm, .int .i64 2, .int .i64 b, .int .i64 z, .slice da nd dc] (rowB_below k0 hw' (rowB_lt k0)) agCh) ?_
    simp only [Act.put, List.setIfInBounds_toArray, List.set_cons_zero, List.set_cons_succ]
    refine wpMix_call ?_
    go_wp2_with (go_at_call 9; refine (hbk _).mono ?_; rintro e w3 ⟨rfl, hb⟩; replace hS := hS.trans (hb.mono hS.size); clear hb)
    first | refine ⟨fun _ => hS, ?_⟩ | refine ⟨hS, ?_⟩ | refine And.intro (fun _ => hS) ?_
    refine wpMix_call ?_
    go_wp2_with (go_at_call 23; refine (hwin _).mono ?_; rintro e w4 ⟨rfl, hb⟩; replace hS := hS.trans (hb.mono hS.size); clear hb)
    try refine ⟨fun h => (by cases h), ?_⟩
    (refine wpMix_still (fun K hK => ?_); go_simp; refine hK _ ?_; clear hK K)
    (refine wpMix_still (fun K hK => ?_); go_simp; refine hK _ ?_; clear hK K)
    refine wpMix_nil ?_
    go_wp2_with fail
    go_ret
    exact ⟨rfl, bW.trans (hS.mono bW.size)⟩
  · have q2 : (k == 2) = false := beq_eq_false_iff_ne.2 hk
    have hsz := memSize_plain (z := z) hk nd
    rw [hsz]
    obtain ⟨X, hX⟩ : ∃ X, max z 0 = X := ⟨_, rfl⟩
    have hY : min X 65536 = near z 0 65536 := by unfold near; omega
    have HX := Lib.hid hX
    have HY := Lib.hid hY
    clear hX hY hsz
    dsimp only [chip5] at *
    obtain ⟨k0, bW, sW⟩ := boxes1 w (.cells #[.string nm, .int .i64 k, .int .i64 b, .int .i64 z, .slice da nd dc] 24)
    go_enter Try.func53, Try.ntmps53
    go_wp2_with (first
      | (refine wpList_max2 rfl _ _ _ rfl .i64 z 0 rfl rfl ?_; rw [HX.out])
      | (refine wpList_min2 rfl _ _ _ rfl .i64 X 65536 rfl rfl ?_; rw [HY.out]))
    go_ret
    exact ⟨rfl, bW⟩
end Go.Proofs.Ytakaebjojgeehaa
