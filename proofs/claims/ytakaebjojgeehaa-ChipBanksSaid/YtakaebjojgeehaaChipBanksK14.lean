/- A part of the proof of ChipBanks: ChCk. -/
import Derived.Test.YtakaebjojgeehaaChipBanksK01
import Derived.Test.YtakaebjojgeehaaChipBanksK02
import Derived.Test.YtakaebjojgeehaaChipBanksK03
import Derived.Test.YtakaebjojgeehaaChipBanksK04
import Derived.Test.YtakaebjojgeehaaChipBanksK05
import Derived.Test.YtakaebjojgeehaaChipBanksK06
import Derived.Test.YtakaebjojgeehaaChipBanksK08
import Derived.Test.YtakaebjojgeehaaChipBanksK11
import Derived.Test.YtakaebjojgeehaaChipBanksK12
import Derived.Test.YtakaebjojgeehaaChipBanksK13
import Derived.Below
import Derived.BigQuiet
import Derived.ChangeMaps5
import Derived.Deep.DeepCutAuto
import Derived.Deep.Draws
import Derived.Deep.MidRow
import Derived.Deep.OwnRows
import Derived.Deep.QuietTactic
import Derived.Deep.RegionHeld3
import Derived.Deep.RegionWith
import Derived.Deep.Slices
import Derived.Deep.WholeRow
import Derived.Lib.Bytealg
import Derived.Lib.Hide
import Derived.Lib.IndexAny
import Derived.Lib.SmallJoins
import Derived.Lib.Walk
import Derived.OpenShut
import Derived.OrdersHeld
import Derived.OwnWalk
import Derived.RowKit3
import Derived.StillTactics
import Derived.StillTail
import Derived.StillTailTactics
import Derived.Test.YtakaebjojgeehaaChecked
import Derived.WalkKit
namespace Go.Proofs.Ytakaebjojgeehaa
open Go.RowKit
set_option maxRecDepth 100000
set_option linter.unusedVariables false
/-- How large a chip may be, what data it may have. -/
def szOk (k z : Int) : Bool := if k = 0 ∨ k = 1 then decide (1 ≤ z) else if k = 2 then decide (2 ≤ z) else if k = 3 then decide (z = 4) else if k = 4 then decide (z = 2) else if k = 5 then decide (z = 3) else if k = 6 then decide (z = 32) else if k = 7 then decide (z = 8) else if k = 8 then decide (z = 4) else false
def dtOk (k z : Int) (n : Nat) : Bool := if k = 0 ∨ k = 1 then decide ((n : Int) ≤ z) else if k = 2 then true else if k = 8 then decide ((n : Int) % 256 = 0) else decide (n = 0)
/-- The number of the error of a chip. -/
def chErr (nm : ByteArray) (k b z : Int) (n : Nat) : Int :=
  if nameB nm = false then 15 else if nm.toList = [99, 112, 117] then 20 else if k < 0 ∨ 8 < k then 8 else if szOk k z = false then 1 else if 4096 < z ∨ 4096 < n then 2 else if b < 0 ∨ 65536 - z < b then 19 else if dtOk k z n = false then 3 else 0
set_option maxHeartbeats 1000000 in
theorem chSize_any (nm : ByteArray) (k b z : Int) (da : Option Addr) (nd dc : Nat) (w : World) :
    Calls Try.prog 20 #[.agg (chip5 nm k b z (.slice da nd dc))] w fun e w' => e = .returned (.bool (szOk k z)) ∧ Below w.heap.size w w' := by
  dsimp only [chip5]
  rcases (by omega : k = 0 ∨ k = 1 ∨ k = 2 ∨ k = 3 ∨ k = 4 ∨ k = 5 ∨ k = 6 ∨ k = 7 ∨ k = 8 ∨ (k < 0 ∨ 8 < k)) with rfl | rfl | rfl | rfl | rfl | rfl | rfl | rfl | rfl | hk
  · obtain ⟨k0, bW, sW⟩ := boxes1 w (.cells #[.string nm, .int .i64 0, .int .i64 b, .int .i64 z, .slice da nd dc] 24)
    have k0 : rowB _ _ _ _ := k0
    obtain ⟨c0, c1, c2, c3, c4⟩ := ccells k0
    have e : szOk 0 z = decide (1 ≤ z) := by
      unfold szOk
      rw [if_pos (by decide)]
    rw [e]
    obtain ⟨D, hD⟩ : ∃ D, decide (1 ≤ z) = D := ⟨_, rfl⟩
    rw [hD]
    clear e
    go_enter Try.func20, Try.ntmps20
    go_wp2_with fail
    go_ret
    exact ⟨rfl, bW⟩
  · obtain ⟨k0, bW, sW⟩ := boxes1 w (.cells #[.string nm, .int .i64 1, .int .i64 b, .int .i64 z, .slice da nd dc] 24)
    have k0 : rowB _ _ _ _ := k0
    obtain ⟨c0, c1, c2, c3, c4⟩ := ccells k0
    have e : szOk 1 z = decide (1 ≤ z) := by
      unfold szOk
      rw [if_pos (by decide)]
    rw [e]
    obtain ⟨D, hD⟩ : ∃ D, decide (1 ≤ z) = D := ⟨_, rfl⟩
    rw [hD]
    clear e
    go_enter Try.func20, Try.ntmps20
    go_wp2_with fail
    go_ret
    exact ⟨rfl, bW⟩
  · obtain ⟨k0, bW, sW⟩ := boxes1 w (.cells #[.string nm, .int .i64 2, .int .i64 b, .int .i64 z, .slice da nd dc] 24)
    have k0 : rowB _ _ _ _ := k0
    obtain ⟨c0, c1, c2, c3, c4⟩ := ccells k0
    have e : szOk 2 z = decide (2 ≤ z) := by
      unfold szOk
      rw [if_neg (by decide), if_pos (by decide)]
    rw [e]
    obtain ⟨D, hD⟩ : ∃ D, decide (2 ≤ z) = D := ⟨_, rfl⟩
    rw [hD]
    clear e
    go_enter Try.func20, Try.ntmps20
    go_wp2_with fail
    go_ret
    exact ⟨rfl, bW⟩
  · obtain ⟨k0, bW, sW⟩ := boxes1 w (.cells #[.string nm, .int .i64 3, .int .i64 b, .int .i64 z, .slice da nd dc] 24)
    have k0 : rowB _ _ _ _ := k0
    obtain ⟨c0, c1, c2, c3, c4⟩ := ccells k0
    have e : szOk 3 z = decide (z = 4) := by
      unfold szOk
      rw [if_neg (by decide), if_neg (by decide), if_pos (by decide)]
    rw [e]
    obtain ⟨D, hD⟩ : ∃ D, decide (z = 4) = D := ⟨_, rfl⟩
    rw [hD]
    have hD2 : (z == 4) = D := by rw [← hD]; by_cases h : z = 4 <;> simp [h]
    clear e
    go_enter Try.func20, Try.ntmps20
    go_wp2_with fail
    go_ret
    exact ⟨rfl, bW⟩
  · obtain ⟨k0, bW, sW⟩ := boxes1 w (.cells #[.string nm, .int .i64 4, .int .i64 b, .int .i64 z, .slice da nd dc] 24)
    have k0 : rowB _ _ _ _ := k0
    obtain ⟨c0, c1, c2, c3, c4⟩ := ccells k0
    have e : szOk 4 z = decide (z = 2) := by
      unfold szOk
      rw [if_neg (by decide), if_neg (by decide), if_neg (by decide), if_pos (by decide)]
    rw [e]
    obtain ⟨D, hD⟩ : ∃ D, decide (z = 2) = D := ⟨_, rfl⟩
    rw [hD]
    have hD2 : (z == 2) = D := by rw [← hD]; by_cases h : z = 2 <;> simp [h]
    clear e
    go_enter Try.func20, Try.ntmps20
    go_wp2_with fail
    go_ret
    exact ⟨rfl, bW⟩
  · obtain ⟨k0, bW, sW⟩ := boxes1 w (.cells #[.string nm, .int .i64 5, .int .i64 b, .int .i64 z, .slice da nd dc] 24)
    have k0 : rowB _ _ _ _ := k0
    obtain ⟨c0, c1, c2, c3, c4⟩ := ccells k0
    have e : szOk 5 z = decide (z = 3) := by
      unfold szOk
      rw [if_neg (by decide), if_neg (by decide), if_neg (by decide), if_neg (by decide), if_pos (by decide)]
    rw [e]
    obtain ⟨D, hD⟩ : ∃ D, decide (z = 3) = D := ⟨_, rfl⟩
    rw [hD]
    have hD2 : (z == 3) = D := by rw [← hD]; by_cases h : z = 3 <;> simp [h]
    clear e
    go_enter Try.func20, Try.ntmps20
    go_wp2_with fail
    go_ret
    exact ⟨rfl, bW⟩
  · obtain ⟨k0, bW, sW⟩ := boxes1 w (.cells #[.string nm, .int .i64 6, .int .i64 b, .int .i64 z, .slice da nd dc] 24)
    have k0 : rowB _ _ _ _ := k0
    obtain ⟨c0, c1, c2, c3, c4⟩ := ccells k0
    have e : szOk 6 z = decide (z = 32) := by
      unfold szOk
      rw [if_neg (by decide), if_neg (by decide), if_neg (by decide), if_neg (by decide), if_neg (by decide), if_pos (by decide)]
    rw [e]
    obtain ⟨D, hD⟩ : ∃ D, decide (z = 32) = D := ⟨_, rfl⟩
    rw [hD]
    have hD2 : (z == 32) = D := by rw [← hD]; by_cases h : z = 32 <;> simp [h]
    clear e
    go_enter Try.func20, Try.ntmps20
    go_wp2_with fail
    go_ret
    exact ⟨rfl, bW⟩
  · obtain ⟨k0, bW, sW⟩ := boxes1 w (.cells #[.string nm, .int .i64 7, .int .i64 b, .int .i64 z, .slice da nd dc] 24)
    have k0 : rowB _ _ _ _ := k0
    obtain ⟨c0, c1, c2, c3, c4⟩ := ccells k0
    have e : szOk 7 z = decide (z = 8) := by
      unfold szOk
      rw [if_neg (by decide), if_neg (by decide), if_neg (by decide), if_neg (by decide), if_neg (by decide), if_neg (by decide), if_pos (by decide)]
    rw [e]
    obtain ⟨D, hD⟩ : ∃ D, decide (z = 8) = D := ⟨_, rfl⟩
    rw [hD]
    have hD2 : (z == 8) = D := by rw [← hD]; by_cases h : z = 8 <;> simp [h]
    clear e
    go_enter Try.func20, Try.ntmps20
    go_wp2_with fail
    go_ret
    exact ⟨rfl, bW⟩
  · obtain ⟨k0, bW, sW⟩ := boxes1 w (.cells #[.string nm, .int .i64 8, .int .i64 b, .int .i64 z, .slice da nd dc] 24)
    have k0 : rowB _ _ _ _ := k0
    obtain ⟨c0, c1, c2, c3, c4⟩ := ccells k0
    have e : szOk 8 z = decide (z = 4) := by
      unfold szOk
      rw [if_neg (by decide), if_neg (by decide), if_neg (by decide), if_neg (by decide), if_neg (by decide), if_neg (by decide), if_neg (by decide), if_pos (by decide)]
    rw [e]
    obtain ⟨D, hD⟩ : ∃ D, decide (z = 4) = D := ⟨_, rfl⟩
    rw [hD]
    have hD2 : (z == 4) = D := by rw [← hD]; by_cases h : z = 4 <;> simp [h]
    clear e
    go_enter Try.func20, Try.ntmps20
    go_wp2_with fail
    go_ret
    exact ⟨rfl, bW⟩
  · obtain ⟨k0, bW, sW⟩ := boxes1 w (.cells #[.string nm, .int .i64 k, .int .i64 b, .int .i64 z, .slice da nd dc] 24)
    have k0 : rowB _ _ _ _ := k0
    obtain ⟨c0, c1, c2, c3, c4⟩ := ccells k0
    have e : szOk k z = false := by
      unfold szOk
      rw [if_neg (by omega), if_neg (by omega), if_neg (by omega), if_neg (by omega), if_neg (by omega), if_neg (by omega), if_neg (by omega), if_neg (by omega)]
    rw [e]
    have q0 : (k == 0) = false := beq_eq_false_iff_ne.2 (by omega)
    have q1 : (k == 1) = false := beq_eq_false_iff_ne.2 (by omega)
    have q2 : (k == 2) = false := beq_eq_false_iff_ne.2 (by omega)
    have q3 : (k == 3) = false := beq_eq_false_iff_ne.2 (by omega)
    have q4 : (k == 4) = false := beq_eq_false_iff_ne.2 (by omega)
    have q5 : (k == 5) = false := beq_eq_false_iff_ne.2 (by omega)
    have q6 : (k == 6) = false := beq_eq_false_iff_ne.2 (by omega)
    have q7 : (k == 7) = false := beq_eq_false_iff_ne.2 (by omega)
    have q8 : (k == 8) = false := beq_eq_false_iff_ne.2 (by omega)
    clear e hk
    go_enter Try.func20, Try.ntmps20
    go_wp2_with fail
    go_ret
    exact ⟨rfl, bW⟩
set_option maxHeartbeats 1000000 in
theorem chData_any (nm : ByteArray) (k b z : Int) (da : Option Addr) (nd dc : Nat) (hn : nd ≤ 4096) (w : World) :
    Calls Try.prog 21 #[.agg (chip5 nm k b z (.slice da nd dc))] w fun e w' => e = .returned (.bool (dtOk k z nd)) ∧ Below w.heap.size w w' := by
  dsimp only [chip5]
  rcases (by omega : k = 0 ∨ k = 1 ∨ k = 2 ∨ k = 8 ∨ (k ≠ 0 ∧ k ≠ 1 ∧ k ≠ 2 ∧ k ≠ 8)) with rfl | rfl | rfl | rfl | hk
  · obtain ⟨k0, bW, sW⟩ := boxes1 w (.cells #[.string nm, .int .i64 0, .int .i64 b, .int .i64 z, .slice da nd dc] 24)
    have k0 : rowB _ _ _ _ := k0
    obtain ⟨c0, c1, c2, c3, c4⟩ := ccells k0
    have e : dtOk 0 z nd = decide ((nd : Int) ≤ z) := by
      unfold dtOk
      rw [if_pos (by decide)]
    rw [e]
    clear e
    obtain ⟨D, hD⟩ : ∃ D, decide ((nd : Int) ≤ z) = D := ⟨_, rfl⟩
    rw [hD]
    go_enter Try.func21, Try.ntmps21
    go_wp2_with fail
    go_ret
    exact ⟨rfl, bW⟩
  · obtain ⟨k0, bW, sW⟩ := boxes1 w (.cells #[.string nm, .int .i64 1, .int .i64 b, .int .i64 z, .slice da nd dc] 24)
    have k0 : rowB _ _ _ _ := k0
    obtain ⟨c0, c1, c2, c3, c4⟩ := ccells k0
    have e : dtOk 1 z nd = decide ((nd : Int) ≤ z) := by
      unfold dtOk
      rw [if_pos (by decide)]
    rw [e]
    clear e
    obtain ⟨D, hD⟩ : ∃ D, decide ((nd : Int) ≤ z) = D := ⟨_, rfl⟩
    rw [hD]
    go_enter Try.func21, Try.ntmps21
    go_wp2_with fail
    go_ret
    exact ⟨rfl, bW⟩
  · obtain ⟨k0, bW, sW⟩ := boxes1 w (.cells #[.string nm, .int .i64 2, .int .i64 b, .int .i64 z, .slice da nd dc] 24)
    have k0 : rowB _ _ _ _ := k0
    obtain ⟨c0, c1, c2, c3, c4⟩ := ccells k0
    have e : dtOk 2 z nd = true := by
      unfold dtOk
      rw [if_neg (by decide), if_pos (by decide)]
    rw [e]
    clear e
    go_enter Try.func21, Try.ntmps21
    go_wp2_with fail
    go_ret
    exact ⟨rfl, bW⟩
  · obtain ⟨k0, bW, sW⟩ := boxes1 w (.cells #[.string nm, .int .i64 8, .int .i64 b, .int .i64 z, .slice da nd dc] 24)
    have k0 : rowB _ _ _ _ := k0
    obtain ⟨c0, c1, c2, c3, c4⟩ := ccells k0
    have e : dtOk 8 z nd = decide ((nd : Int) % 256 = 0) := by
      unfold dtOk
      rw [if_neg (by decide), if_neg (by decide), if_pos (by decide)]
    rw [e]
    clear e
    obtain ⟨D, hD⟩ : ∃ D, decide ((nd : Int) % 256 = 0) = D := ⟨_, rfl⟩
    rw [hD]
    have hD2 : ((nd : Int) % 256 == 0) = D := by rw [← hD]; by_cases h : (nd : Int) % 256 = 0 <;> simp [h]
    have h0 : (0 : Int) ≤ (nd : Int) := by omega
    go_enter Try.func21, Try.ntmps21
    go_wp2_with fail
    go_ret
    exact ⟨rfl, bW⟩
  · obtain ⟨k0, bW, sW⟩ := boxes1 w (.cells #[.string nm, .int .i64 k, .int .i64 b, .int .i64 z, .slice da nd dc] 24)
    have k0 : rowB _ _ _ _ := k0
    obtain ⟨c0, c1, c2, c3, c4⟩ := ccells k0
    have e : dtOk k z nd = decide (nd = 0) := by
      unfold dtOk
      rw [if_neg (by omega), if_neg (by omega), if_neg (by omega)]
    rw [e]
    clear e
    obtain ⟨D, hD⟩ : ∃ D, decide (nd = 0) = D := ⟨_, rfl⟩
    rw [hD]
    have hD2 : ((nd : Int) == 0) = D := by rw [← hD]; by_cases h : nd = 0 <;> simp [h]
    have q0 : (k == 0) = false := beq_eq_false_iff_ne.2 (by omega)
    have q1 : (k == 1) = false := beq_eq_false_iff_ne.2 (by omega)
    have q2 : (k == 2) = false := beq_eq_false_iff_ne.2 (by omega)
    have q8 : (k == 8) = false := beq_eq_false_iff_ne.2 (by omega)
    clear hk
    go_enter Try.func21, Try.ntmps21
    go_wp2_with fail
    go_ret
    exact ⟨rfl, bW⟩
set_option maxHeartbeats 4000000 in
theorem chCheck_any (nm : ByteArray) (k b z : Int) (da : Option Addr) (nd dc : Nat) (hnm : nm.size ≤ 9223372036854775807) (hz : -9223372036854775808 ≤ z ∧ z ≤ 9223372036854775807) (hd : nd ≤ 140737488351232) (w : World) :
    Calls Try.prog 7 #[.agg (chip5 nm k b z (.slice da nd dc))] w fun e w' => e = .returned (.int .i64 (chErr nm k b z nd)) ∧ Below w.heap.size w w' := by
  have hN := fun w => name_any nm w hnm
  have hS := fun w => chSize_any nm k b z da nd dc w
  have hT : nd ≤ 4096 → ∀ w, Calls Try.prog 21 #[.agg (chip5 nm k b z (.slice da nd dc))] w fun e w' => e = .returned (.bool (dtOk k z nd)) ∧ Below w.heap.size w w' := fun h w => chData_any nm k b z da nd dc h w
  dsimp only [chip5] at *
  obtain ⟨k0, bW, sW⟩ := boxes1 w (.cells #[.string nm, .int .i64 k, .int .i64 b, .int .i64 z, .slice da nd dc] 24)
  have k0 : rowB _ _ _ _ := k0
  obtain ⟨c0, c1, c2, c3, c4⟩ := ccells k0
  unfold chErr
  obtain ⟨BN, hBN⟩ : ∃ BN, nameB nm = BN := ⟨_, rfl⟩
  obtain ⟨BS, hBS⟩ : ∃ BS, szOk k z = BS := ⟨_, rfl⟩
  obtain ⟨BT, hBT⟩ : ∃ BT, dtOk k z nd = BT := ⟨_, rfl⟩
  rw [hBN, hBS, hBT]
  simp only [hBN] at hN
  simp only [hBS] at hS
  simp only [hBT] at hT
  clear hBN hBT
  cases BN with
  | false =>
    rw [if_pos rfl]
    go_enter Try.func7, Try.ntmps7
    go_wp2_with (first
      | (go_at_call 19; refine (hN _).mono ?_; rintro e w2 ⟨rfl, hb2⟩; have k2 := rowB_below k0 hb2 (rowB_lt k0); have b2 := bW.trans (hb2.mono bW.size); obtain ⟨c0, c1, c2, c3, c4⟩ := ccells k2)
      | (refine wpList_loadR rfl 24 _ rfl w.heap.size rfl 24 #[.string nm, .int .i64 k, .int .i64 b, .int .i64 z, .slice da nd dc] ?_ agCh ?_; with_reducible exact k2)
      | (go_at_call 20; refine (hS _).mono ?_; rintro e w3 ⟨rfl, hb3⟩; have k3 := rowB_below k2 hb3 (rowB_lt k2); have b3 := b2.trans (hb3.mono b2.size); obtain ⟨c0, c1, c2, c3, c4⟩ := ccells k3)
      | (refine wpList_loadR rfl 24 _ rfl w.heap.size rfl 24 #[.string nm, .int .i64 k, .int .i64 b, .int .i64 z, .slice da nd dc] ?_ agCh ?_; with_reducible exact k3)
      | (go_at_call 21; refine (hT _).mono ?_; rintro e w4 ⟨rfl, hb4⟩; have b4 := b3.trans (hb4.mono b3.size)))
    go_ret
    exact ⟨rfl, b2⟩
  | true =>
    rw [if_neg (by decide)]
    by_cases hc : nm.toList = [99, 112, 117]
    · rw [if_pos hc]
      have hcb : (nm.toList == [99, 112, 117]) = true := beq_iff_eq.2 hc
      have HC := Lib.hid hc
      clear hc
      go_enter Try.func7, Try.ntmps7
      go_wp2_with (first
        | (go_at_call 19; refine (hN _).mono ?_; rintro e w2 ⟨rfl, hb2⟩; have k2 := rowB_below k0 hb2 (rowB_lt k0); have b2 := bW.trans (hb2.mono bW.size); obtain ⟨c0, c1, c2, c3, c4⟩ := ccells k2)
        | (refine wpList_loadR rfl 24 _ rfl w.heap.size rfl 24 #[.string nm, .int .i64 k, .int .i64 b, .int .i64 z, .slice da nd dc] ?_ agCh ?_; with_reducible exact k2)
        | (go_at_call 20; refine (hS _).mono ?_; rintro e w3 ⟨rfl, hb3⟩; have k3 := rowB_below k2 hb3 (rowB_lt k2); have b3 := b2.trans (hb3.mono b2.size); obtain ⟨c0, c1, c2, c3, c4⟩ := ccells k3)
        | (refine wpList_loadR rfl 24 _ rfl w.heap.size rfl 24 #[.string nm, .int .i64 k, .int .i64 b, .int .i64 z, .slice da nd dc] ?_ agCh ?_; with_reducible exact k3)
        | (go_at_call 21; refine (hT _).mono ?_; rintro e w4 ⟨rfl, hb4⟩; have b4 := b3.trans (hb4.mono b3.size)))
      go_ret
      exact ⟨rfl, b2⟩
    · rw [if_neg hc]
      have hcb : (nm.toList == [99, 112, 117]) = false := beq_eq_false_iff_ne.2 hc
      have HC := Lib.hid hc
      clear hc
      by_cases h1 : k < 0
      · rw [if_pos (.inl h1)]
        have d1 : decide (k < 0) = true := decide_eq_true h1
        go_enter Try.func7, Try.ntmps7
        go_wp2_with (first
          | (go_at_call 19; refine (hN _).mono ?_; rintro e w2 ⟨rfl, hb2⟩; have k2 := rowB_below k0 hb2 (rowB_lt k0); have b2 := bW.trans (hb2.mono bW.size); obtain ⟨c0, c1, c2, c3, c4⟩ := ccells k2)
          | (refine wpList_loadR rfl 24 _ rfl w.heap.size rfl 24 #[.string nm, .int .i64 k, .int .i64 b, .int .i64 z, .slice da nd dc] ?_ agCh ?_; with_reducible exact k2)
          | (go_at_call 20; refine (hS _).mono ?_; rintro e w3 ⟨rfl, hb3⟩; have k3 := rowB_below k2 hb3 (rowB_lt k2); have b3 := b2.trans (hb3.mono b2.size); obtain ⟨c0, c1, c2, c3, c4⟩ := ccells k3)
          | (refine wpList_loadR rfl 24 _ rfl w.heap.size rfl 24 #[.string nm, .int .i64 k, .int .i64 b, .int .i64 z, .slice da nd dc] ?_ agCh ?_; with_reducible exact k3)
          | (go_at_call 21; refine (hT _).mono ?_; rintro e w4 ⟨rfl, hb4⟩; have b4 := b3.trans (hb4.mono b3.size)))
        go_ret
        exact ⟨rfl, b2⟩
      by_cases h2 : 8 < k
      · rw [if_pos (.inr h2)]
        have d1 : decide (k < 0) = false := decide_eq_false h1
        have d2 : decide (9 ≤ k) = true := decide_eq_true (by omega)
        go_enter Try.func7, Try.ntmps7
        go_wp2_with (first
          | (go_at_call 19; refine (hN _).mono ?_; rintro e w2 ⟨rfl, hb2⟩; have k2 := rowB_below k0 hb2 (rowB_lt k0); have b2 := bW.trans (hb2.mono bW.size); obtain ⟨c0, c1, c2, c3, c4⟩ := ccells k2)
          | (refine wpList_loadR rfl 24 _ rfl w.heap.size rfl 24 #[.string nm, .int .i64 k, .int .i64 b, .int .i64 z, .slice da nd dc] ?_ agCh ?_; with_reducible exact k2)
          | (go_at_call 20; refine (hS _).mono ?_; rintro e w3 ⟨rfl, hb3⟩; have k3 := rowB_below k2 hb3 (rowB_lt k2); have b3 := b2.trans (hb3.mono b2.size); obtain ⟨c0, c1, c2, c3, c4⟩ := ccells k3)
          | (refine wpList_loadR rfl 24 _ rfl w.heap.size rfl 24 #[.string nm, .int .i64 k, .int .i64 b, .int .i64 z, .slice da nd dc] ?_ agCh ?_; with_reducible exact k3)
          | (go_at_call 21; refine (hT _).mono ?_; rintro e w4 ⟨rfl, hb4⟩; have b4 := b3.trans (hb4.mono b3.size)))
        go_ret
        exact ⟨rfl, b2⟩
      rw [if_neg (by omega)]
      have d1 : decide (k < 0) = false := decide_eq_false h1
      have d2 : decide (9 ≤ k) = false := decide_eq_false (by omega)
      cases BS with
      | false =>
        rw [if_pos rfl]
        go_enter Try.func7, Try.ntmps7
        go_wp2_with (first
          | (go_at_call 19; refine (hN _).mono ?_; rintro e w2 ⟨rfl, hb2⟩; have k2 := rowB_below k0 hb2 (rowB_lt k0); have b2 := bW.trans (hb2.mono bW.size); obtain ⟨c0, c1, c2, c3, c4⟩ := ccells k2)
          | (refine wpList_loadR rfl 24 _ rfl w.heap.size rfl 24 #[.string nm, .int .i64 k, .int .i64 b, .int .i64 z, .slice da nd dc] ?_ agCh ?_; with_reducible exact k2)
          | (go_at_call 20; refine (hS _).mono ?_; rintro e w3 ⟨rfl, hb3⟩; have k3 := rowB_below k2 hb3 (rowB_lt k2); have b3 := b2.trans (hb3.mono b2.size); obtain ⟨c0, c1, c2, c3, c4⟩ := ccells k3)
          | (refine wpList_loadR rfl 24 _ rfl w.heap.size rfl 24 #[.string nm, .int .i64 k, .int .i64 b, .int .i64 z, .slice da nd dc] ?_ agCh ?_; with_reducible exact k3)
          | (go_at_call 21; refine (hT _).mono ?_; rintro e w4 ⟨rfl, hb4⟩; have b4 := b3.trans (hb4.mono b3.size)))
        go_ret
        exact ⟨rfl, b3⟩
      | true =>
        rw [if_neg (by decide)]
        have hz1 : 1 ≤ z := by
          unfold szOk at hBS
          repeat' split at hBS
          all_goals first | cases hBS | (have := of_decide_eq_true hBS; omega)
        clear hBS
        by_cases h3 : 4096 < z
        · rw [if_pos (.inl h3)]
          have d3 : decide (4096 < z) = true := decide_eq_true h3
          go_enter Try.func7, Try.ntmps7
          go_wp2_with (first
            | (go_at_call 19; refine (hN _).mono ?_; rintro e w2 ⟨rfl, hb2⟩; have k2 := rowB_below k0 hb2 (rowB_lt k0); have b2 := bW.trans (hb2.mono bW.size); obtain ⟨c0, c1, c2, c3, c4⟩ := ccells k2)
            | (refine wpList_loadR rfl 24 _ rfl w.heap.size rfl 24 #[.string nm, .int .i64 k, .int .i64 b, .int .i64 z, .slice da nd dc] ?_ agCh ?_; with_reducible exact k2)
            | (go_at_call 20; refine (hS _).mono ?_; rintro e w3 ⟨rfl, hb3⟩; have k3 := rowB_below k2 hb3 (rowB_lt k2); have b3 := b2.trans (hb3.mono b2.size); obtain ⟨c0, c1, c2, c3, c4⟩ := ccells k3)
            | (refine wpList_loadR rfl 24 _ rfl w.heap.size rfl 24 #[.string nm, .int .i64 k, .int .i64 b, .int .i64 z, .slice da nd dc] ?_ agCh ?_; with_reducible exact k3)
            | (go_at_call 21; refine (hT _).mono ?_; rintro e w4 ⟨rfl, hb4⟩; have b4 := b3.trans (hb4.mono b3.size)))
          go_ret
          exact ⟨rfl, b3⟩
        have d3 : decide (4096 < z) = false := decide_eq_false h3
        by_cases h4 : 4096 < nd
        · rw [if_pos (.inr h4)]
          have d4 : decide ((4096 : Int) < (nd : Int)) = true := decide_eq_true (by omega)
          have d4' : decide (4096 < nd) = true := decide_eq_true h4
          go_enter Try.func7, Try.ntmps7
          go_wp2_with (first
            | (go_at_call 19; refine (hN _).mono ?_; rintro e w2 ⟨rfl, hb2⟩; have k2 := rowB_below k0 hb2 (rowB_lt k0); have b2 := bW.trans (hb2.mono bW.size); obtain ⟨c0, c1, c2, c3, c4⟩ := ccells k2)
            | (refine wpList_loadR rfl 24 _ rfl w.heap.size rfl 24 #[.string nm, .int .i64 k, .int .i64 b, .int .i64 z, .slice da nd dc] ?_ agCh ?_; with_reducible exact k2)
            | (go_at_call 20; refine (hS _).mono ?_; rintro e w3 ⟨rfl, hb3⟩; have k3 := rowB_below k2 hb3 (rowB_lt k2); have b3 := b2.trans (hb3.mono b2.size); obtain ⟨c0, c1, c2, c3, c4⟩ := ccells k3)
            | (refine wpList_loadR rfl 24 _ rfl w.heap.size rfl 24 #[.string nm, .int .i64 k, .int .i64 b, .int .i64 z, .slice da nd dc] ?_ agCh ?_; with_reducible exact k3)
            | (go_at_call 21; refine (hT _).mono ?_; rintro e w4 ⟨rfl, hb4⟩; have b4 := b3.trans (hb4.mono b3.size)))
          go_ret
          exact ⟨rfl, b3⟩
        rw [if_neg (by omega)]
        have d4 : decide ((4096 : Int) < (nd : Int)) = false := decide_eq_false (by omega)
        replace hT := hT (by omega)
        by_cases h5 : b < 0
        · rw [if_pos (.inl h5)]
          have d5 : decide (b < 0) = true := decide_eq_true h5
          have d4' : decide (4096 < nd) = false := decide_eq_false h4
          go_enter Try.func7, Try.ntmps7
          go_wp2_with (first
            | (go_at_call 19; refine (hN _).mono ?_; rintro e w2 ⟨rfl, hb2⟩; have k2 := rowB_below k0 hb2 (rowB_lt k0); have b2 := bW.trans (hb2.mono bW.size); obtain ⟨c0, c1, c2, c3, c4⟩ := ccells k2)
            | (refine wpList_loadR rfl 24 _ rfl w.heap.size rfl 24 #[.string nm, .int .i64 k, .int .i64 b, .int .i64 z, .slice da nd dc] ?_ agCh ?_; with_reducible exact k2)
            | (go_at_call 20; refine (hS _).mono ?_; rintro e w3 ⟨rfl, hb3⟩; have k3 := rowB_below k2 hb3 (rowB_lt k2); have b3 := b2.trans (hb3.mono b2.size); obtain ⟨c0, c1, c2, c3, c4⟩ := ccells k3)
            | (refine wpList_loadR rfl 24 _ rfl w.heap.size rfl 24 #[.string nm, .int .i64 k, .int .i64 b, .int .i64 z, .slice da nd dc] ?_ agCh ?_; with_reducible exact k3)
            | (go_at_call 21; refine (hT _).mono ?_; rintro e w4 ⟨rfl, hb4⟩; have b4 := b3.trans (hb4.mono b3.size)))
          go_ret
          exact ⟨rfl, b3⟩
        have d5 : decide (b < 0) = false := decide_eq_false h5
        have wz : wrap64 (65536 - z) = 65536 - z := IntWalk.wrap64_in _ (by omega)
        by_cases h6 : 65536 - z < b
        · rw [if_pos (.inr h6)]
          have d6 : decide (65536 - z < b) = true := decide_eq_true h6
          have d4' : decide (4096 < nd) = false := decide_eq_false h4
          go_enter Try.func7, Try.ntmps7
          go_wp2_with (first
            | (go_at_call 19; refine (hN _).mono ?_; rintro e w2 ⟨rfl, hb2⟩; have k2 := rowB_below k0 hb2 (rowB_lt k0); have b2 := bW.trans (hb2.mono bW.size); obtain ⟨c0, c1, c2, c3, c4⟩ := ccells k2)
            | (refine wpList_loadR rfl 24 _ rfl w.heap.size rfl 24 #[.string nm, .int .i64 k, .int .i64 b, .int .i64 z, .slice da nd dc] ?_ agCh ?_; with_reducible exact k2)
            | (go_at_call 20; refine (hS _).mono ?_; rintro e w3 ⟨rfl, hb3⟩; have k3 := rowB_below k2 hb3 (rowB_lt k2); have b3 := b2.trans (hb3.mono b2.size); obtain ⟨c0, c1, c2, c3, c4⟩ := ccells k3)
            | (refine wpList_loadR rfl 24 _ rfl w.heap.size rfl 24 #[.string nm, .int .i64 k, .int .i64 b, .int .i64 z, .slice da nd dc] ?_ agCh ?_; with_reducible exact k3)
            | (go_at_call 21; refine (hT _).mono ?_; rintro e w4 ⟨rfl, hb4⟩; have b4 := b3.trans (hb4.mono b3.size)))
          go_ret
          exact ⟨rfl, b3⟩
        have d6 : decide (65536 - z < b) = false := decide_eq_false h6
        rw [if_neg (by omega)]
        cases BT with
        | false =>
          rw [if_pos rfl]
          have d4' : decide (4096 < nd) = false := decide_eq_false h4
          go_enter Try.func7, Try.ntmps7
          go_wp2_with (first
            | (go_at_call 19; refine (hN _).mono ?_; rintro e w2 ⟨rfl, hb2⟩; have k2 := rowB_below k0 hb2 (rowB_lt k0); have b2 := bW.trans (hb2.mono bW.size); obtain ⟨c0, c1, c2, c3, c4⟩ := ccells k2)
            | (refine wpList_loadR rfl 24 _ rfl w.heap.size rfl 24 #[.string nm, .int .i64 k, .int .i64 b, .int .i64 z, .slice da nd dc] ?_ agCh ?_; with_reducible exact k2)
            | (go_at_call 20; refine (hS _).mono ?_; rintro e w3 ⟨rfl, hb3⟩; have k3 := rowB_below k2 hb3 (rowB_lt k2); have b3 := b2.trans (hb3.mono b2.size); obtain ⟨c0, c1, c2, c3, c4⟩ := ccells k3)
            | (refine wpList_loadR rfl 24 _ rfl w.heap.size rfl 24 #[.string nm, .int .i64 k, .int .i64 b, .int .i64 z, .slice da nd dc] ?_ agCh ?_; with_reducible exact k3)
            | (go_at_call 21; refine (hT _).mono ?_; rintro e w4 ⟨rfl, hb4⟩; have b4 := b3.trans (hb4.mono b3.size)))
          go_ret
          exact ⟨rfl, b4⟩
        | true =>
          rw [if_neg (by decide)]
          have d4' : decide (4096 < nd) = false := decide_eq_false h4
          go_enter Try.func7, Try.ntmps7
          go_wp2_with (first
            | (go_at_call 19; refine (hN _).mono ?_; rintro e w2 ⟨rfl, hb2⟩; have k2 := rowB_below k0 hb2 (rowB_lt k0); have b2 := bW.trans (hb2.mono bW.size); obtain ⟨c0, c1, c2, c3, c4⟩ := ccells k2)
            | (refine wpList_loadR rfl 24 _ rfl w.heap.size rfl 24 #[.string nm, .int .i64 k, .int .i64 b, .int .i64 z, .slice da nd dc] ?_ agCh ?_; with_reducible exact k2)
            | (go_at_call 20; refine (hS _).mono ?_; rintro e w3 ⟨rfl, hb3⟩; have k3 := rowB_below k2 hb3 (rowB_lt k2); have b3 := b2.trans (hb3.mono b2.size); obtain ⟨c0, c1, c2, c3, c4⟩ := ccells k3)
            | (refine wpList_loadR rfl 24 _ rfl w.heap.size rfl 24 #[.string nm, .int .i64 k, .int .i64 b, .int .i64 z, .slice da nd dc] ?_ agCh ?_; with_reducible exact k3)
            | (go_at_call 21; refine (hT _).mono ?_; rintro e w4 ⟨rfl, hb4⟩; have b4 := b3.trans (hb4.mono b3.size)))
          go_ret
          exact ⟨rfl, b4⟩
end Go.Proofs.Ytakaebjojgeehaa
