/- The walk of the law PortMask. -/
import Derived.Test.YthhihmggaddlmaaChecked
import Derived.Test.YthhihmggaddlmaaPortC
import Derived.Below
import Derived.BigQuiet
import Derived.ChangeMaps5
import Derived.Deep.DeepCutAuto
import Derived.Deep.Draws
import Derived.Deep.MidRow
import Derived.Deep.OwnRows
import Derived.Deep.QuietTactic
import Derived.Deep.RegionHeld3
import Derived.Deep.RegionWith
import Derived.Deep.Slices
import Derived.Deep.WholeRow
import Derived.Lib.Hide
import Derived.Lib.SmallJoins
import Derived.OpenShut
import Derived.OrdersHeld
import Derived.OwnWalk
import Derived.RowKit3
import Derived.StillTactics
import Derived.StillTail
import Derived.StillTailTactics
import Derived.WalkKit
namespace Go.Proofs.Ythhihmggaddlmaa
open Go.RowKit
set_option maxRecDepth 100000

theorem getBit (n : Int) (k : Nat) (h : k < 8) : lo (n / 2 ^ wd (k : Int)) (fz (k : Int) 1) = n / 2 ^ k % 2 := by
  rw [wd_of k (by omega), show fz (k : Int) 1 = 1 by unfold fz; rw [wd_of k (by omega)]; omega]
  rfl
theorem lowBit (n : Int) (k : Nat) (h : k < 8) : lo n 8 / 2 ^ k % 2 = n / 2 ^ k % 2 := by
  have e := lo_div n k (8 - k)
  rw [show k + (8 - k) = 8 by omega] at e
  rw [e]
  unfold lo
  refine Int.emod_emod_of_dvd _ ⟨2 ^ (7 - k), ?_⟩
  rw [show 8 - k = (7 - k) + 1 by omega, p2_succ]
theorem getBit_any (k : Nat) (h : k < 8) (n : Int) (w : World) : Calls Try.prog 48 #[.int .i64 n, .int .i64 k, .int .i64 1] w fun e w' => e = .returned (.int .i64 (n / 2 ^ k % 2)) ∧ w = w' := by
  have := get_any n k 1 w
  rw [getBit n k h] at this
  exact this
theorem portsK_any (w : World) : Calls Try.prog 49 #[] w fun e w' => e = .returned (.bool true) ∧ Below w.heap.size w w' := by
  have hN := ptNew_any w
  go_enter Try.func49, Try.ntmps49
  go_wp2_with (first
    | (go_at_call 41; refine hN.mono ?_; rintro e w1 ⟨u, rfl, ⟨g, rfl, hg, hr⟩, hb⟩; have hx := numB_arg hr (by simp))
    | (go_at_call 42; have hR := ptRead_any _ (.slice none 0 0) [255, 0, 0] 0 _ hx; rw [show (Pt.of [255, 0, 0]).reg 0 = 255 from by decide +kernel] at hR; refine hR.mono ?_; rintro e w2 ⟨u, rfl, ⟨k, rfl, hk, hr2⟩, hb2⟩))
  go_ret
  exact ⟨rfl, (hb.trans (hb2.mono hb.size)).alloc (by have := hb.size; have := hb2.size; omega) _⟩
theorem lo8_fit (n l m : Int) : (Pt.mk (lo n 8) (lo l 8) (lo m 8)).fit := ⟨⟨lo_nonneg _ _, lo_lt _ _⟩, ⟨lo_nonneg _ _, lo_lt _ _⟩, ⟨lo_nonneg _ _, lo_lt _ _⟩⟩

set_option maxHeartbeats 1000000 in
theorem portMask_walk (n l m : Int) (w : World) :
    Calls Try.prog 9 #[.int .i64 n, .int .i64 l, .int .i64 m] w fun e w' => e = .returned (.bool true) ∧ Below w.heap.size w w' := by
  have hN := ptNew_any w
  have f1 : (Pt.of [255, 0, 0]).write 0 l = ⟨255, lo l 8, 0⟩ := by rw [show Pt.of [255, 0, 0] = ⟨255, 0, 0⟩ from Pt.of_ns (s := ⟨255, 0, 0⟩) ⟨by decide, by decide, by decide⟩]; rfl
  have f2 : (Pt.of [255, lo l 8, 0]).write 1 m = ⟨255, lo l 8, lo m 8⟩ := by rw [show Pt.of [255, lo l 8, 0] = ⟨255, lo l 8, 0⟩ from Pt.of_ns (s := ⟨255, lo l 8, 0⟩) ⟨(by decide : (0 : Int) ≤ 255 ∧ (255 : Int) < 256), ⟨lo_nonneg _ _, lo_lt _ _⟩, (by decide : (0 : Int) ≤ 0 ∧ (0 : Int) < 256)⟩]; rfl
  have f3 : (Pt.of [255, lo l 8, lo m 8]).inp n = ⟨lo n 8, lo l 8, lo m 8⟩ := by rw [show Pt.of [255, lo l 8, lo m 8] = ⟨255, lo l 8, lo m 8⟩ from Pt.of_ns (s := ⟨255, lo l 8, lo m 8⟩) ⟨(by decide : (0 : Int) ≤ 255 ∧ (255 : Int) < 256), ⟨lo_nonneg _ _, lo_lt _ _⟩, ⟨lo_nonneg _ _, lo_lt _ _⟩⟩]; rfl
  have hf := lo8_fit n l m
  have f4 : Pt.of [lo n 8, lo l 8, lo m 8] = ⟨lo n 8, lo l 8, lo m 8⟩ := Pt.of_ns hf
  have b1 := Pt.both_bd hf
  have b2 := Pt.drv_bd hf
  have hbit := fun k (h : k < 8) => Pt.both_bit hf k (by omega)
  have hdrv := fun k => Pt.drv_bit hf k
  dsimp only at hbit hdrv
  have t1 := fun k h => lowBit n k h
  have t2 := fun k h => lowBit l k h
  have t3 := fun k h => lowBit m k h
  generalize lo n 8 = n' at *
  generalize lo l 8 = l' at *
  generalize lo m 8 = m' at *
  obtain ⟨B, hB⟩ : ∃ B, (Pt.mk n' l' m').both = B := ⟨_, rfl⟩
  obtain ⟨D, hD⟩ : ∃ D, (Pt.mk n' l' m').drv = D := ⟨_, rfl⟩
  have hreg : (Pt.mk n' l' m').reg 0 = B := (if_pos rfl).trans hB
  rw [hB] at b1
  rw [hD] at b2
  simp only [hB] at hbit
  simp only [hD] at hdrv
  have F4 := Lib.hid f4
  have HD' := Lib.hid hD
  have HR := Lib.hid hreg
  clear f4 hreg hf hB hD
  go_enter Try.func9, Try.ntmps9
  go_upto_region 4 with (first
    | (go_at_call 41; refine hN.mono ?_; rintro e w1 ⟨u, rfl, ⟨g1, rfl, hg1, hr1⟩, hb1⟩; have hx := numB_arg hr1 (by simp); have bX := hb1; clear hN hr1 hg1 hb1)
    | (go_at_call_of 43 (Value.int .i64 0); have hw1 := ptWrite_any _ (.slice none 0 0) [255, 0, 0] 0 l _ hx; rw [f1] at hw1; dsimp only [Pt.ns] at hw1; refine hw1.mono ?_; rintro e w2 ⟨u, rfl, ⟨g2, rfl, hg2, hr2⟩, hb2⟩; replace hx := numB_arg hr2 (by simp); replace bX := bX.trans (hb2.mono bX.size); clear hr2 hg2 hb2 hw1)
    | (go_at_call_of 43 (Value.int .i64 1); have hw2 := ptWrite_any _ (.slice none 0 0) [255, l', 0] 1 m _ hx; rw [f2] at hw2; dsimp only [Pt.ns] at hw2; refine hw2.mono ?_; rintro e w3 ⟨u, rfl, ⟨g3, rfl, hg3, hr3⟩, hb3⟩; replace hx := numB_arg hr3 (by simp); replace bX := bX.trans (hb3.mono bX.size); clear hr3 hg3 hb3 hw2)
    | (go_at_call 44; have hi := ptIn_any _ (.slice none 0 0) [255, l', m'] n _ hx; rw [f3] at hi; dsimp only [Pt.ns] at hi; refine hi.mono ?_; rintro e w4 ⟨u, rfl, ⟨g4, rfl, hg4, hr4⟩, hb4⟩; replace bX := bX.trans (hb4.mono bX.size); have hlt := rowB_lt hr4; have n5 := rowB_new w4 51 #[.slice (some ⟨g4, 0, none⟩) 3 3, .slice none 0 0]; have r5 := rowB_alloc hr4 (.cells #[.slice (some ⟨g4, 0, none⟩) 3 3, .slice none 0 0] 51); replace bX := bX.alloc (by have := bX.size; omega) (.cells #[.slice (some ⟨g4, 0, none⟩) 3 3, .slice none 0 0] 51); have hx5 := numB_arg (l := [n', l', m']) r5 (by simp); obtain ⟨c0, c1, _, _⟩ := dcells2 n5; clear hi hr4 hg4 hb4 hx)
    | (go_at_call 42; have hd := ptRead_any _ (.slice none 0 0) [n', l', m'] 0 _ hx5; rw [F4.out, HR.out] at hd; dsimp only [Pt.ns] at hd; refine hd.mono ?_; rintro e w6 ⟨u, rfl, ⟨g6, rfl, hg6, hr6⟩, hb6⟩; replace bX := bX.trans (hb6.mono bX.size); have r6 := rowB_below r5 hb6 (rowB_lt r5); have n6 := rowB_below n5 hb6 (rowB_lt n5); have r7 := rowB_alloc r6 (.cells #[.slice (some ⟨g6, 0, none⟩) 3 3, .slice none 0 0] 51); replace n6 := rowB_alloc n6 (.cells #[.slice (some ⟨g6, 0, none⟩) 3 3, .slice none 0 0] 51); replace bX := bX.alloc (by have := bX.size; omega) (.cells #[.slice (some ⟨g6, 0, none⟩) 3 3, .slice none 0 0] 51); have hx7 := numB_arg (l := [n', l', m']) r7 (by simp); obtain ⟨d0, d1, _, _⟩ := dcells2 n6; clear hd hr6 hg6 hb6)
    | (go_at_call 46; have ho := ptOut_any _ (.slice none 0 0) [n', l', m'] _ hx7; rw [F4.out, HD'.out] at ho; refine ho.mono ?_; rintro e w8 ⟨rfl, hb8⟩; replace bX := bX.trans (hb8.mono bX.size); clear ho hb8))
  clear hx5 hx7 n5 n6 r5 r6 r7 c0 c1 d0 d1 f1 f2 f3
  have hlow : ∀ k, k < 8 → pickB n' l' m' k = (if m / 2 ^ k % 2 = 1 then l / 2 ^ k % 2 else n / 2 ^ k % 2) ∧ pickB 0 l' m' k = (if m / 2 ^ k % 2 = 1 then l / 2 ^ k % 2 else 0) := by
    intro k hk
    unfold pickB
    rw [t1 k hk, t2 k hk, t3 k hk, Int.zero_ediv]
    exact ⟨rfl, rfl⟩
  clear t1 t2 t3
  have hP := portsK_any
  have hG := getBit_any
  go_wp2_with fail
  go_loopw [28] (fun i wr => ∃ k : Nat, k ≤ 8 ∧ i = .int .i64 k ∧ wr = w8) (fun i _ => 8 - (intOf i).toNat)
  case atStart => exact ⟨0, by decide, rfl, rfl⟩
  case round =>
    obtain ⟨k, hk, rfl, rfl⟩ := hrel
    by_cases hlt : k < 8
    · have hd : decide ((k : Int) < 8) = true := decide_eq_true (by omega)
      have hGk := hG k hlt
      have eB := hbit k hlt
      have eD := hdrv k
      rw [(hlow k hlt).1] at eB
      rw [(hlow k hlt).2] at eD
      clear hG hbit hdrv hlow hP
      rcases (by omega : m / 2 ^ k % 2 = 1 ∨ m / 2 ^ k % 2 = 0) with hb | hb
      · rw [if_pos hb] at eB eD
        go_wp2_with (first
          | (go_at_call 48; refine (hGk _ _).mono ?_; rintro e w' ⟨rfl, rfl⟩))
        go_roundw
        case rel => exact ⟨k + 1, by omega, by go_num, trivial⟩
        case measure => simp [intOf]; omega
      · rw [if_neg (by omega)] at eB eD
        go_wp2_with (first
          | (go_at_call 48; refine (hGk _ _).mono ?_; rintro e w' ⟨rfl, rfl⟩))
        go_roundw
        case rel => exact ⟨k + 1, by omega, by go_num, trivial⟩
        case measure => simp [intOf]; omega
    · obtain rfl : k = 8 := by omega
      have hd : decide ((8 : Int) < 8) = false := rfl
      have hd1 : decide (B < 256) = true := decide_eq_true b1.2
      have hd2 : decide (D < 256) = true := decide_eq_true b2.2
      go_wp2_with (go_at_call 49; refine (hP _).mono ?_; rintro e w9 ⟨rfl, hb9⟩)
      go_ret
      exact ⟨rfl, bX.trans (hb9.mono bX.size)⟩
end Go.Proofs.Ythhihmggaddlmaa
