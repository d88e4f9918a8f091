/- The walk of the law SoundTurns. -/
import Derived.Test.YtbpjkdigihpohaaBitWalksB
import Derived.Test.YtbpjkdigihpohaaChecked
import Derived.Test.YtbpjkdigihpohaaSndKeep
import Derived.Below
import Derived.BigQuiet
import Derived.ChangeMaps5
import Derived.Deep.AppendSrc
import Derived.Deep.DeepCutAuto
import Derived.Deep.Draws
import Derived.Deep.MidRow
import Derived.Deep.OwnRows
import Derived.Deep.QuietTactic
import Derived.Deep.RegionHeld3
import Derived.Deep.RegionWith
import Derived.Deep.Slices
import Derived.Deep.WholeRow
import Derived.Lib.Hide
import Derived.Lib.SmallJoins
import Derived.OpenShut
import Derived.OrdersHeld
import Derived.OwnWalk
import Derived.RowKit3
import Derived.StillTactics
import Derived.StillTail
import Derived.StillTailTactics
import Derived.WalkKit
namespace Go.Proofs.Ytbpjkdigihpohaa
open Go.RowKit
set_option maxRecDepth 100000

/-- The chip behind so many of the four writes. -/
def turnS (p : Int) (k : Nat) : Sn := if k = 0 then Sn.zero else if k = 1 then ⟨⟨p % 256, 0, 0, 0, 0, 0⟩, Vc.zero⟩ else if k = 2 then ⟨⟨p, 0, 0, 0, 0, 0⟩, Vc.zero⟩ else ⟨⟨p, 7, 0, 0, 0, 0⟩, Vc.zero⟩
theorem turnS_0 (p : Int) : (turnS p 0).write 0 p = turnS p 1 := by
  have e : (turnS p 0).write 0 p = ⟨⟨0 / 256 * 256 + p % 256, 0, 0, 0, 0, 0⟩, Vc.zero⟩ := rfl
  rw [e, show (0 : Int) / 256 * 256 + p % 256 = p % 256 by omega]
  rfl
theorem turnS_1 (p : Int) (h : 0 < p ∧ p < 4096) : (turnS p 1).write 1 (p / 256) = turnS p 2 := by
  have e : (turnS p 1).write 1 (p / 256) = ⟨⟨p % 256 % 256 + p / 256 % 16 * 256, 0, 0, 0, 0, 0⟩, Vc.zero⟩ := rfl
  rw [e, show p % 256 % 256 + p / 256 % 16 * 256 = p by omega]
  rfl
theorem turnS_2 (p : Int) : (turnS p 2).write 2 7 = turnS p 3 := rfl
theorem turnS_3 (p : Int) : (turnS p 3).write 3 0 = turnS p 4 := rfl
theorem turnS_fit (p : Int) (h : 0 < p ∧ p < 4096) (k : Nat) : (turnS p k).fit := by
  have hf : ∀ q v : Int, 0 ≤ q ∧ q < 4096 → 0 ≤ v ∧ v < 16 → (⟨⟨q, v, 0, 0, 0, 0⟩, Vc.zero⟩ : Sn).fit := fun q v h1 h2 => ⟨⟨h1, h2, by dsimp only; omega, by dsimp only; omega, by dsimp only; omega, by dsimp only; omega⟩, Vc.zero_fit⟩
  unfold turnS
  split
  · exact Sn.zero_fit
  · split
    · exact hf _ _ (by omega) (by omega)
    · split
      · exact hf _ _ (by omega) (by omega)
      · exact hf _ _ (by omega) (by omega)
theorem turnS_out (p : Int) (h : 0 < p ∧ p < 4096) (n : Nat) (hn : n ≤ 10000000) : ((turnS p 4).skip n).out = 7 * ((n : Int) / p % 2) ∧ ((turnS p 4).skip n).fit := by
  have hfit := turnS_fit p h 4
  rw [Sn.skip_ticks hfit n hn]
  refine ⟨?_, Sn.ticks_fit hfit n⟩
  rw [Sn.ticks_ab]
  show Vc.out _ + Vc.out _ = _
  rw [show (turnS p 4).b = Vc.zero from rfl, Vc.ticks_zero, show (turnS p 4).a = ⟨p, 7, 0, 0, 0, 0⟩ from rfl, Vc.turns p h.1 h.2 n]
  show _ + (0 : Int) * 0 = _
  omega
set_option maxHeartbeats 2000000 in
theorem soundTurns_walk (a b : Int) (w : World) (ha : -9223372036854775808 ≤ a ∧ a ≤ 9223372036854775807) (hb : -9223372036854775808 ≤ b ∧ b ≤ 9223372036854775807) :
    Calls Try.prog 6 #[.int .i64 a, .int .i64 b] w fun e w' => e = .returned (.bool true) ∧ Below w.heap.size w w' := by
  have hbl1 := fun w => below_any a 300 ha (by decide) w
  have hbl2 := fun w => below_any b 2000 hb (by decide) w
  obtain ⟨A, hA⟩ : ∃ A, a % 300 = A := ⟨_, rfl⟩
  obtain ⟨N, hN⟩ : ∃ N : Nat, b % 2000 = N := ⟨(b % 2000).toNat, by omega⟩
  rw [hA] at hbl1
  rw [hN] at hbl2
  have hA0 : 0 ≤ A ∧ A < 300 := by omega
  have hN0 : N < 2000 := by omega
  clear hA hN ha hb
  obtain ⟨P, hP⟩ : ∃ P, 1 + A = P := ⟨_, rfl⟩
  have wP : wrap64 (1 + A) = P := (IntWalk.wrap64_in _ (by omega)).trans hP
  have hP0 : 0 < P ∧ P < 301 := by omega
  clear hP hA0
  have hP1 : 0 < P ∧ P < 4096 := by omega
  have HQ1 := Lib.hid (turnS_1 P hP1)
  obtain ⟨hO, hF⟩ := turnS_out P hP1 N (by omega)
  obtain ⟨D, hD⟩ : ∃ D, (N : Int) / P = D := ⟨_, rfl⟩
  have t1 : (N : Int).tdiv P = D := (Int.tdiv_eq_ediv_of_nonneg (by omega)).trans hD
  have hD0 : 0 ≤ D := by rw [← hD]; exact Int.ediv_nonneg (by omega) (by omega)
  have hD1 : D ≤ N := by rw [← hD]; exact Int.ediv_le_self _ (by omega)
  have t2 : D.tmod 2 = D % 2 := Int.tmod_eq_emod_of_nonneg hD0
  have hp0 : P ≠ 0 := by omega
  rw [hD] at hO
  have HD := Lib.hid hD
  clear hD
  obtain ⟨E, hE⟩ : ∃ E, D % 2 = E := ⟨_, rfl⟩
  rw [hE] at t2 hO
  have hE0 : 0 ≤ E ∧ E < 2 := by omega
  have w1 : IntKind.i64.wrap (7 * E) = 7 * E := IntWalk.i64_in _ (by omega)
  have wD : IntKind.i64.wrap D = D := IntWalk.i64_in _ (by omega)
  have HO := Lib.hid hO
  have HF := Lib.hid hF
  have HE := Lib.hid hE
  clear hO hF hE
  go_enter Try.func6, Try.ntmps6
  go_upto_region 3 with (first
    | (go_at_call 23; with_reducible refine (hbl1 _).mono ?_; rintro e wx ⟨rfl, rfl⟩)
    | (go_at_call 23; with_reducible refine (hbl2 _).mono ?_; rintro e wx ⟨rfl, rfl⟩)
    | (go_at_call 9; refine (sndNew_at _).mono ?_; rintro e v1 ⟨g1, rfl, hkg1, hr1, hb1⟩)
  )
  change Code.wp _ _ _ _ (v1.alloc (.cells #[.slice (some ⟨g1, 0, none⟩) 12 12, .slice none 0 0] 25))
  have hle := hb1.size
  have bX := hb1.alloc hle (.cells #[.slice (some ⟨g1, 0, none⟩) 12 12, .slice none 0 0] 25)
  have rB := rowB_new v1 25 #[.slice (some ⟨g1, 0, none⟩) 12 12, .slice none 0 0]
  have hr := rowB_alloc hr1 (.cells #[.slice (some ⟨g1, 0, none⟩) 12 12, .slice none 0 0] 25)
  generalize v1.alloc (.cells #[.slice (some ⟨g1, 0, none⟩) 12 12, .slice none 0 0] 25) = vA at *
  generalize v1.heap.size = B at *
  clear hb1 hr1 hkg1
  go_upto_region 4 with (fail)
  change Code.wp _ _ _ _ (vA.alloc (.cells #[.int .i64 P, .int .i64 (P / 256), .int .i64 7, .int .i64 0] 3))
  have nq := rowB_new vA 3 #[.int .i64 P, .int .i64 (P / 256), .int .i64 7, .int .i64 0]
  have lB := rowB_lt rB
  have lg := rowB_lt hr
  have hgB : g1 ≠ B := fun e => by
    have h1 : vA.heap[g1]? = _ := hr
    have h2 : vA.heap[B]? = _ := rB
    rw [e, h2] at h1
    injection h1 with h1
    injection h1 with h1
    have := congrArg Array.size h1
    exact absurd (show (2 : Nat) = 12 from this) (by decide)
  replace rB := rowB_alloc rB (.cells #[.int .i64 P, .int .i64 (P / 256), .int .i64 7, .int .i64 0] 3)
  replace hr := rowB_alloc hr (.cells #[.int .i64 P, .int .i64 (P / 256), .int .i64 7, .int .i64 0] 3)
  replace bX := bX.alloc bX.size (.cells #[.int .i64 P, .int .i64 (P / 256), .int .i64 7, .int .i64 0] 3)
  generalize vA.alloc (.cells #[.int .i64 P, .int .i64 (P / 256), .int .i64 7, .int .i64 0] 3) = vB at *
  generalize vA.heap.size = q at *
  have hqB : q ≠ B := by omega
  clear lg
  go_loopw [19] (fun i wr => ∃ k g : Nat, k ≤ 4 ∧ i = .int .i64 k ∧ rowB wr B 25 #[.slice (some ⟨g, 0, none⟩) 12 12, .slice none 0 0] ∧ rowB wr g 3 (turnS P k).cs ∧ g ≠ B ∧ rowB wr q 3 #[.int .i64 P, .int .i64 (P / 256), .int .i64 7, .int .i64 0] ∧ Below w.heap.size w wr) (fun i _ => 4 - (intOf i).toNat)
  case atStart => exact ⟨0, g1, Nat.zero_le _, rfl, rB, hr, hgB, nq, bX⟩
  case round =>
    clear rB hr hgB nq bX
    obtain ⟨k, g, hk4, rfl, rB, hr, hgB, nq, bX⟩ := hrel
    obtain ⟨c0, c1, _, _⟩ := dcells2 rB
    have hsz := bX.size
    have lB := rowB_lt rB
    have lq := rowB_lt nq
    rcases (by omega : k = 0 ∨ k = 1 ∨ k = 2 ∨ k = 3 ∨ k = 4) with rfl | rfl | rfl | rfl | rfl
    · have x0 := rowB_cell nq 0 (v := .int .i64 P) rfl
      go_wp2_with (first
        | (go_at_call 13; refine (sndWrite_at (turnS_fit P hP1 0) 0 P (turnS_0 P) hr).mono ?_; rintro e v4 ⟨g4, rfl, hkg4, hr4, hb4⟩; have r3 := rowB_below rB hb4 lB; have nq3 := rowB_below nq hb4 lq)
        | (refine wpList_storeR rfl 25 _ _ rfl B rfl #[.slice (some ⟨g4, 0, none⟩) 12 12, .slice none 0 0] rfl (dev2_one _ _ _ _ _ _) 25 #[.slice (some ⟨g, 0, none⟩) 12 12, .slice none 0 0] rfl ?_ agDv ?_; with_reducible exact r3))
      go_roundw
      case rel => exact ⟨1, g4, by omega, rfl, rowB_row r3 _, rowB_row_other hr4 _ (by omega), by omega, rowB_row_other nq3 _ (by omega), below_rowR (bX.trans (hb4.mono bX.size)) _ hle⟩
      case measure => simp [intOf]
    · have x1 := rowB_cell nq 1 (v := .int .i64 (P / 256)) rfl
      go_wp2_with (first
        | (go_at_call 13; refine (sndWrite_at (turnS_fit P hP1 1) 1 (P / 256) HQ1.out hr).mono ?_; rintro e v4 ⟨g4, rfl, hkg4, hr4, hb4⟩; have r3 := rowB_below rB hb4 lB; have nq3 := rowB_below nq hb4 lq)
        | (refine wpList_storeR rfl 25 _ _ rfl B rfl #[.slice (some ⟨g4, 0, none⟩) 12 12, .slice none 0 0] rfl (dev2_one _ _ _ _ _ _) 25 #[.slice (some ⟨g, 0, none⟩) 12 12, .slice none 0 0] rfl ?_ agDv ?_; with_reducible exact r3))
      go_roundw
      case rel => exact ⟨2, g4, by omega, rfl, rowB_row r3 _, rowB_row_other hr4 _ (by omega), by omega, rowB_row_other nq3 _ (by omega), below_rowR (bX.trans (hb4.mono bX.size)) _ hle⟩
      case measure => simp [intOf]
    · have x2 := rowB_cell nq 2 (v := .int .i64 7) rfl
      go_wp2_with (first
        | (go_at_call 13; refine (sndWrite_at (turnS_fit P hP1 2) 2 7 (turnS_2 P) hr).mono ?_; rintro e v4 ⟨g4, rfl, hkg4, hr4, hb4⟩; have r3 := rowB_below rB hb4 lB; have nq3 := rowB_below nq hb4 lq)
        | (refine wpList_storeR rfl 25 _ _ rfl B rfl #[.slice (some ⟨g4, 0, none⟩) 12 12, .slice none 0 0] rfl (dev2_one _ _ _ _ _ _) 25 #[.slice (some ⟨g, 0, none⟩) 12 12, .slice none 0 0] rfl ?_ agDv ?_; with_reducible exact r3))
      go_roundw
      case rel => exact ⟨3, g4, by omega, rfl, rowB_row r3 _, rowB_row_other hr4 _ (by omega), by omega, rowB_row_other nq3 _ (by omega), below_rowR (bX.trans (hb4.mono bX.size)) _ hle⟩
      case measure => simp [intOf]
    · have x3 := rowB_cell nq 3 (v := .int .i64 0) rfl
      go_wp2_with (first
        | (go_at_call 13; refine (sndWrite_at (turnS_fit P hP1 3) 3 0 (turnS_3 P) hr).mono ?_; rintro e v4 ⟨g4, rfl, hkg4, hr4, hb4⟩; have r3 := rowB_below rB hb4 lB; have nq3 := rowB_below nq hb4 lq)
        | (refine wpList_storeR rfl 25 _ _ rfl B rfl #[.slice (some ⟨g4, 0, none⟩) 12 12, .slice none 0 0] rfl (dev2_one _ _ _ _ _ _) 25 #[.slice (some ⟨g, 0, none⟩) 12 12, .slice none 0 0] rfl ?_ agDv ?_; with_reducible exact r3))
      go_roundw
      case rel => exact ⟨4, g4, by omega, rfl, rowB_row r3 _, rowB_row_other hr4 _ (by omega), by omega, rowB_row_other nq3 _ (by omega), below_rowR (bX.trans (hb4.mono bX.size)) _ hle⟩
      case measure => simp [intOf]
    · go_upto_region 8 with (fail)
      have hS : Below wr.heap.size wr wr.drew := (Below.refl _ _).drew
      refine wp_region_mix (fun w' => Below wr.heap.size wr w') [(0, 2), (1, 0), (2, 1), (3, 1), (6, 1), (7, 1), (8, 1), (9, 1), (10, 1), (4, 3), (5, 3), (11, 0), (12, 0), (13, 0)] (by kernel_rfl) (by kernel_rfl) (fun _ _ _ _ _ h => h) ?_
      simp only [List.map_cons, List.map_nil, opOf, List.getD_cons_zero, List.getD_cons_succ]
      change wpMix _ _ _ _ _ _ wr.drew
      refine wpMix_call ?_
      go_wp2_with (go_at_call 24; refine (soundsK_any _).mono ?_; rintro e v6 ⟨rfl, hb⟩; replace hS := hS.trans (hb.mono hS.size); clear hb)
      try refine ⟨fun h => (by cases h), ?_⟩
      (refine wpMix_still (fun K hK => ?_); go_simp; refine hK _ ?_; clear hK K)
      refine wpMix_held ((.agg #[.slice (some ⟨g, 0, none⟩) 12 12, .slice none 0 0])) rfl hS (fun w' hw' => exec_rowR 25 _ rfl B rfl 25 #[.slice (some ⟨g, 0, none⟩) 12 12, .slice none 0 0] (rowB_below rB hw' (rowB_lt rB)) agDv) ?_
      simp only [Act.put, List.setIfInBounds_toArray, List.set_cons_zero, List.set_cons_succ]
      refine wpMix_held (.int .i64 N) rfl hS (fun w' hw' => by go_simp) ?_
      simp only [Act.put, List.setIfInBounds_toArray, List.set_cons_zero, List.set_cons_succ]
      refine wpMix_held (.int .i64 N) rfl hS (fun w' hw' => by go_simp) ?_
      simp only [Act.put, List.setIfInBounds_toArray, List.set_cons_zero, List.set_cons_succ]
      refine wpMix_held (.int .i64 P) rfl hS (fun w' hw' => by go_simp) ?_
      simp only [Act.put, List.setIfInBounds_toArray, List.set_cons_zero, List.set_cons_succ]
      refine wpMix_held (.int .i64 D) rfl hS (fun w' hw' => by go_simp) ?_
      simp only [Act.put, List.setIfInBounds_toArray, List.set_cons_zero, List.set_cons_succ]
      refine wpMix_held (.int .i64 E) rfl hS (fun w' hw' => by go_simp) ?_
      simp only [Act.put, List.setIfInBounds_toArray, List.set_cons_zero, List.set_cons_succ]
      refine wpMix_held (.int .i64 (7 * E)) rfl hS (fun w' hw' => by go_simp) ?_
      simp only [Act.put, List.setIfInBounds_toArray, List.set_cons_zero, List.set_cons_succ]
      refine wpMix_call ?_
      go_wp2_with (go_at_call 22; refine (sndSkip_at (turnS_fit P hP1 4) N (by omega) rfl (rowB_below hr hS (rowB_lt hr))).mono ?_; rintro e v7 ⟨g7, rfl, hk7, hr7, hb⟩; replace hS := hS.trans (hb.mono hS.size); clear hb)
      first | refine ⟨fun _ => hS, ?_⟩ | refine ⟨hS, ?_⟩ | refine And.intro (fun _ => hS) ?_
      refine wpMix_call ?_
      go_wp2_with (go_at_call 15; refine (sndOut_at HF.out HO.out hr7).mono ?_; rintro e v8 ⟨rfl, hb⟩; replace hS := hS.trans (hb.mono hS.size); clear hb)
      first | refine ⟨fun _ => hS, ?_⟩ | refine ⟨hS, ?_⟩ | refine And.intro (fun _ => hS) ?_
      (refine wpMix_still (fun K hK => ?_); go_simp; refine hK _ ?_; clear hK K)
      (refine wpMix_still (fun K hK => ?_); go_simp; refine hK _ ?_; clear hK K)
      (refine wpMix_still (fun K hK => ?_); go_simp; refine hK _ ?_; clear hK K)
      refine wpMix_nil ?_
      go_wp2_with fail
      go_ret
      exact ⟨rfl, bX.trans (hS.mono bX.size)⟩
end Go.Proofs.Ytbpjkdigihpohaa
