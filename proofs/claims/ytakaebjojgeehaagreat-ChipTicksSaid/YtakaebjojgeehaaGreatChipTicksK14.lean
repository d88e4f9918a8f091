/- A part of the proof of ChipTicks: DevFormM. -/
import Derived.Test.YtakaebjojgeehaaGreatChipTicksK01
import Derived.Test.YtakaebjojgeehaaGreatChipTicksK02
import Derived.Test.YtakaebjojgeehaaGreatChipTicksK04
import Derived.Test.YtakaebjojgeehaaGreatChipTicksK05
import Derived.Test.YtakaebjojgeehaaGreatChipTicksK06
import Derived.Test.YtakaebjojgeehaaGreatChipTicksK09
import Derived.Test.YtakaebjojgeehaaGreatChipTicksK12
import Derived.Test.YtakaebjojgeehaaGreatChipTicksK13
import Derived.Below
import Derived.BigQuiet
import Derived.ChangeMaps5
import Derived.Deep.AppendSrc
import Derived.Deep.DeepCutAuto
import Derived.Deep.Draws
import Derived.Deep.MidRow
import Derived.Deep.OwnRows
import Derived.Deep.QuietTactic
import Derived.Deep.RegionHeld3
import Derived.Deep.RegionWith
import Derived.Deep.Slices
import Derived.Deep.WholeRow
import Derived.Laws.CopyOwn
import Derived.Lib.Hide
import Derived.Lib.SmallJoins
import Derived.OpenShut
import Derived.OrdersHeld
import Derived.OwnWalk
import Derived.RowKit3
import Derived.StillTactics
import Derived.StillTail
import Derived.StillTailTactics
import Derived.Test.YtakaebjojgeehaaGreatChecked
import Derived.WalkKit
namespace Go.Proofs.YtakaebjojgeehaaGreat
open Go.RowKit
set_option maxRecDepth 100000
/-- Addresses of a bank; banks of so many bytes. -/
def mwin (z : Int) : Int := near (max z 1 - 1) 1 4096
def mbank (n : Nat) (W : Int) : Int := if n = 0 then 1 else (n + W - 1) / W
theorem mwin_bd (z : Int) : 1 ≤ mwin z ∧ mwin z ≤ 4096 := by
  unfold mwin near
  omega
theorem mbank_at {n j : Nat} {W : Int} (hW : 1 ≤ W) (h1 : (n : Int) - j * W ≤ 0) (h2 : j = 0 ∨ ((j : Int) - 1) * W < n) : near (j : Int) 1 1152921504606846976 = mbank n W ∨ 1152921504606846976 < (j : Int) := by
  by_cases hj : 1152921504606846976 < (j : Int)
  · exact .inr hj
  refine .inl ?_
  unfold mbank
  by_cases hn : n = 0
  · subst hn
    rw [if_pos rfl]
    rcases h2 with rfl | h2
    · rfl
    · have : (j : Int) - 1 < 0 ∨ 0 ≤ (j : Int) - 1 := by omega
      rcases this with h | h
      · have : j = 0 := by omega
        subst this; rfl
      · have := Int.mul_nonneg h (show 0 ≤ W by omega)
        omega
  · rw [if_neg hn]
    rcases h2 with rfl | h2
    · omega
    · have e1 : ((j : Int) - 1) * W = j * W - W := by rw [Int.sub_mul, Int.one_mul]
      rw [e1] at h2
      have hj0 : 0 < j := by
        rcases Nat.eq_zero_or_pos j with rfl | h
        · omega
        · exact h
      have e : ((n : Int) + W - 1) / W = j := by
        refine Int.le_antisymm ?_ ?_
        · have := Int.ediv_lt_of_lt_mul (a := (n : Int) + W - 1) (b := (j : Int) + 1) (c := W) (by omega) (by rw [Int.add_mul, Int.one_mul]; omega)
          omega
        · exact Int.le_ediv_of_mul_le (by omega) (by omega)
      rw [e]
      unfold near
      omega
set_option maxHeartbeats 1000000 in
theorem banked_any (nm : ByteArray) (k b z : Int) (da : Option Addr) (nd dc : Nat) (w : World) (hd : nd ≤ 140737488351232) (hz : -9223372036854775808 ≤ z ∧ z ≤ 9223372036854775807) :
    Calls Tryz.prog 20 #[.agg (chip5 nm k b z (.slice da nd dc))] w fun e w' => e = .returned (.tuple #[.int .i64 (mbank nd (mwin z)), .int .i64 (mwin z)]) ∧ Below w.heap.size w w' := by
  dsimp only [chip5]
  obtain ⟨k0, bW, sW⟩ := boxes1 w (.cells #[.string nm, .int .i64 k, .int .i64 b, .int .i64 z, .slice da nd dc] 24)
  have hwb := mwin_bd z
  obtain ⟨m, hm⟩ : ∃ m, max z 1 = m := ⟨_, rfl⟩
  have wm : wrap64 (m - 1) = m - 1 := IntWalk.wrap64_in _ (by omega)
  obtain ⟨W, hW⟩ : ∃ W, mwin z = W := ⟨_, rfl⟩
  have hlim : near (m - 1) 1 4096 = W := by rw [← hW, ← hm]; rfl
  rw [hW] at hwb
  rw [hW]
  clear hW
  go_enter Tryz.func20, Tryz.ntmps20
  go_upto_region 4 with (first
    | (refine wpList_max2 rfl _ _ _ rfl .i64 z 1 rfl rfl ?_; rw [hm])
    | (go_at_call 19; refine (limit_any _ _ _ (by omega) _).mono ?_; rintro e w' ⟨rfl, rfl⟩; rw [hlim]))
  clear hz hm wm hlim
  change Code.wp _ _ _ _ (w.alloc (.cells #[.string nm, .int .i64 k, .int .i64 b, .int .i64 z, .slice da nd dc] 24))
  generalize w.alloc (.cells #[.string nm, .int .i64 k, .int .i64 b, .int .i64 z, .slice da nd dc] 24) = w1 at *
  go_loopw [5, 6] (fun bk lf wr => ∃ j : Nat, j ≤ nd ∧ bk = .int .i64 j ∧ lf = .int .i64 ((nd : Int) - j * W) ∧ (j = 0 ∨ ((j : Int) - 1) * W < nd) ∧ wr = w1) (fun _ lf _ => (intOf lf).toNat)
  case atStart => exact ⟨0, Nat.zero_le _, rfl, by rw [show ((0 : Nat) : Int) * W = 0 from Int.zero_mul W, Int.sub_zero], .inl rfl, rfl⟩
  case round =>
    obtain ⟨j, hj, rfl, rfl, hjw, hw⟩ := hrel
    subst hw
    have hjW : (j : Int) ≤ j * W := by
      have := Int.mul_le_mul_of_nonneg_left (c := (j : Int)) hwb.1 (by omega)
      rwa [Int.mul_one] at this
    by_cases h0 : 0 < (nd : Int) - j * W
    · have hd0 : decide (0 < (nd : Int) - j * W) = true := decide_eq_true h0
      have hs : ((j : Int) + 1) * W = j * W + W := by rw [Int.add_mul, Int.one_mul]
      obtain ⟨p, hp⟩ : ∃ p, (j : Int) * W = p := ⟨_, rfl⟩
      rw [hp] at hd0 hs hjW h0
      rw [hp]
      have HP := Lib.hid hp
      have hlt2 : p < nd := by omega
      clear hjw hp
      have wj : wrap64 ((j : Int) + 1) = (j : Int) + 1 := IntWalk.wrap64_in _ (by omega)
      have wl : wrap64 ((nd : Int) - p - W) = (nd : Int) - p - W := IntWalk.wrap64_in _ (by omega)
      go_wp2_with fail
      go_roundw
      case rel => exact ⟨j + 1, by omega, by go_num, by first | (rw [wl, show ((j + 1 : Nat) : Int) = (j : Int) + 1 by omega, hs]; congr 1; omega) | (rw [show ((j + 1 : Nat) : Int) = (j : Int) + 1 by omega, hs]; congr 1; omega), .inr (by rw [show ((j + 1 : Nat) : Int) - 1 = (j : Int) by omega, HP.out]; exact hlt2), by first | trivial | rfl⟩
      case measure => simp [intOf]; omega
    · have hd0 : decide (0 < (nd : Int) - j * W) = false := decide_eq_false h0
      have hjm : near (j : Int) 1 1152921504606846976 = mbank nd W := by
        rcases mbank_at hwb.1 (by omega) hjw with h | h
        · exact h
        · omega
      go_wp2_with (go_at_call 19; refine (limit_any _ _ _ (by omega) _).mono ?_; rintro e w' ⟨rfl, rfl⟩; rw [hjm])
      go_ret2
      exact ⟨rfl, bW⟩
/-- A value that reads as numbers and bytes. -/
def memR (w : World) (u : Value) (ns m : List Int) : Prop := ∃ vx vm, u = .agg #[vx, vm] ∧ isArg w vx ns ∧ isByt w vm m
set_option maxHeartbeats 2000000 in
theorem formedRam_any (nm : ByteArray) (k b z : Int) (hk : k = 0 ∨ k = 1) (dat v vm : Value) (l lb : List Int) (w : World) (h : isArg w v l) (hm : isByt w vm lb) :
    Calls Tryz.prog 6 #[.agg (chip5 nm k b z dat), .agg #[v, vm]] w fun e w' => ∃ u, e = .returned u ∧ memR w' u [] (pad (near z 0 65536).toNat lb) ∧ Below w.heap.size w w' := by
  obtain ⟨B, hB⟩ : ∃ B : Nat, near z 0 65536 = B := ⟨(near z 0 65536).toNat, by unfold near; omega⟩
  have hBL : B ≤ 65536 := by unfold near at hB; omega
  have hBn : (near z 0 65536).toNat = B := by omega
  rw [hBn]
  clear hBn
  rcases hk with rfl | rfl
  · dsimp only [chip5]
    obtain ⟨a, cap, rfl, hf⟩ := isArg_form h
    clear hf
    obtain ⟨X1, hX1⟩ : ∃ X1, X1 = (lb.take B).map (Value.int .u8) := ⟨_, rfl⟩
    obtain ⟨Z1, hZ1⟩ : ∃ Z1, Z1 = (List.replicate B (0 : Int)).map (Value.int .u8) := ⟨_, rfl⟩
    have hsp : (splice Z1 0 X1).toArray = byts (pad B lb) := by rw [hX1, hZ1]; exact splice_pad B lb
    have hXl : X1.length = Nat.min lb.length B := by rw [hX1, List.length_map, List.length_take]; exact Nat.min_comm _ _
    have hX1c : ∀ x ∈ X1, x.oneCell' = true := fun x hx => by
      rw [hX1] at hx
      obtain ⟨y, _, rfl⟩ := List.mem_map.1 hx
      rfl
    have hZl : Z1.length = B := by rw [hZ1]; simp
    have hZa : madeCells #[.int .u8 0] B = Z1.toArray := by rw [made_byts, hZ1]; rfl
    have hfit : 0 + X1.length ≤ Z1.length := by rw [hZl, hXl, Nat.zero_add]; exact Nat.min_le_right lb.length B
    obtain ⟨ii, i1, i2, i3, i4⟩ := infoBt
    have hsz : (Tryz.prog.info? 5).map (·.size) = some 1 := by rw [i1]; exact congrArg some i3
    have HSP := Lib.hid hsp
    have HXL := Lib.hid hXl
    have HX1C := Lib.hid hX1c
    have HFIT := Lib.hid hfit
    have HX := Lib.hid hX1
    have HZA := Lib.hid hZa
    clear hsp hXl hX1c hfit hX1 hZa hZ1 hZl
    obtain ⟨sp, sc, rfl, _⟩ := isByt_src hm B
    obtain ⟨q0, r1, r2, r3, bV, sX⟩ := boxes4 w (.cells #[.string nm, .int .i64 0, .int .i64 b, .int .i64 z, dat] 24) (.cells #[.slice a l.length cap, .slice sp lb.length sc] 27) (.cells #[.slice none 0 0, .slice none 0 0] 27) (.cells #[.slice none 0 0, .slice none 0 0] 27)
    have r1 : rowB _ _ _ _ := r1
    have r2 : rowB _ _ _ _ := r2
    have r3 : rowB _ _ _ _ := r3
    clear h q0
    go_enter Tryz.func6, Tryz.ntmps6
    go_upto_region 31 with (go_at_call 19; refine (limit_any _ _ _ (by decide) _).mono ?_; rintro e w' ⟨rfl, rfl⟩; rw [hB])
    change Code.wp _ _ _ _ ((((w.alloc (.cells #[.string nm, .int .i64 0, .int .i64 b, .int .i64 z, dat] 24)).alloc (.cells #[.slice a l.length cap, .slice sp lb.length sc] 27)).alloc (.cells #[.slice none 0 0, .slice none 0 0] 27)).alloc (.cells #[.slice none 0 0, .slice none 0 0] 27))
    generalize ((((w.alloc (.cells #[.string nm, .int .i64 0, .int .i64 b, .int .i64 z, dat] 24)).alloc (.cells #[.slice a l.length cap, .slice sp lb.length sc] 27)).alloc (.cells #[.slice none 0 0, .slice none 0 0] 27)).alloc (.cells #[.slice none 0 0, .slice none 0 0] 27)) = w4 at *
    have lt : w.heap.size + 4 ≤ w4.heap.size := by omega
    clear sX hB
    by_cases hB0 : 0 < B
    · have hd0 : decide (0 < (B : Int)) = true := decide_eq_true (by omega)
      replace r1 := rowB_alloc r1 (.cells Z1.toArray 5)
      replace r2 := rowB_alloc r2 (.cells Z1.toArray 5)
      replace r3 := rowB_alloc r3 (.cells Z1.toArray 5)
      have n0 := rowB_new w4 5 Z1.toArray
      replace bV := bV.alloc bV.size (.cells Z1.toArray 5)
      obtain ⟨q, hq⟩ : ∃ q, w4.heap.size = q := ⟨_, rfl⟩
      have HQ := Lib.hid hq
      rw [hq] at n0 lt
      clear hq
      obtain ⟨f0, f1, y0, y1⟩ := dcells2 r3
      go_upto_region 33 with (at_make; refine wpList_make_row _ rfl _ _ _ rfl 5 ii (.int .u8 0) Tryz.underlying22 i1 i2 i3 rfl _ _ B rfl rfl (by rw [i4]; omega) (by omega) ?_; rw [HZA.out, HQ.out])
      change Code.wp _ _ _ _ ((w4.alloc (.cells Z1.toArray 5)).setCell ⟨w.heap.size + 3, 1, none⟩ (.slice (some ⟨q, 0, none⟩) B B))
      generalize w4.alloc (.cells Z1.toArray 5) = w5 at *
      replace r1 := rowB_other r1 ⟨w.heap.size + 3, 1, none⟩ (.slice (some ⟨q, 0, none⟩) B B) (by show w.heap.size + 3 ≠ _; omega)
      replace r2 := rowB_other r2 ⟨w.heap.size + 3, 1, none⟩ (.slice (some ⟨q, 0, none⟩) B B) (by show w.heap.size + 3 ≠ _; omega)
      replace r3 : rowB _ (w.heap.size + 3) 27 #[.slice none 0 0, .slice (some ⟨q, 0, none⟩) B B] := rowB_set r3 1 (.slice (some ⟨q, 0, none⟩) B B)
      replace n0 := rowB_other n0 ⟨w.heap.size + 3, 1, none⟩ (.slice (some ⟨q, 0, none⟩) B B) (by show w.heap.size + 3 ≠ q; omega)
      replace bV := Below.setCell bV (p := ⟨w.heap.size + 3, 1, none⟩) (by show _ ≤ w.heap.size + 3; omega) (.slice (some ⟨q, 0, none⟩) B B)
      generalize w5.setCell ⟨w.heap.size + 3, 1, none⟩ (.slice (some ⟨q, 0, none⟩) B B) = w6 at *
      clear f0 f1 y0 y1
      obtain ⟨sp', sc', e', hsrc⟩ := isByt_src (isByt_below hm bV (Nat.le_refl _)) B
      cases e'
      rw [← HX.out] at hsrc
      have HSRC := Lib.hid hsrc
      clear hsrc
      obtain ⟨d0, d1, _, _⟩ := dcells2 r1
      obtain ⟨f0, f1, _, _⟩ := dcells2 r3
      go_upto_region 34 with (refine wpList_copy_splice (o := ⟨some 106, _, _, _, _, _⟩) rfl _ _ 22 22 rfl 5 Tryz.underlying22 hsz (some ⟨q, 0, none⟩) sp B B lb.length sc rfl rfl q 0 Z1 5 n0 X1 HXL.out (fun hp => ⟨rfl, HSRC.out hp⟩) HFIT.out HX1C.out q w6 (Below.refl q w6) (Nat.le_refl _) ?_; intro w7 HG hb6; have t3 := rowB_below r3 hb6 (by omega); have t2 := rowB_below r2 hb6 (by omega))
      have bU := bV.trans (hb6.mono (by omega))
      have t0 : rowB w7 q 5 (byts (pad B lb)) := by
        have := HG.out
        rw [HSP.out] at this
        exact this
      clear HG hb6 HSRC d0 d1 f0 f1 r1 r2 r3 n0 bV
      go_wp2_with (first
        | (refine wpList_loadR rfl 27 _ rfl (w.heap.size + 3) rfl 27 #[.slice none 0 0, .slice (some ⟨q, 0, none⟩) B B] ?_ agDv ?_; with_reducible exact t3)
        | (refine wpList_storeR rfl 27 _ _ rfl (w.heap.size + 2) rfl #[.slice none 0 0, .slice (some ⟨q, 0, none⟩) B B] rfl (dev2_one _ _ _ _ _ _) 27 #[.slice none 0 0, .slice none 0 0] rfl ?_ agDv ?_; with_reducible exact t2))
      refine bodyPost_ret (resultsR rfl (w.heap.size + 2) _ rfl (rowB_row t2 _) agDv) rfl ?_
      refine ⟨_, rfl, ⟨_, _, rfl, .inl ⟨none, 0, rfl, rfl⟩, ?_⟩, below_rowR bU _ (by omega)⟩
      have := bytB_arg (rowB_row_other t0 #[.slice none 0 0, .slice (some ⟨q, 0, none⟩) B B] (show w.heap.size + 2 ≠ q by omega)) (by rw [pad_len]; omega)
      rw [pad_len] at this
      exact this
    · have hd0 : decide (0 < (B : Int)) = false := decide_eq_false (by omega)
      go_wp2_with (first
        | (refine wpList_loadR rfl 27 _ rfl (w.heap.size + 3) rfl 27 #[.slice none 0 0, .slice none 0 0] ?_ agDv ?_; with_reducible exact r3)
        | (refine wpList_storeR rfl 27 _ _ rfl (w.heap.size + 2) rfl #[.slice none 0 0, .slice none 0 0] rfl (dev2_one _ _ _ _ _ _) 27 #[.slice none 0 0, .slice none 0 0] rfl ?_ agDv ?_; with_reducible exact r2))
      refine bodyPost_ret (resultsR rfl (w.heap.size + 2) _ rfl (rowB_row r2 _) agDv) rfl ?_
      obtain rfl : B = 0 := by omega
      exact ⟨_, rfl, ⟨_, _, rfl, .inl ⟨none, 0, rfl, rfl⟩, .inl ⟨none, 0, rfl, rfl⟩⟩, below_rowR bV _ (by omega)⟩
  · dsimp only [chip5]
    obtain ⟨a, cap, rfl, hf⟩ := isArg_form h
    clear hf
    obtain ⟨X1, hX1⟩ : ∃ X1, X1 = (lb.take B).map (Value.int .u8) := ⟨_, rfl⟩
    obtain ⟨Z1, hZ1⟩ : ∃ Z1, Z1 = (List.replicate B (0 : Int)).map (Value.int .u8) := ⟨_, rfl⟩
    have hsp : (splice Z1 0 X1).toArray = byts (pad B lb) := by rw [hX1, hZ1]; exact splice_pad B lb
    have hXl : X1.length = Nat.min lb.length B := by rw [hX1, List.length_map, List.length_take]; exact Nat.min_comm _ _
    have hX1c : ∀ x ∈ X1, x.oneCell' = true := fun x hx => by
      rw [hX1] at hx
      obtain ⟨y, _, rfl⟩ := List.mem_map.1 hx
      rfl
    have hZl : Z1.length = B := by rw [hZ1]; simp
    have hZa : madeCells #[.int .u8 0] B = Z1.toArray := by rw [made_byts, hZ1]; rfl
    have hfit : 0 + X1.length ≤ Z1.length := by rw [hZl, hXl, Nat.zero_add]; exact Nat.min_le_right lb.length B
    obtain ⟨ii, i1, i2, i3, i4⟩ := infoBt
    have hsz : (Tryz.prog.info? 5).map (·.size) = some 1 := by rw [i1]; exact congrArg some i3
    have HSP := Lib.hid hsp
    have HXL := Lib.hid hXl
    have HX1C := Lib.hid hX1c
    have HFIT := Lib.hid hfit
    have HX := Lib.hid hX1
    have HZA := Lib.hid hZa
    clear hsp hXl hX1c hfit hX1 hZa hZ1 hZl
    obtain ⟨sp, sc, rfl, _⟩ := isByt_src hm B
    obtain ⟨q0, r1, r2, r3, bV, sX⟩ := boxes4 w (.cells #[.string nm, .int .i64 1, .int .i64 b, .int .i64 z, dat] 24) (.cells #[.slice a l.length cap, .slice sp lb.length sc] 27) (.cells #[.slice none 0 0, .slice none 0 0] 27) (.cells #[.slice none 0 0, .slice none 0 0] 27)
    have r1 : rowB _ _ _ _ := r1
    have r2 : rowB _ _ _ _ := r2
    have r3 : rowB _ _ _ _ := r3
    clear h q0
    go_enter Tryz.func6, Tryz.ntmps6
    go_upto_region 31 with (go_at_call 19; refine (limit_any _ _ _ (by decide) _).mono ?_; rintro e w' ⟨rfl, rfl⟩; rw [hB])
    change Code.wp _ _ _ _ ((((w.alloc (.cells #[.string nm, .int .i64 1, .int .i64 b, .int .i64 z, dat] 24)).alloc (.cells #[.slice a l.length cap, .slice sp lb.length sc] 27)).alloc (.cells #[.slice none 0 0, .slice none 0 0] 27)).alloc (.cells #[.slice none 0 0, .slice none 0 0] 27))
    generalize ((((w.alloc (.cells #[.string nm, .int .i64 1, .int .i64 b, .int .i64 z, dat] 24)).alloc (.cells #[.slice a l.length cap, .slice sp lb.length sc] 27)).alloc (.cells #[.slice none 0 0, .slice none 0 0] 27)).alloc (.cells #[.slice none 0 0, .slice none 0 0] 27)) = w4 at *
    have lt : w.heap.size + 4 ≤ w4.heap.size := by omega
    clear sX hB
    by_cases hB0 : 0 < B
    · have hd0 : decide (0 < (B : Int)) = true := decide_eq_true (by omega)
      replace r1 := rowB_alloc r1 (.cells Z1.toArray 5)
      replace r2 := rowB_alloc r2 (.cells Z1.toArray 5)
      replace r3 := rowB_alloc r3 (.cells Z1.toArray 5)
      have n0 := rowB_new w4 5 Z1.toArray
      replace bV := bV.alloc bV.size (.cells Z1.toArray 5)
      obtain ⟨q, hq⟩ : ∃ q, w4.heap.size = q := ⟨_, rfl⟩
      have HQ := Lib.hid hq
      rw [hq] at n0 lt
      clear hq
      obtain ⟨f0, f1, y0, y1⟩ := dcells2 r3
      go_upto_region 33 with (at_make; refine wpList_make_row _ rfl _ _ _ rfl 5 ii (.int .u8 0) Tryz.underlying22 i1 i2 i3 rfl _ _ B rfl rfl (by rw [i4]; omega) (by omega) ?_; rw [HZA.out, HQ.out])
      change Code.wp _ _ _ _ ((w4.alloc (.cells Z1.toArray 5)).setCell ⟨w.heap.size + 3, 1, none⟩ (.slice (some ⟨q, 0, none⟩) B B))
      generalize w4.alloc (.cells Z1.toArray 5) = w5 at *
      replace r1 := rowB_other r1 ⟨w.heap.size + 3, 1, none⟩ (.slice (some ⟨q, 0, none⟩) B B) (by show w.heap.size + 3 ≠ _; omega)
      replace r2 := rowB_other r2 ⟨w.heap.size + 3, 1, none⟩ (.slice (some ⟨q, 0, none⟩) B B) (by show w.heap.size + 3 ≠ _; omega)
      replace r3 : rowB _ (w.heap.size + 3) 27 #[.slice none 0 0, .slice (some ⟨q, 0, none⟩) B B] := rowB_set r3 1 (.slice (some ⟨q, 0, none⟩) B B)
      replace n0 := rowB_other n0 ⟨w.heap.size + 3, 1, none⟩ (.slice (some ⟨q, 0, none⟩) B B) (by show w.heap.size + 3 ≠ q; omega)
      replace bV := Below.setCell bV (p := ⟨w.heap.size + 3, 1, none⟩) (by show _ ≤ w.heap.size + 3; omega) (.slice (some ⟨q, 0, none⟩) B B)
      generalize w5.setCell ⟨w.heap.size + 3, 1, none⟩ (.slice (some ⟨q, 0, none⟩) B B) = w6 at *
      clear f0 f1 y0 y1
      obtain ⟨sp', sc', e', hsrc⟩ := isByt_src (isByt_below hm bV (Nat.le_refl _)) B
      cases e'
      rw [← HX.out] at hsrc
      have HSRC := Lib.hid hsrc
      clear hsrc
      obtain ⟨d0, d1, _, _⟩ := dcells2 r1
      obtain ⟨f0, f1, _, _⟩ := dcells2 r3
      go_upto_region 34 with (refine wpList_copy_splice (o := ⟨some 106, _, _, _, _, _⟩) rfl _ _ 22 22 rfl 5 Tryz.underlying22 hsz (some ⟨q, 0, none⟩) sp B B lb.length sc rfl rfl q 0 Z1 5 n0 X1 HXL.out (fun hp => ⟨rfl, HSRC.out hp⟩) HFIT.out HX1C.out q w6 (Below.refl q w6) (Nat.le_refl _) ?_; intro w7 HG hb6; have t3 := rowB_below r3 hb6 (by omega); have t2 := rowB_below r2 hb6 (by omega))
      have bU := bV.trans (hb6.mono (by omega))
      have t0 : rowB w7 q 5 (byts (pad B lb)) := by
        have := HG.out
        rw [HSP.out] at this
        exact this
      clear HG hb6 HSRC d0 d1 f0 f1 r1 r2 r3 n0 bV
      go_wp2_with (first
        | (refine wpList_loadR rfl 27 _ rfl (w.heap.size + 3) rfl 27 #[.slice none 0 0, .slice (some ⟨q, 0, none⟩) B B] ?_ agDv ?_; with_reducible exact t3)
        | (refine wpList_storeR rfl 27 _ _ rfl (w.heap.size + 2) rfl #[.slice none 0 0, .slice (some ⟨q, 0, none⟩) B B] rfl (dev2_one _ _ _ _ _ _) 27 #[.slice none 0 0, .slice none 0 0] rfl ?_ agDv ?_; with_reducible exact t2))
      refine bodyPost_ret (resultsR rfl (w.heap.size + 2) _ rfl (rowB_row t2 _) agDv) rfl ?_
      refine ⟨_, rfl, ⟨_, _, rfl, .inl ⟨none, 0, rfl, rfl⟩, ?_⟩, below_rowR bU _ (by omega)⟩
      have := bytB_arg (rowB_row_other t0 #[.slice none 0 0, .slice (some ⟨q, 0, none⟩) B B] (show w.heap.size + 2 ≠ q by omega)) (by rw [pad_len]; omega)
      rw [pad_len] at this
      exact this
    · have hd0 : decide (0 < (B : Int)) = false := decide_eq_false (by omega)
      go_wp2_with (first
        | (refine wpList_loadR rfl 27 _ rfl (w.heap.size + 3) rfl 27 #[.slice none 0 0, .slice none 0 0] ?_ agDv ?_; with_reducible exact r3)
        | (refine wpList_storeR rfl 27 _ _ rfl (w.heap.size + 2) rfl #[.slice none 0 0, .slice none 0 0] rfl (dev2_one _ _ _ _ _ _) 27 #[.slice none 0 0, .slice none 0 0] rfl ?_ agDv ?_; with_reducible exact r2))
      refine bodyPost_ret (resultsR rfl (w.heap.size + 2) _ rfl (rowB_row r2 _) agDv) rfl ?_
      obtain rfl : B = 0 := by omega
      exact ⟨_, rfl, ⟨_, _, rfl, .inl ⟨none, 0, rfl, rfl⟩, .inl ⟨none, 0, rfl, rfl⟩⟩, below_rowR bV _ (by omega)⟩
end Go.Proofs.YtakaebjojgeehaaGreat
