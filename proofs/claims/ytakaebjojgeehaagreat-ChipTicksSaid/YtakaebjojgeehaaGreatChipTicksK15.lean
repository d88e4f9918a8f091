/- A part of the proof of ChipTicks: DevFormN. -/
import Derived.Test.YtakaebjojgeehaaGreatChipTicksK01
import Derived.Test.YtakaebjojgeehaaGreatChipTicksK02
import Derived.Test.YtakaebjojgeehaaGreatChipTicksK04
import Derived.Test.YtakaebjojgeehaaGreatChipTicksK05
import Derived.Test.YtakaebjojgeehaaGreatChipTicksK06
import Derived.Test.YtakaebjojgeehaaGreatChipTicksK09
import Derived.Test.YtakaebjojgeehaaGreatChipTicksK12
import Derived.Test.YtakaebjojgeehaaGreatChipTicksK13
import Derived.Test.YtakaebjojgeehaaGreatChipTicksK14
import Derived.Below
import Derived.BigQuiet
import Derived.ChangeMaps5
import Derived.Deep.AppendSrc
import Derived.Deep.DeepCutAuto
import Derived.Deep.Draws
import Derived.Deep.MidRow
import Derived.Deep.OwnRows
import Derived.Deep.QuietTactic
import Derived.Deep.RegionHeld3
import Derived.Deep.RegionWith
import Derived.Deep.Slices
import Derived.Deep.WholeRow
import Derived.Laws.CopyOwn
import Derived.Lib.Hide
import Derived.Lib.SmallJoins
import Derived.OpenShut
import Derived.OrdersHeld
import Derived.OwnWalk
import Derived.RowKit3
import Derived.StillTactics
import Derived.StillTail
import Derived.StillTailTactics
import Derived.Test.YtakaebjojgeehaaGreatChecked
import Derived.WalkKit
namespace Go.Proofs.YtakaebjojgeehaaGreat
open Go.RowKit
set_option maxRecDepth 100000
theorem mbank_bd (n : Nat) (W : Int) (hW : 1 ≤ W) : 1 ≤ mbank n W ∧ mbank n W ≤ n + 1 ∧ mbank n W * W ≤ n + W := by
  unfold mbank
  by_cases hn : n = 0
  · subst hn
    rw [if_pos rfl]
    omega
  · rw [if_neg hn]
    have h1 : 1 ≤ ((n : Int) + W - 1) / W := Int.le_ediv_of_mul_le (by omega) (by omega)
    have h2 := Int.ediv_mul_le ((n : Int) + W - 1) (show W ≠ 0 by omega)
    have h3 : ((n : Int) + W - 1) / W ≤ n := by
      have h4 : ((n : Int) + W - 1) / W < n + 1 := Int.ediv_lt_of_lt_mul (by omega) (by
        have := Int.mul_le_mul_of_nonneg_left (c := (n : Int)) hW (by omega)
        rw [Int.mul_one] at this
        rw [Int.add_mul, Int.one_mul]
        omega)
      omega
    exact ⟨h1, by omega, by omega⟩
set_option maxHeartbeats 1000000 in
theorem formedNone_any (nm : ByteArray) (k b z : Int) (hk : k < 0 ∨ 8 < k) (dat v vm : Value) (l lb : List Int) (w : World) (h : isArg w v l) (hm : isByt w vm lb) :
    Calls Tryz.prog 6 #[.agg (chip5 nm k b z dat), .agg #[v, vm]] w fun e w' => ∃ u, e = .returned u ∧ memR w' u [] [] ∧ Below w.heap.size w w' := by
  dsimp only [chip5]
  obtain ⟨a, cap, rfl, _⟩ := isArg_form h
  obtain ⟨sp, sc, rfl, _⟩ := isByt_form hm
  have q0 : (k == 0) = false := beq_eq_false_iff_ne.2 (by omega)
  have q1 : (k == 1) = false := beq_eq_false_iff_ne.2 (by omega)
  have q2 : (k == 2) = false := beq_eq_false_iff_ne.2 (by omega)
  have q3 : (k == 3) = false := beq_eq_false_iff_ne.2 (by omega)
  have q4 : (k == 4) = false := beq_eq_false_iff_ne.2 (by omega)
  have q5 : (k == 5) = false := beq_eq_false_iff_ne.2 (by omega)
  have q6 : (k == 6) = false := beq_eq_false_iff_ne.2 (by omega)
  have q7 : (k == 7) = false := beq_eq_false_iff_ne.2 (by omega)
  have q8 : (k == 8) = false := beq_eq_false_iff_ne.2 (by omega)
  obtain ⟨_, _, r2, r3, bV, sX⟩ := boxes4 w (.cells #[.string nm, .int .i64 k, .int .i64 b, .int .i64 z, dat] 24) (.cells #[.slice a l.length cap, .slice sp lb.length sc] 27) (.cells #[.slice none 0 0, .slice none 0 0] 27) (.cells #[.slice none 0 0, .slice none 0 0] 27)
  have r2 : rowB _ _ _ _ := r2
  have r3 : rowB _ _ _ _ := r3
  clear h hm
  go_enter Tryz.func6, Tryz.ntmps6
  go_upto_region 31 with (fail)
  change Code.wp _ _ _ _ ((((w.alloc (.cells #[.string nm, .int .i64 k, .int .i64 b, .int .i64 z, dat] 24)).alloc (.cells #[.slice a l.length cap, .slice sp lb.length sc] 27)).alloc (.cells #[.slice none 0 0, .slice none 0 0] 27)).alloc (.cells #[.slice none 0 0, .slice none 0 0] 27))
  generalize ((((w.alloc (.cells #[.string nm, .int .i64 k, .int .i64 b, .int .i64 z, dat] 24)).alloc (.cells #[.slice a l.length cap, .slice sp lb.length sc] 27)).alloc (.cells #[.slice none 0 0, .slice none 0 0] 27)).alloc (.cells #[.slice none 0 0, .slice none 0 0] 27)) = w4 at *
  go_wp2_with (first
    | (refine wpList_loadR rfl 27 _ rfl (w.heap.size + 3) rfl 27 #[.slice none 0 0, .slice none 0 0] ?_ agDv ?_; with_reducible exact r3)
    | (refine wpList_storeR rfl 27 _ _ rfl (w.heap.size + 2) rfl #[.slice none 0 0, .slice none 0 0] rfl (dev2_one _ _ _ _ _ _) 27 #[.slice none 0 0, .slice none 0 0] rfl ?_ agDv ?_; with_reducible exact r2))
  refine bodyPost_ret (resultsR rfl (w.heap.size + 2) _ rfl (rowB_row r2 _) agDv) rfl ?_
  exact ⟨_, rfl, ⟨_, _, rfl, .inl ⟨none, 0, rfl, rfl⟩, .inl ⟨none, 0, rfl, rfl⟩⟩, below_rowR bV _ (by omega)⟩
set_option maxHeartbeats 2000000 in
theorem formedBank_any (nm : ByteArray) (b z : Int) (da : Option Addr) (nd dc : Nat) (hd : nd ≤ 140737488351232) (hz : -9223372036854775808 ≤ z ∧ z ≤ 9223372036854775807) (v vm : Value) (l lb : List Int) (w : World) (h : isArg w v l) (hm : isByt w vm lb) :
    Calls Tryz.prog 6 #[.agg (chip5 nm 2 b z (.slice da nd dc)), .agg #[v, vm]] w fun e w' => ∃ u, e = .returned u ∧ memR w' u [l.getD 0 0 % mbank nd (mwin z)] (pad (mbank nd (mwin z) * mwin z).toNat lb) ∧ Below w.heap.size w w' := by
  have hBk := fun w => banked_any nm 2 b z da nd dc w hd hz
  have hWb := mwin_bd z
  obtain ⟨W, hW⟩ : ∃ W, mwin z = W := ⟨_, rfl⟩
  rw [hW] at hWb
  simp only [hW] at hBk
  rw [hW]
  clear hW hz
  obtain ⟨hm1, hm2, hm3⟩ := mbank_bd nd W hWb.1
  generalize mbank nd W = M at *
  have hMW : 0 ≤ M * W := Int.mul_nonneg (by omega) (by omega)
  obtain ⟨B, hB⟩ : ∃ B : Nat, M * W = B := ⟨(M * W).toNat, by omega⟩
  have hBn : (M * W).toNat = B := by omega
  have hBL : B ≤ 140737488355328 := by omega
  have wB : wrap64 (M * W) = (B : Int) := (IntWalk.wrap64_in _ (by omega)).trans hB
  rw [hBn]
  clear hBn hB hMW hm3
  obtain ⟨bk, hbk⟩ : ∃ x, l.getD 0 0 % M = x := ⟨_, rfl⟩
  rw [hbk]
  dsimp only [chip5] at hBk
  dsimp only [chip5]
  obtain ⟨a, cap, rfl, hf⟩ := isArg_form h
  clear hf
  obtain ⟨X1, hX1⟩ : ∃ X1, X1 = (lb.take B).map (Value.int .u8) := ⟨_, rfl⟩
  obtain ⟨Z1, hZ1⟩ : ∃ Z1, Z1 = (List.replicate B (0 : Int)).map (Value.int .u8) := ⟨_, rfl⟩
  have hsp : (splice Z1 0 X1).toArray = byts (pad B lb) := by rw [hX1, hZ1]; exact splice_pad B lb
  have hXl : X1.length = Nat.min lb.length B := by rw [hX1, List.length_map, List.length_take]; exact Nat.min_comm _ _
  have hX1c : ∀ x ∈ X1, x.oneCell' = true := fun x hx => by
    rw [hX1] at hx
    obtain ⟨y, _, rfl⟩ := List.mem_map.1 hx
    rfl
  have hZl : Z1.length = B := by rw [hZ1]; simp
  have hZa : madeCells #[.int .u8 0] B = Z1.toArray := by rw [made_byts, hZ1]; rfl
  have hfit : 0 + X1.length ≤ Z1.length := by rw [hZl, hXl, Nat.zero_add]; exact Nat.min_le_right lb.length B
  obtain ⟨ii, i1, i2, i3, i4⟩ := infoBt
  have hsz : (Tryz.prog.info? 5).map (·.size) = some 1 := by rw [i1]; exact congrArg some i3
  have HSP := Lib.hid hsp
  have HXL := Lib.hid hXl
  have HX1C := Lib.hid hX1c
  have HFIT := Lib.hid hfit
  have HX := Lib.hid hX1
  have HZA := Lib.hid hZa
  clear hsp hXl hX1c hfit hX1 hZa hZ1 hZl
  obtain ⟨sp, sc, rfl, _⟩ := isByt_src hm B
  obtain ⟨q0, r1, r2, r3, bV, sX⟩ := boxes4 w (.cells #[.string nm, .int .i64 2, .int .i64 b, .int .i64 z, .slice da nd dc] 24) (.cells #[.slice a l.length cap, .slice sp lb.length sc] 27) (.cells #[.slice none 0 0, .slice none 0 0] 27) (.cells #[.slice none 0 0, .slice none 0 0] 27)
  have r1 : rowB _ _ _ _ := r1
  have r2 : rowB _ _ _ _ := r2
  have r3 : rowB _ _ _ _ := r3
  have q0 : rowB _ _ _ _ := q0
  have hA := isArg_below h bV (Nat.le_refl _)
  clear h
  go_enter Tryz.func6, Tryz.ntmps6
  go_upto_region 10 with (first
    | (refine wpList_loadR rfl 24 _ rfl w.heap.size rfl 24 #[.string nm, .int .i64 2, .int .i64 b, .int .i64 z, .slice da nd dc] ?_ agCh ?_; with_reducible exact q0)
    | (go_at_call 20; refine (hBk _).mono ?_; rintro e w1 ⟨rfl, hb⟩; replace r1 := rowB_below r1 hb (rowB_lt r1); replace r2 := rowB_below r2 hb (rowB_lt r2); replace r3 := rowB_below r3 hb (rowB_lt r3); replace hA := isArg_below hA hb (Nat.le_refl _); have bS := bV.trans (hb.mono bV.size); have sS := hb.size; rw [sX] at sS; clear bV hb hBk))
  rw [wB]
  clear wB
  have hN : fmN l [M] 1 = [bk] := by rw [← hbk]; rfl
  have x0 := rowB_new w1 3 #[.int .i64 M]
  have hx := (boxes1 w1 (.cells #[.int .i64 M] 3)).2.1
  have sx := Nat.le_of_eq (World.size_alloc w1 (.cells #[.int .i64 M] 3)).symm
  have hms : ∀ m ∈ [M], 1 ≤ m ∧ m ≤ 4611686018427387904 := fun m hm => by rw [List.mem_singleton.1 hm]; omega
  have hF := form_any _ (.slice sp lb.length sc) _ l [M] _ (isArg_below hA hx (Nat.le_refl _)) (numB_arg (l := [M]) x0 (by show 1 ≤ 9223372036854775807; decide)) hms (by show 1 ≤ 1000; decide)
  have p1 := rowB_alloc r1 (.cells #[.int .i64 M] 3)
  have p2 := rowB_alloc r2 (.cells #[.int .i64 M] 3)
  have p3 := rowB_alloc r3 (.cells #[.int .i64 M] 3)
  have bY := bS.alloc (by omega) (.cells #[.int .i64 M] 3)
  rw [show [M].length = 1 from rfl, hN] at hF
  clear hN hms x0 hA hx bS r2 r3
  go_upto_region 31 with (first
    | (go_at_call 21; refine hF.mono ?_; rintro e w2 ⟨g, rfl, hg, hr, hb⟩; have r3 := rowB_below p3 hb (rowB_lt p3); obtain ⟨d0, d1, y0, y1⟩ := dcells2 r3)
    | (refine wpList_loadR rfl 27 _ rfl (w.heap.size + 1) rfl 27 #[.slice a l.length cap, .slice sp lb.length sc] ?_ agDv ?_; with_reducible exact r1))
  change Code.wp _ _ _ _ (w2.setCell ⟨w.heap.size + 3, 0, none⟩ (.slice (some ⟨g, 0, none⟩) 1 1))
  have hgs : w.heap.size + 4 ≤ g := by omega
  have lg : g < (w2.setCell ⟨w.heap.size + 3, 0, none⟩ (.slice (some ⟨g, 0, none⟩) 1 1)).heap.size := by rw [World.size_setCell]; exact rowB_lt hr
  have lt : w.heap.size + 4 ≤ (w2.setCell ⟨w.heap.size + 3, 0, none⟩ (.slice (some ⟨g, 0, none⟩) 1 1)).heap.size := by omega
  replace r1 := rowB_other (rowB_below p1 hb (rowB_lt p1)) ⟨w.heap.size + 3, 0, none⟩ (.slice (some ⟨g, 0, none⟩) 1 1) (by show w.heap.size + 3 ≠ _; omega)
  have r2 := rowB_other (rowB_below p2 hb (rowB_lt p2)) ⟨w.heap.size + 3, 0, none⟩ (.slice (some ⟨g, 0, none⟩) 1 1) (by show w.heap.size + 3 ≠ _; omega)
  replace r3 : rowB _ (w.heap.size + 3) 27 #[.slice (some ⟨g, 0, none⟩) 1 1, .slice none 0 0] := rowB_set r3 0 (.slice (some ⟨g, 0, none⟩) 1 1)
  have rg : rowB _ g 3 (nums [bk]) := rowB_other hr ⟨w.heap.size + 3, 0, none⟩ (.slice (some ⟨g, 0, none⟩) 1 1) (by show w.heap.size + 3 ≠ g; omega)
  have bV := Below.setCell (bY.trans (hb.mono bY.size)) (p := ⟨w.heap.size + 3, 0, none⟩) (by show _ ≤ w.heap.size + 3; omega) (.slice (some ⟨g, 0, none⟩) 1 1)
  generalize w2.setCell ⟨w.heap.size + 3, 0, none⟩ (.slice (some ⟨g, 0, none⟩) 1 1) = w4 at *
  clear d0 d1 y0 y1 hb hF p1 p2 p3 bY hg sx hr sS sX q0
  by_cases hB0 : 0 < B
  · have hd0 : decide (0 < (B : Int)) = true := decide_eq_true (by omega)
    replace r1 := rowB_alloc r1 (.cells Z1.toArray 5)
    replace r2 := rowB_alloc r2 (.cells Z1.toArray 5)
    replace r3 := rowB_alloc r3 (.cells Z1.toArray 5)
    replace rg := rowB_alloc rg (.cells Z1.toArray 5)
    have n0 := rowB_new w4 5 Z1.toArray
    replace bV := bV.alloc bV.size (.cells Z1.toArray 5)
    obtain ⟨q, hq⟩ : ∃ q, w4.heap.size = q := ⟨_, rfl⟩
    have HQ := Lib.hid hq
    rw [hq] at n0 lt lg
    clear hq
    obtain ⟨f0, f1, y0, y1⟩ := dcells2 r3
    go_upto_region 33 with (at_make; refine wpList_make_row _ rfl _ _ _ rfl 5 ii (.int .u8 0) Tryz.underlying22 i1 i2 i3 rfl _ _ B rfl rfl (by rw [i4]; omega) (by omega) ?_; rw [HZA.out, HQ.out])
    change Code.wp _ _ _ _ ((w4.alloc (.cells Z1.toArray 5)).setCell ⟨w.heap.size + 3, 1, none⟩ (.slice (some ⟨q, 0, none⟩) B B))
    generalize w4.alloc (.cells Z1.toArray 5) = w5 at *
    replace r1 := rowB_other r1 ⟨w.heap.size + 3, 1, none⟩ (.slice (some ⟨q, 0, none⟩) B B) (by show w.heap.size + 3 ≠ _; omega)
    replace r2 := rowB_other r2 ⟨w.heap.size + 3, 1, none⟩ (.slice (some ⟨q, 0, none⟩) B B) (by show w.heap.size + 3 ≠ _; omega)
    replace r3 : rowB _ (w.heap.size + 3) 27 #[.slice (some ⟨g, 0, none⟩) 1 1, .slice (some ⟨q, 0, none⟩) B B] := rowB_set r3 1 (.slice (some ⟨q, 0, none⟩) B B)
    replace rg := rowB_other rg ⟨w.heap.size + 3, 1, none⟩ (.slice (some ⟨q, 0, none⟩) B B) (by show w.heap.size + 3 ≠ g; omega)
    replace n0 := rowB_other n0 ⟨w.heap.size + 3, 1, none⟩ (.slice (some ⟨q, 0, none⟩) B B) (by show w.heap.size + 3 ≠ q; omega)
    replace bV := Below.setCell bV (p := ⟨w.heap.size + 3, 1, none⟩) (by show _ ≤ w.heap.size + 3; omega) (.slice (some ⟨q, 0, none⟩) B B)
    generalize w5.setCell ⟨w.heap.size + 3, 1, none⟩ (.slice (some ⟨q, 0, none⟩) B B) = w6 at *
    clear f0 f1 y0 y1
    obtain ⟨sp', sc', e', hsrc⟩ := isByt_src (isByt_below hm bV (Nat.le_refl _)) B
    cases e'
    rw [← HX.out] at hsrc
    have HSRC := Lib.hid hsrc
    clear hsrc
    obtain ⟨d0, d1, _, _⟩ := dcells2 r1
    obtain ⟨f0, f1, _, _⟩ := dcells2 r3
    go_upto_region 34 with (refine wpList_copy_splice (o := ⟨some 106, _, _, _, _, _⟩) rfl _ _ 22 22 rfl 5 Tryz.underlying22 hsz (some ⟨q, 0, none⟩) sp B B lb.length sc rfl rfl q 0 Z1 5 n0 X1 HXL.out (fun hp => ⟨rfl, HSRC.out hp⟩) HFIT.out HX1C.out q w6 (Below.refl q w6) (Nat.le_refl _) ?_; intro w7 HG hb6; have t3 := rowB_below r3 hb6 (by omega); have t2 := rowB_below r2 hb6 (by omega))
    have bU := bV.trans (hb6.mono (by omega))
    have t0 : rowB w7 q 5 (byts (pad B lb)) := by
      have := HG.out
      rw [HSP.out] at this
      exact this
    have tg := rowB_below rg hb6 lg
    clear HG hb6 HSRC d0 d1 f0 f1 r1 r2 r3 rg n0 bV
    go_wp2_with (first
      | (refine wpList_loadR rfl 27 _ rfl (w.heap.size + 3) rfl 27 #[.slice (some ⟨g, 0, none⟩) 1 1, .slice (some ⟨q, 0, none⟩) B B] ?_ agDv ?_; with_reducible exact t3)
      | (refine wpList_storeR rfl 27 _ _ rfl (w.heap.size + 2) rfl #[.slice (some ⟨g, 0, none⟩) 1 1, .slice (some ⟨q, 0, none⟩) B B] rfl (dev2_one _ _ _ _ _ _) 27 #[.slice none 0 0, .slice none 0 0] rfl ?_ agDv ?_; with_reducible exact t2))
    refine bodyPost_ret (resultsR rfl (w.heap.size + 2) _ rfl (rowB_row t2 _) agDv) rfl ?_
    refine ⟨_, rfl, ⟨_, _, rfl, numB_arg (l := [bk]) (rowB_row_other tg _ (show w.heap.size + 2 ≠ g by omega)) (by show 1 ≤ 9223372036854775807; decide), ?_⟩, below_rowR bU _ (by omega)⟩
    have := bytB_arg (rowB_row_other t0 #[.slice (some ⟨g, 0, none⟩) 1 1, .slice (some ⟨q, 0, none⟩) B B] (show w.heap.size + 2 ≠ q by omega)) (by rw [pad_len]; omega)
    rw [pad_len] at this
    exact this
  · have hd0 : decide (0 < (B : Int)) = false := decide_eq_false (by omega)
    go_wp2_with (first
      | (refine wpList_loadR rfl 27 _ rfl (w.heap.size + 3) rfl 27 #[.slice (some ⟨g, 0, none⟩) 1 1, .slice none 0 0] ?_ agDv ?_; with_reducible exact r3)
      | (refine wpList_storeR rfl 27 _ _ rfl (w.heap.size + 2) rfl #[.slice (some ⟨g, 0, none⟩) 1 1, .slice none 0 0] rfl (dev2_one _ _ _ _ _ _) 27 #[.slice none 0 0, .slice none 0 0] rfl ?_ agDv ?_; with_reducible exact r2))
    refine bodyPost_ret (resultsR rfl (w.heap.size + 2) _ rfl (rowB_row r2 _) agDv) rfl ?_
    obtain rfl : B = 0 := by omega
    exact ⟨_, rfl, ⟨_, _, rfl, numB_arg (l := [bk]) (rowB_row_other rg _ (show w.heap.size + 2 ≠ g by omega)) (by show 1 ≤ 9223372036854775807; decide), .inl ⟨none, 0, rfl, rfl⟩⟩, below_rowR bV _ (by omega)⟩
end Go.Proofs.YtakaebjojgeehaaGreat
