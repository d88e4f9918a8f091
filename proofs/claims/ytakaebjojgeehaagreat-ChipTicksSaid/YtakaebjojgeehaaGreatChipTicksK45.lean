/- A part of the proof of ChipTicks: DevFormD. -/
import Derived.Test.YtakaebjojgeehaaGreatChipTicksK01
import Derived.Test.YtakaebjojgeehaaGreatChipTicksK02
import Derived.Test.YtakaebjojgeehaaGreatChipTicksK04
import Derived.Test.YtakaebjojgeehaaGreatChipTicksK05
import Derived.Test.YtakaebjojgeehaaGreatChipTicksK06
import Derived.Test.YtakaebjojgeehaaGreatChipTicksK09
import Derived.Test.YtakaebjojgeehaaGreatChipTicksK12
import Derived.Test.YtakaebjojgeehaaGreatChipTicksK16
import Derived.Below
import Derived.BigQuiet
import Derived.ChangeMaps5
import Derived.Deep.DeepCutAuto
import Derived.Deep.Draws
import Derived.Deep.MidRow
import Derived.Deep.OwnRows
import Derived.Deep.QuietTactic
import Derived.Deep.RegionHeld3
import Derived.Deep.RegionWith
import Derived.Deep.Slices
import Derived.Deep.WholeRow
import Derived.Laws.CopyOwn
import Derived.Lib.Hide
import Derived.Lib.SmallJoins
import Derived.OpenShut
import Derived.OrdersHeld
import Derived.OwnWalk
import Derived.RowKit3
import Derived.StillTactics
import Derived.StillTail
import Derived.StillTailTactics
import Derived.Test.YtakaebjojgeehaaGreatChecked
import Derived.WalkKit
namespace Go.Proofs.YtakaebjojgeehaaGreat
open Go.RowKit
set_option maxRecDepth 100000
def msDrv : List Int := [256, 4, 8, 4, 16, 64, 256, 2, 2, 2]
/-- What Formed has made so far: the numbers, and no bytes. -/
structure formD (w w' : World) (va vm : Value) (g : Nat) (ns : List Int) : Prop where
  r1 : rowB w' (w.heap.size + 1) 27 #[va, vm]
  r2 : rowB w' (w.heap.size + 2) 27 #[.slice none 0 0, .slice none 0 0]
  r3 : rowB w' (w.heap.size + 3) 27 #[.slice (some ⟨g, 0, none⟩) 10 10, .slice none 0 0]
  hg : w.heap.size + 4 ≤ g
  hr : rowB w' g 3 (nums ns)
  bel : Below w.heap.size w w'
  lt : w.heap.size + 4 ≤ w'.heap.size
theorem formD.set {w w' : World} {va vm : Value} {g : Nat} {ns : List Int} (h : formD w w' va vm g ns) (i : Nat) (x : Int) : formD w (w'.setCell ⟨g, i, none⟩ (.int .i64 x)) va vm g (ns.set i x) := by
  have hg := h.hg
  refine ⟨rowB_other h.r1 _ _ (by show g ≠ _; omega), rowB_other h.r2 _ _ (by show g ≠ _; omega), rowB_other h.r3 _ _ (by show g ≠ _; omega), hg, ?_, Below.setCell h.bel (p := ⟨g, i, none⟩) (by show _ ≤ g; omega) _, ?_⟩
  · rw [← nums_set]; exact rowB_set h.hr i _
  · have := h.lt
    have := World.size_setCell w' ⟨g, i, none⟩ (.int .i64 x)
    omega
set_option maxHeartbeats 4000000 in
theorem formedDrv_any (nm : ByteArray) (b z : Int) (dat v vm : Value) (l lb : List Int) (w : World) (h : isArg w v l) (hm : isByt w vm lb) (hL : lb.length ≤ 140737488351232) :
    Calls Tryz.prog 6 #[.agg (chip5 nm 8 b z dat), .agg #[v, vm]] w fun e w' => ∃ u, e = .returned u ∧ devD w.heap.size w' u (Dr.of l lb) ∧ Below w.heap.size w w' := by
  dsimp only [chip5]
  obtain ⟨a, cap, rfl, hf⟩ := isArg_form h
  clear hf
  obtain ⟨B, hB⟩ : ∃ B, lb.length / 256 * 256 = B := ⟨_, rfl⟩
  have hBL : B ≤ lb.length := by omega
  obtain ⟨Q, hQ⟩ : ∃ Q : Int, (lb.length : Int).tdiv 256 = Q := ⟨_, rfl⟩
  have hQB : Q * 256 = (B : Int) := by
    rw [← hQ, Int.tdiv_eq_ediv_of_nonneg (by omega)]
    omega
  have wQ0 : wrap64 Q = Q := IntWalk.wrap64_in _ (by omega)
  have wQ : wrap64 (Q * 256) = (B : Int) := (IntWalk.wrap64_in _ (by omega)).trans hQB
  obtain ⟨x0, hx0⟩ : ∃ x, l.getD 0 0 % 256 = x := ⟨_, rfl⟩
  obtain ⟨x1, hx1⟩ : ∃ x, l.getD 1 0 % 4 = x := ⟨_, rfl⟩
  obtain ⟨x2, hx2⟩ : ∃ x, l.getD 2 0 % 8 = x := ⟨_, rfl⟩
  obtain ⟨x3, hx3⟩ : ∃ x, l.getD 3 0 % 4 = x := ⟨_, rfl⟩
  obtain ⟨x4, hx4⟩ : ∃ x, l.getD 4 0 % 16 = x := ⟨_, rfl⟩
  obtain ⟨x5, hx5⟩ : ∃ x, l.getD 5 0 % 64 = x := ⟨_, rfl⟩
  obtain ⟨x6, hx6⟩ : ∃ x, l.getD 6 0 % 256 = x := ⟨_, rfl⟩
  obtain ⟨x7, hx7⟩ : ∃ x, l.getD 7 0 % 2 = x := ⟨_, rfl⟩
  obtain ⟨x8, hx8⟩ : ∃ x, l.getD 8 0 % 2 = x := ⟨_, rfl⟩
  obtain ⟨x9, hx9⟩ : ∃ x, l.getD 9 0 % 2 = x := ⟨_, rfl⟩
  have hN : fmN l msDrv 10 = [x0, x1, x2, x3, x4, x5, x6, x7, x8, x9] := by subst hx0 hx1 hx2 hx3 hx4 hx5 hx6 hx7 hx8 hx9; rfl
  obtain ⟨K, hK⟩ : ∃ K : Int, (if (B : Int) < x0 * 256 then 0 else x0) = K := ⟨_, rfl⟩
  obtain ⟨C, hC⟩ : ∃ C : Int, (if 4 < x2 then 0 else x2) = C := ⟨_, rfl⟩
  have hR : Dr.of l lb = ⟨K, x1, C, x3, x4, x5, x6, x7, x8, x9, lb.take B⟩ := by
    have e : drM lb = lb.take B := by unfold drM; rw [hB]
    have e2 : ((lb.take B).length : Int) = B := by rw [List.length_take, Nat.min_eq_left hBL]
    unfold Dr.of
    rw [e, e2, hx0, hx1, hx2, hx3, hx4, hx5, hx6, hx7, hx8, hx9, hK, hC]
  rw [hR]
  have bx0 : 0 ≤ x0 ∧ x0 < 256 := by omega
  have bx2 : 0 ≤ x2 ∧ x2 < 8 := by omega
  have w0 : wrap64 (x0 * 256) = x0 * 256 := IntWalk.wrap64_in _ (by omega)
  clear hR hx0 hx1 hx2 hx3 hx4 hx5 hx6 hx7 hx8 hx9 hQB
  obtain ⟨sp, sc, rfl, _⟩ := isByt_src hm B
  obtain ⟨q0, q1, q2, q3, bX, sX⟩ := boxes4 w (.cells #[.string nm, .int .i64 8, .int .i64 b, .int .i64 z, dat] 24) (.cells #[.slice a l.length cap, .slice sp lb.length sc] 27) (.cells #[.slice none 0 0, .slice none 0 0] 27) (.cells #[.slice none 0 0, .slice none 0 0] 27)
  have hA := isArg_below h bX (Nat.le_refl _)
  have q1 : rowB _ _ _ _ := q1
  have q2 : rowB _ _ _ _ := q2
  have q3 : rowB _ _ _ _ := q3
  clear h q0
  go_enter Tryz.func6, Tryz.ntmps6
  go_upto_region 26 with (fail)
  rw [wQ]
  change Code.wp _ _ _ _ ((((w.alloc (.cells #[.string nm, .int .i64 8, .int .i64 b, .int .i64 z, dat] 24)).alloc (.cells #[.slice a l.length cap, .slice sp lb.length sc] 27)).alloc (.cells #[.slice none 0 0, .slice none 0 0] 27)).alloc (.cells #[.slice none 0 0, .slice none 0 0] 27))
  generalize ((((w.alloc (.cells #[.string nm, .int .i64 8, .int .i64 b, .int .i64 z, dat] 24)).alloc (.cells #[.slice a l.length cap, .slice sp lb.length sc] 27)).alloc (.cells #[.slice none 0 0, .slice none 0 0] 27)).alloc (.cells #[.slice none 0 0, .slice none 0 0] 27)) = w1 at *
  clear wQ wQ0 hQ
  have lX : w.heap.size + 4 ≤ w1.heap.size := by omega
  clear sX
  have x0' := rowB_new w1 3 #[.int .i64 256, .int .i64 4, .int .i64 8, .int .i64 4, .int .i64 16, .int .i64 64, .int .i64 256, .int .i64 2, .int .i64 2, .int .i64 2]
  have hx := (boxes1 w1 (.cells #[.int .i64 256, .int .i64 4, .int .i64 8, .int .i64 4, .int .i64 16, .int .i64 64, .int .i64 256, .int .i64 2, .int .i64 2, .int .i64 2] 3)).2.1
  have sx := Nat.le_of_eq (World.size_alloc w1 (.cells #[.int .i64 256, .int .i64 4, .int .i64 8, .int .i64 4, .int .i64 16, .int .i64 64, .int .i64 256, .int .i64 2, .int .i64 2, .int .i64 2] 3)).symm
  have hF := form_any _ (.slice sp lb.length sc) _ l msDrv _ (isArg_below hA hx (Nat.le_refl _)) (numB_arg (l := msDrv) x0' (by decide)) (by decide) (by decide)
  have p1 := rowB_alloc q1 (.cells #[.int .i64 256, .int .i64 4, .int .i64 8, .int .i64 4, .int .i64 16, .int .i64 64, .int .i64 256, .int .i64 2, .int .i64 2, .int .i64 2] 3)
  have p2 := rowB_alloc q2 (.cells #[.int .i64 256, .int .i64 4, .int .i64 8, .int .i64 4, .int .i64 16, .int .i64 64, .int .i64 256, .int .i64 2, .int .i64 2, .int .i64 2] 3)
  have p3 := rowB_alloc q3 (.cells #[.int .i64 256, .int .i64 4, .int .i64 8, .int .i64 4, .int .i64 16, .int .i64 64, .int .i64 256, .int .i64 2, .int .i64 2, .int .i64 2] 3)
  have bY := bX.alloc (by omega) (.cells #[.int .i64 256, .int .i64 4, .int .i64 8, .int .i64 4, .int .i64 16, .int .i64 64, .int .i64 256, .int .i64 2, .int .i64 2, .int .i64 2] 3)
  clear x0' hA hx bX
  rw [show msDrv.length = 10 from rfl, hN] at hF
  clear hN
  go_upto_region 27 with (first
    | (go_at_call 21; refine hF.mono ?_; rintro e w2 ⟨g, rfl, hg, hr, hb⟩; have r3 := rowB_below p3 hb (rowB_lt p3); obtain ⟨d0, d1, y0, y1⟩ := dcells2 r3)
    | (refine wpList_loadR rfl 27 _ rfl (w.heap.size + 1) rfl 27 #[.slice a l.length cap, .slice sp lb.length sc] ?_ agDv ?_; with_reducible exact q1))
  change Code.wp _ _ _ _ (w2.setCell ⟨w.heap.size + 3, 0, none⟩ (.slice (some ⟨g, 0, none⟩) 10 10))
  have hFD : formD w (w2.setCell ⟨w.heap.size + 3, 0, none⟩ (.slice (some ⟨g, 0, none⟩) 10 10)) (.slice a l.length cap) (.slice sp lb.length sc) g [x0, x1, x2, x3, x4, x5, x6, x7, x8, x9] := by
    refine ⟨rowB_other (rowB_below p1 hb (rowB_lt p1)) _ _ (by show w.heap.size + 3 ≠ _; omega), rowB_other (rowB_below p2 hb (rowB_lt p2)) _ _ (by show w.heap.size + 3 ≠ _; omega), rowB_set r3 0 _, by omega, rowB_other hr _ _ (by show w.heap.size + 3 ≠ g; omega), Below.setCell (bY.trans (hb.mono bY.size)) (p := ⟨w.heap.size + 3, 0, none⟩) (by show _ ≤ w.heap.size + 3; omega) _, ?_⟩
    have := hb.size
    have := World.size_setCell w2 ⟨w.heap.size + 3, 0, none⟩ (.slice (some ⟨g, 0, none⟩) 10 10)
    omega
  generalize w2.setCell ⟨w.heap.size + 3, 0, none⟩ (.slice (some ⟨g, 0, none⟩) 10 10) = w3 at *
  clear d0 d1 y0 y1 hb hF p1 p2 p3 bY hg q1 q2 q3 lX sx hr r3
  obtain ⟨X1, hX1⟩ : ∃ X1, X1 = (lb.take B).map (Value.int .u8) := ⟨_, rfl⟩
  obtain ⟨Z1, hZ1⟩ : ∃ Z1, Z1 = (List.replicate B (0 : Int)).map (Value.int .u8) := ⟨_, rfl⟩
  have hsp : (splice Z1 0 X1).toArray = byts (lb.take B) := by rw [hX1, hZ1]; exact splice_take B lb hBL
  have hXl : X1.length = Nat.min lb.length B := by rw [hX1, List.length_map, List.length_take]; exact Nat.min_comm _ _
  have hX1c : ∀ x ∈ X1, x.oneCell' = true := fun x hx => by
    rw [hX1] at hx
    obtain ⟨y, _, rfl⟩ := List.mem_map.1 hx
    rfl
  have hZl : Z1.length = B := by rw [hZ1]; simp
  have hZa : madeCells #[.int .u8 0] B = Z1.toArray := by rw [made_byts, hZ1]; rfl
  have hfit : 0 + X1.length ≤ Z1.length := by rw [hZl, hXl, Nat.zero_add]; exact Nat.min_le_right lb.length B
  have hTl : (lb.take B).length = B := by rw [List.length_take, Nat.min_eq_left hBL]
  obtain ⟨ii, i1, i2, i3, i4⟩ := infoBt
  have hsz : (Tryz.prog.info? 5).map (·.size) = some 1 := by rw [i1]; exact congrArg some i3
  have HSP := Lib.hid hsp
  have HXL := Lib.hid hXl
  have HX1C := Lib.hid hX1c
  have HFIT := Lib.hid hfit
  have HX := Lib.hid hX1
  have HZA := Lib.hid hZa
  have HTL := Lib.hid hTl
  clear hsp hXl hX1c hfit hX1 hZa hZ1 hZl hTl hB
  obtain ⟨dd, hdd⟩ : ∃ d, decide ((B : Int) < x0 * 256) = d := ⟨_, rfl⟩
  obtain ⟨de, hde⟩ : ∃ d, decide (4 < x2) = d := ⟨_, rfl⟩
  have c0 := (drCells hFD.hr).1.1
  have c2 := (drCells hFD.hr).1.2.2.1
  have z0 := (drCells hFD.hr).2.1
  have z2 := (drCells hFD.hr).2.2.2.1
  obtain ⟨f0, f1, _, _⟩ := dcells2 hFD.r3
  go_upto_if 85 with fail
  go_cut [] (fun wx => formD w wx (.slice a l.length cap) (.slice sp lb.length sc) g [K, x1, x2, x3, x4, x5, x6, x7, x8, x9])
  case first =>
    cases dd with
    | true =>
      have HF : Hid (formD w (w3.setCell ⟨g, 0, none⟩ (.int .i64 0)) (.slice a l.length cap) (.slice sp lb.length sc) g [K, x1, x2, x3, x4, x5, x6, x7, x8, x9]) := Lib.hid (by rw [← hK, if_pos (of_decide_eq_true hdd)]; exact hFD.set 0 0)
      go_wp2_with fail
      go_meet
      case rel => exact HF.out
    | false =>
      have HF : Hid (formD w w3 (.slice a l.length cap) (.slice sp lb.length sc) g [K, x1, x2, x3, x4, x5, x6, x7, x8, x9]) := Lib.hid (by rw [← hK, if_neg (of_decide_eq_false hdd)]; exact hFD)
      go_wp2_with fail
      go_meet
      case rel => exact HF.out
  case rest =>
    clear hFD c0 c2 z0 z2 f0 f1
    have hFD : formD w wc (.slice a l.length cap) (.slice sp lb.length sc) g [K, x1, x2, x3, x4, x5, x6, x7, x8, x9] := hcut
    clear hcut
    have c2 := (drCells hFD.hr).1.2.2.1
    have z2 := (drCells hFD.hr).2.2.2.1
    obtain ⟨f0, f1, _, _⟩ := dcells2 hFD.r3
    cases de with
    | true =>
      go_upto_region 31 with fail
      have hFE : formD w (wc.setCell ⟨g, 2, none⟩ (.int .i64 0)) (.slice a l.length cap) (.slice sp lb.length sc) g [K, x1, C, x3, x4, x5, x6, x7, x8, x9] := by rw [← hC, if_pos (of_decide_eq_true hde)]; exact hFD.set 2 0
      change Code.wp _ _ _ _ (wc.setCell ⟨g, 2, none⟩ (.int .i64 0))
      generalize wc.setCell ⟨g, 2, none⟩ (.int .i64 0) = w4 at *
      clear hFD c2 z2 f0 f1
      have lg := hFE.hg
      obtain ⟨f0, f1, y0, y1⟩ := dcells2 hFE.r3
      by_cases hB0 : 0 < B
      · have hd0 : decide (0 < (B : Int)) = true := decide_eq_true (by omega)
        have r1 := rowB_alloc hFE.r1 (.cells Z1.toArray 5)
        have r2 := rowB_alloc hFE.r2 (.cells Z1.toArray 5)
        have r3 := rowB_alloc hFE.r3 (.cells Z1.toArray 5)
        have rg := rowB_alloc hFE.hr (.cells Z1.toArray 5)
        have n0 := rowB_new w4 5 Z1.toArray
        have bV := hFE.bel.alloc hFE.bel.size (.cells Z1.toArray 5)
        have lt := hFE.lt
        have lq := rowB_lt hFE.hr
        obtain ⟨q, hq⟩ : ∃ q, w4.heap.size = q := ⟨_, rfl⟩
        have HQ := Lib.hid hq
        rw [hq] at n0 lq lt
        clear hq hFE f0 f1 y0 y1
        obtain ⟨f0, f1, y0, y1⟩ := dcells2 r3
        go_upto_region 33 with (at_make; refine wpList_make_row _ rfl _ _ _ rfl 5 ii (.int .u8 0) Tryz.underlying22 i1 i2 i3 rfl _ _ B rfl rfl (by rw [i4]; omega) (by omega) ?_; rw [HZA.out, HQ.out])
        change Code.wp _ _ _ _ ((w4.alloc (.cells Z1.toArray 5)).setCell ⟨w.heap.size + 3, 1, none⟩ (.slice (some ⟨q, 0, none⟩) B B))
        generalize w4.alloc (.cells Z1.toArray 5) = w5 at *
        replace r1 := rowB_other r1 ⟨w.heap.size + 3, 1, none⟩ (.slice (some ⟨q, 0, none⟩) B B) (by show w.heap.size + 3 ≠ _; omega)
        replace r2 := rowB_other r2 ⟨w.heap.size + 3, 1, none⟩ (.slice (some ⟨q, 0, none⟩) B B) (by show w.heap.size + 3 ≠ _; omega)
        replace r3 : rowB _ (w.heap.size + 3) 27 #[.slice (some ⟨g, 0, none⟩) 10 10, .slice (some ⟨q, 0, none⟩) B B] := rowB_set r3 1 (.slice (some ⟨q, 0, none⟩) B B)
        replace rg := rowB_other rg ⟨w.heap.size + 3, 1, none⟩ (.slice (some ⟨q, 0, none⟩) B B) (by show w.heap.size + 3 ≠ g; omega)
        replace n0 := rowB_other n0 ⟨w.heap.size + 3, 1, none⟩ (.slice (some ⟨q, 0, none⟩) B B) (by show w.heap.size + 3 ≠ q; omega)
        replace bV := Below.setCell bV (p := ⟨w.heap.size + 3, 1, none⟩) (by show _ ≤ w.heap.size + 3; omega) (.slice (some ⟨q, 0, none⟩) B B)
        generalize w5.setCell ⟨w.heap.size + 3, 1, none⟩ (.slice (some ⟨q, 0, none⟩) B B) = w6 at *
        clear f0 f1 y0 y1
        obtain ⟨sp', sc', e', hsrc⟩ := isByt_src (isByt_below hm bV (Nat.le_refl _)) B
        cases e'
        rw [← HX.out] at hsrc
        have HSRC := Lib.hid hsrc
        clear hsrc
        obtain ⟨d0, d1, _, _⟩ := dcells2 r1
        obtain ⟨f0, f1, _, _⟩ := dcells2 r3
        go_upto_region 34 with (refine wpList_copy_splice (o := ⟨some 106, _, _, _, _, _⟩) rfl _ _ 22 22 rfl 5 Tryz.underlying22 hsz (some ⟨q, 0, none⟩) sp B B lb.length sc rfl rfl q 0 Z1 5 n0 X1 HXL.out (fun hp => ⟨rfl, HSRC.out hp⟩) HFIT.out HX1C.out q w6 (Below.refl q w6) (Nat.le_refl _) ?_; intro w7 HG hb6; have t3 := rowB_below r3 hb6 (by omega); have t2 := rowB_below r2 hb6 (by omega))
        have bU := bV.trans (hb6.mono (by omega))
        have t0 : rowB w7 q 5 (byts (lb.take B)) := by
          have := HG.out
          rw [HSP.out] at this
          exact this
        have tg := rowB_below rg hb6 lq
        clear HG hb6 HSRC d0 d1 f0 f1 r1 r2 r3 rg n0 bV
        go_wp2_with (first
          | (refine wpList_loadR rfl 27 _ rfl (w.heap.size + 3) rfl 27 #[.slice (some ⟨g, 0, none⟩) 10 10, .slice (some ⟨q, 0, none⟩) B B] ?_ agDv ?_; with_reducible exact t3)
          | (refine wpList_storeR rfl 27 _ _ rfl (w.heap.size + 2) rfl #[.slice (some ⟨g, 0, none⟩) 10 10, .slice (some ⟨q, 0, none⟩) B B] rfl (dev2_one _ _ _ _ _ _) 27 #[.slice none 0 0, .slice none 0 0] rfl ?_ agDv ?_; with_reducible exact t2))
        refine bodyPost_ret (resultsR rfl (w.heap.size + 2) _ rfl (rowB_row t2 _) agDv) rfl ?_
        refine ⟨_, rfl, ⟨g, some ⟨q, 0, none⟩, ?_, by omega, rowB_row_other tg _ (show w.heap.size + 2 ≠ g by omega), .inr ⟨q, rfl, by omega, by omega, rowB_row_other t0 _ (show w.heap.size + 2 ≠ q by omega)⟩⟩, below_rowR bU _ (by omega)⟩
        show Value.agg _ = .agg #[_, .slice _ (lb.take B).length (lb.take B).length]
        rw [HTL.out]
      · have hd0 : decide (0 < (B : Int)) = false := decide_eq_false (by omega)
        have r2 := hFE.r2
        have r3 := hFE.r3
        go_wp2_with (first
          | (refine wpList_loadR rfl 27 _ rfl (w.heap.size + 3) rfl 27 #[.slice (some ⟨g, 0, none⟩) 10 10, .slice none 0 0] ?_ agDv ?_; with_reducible exact r3)
          | (refine wpList_storeR rfl 27 _ _ rfl (w.heap.size + 2) rfl #[.slice (some ⟨g, 0, none⟩) 10 10, .slice none 0 0] rfl (dev2_one _ _ _ _ _ _) 27 #[.slice none 0 0, .slice none 0 0] rfl ?_ agDv ?_; with_reducible exact r2))
        refine bodyPost_ret (resultsR rfl (w.heap.size + 2) _ rfl (rowB_row r2 _) agDv) rfl ?_
        obtain rfl : B = 0 := by omega
        exact ⟨_, rfl, ⟨g, none, rfl, by omega, rowB_row_other hFE.hr _ (show w.heap.size + 2 ≠ g by omega), .inl ⟨rfl, rfl⟩⟩, below_rowR hFE.bel _ (by omega)⟩
    | false =>
      go_upto_region 31 with fail
      have hFE : formD w wc (.slice a l.length cap) (.slice sp lb.length sc) g [K, x1, C, x3, x4, x5, x6, x7, x8, x9] := by rw [← hC, if_neg (of_decide_eq_false hde)]; exact hFD
      obtain ⟨w4, hw4⟩ : ∃ z, z = wc := ⟨_, rfl⟩
      rw [← hw4] at hFE
      rw [← hw4]
      clear hFD c2 z2 f0 f1 hw4
      have lg := hFE.hg
      obtain ⟨f0, f1, y0, y1⟩ := dcells2 hFE.r3
      by_cases hB0 : 0 < B
      · have hd0 : decide (0 < (B : Int)) = true := decide_eq_true (by omega)
        have r1 := rowB_alloc hFE.r1 (.cells Z1.toArray 5)
        have r2 := rowB_alloc hFE.r2 (.cells Z1.toArray 5)
        have r3 := rowB_alloc hFE.r3 (.cells Z1.toArray 5)
        have rg := rowB_alloc hFE.hr (.cells Z1.toArray 5)
        have n0 := rowB_new w4 5 Z1.toArray
        have bV := hFE.bel.alloc hFE.bel.size (.cells Z1.toArray 5)
        have lt := hFE.lt
        have lq := rowB_lt hFE.hr
        obtain ⟨q, hq⟩ : ∃ q, w4.heap.size = q := ⟨_, rfl⟩
        have HQ := Lib.hid hq
        rw [hq] at n0 lq lt
        clear hq hFE f0 f1 y0 y1
        obtain ⟨f0, f1, y0, y1⟩ := dcells2 r3
        go_upto_region 33 with (at_make; refine wpList_make_row _ rfl _ _ _ rfl 5 ii (.int .u8 0) Tryz.underlying22 i1 i2 i3 rfl _ _ B rfl rfl (by rw [i4]; omega) (by omega) ?_; rw [HZA.out, HQ.out])
        change Code.wp _ _ _ _ ((w4.alloc (.cells Z1.toArray 5)).setCell ⟨w.heap.size + 3, 1, none⟩ (.slice (some ⟨q, 0, none⟩) B B))
        generalize w4.alloc (.cells Z1.toArray 5) = w5 at *
        replace r1 := rowB_other r1 ⟨w.heap.size + 3, 1, none⟩ (.slice (some ⟨q, 0, none⟩) B B) (by show w.heap.size + 3 ≠ _; omega)
        replace r2 := rowB_other r2 ⟨w.heap.size + 3, 1, none⟩ (.slice (some ⟨q, 0, none⟩) B B) (by show w.heap.size + 3 ≠ _; omega)
        replace r3 : rowB _ (w.heap.size + 3) 27 #[.slice (some ⟨g, 0, none⟩) 10 10, .slice (some ⟨q, 0, none⟩) B B] := rowB_set r3 1 (.slice (some ⟨q, 0, none⟩) B B)
        replace rg := rowB_other rg ⟨w.heap.size + 3, 1, none⟩ (.slice (some ⟨q, 0, none⟩) B B) (by show w.heap.size + 3 ≠ g; omega)
        replace n0 := rowB_other n0 ⟨w.heap.size + 3, 1, none⟩ (.slice (some ⟨q, 0, none⟩) B B) (by show w.heap.size + 3 ≠ q; omega)
        replace bV := Below.setCell bV (p := ⟨w.heap.size + 3, 1, none⟩) (by show _ ≤ w.heap.size + 3; omega) (.slice (some ⟨q, 0, none⟩) B B)
        generalize w5.setCell ⟨w.heap.size + 3, 1, none⟩ (.slice (some ⟨q, 0, none⟩) B B) = w6 at *
        clear f0 f1 y0 y1
        obtain ⟨sp', sc', e', hsrc⟩ := isByt_src (isByt_below hm bV (Nat.le_refl _)) B
        cases e'
        rw [← HX.out] at hsrc
        have HSRC := Lib.hid hsrc
        clear hsrc
        obtain ⟨d0, d1, _, _⟩ := dcells2 r1
        obtain ⟨f0, f1, _, _⟩ := dcells2 r3
        go_upto_region 34 with (refine wpList_copy_splice (o := ⟨some 106, _, _, _, _, _⟩) rfl _ _ 22 22 rfl 5 Tryz.underlying22 hsz (some ⟨q, 0, none⟩) sp B B lb.length sc rfl rfl q 0 Z1 5 n0 X1 HXL.out (fun hp => ⟨rfl, HSRC.out hp⟩) HFIT.out HX1C.out q w6 (Below.refl q w6) (Nat.le_refl _) ?_; intro w7 HG hb6; have t3 := rowB_below r3 hb6 (by omega); have t2 := rowB_below r2 hb6 (by omega))
        have bU := bV.trans (hb6.mono (by omega))
        have t0 : rowB w7 q 5 (byts (lb.take B)) := by
          have := HG.out
          rw [HSP.out] at this
          exact this
        have tg := rowB_below rg hb6 lq
        clear HG hb6 HSRC d0 d1 f0 f1 r1 r2 r3 rg n0 bV
        go_wp2_with (first
          | (refine wpList_loadR rfl 27 _ rfl (w.heap.size + 3) rfl 27 #[.slice (some ⟨g, 0, none⟩) 10 10, .slice (some ⟨q, 0, none⟩) B B] ?_ agDv ?_; with_reducible exact t3)
          | (refine wpList_storeR rfl 27 _ _ rfl (w.heap.size + 2) rfl #[.slice (some ⟨g, 0, none⟩) 10 10, .slice (some ⟨q, 0, none⟩) B B] rfl (dev2_one _ _ _ _ _ _) 27 #[.slice none 0 0, .slice none 0 0] rfl ?_ agDv ?_; with_reducible exact t2))
        refine bodyPost_ret (resultsR rfl (w.heap.size + 2) _ rfl (rowB_row t2 _) agDv) rfl ?_
        refine ⟨_, rfl, ⟨g, some ⟨q, 0, none⟩, ?_, by omega, rowB_row_other tg _ (show w.heap.size + 2 ≠ g by omega), .inr ⟨q, rfl, by omega, by omega, rowB_row_other t0 _ (show w.heap.size + 2 ≠ q by omega)⟩⟩, below_rowR bU _ (by omega)⟩
        show Value.agg _ = .agg #[_, .slice _ (lb.take B).length (lb.take B).length]
        rw [HTL.out]
      · have hd0 : decide (0 < (B : Int)) = false := decide_eq_false (by omega)
        have r2 := hFE.r2
        have r3 := hFE.r3
        go_wp2_with (first
          | (refine wpList_loadR rfl 27 _ rfl (w.heap.size + 3) rfl 27 #[.slice (some ⟨g, 0, none⟩) 10 10, .slice none 0 0] ?_ agDv ?_; with_reducible exact r3)
          | (refine wpList_storeR rfl 27 _ _ rfl (w.heap.size + 2) rfl #[.slice (some ⟨g, 0, none⟩) 10 10, .slice none 0 0] rfl (dev2_one _ _ _ _ _ _) 27 #[.slice none 0 0, .slice none 0 0] rfl ?_ agDv ?_; with_reducible exact r2))
        refine bodyPost_ret (resultsR rfl (w.heap.size + 2) _ rfl (rowB_row r2 _) agDv) rfl ?_
        obtain rfl : B = 0 := by omega
        exact ⟨_, rfl, ⟨g, none, rfl, by omega, rowB_row_other hFE.hr _ (show w.heap.size + 2 ≠ g by omega), .inl ⟨rfl, rfl⟩⟩, below_rowR hFE.bel _ (by omega)⟩
end Go.Proofs.YtakaebjojgeehaaGreat
