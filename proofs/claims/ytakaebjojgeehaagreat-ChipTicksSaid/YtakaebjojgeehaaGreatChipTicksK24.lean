/- A part of the proof of ChipTicks: DevFormV. -/
import Derived.Test.YtakaebjojgeehaaGreatChipTicksK01
import Derived.Test.YtakaebjojgeehaaGreatChipTicksK02
import Derived.Test.YtakaebjojgeehaaGreatChipTicksK04
import Derived.Test.YtakaebjojgeehaaGreatChipTicksK05
import Derived.Test.YtakaebjojgeehaaGreatChipTicksK06
import Derived.Test.YtakaebjojgeehaaGreatChipTicksK09
import Derived.Test.YtakaebjojgeehaaGreatChipTicksK12
import Derived.Test.YtakaebjojgeehaaGreatChipTicksK16
import Derived.Below
import Derived.BigQuiet
import Derived.ChangeMaps5
import Derived.Deep.DeepCutAuto
import Derived.Deep.Draws
import Derived.Deep.MidRow
import Derived.Deep.OwnRows
import Derived.Deep.QuietTactic
import Derived.Deep.RegionHeld3
import Derived.Deep.RegionWith
import Derived.Deep.Slices
import Derived.Deep.WholeRow
import Derived.Laws.CopyOwn
import Derived.Lib.Hide
import Derived.Lib.SmallJoins
import Derived.OpenShut
import Derived.OrdersHeld
import Derived.OwnWalk
import Derived.RowKit3
import Derived.StillTactics
import Derived.StillTail
import Derived.StillTailTactics
import Derived.Test.YtakaebjojgeehaaGreatChecked
import Derived.WalkKit
namespace Go.Proofs.YtakaebjojgeehaaGreat
open Go.RowKit
set_option maxRecDepth 100000
def msVid : List Int := [2560, 2]
set_option maxHeartbeats 2000000 in
theorem formedVid_any (nm : ByteArray) (b z : Int) (dat v vm : Value) (l lb : List Int) (w : World) (h : isArg w v l) (hm : isByt w vm lb) :
    Calls Tryz.prog 6 #[.agg (chip5 nm 6 b z dat), .agg #[v, vm]] w fun e w' => ∃ u, e = .returned u ∧ devB w.heap.size w' u (fmN (vidL l) msVid 2) (pad 32 lb) ∧ Below w.heap.size w w' := by
  dsimp only [chip5]
  obtain ⟨ii, i1, i2, i3, i4⟩ := infoBt
  have hsz : (Tryz.prog.info? 5).map (·.size) = some 1 := by rw [i1]; exact congrArg some i3
  obtain ⟨X1, hX1⟩ : ∃ X1, X1 = (lb.take 32).map (Value.int .u8) := ⟨_, rfl⟩
  obtain ⟨Z1, hZ1⟩ : ∃ Z1, Z1 = (List.replicate 32 (0 : Int)).map (Value.int .u8) := ⟨_, rfl⟩
  have hsp : (splice Z1 0 X1).toArray = byts (pad 32 lb) := by rw [hX1, hZ1]; exact splice_pad 32 lb
  have hXl : X1.length = Nat.min lb.length 32 := by rw [hX1, List.length_map, List.length_take]; exact Nat.min_comm _ _
  have hX1c : ∀ x ∈ X1, x.oneCell' = true := fun x hx => by
    rw [hX1] at hx
    obtain ⟨y, _, rfl⟩ := List.mem_map.1 hx
    rfl
  have hZl : Z1.length = 32 := by rw [hZ1]; simp
  have hZa : madeCells #[.int .u8 0] 32 = Z1.toArray := by rw [made_byts, hZ1]; rfl
  have hfit : 0 + X1.length ≤ Z1.length := by rw [hZl, hXl, Nat.zero_add]; exact Nat.min_le_right lb.length 32
  have HSP := Lib.hid hsp
  have HXL := Lib.hid hXl
  have HX1C := Lib.hid hX1c
  have HFIT := Lib.hid hfit
  have HX := Lib.hid hX1
  have HZA := Lib.hid hZa
  clear hsp hXl hX1c hfit hX1 hZa hZ1 hZl
  obtain ⟨a, cap, rfl, hf⟩ := isArg_form h
  have hl0 : ((l.length : Int) == 0) = decide (l = []) := by
    by_cases hl : l = []
    · subst hl; rfl
    · rw [decide_eq_false hl]
      have : l.length ≠ 0 := fun h => hl (List.eq_nil_of_length_eq_zero h)
      exact beq_eq_false_iff_ne.2 (by omega)
  clear hf
  by_cases hl : l = []
  · subst hl
    rw [show vidL [] = [2559] from rfl]
    obtain ⟨q0, q1, q2, q3, q4, bX, sX⟩ := boxes5 w (.cells #[.string nm, .int .i64 6, .int .i64 b, .int .i64 z, dat] 24) (.cells #[.slice (some ⟨w.heap.size + 4, 0, none⟩) 1 1, vm] 27) (.cells #[.slice none 0 0, .slice none 0 0] 27) (.cells #[.slice none 0 0, .slice none 0 0] 27) (.cells #[.int .i64 2559] 3)
    have q4 : rowB _ _ _ _ := q4
    have hA : isArg _ (.slice (some ⟨w.heap.size + 4, 0, none⟩) 1 1) [2559] := numB_arg (l := [2559]) q4 (by decide)
    clear q4
    have q1 : rowB _ _ _ _ := q1
    have q2 : rowB _ _ _ _ := q2
    have q3 : rowB _ _ _ _ := q3
    clear h q0
    go_enter Tryz.func6, Tryz.ntmps6
    go_upto_region 21 with (fail)
    change Code.wp _ _ _ _ (((((w.alloc (.cells #[.string nm, .int .i64 6, .int .i64 b, .int .i64 z, dat] 24)).alloc (.cells #[.slice (some ⟨w.heap.size + 4, 0, none⟩) 1 1, vm] 27)).alloc (.cells #[.slice none 0 0, .slice none 0 0] 27)).alloc (.cells #[.slice none 0 0, .slice none 0 0] 27)).alloc (.cells #[.int .i64 2559] 3))
    generalize (((((w.alloc (.cells #[.string nm, .int .i64 6, .int .i64 b, .int .i64 z, dat] 24)).alloc (.cells #[.slice (some ⟨w.heap.size + 4, 0, none⟩) 1 1, vm] 27)).alloc (.cells #[.slice none 0 0, .slice none 0 0] 27)).alloc (.cells #[.slice none 0 0, .slice none 0 0] 27)).alloc (.cells #[.int .i64 2559] 3)) = w1 at *
    clear hl0
    have lX : w.heap.size + 4 ≤ w1.heap.size := by omega
    clear sX
    have x0 := rowB_new w1 3 #[.int .i64 2560, .int .i64 2]
    have hx := (boxes1 w1 (.cells #[.int .i64 2560, .int .i64 2] 3)).2.1
    have sx := Nat.le_of_eq (World.size_alloc w1 (.cells #[.int .i64 2560, .int .i64 2] 3)).symm
    have hF := form_any _ vm _ [2559] msVid _ (isArg_below hA hx (Nat.le_refl _)) (numB_arg (l := msVid) x0 (by decide)) (by decide) (by decide)
    have p1 := rowB_alloc q1 (.cells #[.int .i64 2560, .int .i64 2] 3)
    have p2 := rowB_alloc q2 (.cells #[.int .i64 2560, .int .i64 2] 3)
    have p3 := rowB_alloc q3 (.cells #[.int .i64 2560, .int .i64 2] 3)
    have bY := bX.alloc (by omega) (.cells #[.int .i64 2560, .int .i64 2] 3)
    clear x0 hA hx bX
    rw [show msVid.length = 2 from rfl] at hF
    dsimp only [msVid] at hF
    generalize hN : fmN [2559] [2560, 2] 2 = nn at *
    have HN := Lib.hid hN
    clear hN
    go_upto_region 31 with (first
      | (go_at_call 21; refine hF.mono ?_; rintro e w2 ⟨g, rfl, hg, hr, hb⟩; have r3 := rowB_below p3 hb (rowB_lt p3); obtain ⟨d0, d1, y0, y1⟩ := dcells2 r3)
      | (refine wpList_loadR rfl 27 _ rfl (w.heap.size + 1) rfl 27 #[.slice (some ⟨w.heap.size + 4, 0, none⟩) 1 1, vm] ?_ agDv ?_; with_reducible exact q1))
    change Code.wp _ _ _ _ (w2.setCell ⟨w.heap.size + 3, 0, none⟩ (.slice (some ⟨g, 0, none⟩) 2 2))
    have r1 := rowB_other (rowB_below p1 hb (rowB_lt p1)) ⟨w.heap.size + 3, 0, none⟩ (.slice (some ⟨g, 0, none⟩) 2 2) (by simp)
    have r2 := rowB_other (rowB_below p2 hb (rowB_lt p2)) ⟨w.heap.size + 3, 0, none⟩ (.slice (some ⟨g, 0, none⟩) 2 2) (by simp)
    replace r3 : rowB _ (w.heap.size + 3) 27 #[.slice (some ⟨g, 0, none⟩) 2 2, .slice none 0 0] := rowB_set r3 0 (.slice (some ⟨g, 0, none⟩) 2 2)
    replace hr := rowB_other hr ⟨w.heap.size + 3, 0, none⟩ (.slice (some ⟨g, 0, none⟩) 2 2) (by show w.heap.size + 3 ≠ g; omega)
    have bZ := Below.setCell (bY.trans (hb.mono bY.size)) (p := ⟨w.heap.size + 3, 0, none⟩) (by simp) (.slice (some ⟨g, 0, none⟩) 2 2)
    have hg3 : w.heap.size + 4 ≤ g := by omega
    have l2 : w.heap.size + 4 ≤ (w2.setCell ⟨w.heap.size + 3, 0, none⟩ (.slice (some ⟨g, 0, none⟩) 2 2)).heap.size := by have := hb.size; have := World.size_setCell w2 ⟨w.heap.size + 3, 0, none⟩ (.slice (some ⟨g, 0, none⟩) 2 2); omega
    generalize w2.setCell ⟨w.heap.size + 3, 0, none⟩ (.slice (some ⟨g, 0, none⟩) 2 2) = w3 at *
    clear d0 d1 y0 y1 hb hF p1 p2 p3 bY hg q1 q2 q3 lX sx
    obtain ⟨q, hq⟩ : ∃ q, w3.heap.size = q := ⟨_, rfl⟩
    have HQ := Lib.hid hq
    have s1 := rowB_alloc r1 (.cells Z1.toArray 5)
    have s2 := rowB_alloc r2 (.cells Z1.toArray 5)
    have s3 := rowB_alloc r3 (.cells Z1.toArray 5)
    have sr := rowB_alloc hr (.cells Z1.toArray 5)
    have n0 := rowB_new w3 5 Z1.toArray
    have bV := bZ.alloc (by omega) (.cells Z1.toArray 5)
    have lq := rowB_lt hr
    rw [hq] at n0 lq l2
    clear hq
    obtain ⟨d0, d1, y0, y1⟩ := dcells2 s3
    go_upto_region 33 with (at_make; refine wpList_make_row _ rfl _ _ _ rfl 5 ii (.int .u8 0) Tryz.underlying22 i1 i2 i3 rfl _ _ 32 rfl rfl (by rw [i4]; omega) (by omega) ?_; rw [HZA.out, HQ.out])
    change Code.wp _ _ _ _ ((w3.alloc (.cells Z1.toArray 5)).setCell ⟨w.heap.size + 3, 1, none⟩ (.slice (some ⟨q, 0, none⟩) 32 32))
    generalize w3.alloc (.cells Z1.toArray 5) = w4 at *
    replace s1 := rowB_other s1 ⟨w.heap.size + 3, 1, none⟩ (.slice (some ⟨q, 0, none⟩) 32 32) (by simp)
    replace s2 := rowB_other s2 ⟨w.heap.size + 3, 1, none⟩ (.slice (some ⟨q, 0, none⟩) 32 32) (by simp)
    replace s3 : rowB _ (w.heap.size + 3) 27 #[.slice (some ⟨g, 0, none⟩) 2 2, .slice (some ⟨q, 0, none⟩) 32 32] := rowB_set s3 1 (.slice (some ⟨q, 0, none⟩) 32 32)
    replace sr := rowB_other sr ⟨w.heap.size + 3, 1, none⟩ (.slice (some ⟨q, 0, none⟩) 32 32) (by show w.heap.size + 3 ≠ g; omega)
    replace n0 := rowB_other n0 ⟨w.heap.size + 3, 1, none⟩ (.slice (some ⟨q, 0, none⟩) 32 32) (by show w.heap.size + 3 ≠ q; omega)
    replace bV := Below.setCell bV (p := ⟨w.heap.size + 3, 1, none⟩) (by simp) (.slice (some ⟨q, 0, none⟩) 32 32)
    generalize w4.setCell ⟨w.heap.size + 3, 1, none⟩ (.slice (some ⟨q, 0, none⟩) 32 32) = w5 at *
    clear d0 d1 y0 y1 r1 r2 r3 hr bZ
    have hm5 := isByt_below hm bV (Nat.le_refl _)
    obtain ⟨sp, sc, rfl, hsrc⟩ := isByt_src hm5 32
    rw [← HX.out] at hsrc
    have HSRC := Lib.hid hsrc
    clear hsrc hm5 hm
    obtain ⟨d0, d1, _, _⟩ := dcells2 s1
    obtain ⟨f0, f1, _, _⟩ := dcells2 s3
    go_upto_region 34 with (refine wpList_copy_splice (o := ⟨some 106, _, _, _, _, _⟩) rfl _ _ 22 22 rfl 5 Tryz.underlying22 hsz (some ⟨q, 0, none⟩) sp 32 32 lb.length sc rfl rfl q 0 Z1 5 n0 X1 HXL.out (fun hp => ⟨rfl, HSRC.out hp⟩) HFIT.out HX1C.out q w5 (Below.refl q w5) (Nat.le_refl _) ?_; intro w6 HG hb6; have t3 := rowB_below s3 hb6 (by omega); have t2 := rowB_below s2 hb6 (by omega))
    have l5 : w.heap.size + 3 < w5.heap.size := rowB_lt s3
    have bU := bV.trans (hb6.mono (by omega))
    have t0 : rowB w6 q 5 (byts (pad 32 lb)) := by
      have := HG.out
      rw [HSP.out] at this
      exact this
    have tr := rowB_below sr hb6 lq
    clear HG hb6 HSP HXL HX1C HFIT HX HZA HSRC d0 d1 f0 f1 s1 s2 s3 sr n0 bV
    go_wp2_with (first
      | (refine wpList_loadR rfl 27 _ rfl (w.heap.size + 3) rfl 27 #[.slice (some ⟨g, 0, none⟩) 2 2, .slice (some ⟨q, 0, none⟩) 32 32] ?_ agDv ?_; with_reducible exact t3)
      | (refine wpList_storeR rfl 27 _ _ rfl (w.heap.size + 2) rfl #[.slice (some ⟨g, 0, none⟩) 2 2, .slice (some ⟨q, 0, none⟩) 32 32] rfl (dev2_one _ _ _ _ _ _) 27 #[.slice none 0 0, .slice none 0 0] rfl ?_ agDv ?_; with_reducible exact t2))
    refine bodyPost_ret (resultsR rfl (w.heap.size + 2) _ rfl (rowB_row t2 _) agDv) rfl ?_
    rw [← HN.out] at tr
    refine ⟨_, rfl, ⟨g, q, ?_, by omega, by omega, by omega, rowB_row_other tr _ (show w.heap.size + 2 ≠ g by omega), rowB_row_other t0 _ (show w.heap.size + 2 ≠ q by omega)⟩, below_rowR bU _ (by omega)⟩
    rw [pad_len, fmN_len]
    rfl
  · rw [show vidL l = l from if_neg hl]
    rw [decide_eq_false hl] at hl0
    clear hl
    obtain ⟨q0, q1, q2, q3, bX, sX⟩ := boxes4 w (.cells #[.string nm, .int .i64 6, .int .i64 b, .int .i64 z, dat] 24) (.cells #[.slice a l.length cap, vm] 27) (.cells #[.slice none 0 0, .slice none 0 0] 27) (.cells #[.slice none 0 0, .slice none 0 0] 27)
    have hA := isArg_below h bX (Nat.le_refl _)
    have q1 : rowB _ _ _ _ := q1
    have q2 : rowB _ _ _ _ := q2
    have q3 : rowB _ _ _ _ := q3
    clear h q0
    go_enter Tryz.func6, Tryz.ntmps6
    go_upto_region 21 with (fail)
    change Code.wp _ _ _ _ ((((w.alloc (.cells #[.string nm, .int .i64 6, .int .i64 b, .int .i64 z, dat] 24)).alloc (.cells #[.slice a l.length cap, vm] 27)).alloc (.cells #[.slice none 0 0, .slice none 0 0] 27)).alloc (.cells #[.slice none 0 0, .slice none 0 0] 27))
    generalize ((((w.alloc (.cells #[.string nm, .int .i64 6, .int .i64 b, .int .i64 z, dat] 24)).alloc (.cells #[.slice a l.length cap, vm] 27)).alloc (.cells #[.slice none 0 0, .slice none 0 0] 27)).alloc (.cells #[.slice none 0 0, .slice none 0 0] 27)) = w1 at *
    clear hl0
    have lX : w.heap.size + 4 ≤ w1.heap.size := by omega
    clear sX
    have x0 := rowB_new w1 3 #[.int .i64 2560, .int .i64 2]
    have hx := (boxes1 w1 (.cells #[.int .i64 2560, .int .i64 2] 3)).2.1
    have sx := Nat.le_of_eq (World.size_alloc w1 (.cells #[.int .i64 2560, .int .i64 2] 3)).symm
    have hF := form_any _ vm _ l msVid _ (isArg_below hA hx (Nat.le_refl _)) (numB_arg (l := msVid) x0 (by decide)) (by decide) (by decide)
    have p1 := rowB_alloc q1 (.cells #[.int .i64 2560, .int .i64 2] 3)
    have p2 := rowB_alloc q2 (.cells #[.int .i64 2560, .int .i64 2] 3)
    have p3 := rowB_alloc q3 (.cells #[.int .i64 2560, .int .i64 2] 3)
    have bY := bX.alloc (by omega) (.cells #[.int .i64 2560, .int .i64 2] 3)
    clear x0 hA hx bX
    rw [show msVid.length = 2 from rfl] at hF
    dsimp only [msVid] at hF
    generalize hN : fmN l [2560, 2] 2 = nn at *
    have HN := Lib.hid hN
    clear hN
    go_upto_region 31 with (first
      | (go_at_call 21; refine hF.mono ?_; rintro e w2 ⟨g, rfl, hg, hr, hb⟩; have r3 := rowB_below p3 hb (rowB_lt p3); obtain ⟨d0, d1, y0, y1⟩ := dcells2 r3)
      | (refine wpList_loadR rfl 27 _ rfl (w.heap.size + 1) rfl 27 #[.slice a l.length cap, vm] ?_ agDv ?_; with_reducible exact q1))
    change Code.wp _ _ _ _ (w2.setCell ⟨w.heap.size + 3, 0, none⟩ (.slice (some ⟨g, 0, none⟩) 2 2))
    have r1 := rowB_other (rowB_below p1 hb (rowB_lt p1)) ⟨w.heap.size + 3, 0, none⟩ (.slice (some ⟨g, 0, none⟩) 2 2) (by simp)
    have r2 := rowB_other (rowB_below p2 hb (rowB_lt p2)) ⟨w.heap.size + 3, 0, none⟩ (.slice (some ⟨g, 0, none⟩) 2 2) (by simp)
    replace r3 : rowB _ (w.heap.size + 3) 27 #[.slice (some ⟨g, 0, none⟩) 2 2, .slice none 0 0] := rowB_set r3 0 (.slice (some ⟨g, 0, none⟩) 2 2)
    replace hr := rowB_other hr ⟨w.heap.size + 3, 0, none⟩ (.slice (some ⟨g, 0, none⟩) 2 2) (by show w.heap.size + 3 ≠ g; omega)
    have bZ := Below.setCell (bY.trans (hb.mono bY.size)) (p := ⟨w.heap.size + 3, 0, none⟩) (by simp) (.slice (some ⟨g, 0, none⟩) 2 2)
    have hg3 : w.heap.size + 4 ≤ g := by omega
    have l2 : w.heap.size + 4 ≤ (w2.setCell ⟨w.heap.size + 3, 0, none⟩ (.slice (some ⟨g, 0, none⟩) 2 2)).heap.size := by have := hb.size; have := World.size_setCell w2 ⟨w.heap.size + 3, 0, none⟩ (.slice (some ⟨g, 0, none⟩) 2 2); omega
    generalize w2.setCell ⟨w.heap.size + 3, 0, none⟩ (.slice (some ⟨g, 0, none⟩) 2 2) = w3 at *
    clear d0 d1 y0 y1 hb hF p1 p2 p3 bY hg q1 q2 q3 lX sx
    obtain ⟨q, hq⟩ : ∃ q, w3.heap.size = q := ⟨_, rfl⟩
    have HQ := Lib.hid hq
    have s1 := rowB_alloc r1 (.cells Z1.toArray 5)
    have s2 := rowB_alloc r2 (.cells Z1.toArray 5)
    have s3 := rowB_alloc r3 (.cells Z1.toArray 5)
    have sr := rowB_alloc hr (.cells Z1.toArray 5)
    have n0 := rowB_new w3 5 Z1.toArray
    have bV := bZ.alloc (by omega) (.cells Z1.toArray 5)
    have lq := rowB_lt hr
    rw [hq] at n0 lq l2
    clear hq
    obtain ⟨d0, d1, y0, y1⟩ := dcells2 s3
    go_upto_region 33 with (at_make; refine wpList_make_row _ rfl _ _ _ rfl 5 ii (.int .u8 0) Tryz.underlying22 i1 i2 i3 rfl _ _ 32 rfl rfl (by rw [i4]; omega) (by omega) ?_; rw [HZA.out, HQ.out])
    change Code.wp _ _ _ _ ((w3.alloc (.cells Z1.toArray 5)).setCell ⟨w.heap.size + 3, 1, none⟩ (.slice (some ⟨q, 0, none⟩) 32 32))
    generalize w3.alloc (.cells Z1.toArray 5) = w4 at *
    replace s1 := rowB_other s1 ⟨w.heap.size + 3, 1, none⟩ (.slice (some ⟨q, 0, none⟩) 32 32) (by simp)
    replace s2 := rowB_other s2 ⟨w.heap.size + 3, 1, none⟩ (.slice (some ⟨q, 0, none⟩) 32 32) (by simp)
    replace s3 : rowB _ (w.heap.size + 3) 27 #[.slice (some ⟨g, 0, none⟩) 2 2, .slice (some ⟨q, 0, none⟩) 32 32] := rowB_set s3 1 (.slice (some ⟨q, 0, none⟩) 32 32)
    replace sr := rowB_other sr ⟨w.heap.size + 3, 1, none⟩ (.slice (some ⟨q, 0, none⟩) 32 32) (by show w.heap.size + 3 ≠ g; omega)
    replace n0 := rowB_other n0 ⟨w.heap.size + 3, 1, none⟩ (.slice (some ⟨q, 0, none⟩) 32 32) (by show w.heap.size + 3 ≠ q; omega)
    replace bV := Below.setCell bV (p := ⟨w.heap.size + 3, 1, none⟩) (by simp) (.slice (some ⟨q, 0, none⟩) 32 32)
    generalize w4.setCell ⟨w.heap.size + 3, 1, none⟩ (.slice (some ⟨q, 0, none⟩) 32 32) = w5 at *
    clear d0 d1 y0 y1 r1 r2 r3 hr bZ
    have hm5 := isByt_below hm bV (Nat.le_refl _)
    obtain ⟨sp, sc, rfl, hsrc⟩ := isByt_src hm5 32
    rw [← HX.out] at hsrc
    have HSRC := Lib.hid hsrc
    clear hsrc hm5 hm
    obtain ⟨d0, d1, _, _⟩ := dcells2 s1
    obtain ⟨f0, f1, _, _⟩ := dcells2 s3
    go_upto_region 34 with (refine wpList_copy_splice (o := ⟨some 106, _, _, _, _, _⟩) rfl _ _ 22 22 rfl 5 Tryz.underlying22 hsz (some ⟨q, 0, none⟩) sp 32 32 lb.length sc rfl rfl q 0 Z1 5 n0 X1 HXL.out (fun hp => ⟨rfl, HSRC.out hp⟩) HFIT.out HX1C.out q w5 (Below.refl q w5) (Nat.le_refl _) ?_; intro w6 HG hb6; have t3 := rowB_below s3 hb6 (by omega); have t2 := rowB_below s2 hb6 (by omega))
    have l5 : w.heap.size + 3 < w5.heap.size := rowB_lt s3
    have bU := bV.trans (hb6.mono (by omega))
    have t0 : rowB w6 q 5 (byts (pad 32 lb)) := by
      have := HG.out
      rw [HSP.out] at this
      exact this
    have tr := rowB_below sr hb6 lq
    clear HG hb6 HSP HXL HX1C HFIT HX HZA HSRC d0 d1 f0 f1 s1 s2 s3 sr n0 bV
    go_wp2_with (first
      | (refine wpList_loadR rfl 27 _ rfl (w.heap.size + 3) rfl 27 #[.slice (some ⟨g, 0, none⟩) 2 2, .slice (some ⟨q, 0, none⟩) 32 32] ?_ agDv ?_; with_reducible exact t3)
      | (refine wpList_storeR rfl 27 _ _ rfl (w.heap.size + 2) rfl #[.slice (some ⟨g, 0, none⟩) 2 2, .slice (some ⟨q, 0, none⟩) 32 32] rfl (dev2_one _ _ _ _ _ _) 27 #[.slice none 0 0, .slice none 0 0] rfl ?_ agDv ?_; with_reducible exact t2))
    refine bodyPost_ret (resultsR rfl (w.heap.size + 2) _ rfl (rowB_row t2 _) agDv) rfl ?_
    rw [← HN.out] at tr
    refine ⟨_, rfl, ⟨g, q, ?_, by omega, by omega, by omega, rowB_row_other tr _ (show w.heap.size + 2 ≠ g by omega), rowB_row_other t0 _ (show w.heap.size + 2 ≠ q by omega)⟩, below_rowR bU _ (by omega)⟩
    rw [pad_len, fmN_len]
    rfl
end Go.Proofs.YtakaebjojgeehaaGreat
