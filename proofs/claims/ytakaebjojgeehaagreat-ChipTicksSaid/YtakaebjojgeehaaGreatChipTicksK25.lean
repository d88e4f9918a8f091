/- A part of the proof of ChipTicks: VidSame, VidCa, VidR, VidRb. -/
import Derived.Test.YtakaebjojgeehaaGreatChipTicksK01
import Derived.Test.YtakaebjojgeehaaGreatChipTicksK02
import Derived.Test.YtakaebjojgeehaaGreatChipTicksK04
import Derived.Test.YtakaebjojgeehaaGreatChipTicksK05
import Derived.Test.YtakaebjojgeehaaGreatChipTicksK06
import Derived.Test.YtakaebjojgeehaaGreatChipTicksK09
import Derived.Test.YtakaebjojgeehaaGreatChipTicksK12
import Derived.Test.YtakaebjojgeehaaGreatChipTicksK16
import Derived.Test.YtakaebjojgeehaaGreatChipTicksK23
import Derived.Test.YtakaebjojgeehaaGreatChipTicksK24
import Derived.Below
import Derived.BigQuiet
import Derived.ChangeMaps5
import Derived.Deep.DeepCutAuto
import Derived.Deep.Draws
import Derived.Deep.MidRow
import Derived.Deep.OwnRows
import Derived.Deep.QuietTactic
import Derived.Deep.RegionHeld3
import Derived.Deep.RegionWith
import Derived.Deep.Slices
import Derived.Deep.WholeRow
import Derived.Laws.CopyOwn
import Derived.Lib.Hide
import Derived.Lib.SmallJoins
import Derived.OpenShut
import Derived.OrdersHeld
import Derived.OwnWalk
import Derived.RowKit3
import Derived.StillTactics
import Derived.StillTail
import Derived.StillTailTactics
import Derived.Test.YtakaebjojgeehaaGreatChecked
import Derived.WalkKit
namespace Go.Proofs.YtakaebjojgeehaaGreat
open Go.RowKit
set_option maxRecDepth 100000
theorem byt_fit {l : List Int} (h : ∀ x ∈ l, (Lit.int .u8 x).wf = true) : ∀ x ∈ l, 0 ≤ x ∧ x < 256 := fun x hx => by
  have := h x hx
  simp [Lit.wf, IntKind.min, IntKind.max, IntKind.signed, IntKind.bits] at this
  omega
theorem Vd.fit_mem {s : Vd} (hs : s.fit) : ∀ x ∈ s.m, 0 ≤ x ∧ x < 256 := fun x hx => by
  obtain ⟨i, hi, rfl⟩ := List.getElem_of_mem hx
  have := hs.b i
  unfold vreg at this
  rw [List.getD_eq_getElem?_getD, List.getElem?_eq_getElem hi] at this
  exact this
theorem Vd.ofN_self {s : Vd} (hs : s.fit) : Vd.ofN [s.p, s.h] s.m = s := by
  obtain ⟨p, h, m⟩ := s
  have h1 := hs.p
  have h2 := hs.h
  have h3 := hs.m
  dsimp only at h1 h2 h3
  show Vd.mk (p % 2560) (h % 2) (pad 32 m) = _
  rw [pad_self h3, Int.emod_eq_of_lt h1.1 h1.2, Int.emod_eq_of_lt h2.1 h2.2]
theorem devV.arg {lo : Nat} {w : World} {v : Value} {s : Vd} (h : devV lo w v s) (hs : s.fit) : ∃ vx vm, v = .agg #[vx, vm] ∧ isArg w vx [s.p, s.h] ∧ isByt w vm s.m := by
  obtain ⟨g, q, rfl, _, _, _, hr, hr2⟩ := h
  exact ⟨_, _, rfl, numB_arg (l := [s.p, s.h]) hr (by simp), byt32 hr2 hs.m⟩
theorem Vd.read_fit {s : Vd} (hs : s.fit) (a : Int) : (s.read a).fit := by
  unfold Vd.read
  split
  · exact ⟨hs.p, ⟨(by decide : (0 : Int) ≤ 0), (by decide : (0 : Int) < 2)⟩, hs.m, hs.b⟩
  · exact hs
end Go.Proofs.YtakaebjojgeehaaGreat
namespace Go.Proofs.YtakaebjojgeehaaGreat
open Go.RowKit
set_option maxRecDepth 100000
theorem goMod (x : Int) : (x.tmod 2560 + 2560).tmod 2560 = x % 2560 := by
  have h1 := Int.tmod_lt_of_pos x (show (0 : Int) < 2560 by decide)
  have h2 : -2560 < x.tmod 2560 := by
    have := Int.lt_tmod_of_pos x (show (0 : Int) < 2560 by decide)
    omega
  rw [Int.tmod_eq_emod_of_nonneg (by omega)]
  have := Int.tmod_add_mul_tdiv x 2560
  omega
theorem vidPosition_any (v vm : Value) (l : List Int) (w : World) (h : isArg w v l) :
    Calls Tryz.prog 126 #[.agg #[v, vm]] w fun e w' => e = .returned (.int .i64 ((vidL l).getD 0 0 % 2560)) ∧ Below w.heap.size w w' := by
  obtain ⟨a, cap, rfl, hf⟩ := isArg_form h
  have b0 := (boxes1 w (.cells #[.slice a l.length cap, vm] 27)).2.1
  cases l with
  | nil =>
    rw [show (vidL []).getD 0 0 % 2560 = 2559 from rfl]
    go_enter Tryz.func126, Tryz.ntmps126
    go_wp2_with fail
    go_ret
    exact ⟨rfl, b0⟩
  | cons x r =>
    rw [show (vidL (x :: r)).getD 0 0 = x from rfl, ← goMod]
    obtain ⟨g, off, rfl, hg, h1, h2, hc⟩ := hf 0 (by simp)
    rw [show (x :: r).getD 0 0 = x from rfl, Nat.add_zero] at hc
    have hn0 : 0 < (x :: r).length := by simp
    have hd : (((x :: r).length : Int) == 0) = false := by simp; omega
    have m1 := Int.tmod_lt_of_pos x (show (0 : Int) < 2560 by decide)
    have m2 : -2560 < x.tmod 2560 := by
      have := Int.lt_tmod_of_pos x (show (0 : Int) < 2560 by decide)
      omega
    have wx : wrap64 (x.tmod 2560 + 2560) = x.tmod 2560 + 2560 := IntWalk.wrap64_in _ (by omega)
    clear h hf
    generalize (x :: r).length = n at *
    go_enter Tryz.func126, Tryz.ntmps126
    go_wp2_with fail
    have e : ((x.tmod 2560 + 2560) % 2560) = (x.tmod 2560 + 2560).tmod 2560 := (Int.tmod_eq_emod_of_nonneg (by omega)).symm
    rw [← e]
    go_ret
    exact ⟨rfl, b0⟩
theorem agVs : isAg Tryz.prog 91 34 := ⟨⟨_, Tryz.underlying91, rfl⟩, by kernel_rfl⟩
theorem Vd.cs_size {s : Vd} (h : s.m.length = 32) : s.cs.size = 34 := by unfold Vd.cs; simp [h]
theorem agVd {s : Vd} (h : s.m.length = 32) : isAg Tryz.prog 91 s.cs.size := by rw [Vd.cs_size h]; exact agVs
theorem Vd.cs_one (s : Vd) : s.cs.all (·.oneCell') = true := by
  unfold Vd.cs
  rw [Array.all_eq_true']
  intro x hx
  simp only [List.mem_toArray, List.mem_cons, List.mem_map] at hx
  rcases hx with rfl | rfl | ⟨y, _, rfl⟩ <;> rfl
/-- A state without bytes, and with bytes copied into it. -/
def zeros32 : List Int := List.replicate 32 0
theorem vd_splice (p f : Int) (lb : List Int) : (splice (Vd.cs ⟨p, f, zeros32⟩).toList 2 ((lb.take 32).map (Value.int .u8))).toArray = Vd.cs ⟨p, f, pad 32 lb⟩ := by
  have h := splice_pad 32 lb
  unfold Vd.cs zeros32
  dsimp only
  have e : splice (Value.int .i64 p :: Value.int .i64 f :: (List.replicate 32 (0 : Int)).map (Value.int .u8)) 2 ((lb.take 32).map (Value.int .u8)) = Value.int .i64 p :: Value.int .i64 f :: splice ((List.replicate 32 (0 : Int)).map (Value.int .u8)) 0 ((lb.take 32).map (Value.int .u8)) := by
    simp only [splice, List.take_succ_cons, List.take_zero, List.nil_append, List.cons_append, Nat.zero_add]
    rw [show 2 + ((lb.take 32).map (Value.int .u8)).length = ((lb.take 32).map (Value.int .u8)).length + 2 by omega]
    rfl
  rw [e]
  have h2 : splice ((List.replicate 32 (0 : Int)).map (Value.int .u8)) 0 ((lb.take 32).map (Value.int .u8)) = (pad 32 lb).map (Value.int .u8) := by
    have := congrArg Array.toList h
    simpa [byts] using this
  rw [h2]
end Go.Proofs.YtakaebjojgeehaaGreat
namespace Go.Proofs.YtakaebjojgeehaaGreat
open Go.RowKit
set_option maxRecDepth 100000
theorem formedV_any (nm : ByteArray) (b z : Int) (dat v vm : Value) (l lb : List Int) (w : World) (h : isArg w v l) (hm : isByt w vm lb) :
    Calls Tryz.prog 6 #[.agg (chip5 nm 6 b z dat), .agg #[v, vm]] w fun e w' => ∃ u, e = .returned u ∧ devV w.heap.size w' u (Vd.ofN l lb) ∧ Below w.heap.size w w' := by
  refine (formedVid_any nm b z dat v vm l lb w h hm).mono ?_
  rintro e w' ⟨u, rfl, ⟨g, q, rfl, h1, h2, h3, h4, h5⟩, hb⟩
  refine ⟨_, rfl, ⟨g, q, ?_, h1, h2, h3, h4, h5⟩, hb⟩
  rw [pad_len, fmN_len]
  rfl
end Go.Proofs.YtakaebjojgeehaaGreat
namespace Go.Proofs.YtakaebjojgeehaaGreat
open Go.RowKit
set_option maxRecDepth 100000
set_option maxHeartbeats 1000000 in
theorem tickedVid_any (nm : ByteArray) (b z : Int) (dat v vm : Value) (l lb : List Int) (w : World) (h : isArg w v l) (hm : isByt w vm lb) (hb : ∀ x ∈ lb, 0 ≤ x ∧ x < 256) :
    Calls Tryz.prog 7 #[.agg (chip5 nm 6 b z dat), .agg #[v, vm]] w fun e w' => ∃ u, e = .returned u ∧ devV w.heap.size w' u (Vd.ofN l lb).tick ∧ Below w.heap.size w w' := by
  obtain ⟨k0, k1, k2, bW, sW⟩ := boxes3 w (.cells #[.string nm, .int .i64 6, .int .i64 b, .int .i64 z, dat] 24) (.cells #[v, vm] 27) (.cells #[.slice none 0 0, .slice none 0 0] 27)
  have k0 : rowB _ _ _ _ := k0
  have k1 : rowB _ _ _ _ := k1
  have k2 : rowB _ _ _ _ := k2
  have hF := formedV_any nm b z dat v vm l lb _ (isArg_below h bW (Nat.le_refl _)) (isByt_below hm bW (Nat.le_refl _))
  have hfit := Vd.ofN_fit l lb hb
  clear h hm hb
  generalize Vd.ofN l lb = s at *
  obtain ⟨p, f, m⟩ := s
  obtain ⟨⟨p0, p1⟩, ⟨f0, f1⟩, hl, hbb⟩ := hfit
  dsimp only [chip5] at *
  have hw : wrap64 (p + 1) = p + 1 := IntWalk.wrap64_in _ (by omega)
  have ht : (p + 1).tmod 2560 = (p + 1) % 2560 := Int.tmod_eq_emod_of_nonneg (by omega)
  have hP : 0 ≤ (p + 1) % 2560 ∧ (p + 1) % 2560 < 2560 := ⟨Int.emod_nonneg _ (by decide), Int.emod_lt_of_pos _ (by decide)⟩
  obtain ⟨H, hH⟩ : ∃ H, vhit m ((p + 1) % 2560) = H := ⟨_, rfl⟩
  have e : (⟨p, f, m⟩ : Vd).tick = ⟨(p + 1) % 2560, if H = true then 1 else f, m⟩ := by unfold Vd.tick; dsimp only; rw [hH]
  rw [e]
  clear e
  go_enter Tryz.func7, Tryz.ntmps7
  go_upto_region 2 with (first
    | (go_at_call 6; refine hF.mono ?_; rintro e wf ⟨u, rfl, ⟨g, q, rfl, hg, hq, hgq, hr, hs⟩, hb⟩; have q0 := rowB_below k0 hb (rowB_lt k0); have q1 := rowB_below k1 hb (rowB_lt k1); have q2 := rowB_below k2 hb (rowB_lt k2); rw [sW] at hg hq; have bX := bW.trans (hb.mono bW.size))
    | (refine wpList_storeR rfl 27 _ _ rfl (w.heap.size + 1) rfl #[.slice (some ⟨g, 0, none⟩) 2 2, .slice (some ⟨q, 0, none⟩) 32 32] rfl (dev2_one _ _ _ _ _ _) 27 #[v, vm] rfl ?_ agDv ?_; with_reducible exact q1))
  replace hr : rowB wf g 3 #[.int .i64 p, .int .i64 f] := hr
  replace q0 := rowB_row_other q0 #[.slice (some ⟨g, 0, none⟩) 2 2, .slice (some ⟨q, 0, none⟩) 32 32] (show (w.heap.size + 1) ≠ w.heap.size by omega)
  replace q2 := rowB_row_other q2 #[.slice (some ⟨g, 0, none⟩) 2 2, .slice (some ⟨q, 0, none⟩) 32 32] (show (w.heap.size + 1) ≠ (w.heap.size + 2) by omega)
  replace hr := rowB_row_other hr #[.slice (some ⟨g, 0, none⟩) 2 2, .slice (some ⟨q, 0, none⟩) 32 32] (show (w.heap.size + 1) ≠ g by omega)
  replace hs := rowB_row_other hs #[.slice (some ⟨g, 0, none⟩) 2 2, .slice (some ⟨q, 0, none⟩) 32 32] (show (w.heap.size + 1) ≠ q by omega)
  replace q1 := rowB_row q1 #[.slice (some ⟨g, 0, none⟩) 2 2, .slice (some ⟨q, 0, none⟩) 32 32]
  replace bX := below_rowR bX #[.slice (some ⟨g, 0, none⟩) 2 2, .slice (some ⟨q, 0, none⟩) 32 32] (show w.heap.size ≤ (w.heap.size + 1) by omega)
  generalize wf.setRow (w.heap.size + 1) #[.slice (some ⟨g, 0, none⟩) 2 2, .slice (some ⟨q, 0, none⟩) 32 32] = w3 at *
  clear hb hF k0 k1 k2 bW sW
  have hk := rowB_cell q0 1 (v := .int .i64 6) rfl
  obtain ⟨d0, d1, y0, y1⟩ := dcells2 q1
  obtain ⟨e0, e1, z0, z1⟩ := dcells2 hr
  go_upto_region 18 with (fail)
  change Code.wp _ _ _ _ (w3.setCell ⟨g, 0, none⟩ (.int .i64 ((p + 1) % 2560)))
  replace q1 := rowB_other q1 ⟨g, 0, none⟩ (.int .i64 ((p + 1) % 2560)) (show g ≠ _ by omega)
  replace q2 := rowB_other q2 ⟨g, 0, none⟩ (.int .i64 ((p + 1) % 2560)) (show g ≠ _ by omega)
  replace hs := rowB_other hs ⟨g, 0, none⟩ (.int .i64 ((p + 1) % 2560)) (show g ≠ q from hgq)
  replace hr : rowB _ g 3 #[.int .i64 ((p + 1) % 2560), .int .i64 f] := rowB_set hr 0 (.int .i64 ((p + 1) % 2560))
  replace bX := Below.setCell bX (p := ⟨g, 0, none⟩) (show w.heap.size ≤ g by omega) (.int .i64 ((p + 1) % 2560))
  generalize w3.setCell ⟨g, 0, none⟩ (.int .i64 ((p + 1) % 2560)) = w4 at *
  clear d0 d1 y0 y1 e0 e1 z0 z1 hk q0 hw ht
  obtain ⟨d0, d1, y0, y1⟩ := dcells2 q1
  obtain ⟨e0, e1, z0, z1⟩ := dcells2 hr
  have hB := byt32 hs hl
  have hSh := fun n => shade_any _ m ((p + 1) % 2560) (w4.drewN n) (isByt_below hB (below_drewN _ _ _) (Nat.le_refl _)) hl hbb hP
  rw [hH] at hSh
  clear hH
  go_quiet ((go_at_call 22; exact quiet_left (hSh _)))
  have q1b := rowB_below q1 (below_drewN w4 nq _) (rowB_lt q1)
  have q2b := rowB_below q2 (below_drewN w4 nq _) (rowB_lt q2)
  have hrb := rowB_below hr (below_drewN w4 nq _) (rowB_lt hr)
  have hsb := rowB_below hs (below_drewN w4 nq _) (rowB_lt hs)
  have bXb := bX.trans ((below_drewN w4 nq _).mono bX.size)
  generalize w4.drewN nq = w5 at *
  clear q1 q2 hr hs bX d0 d1 y0 y1 e0 e1 z0 z1 hB hSh
  obtain ⟨d0, d1, y0, y1⟩ := dcells2 q1b
  obtain ⟨e0, e1, z0, z1⟩ := dcells2 hrb
  cases H with
  | true =>
    have r1 := rowB_other q1b ⟨g, 1, none⟩ (.int .i64 1) (show g ≠ _ by omega)
    have r2 := rowB_other q2b ⟨g, 1, none⟩ (.int .i64 1) (show g ≠ _ by omega)
    have rg : rowB _ g 3 #[.int .i64 ((p + 1) % 2560), .int .i64 1] := rowB_set hrb 1 (.int .i64 1)
    have rs := rowB_other hsb ⟨g, 1, none⟩ (.int .i64 1) (show g ≠ q from hgq)
    have bY := Below.setCell bXb (p := ⟨g, 1, none⟩) (show w.heap.size ≤ g by omega) (.int .i64 1)
    go_wp2_with (first
      | (refine wpList_loadR rfl 27 _ rfl (w.heap.size + 1) rfl 27 #[.slice (some ⟨g, 0, none⟩) 2 2, .slice (some ⟨q, 0, none⟩) 32 32] ?_ agDv ?_; with_reducible exact r1)
      | (refine wpList_storeR rfl 27 _ _ rfl (w.heap.size + 2) rfl #[.slice (some ⟨g, 0, none⟩) 2 2, .slice (some ⟨q, 0, none⟩) 32 32] rfl (dev2_one _ _ _ _ _ _) 27 #[.slice none 0 0, .slice none 0 0] rfl ?_ agDv ?_; with_reducible exact r2)
    )
    refine bodyPost_ret (resultsR rfl (w.heap.size + 2) _ rfl (rowB_row r2 _) agDv) rfl ?_
    exact ⟨_, rfl, ⟨g, q, rfl, by omega, by omega, hgq, rowB_row_other rg _ (show (w.heap.size + 2) ≠ g by omega), rowB_row_other rs _ (show (w.heap.size + 2) ≠ q by omega)⟩, below_rowR bY _ (show w.heap.size ≤ (w.heap.size + 2) by omega)⟩
  | false =>
    have r1 := q1b
    have r2 := q2b
    have rg : rowB _ g 3 #[.int .i64 ((p + 1) % 2560), .int .i64 f] := hrb
    have rs := hsb
    have bY := bXb
    go_wp2_with (first
      | (refine wpList_loadR rfl 27 _ rfl (w.heap.size + 1) rfl 27 #[.slice (some ⟨g, 0, none⟩) 2 2, .slice (some ⟨q, 0, none⟩) 32 32] ?_ agDv ?_; with_reducible exact r1)
      | (refine wpList_storeR rfl 27 _ _ rfl (w.heap.size + 2) rfl #[.slice (some ⟨g, 0, none⟩) 2 2, .slice (some ⟨q, 0, none⟩) 32 32] rfl (dev2_one _ _ _ _ _ _) 27 #[.slice none 0 0, .slice none 0 0] rfl ?_ agDv ?_; with_reducible exact r2)
    )
    refine bodyPost_ret (resultsR rfl (w.heap.size + 2) _ rfl (rowB_row r2 _) agDv) rfl ?_
    exact ⟨_, rfl, ⟨g, q, rfl, by omega, by omega, hgq, rowB_row_other rg _ (show (w.heap.size + 2) ≠ g by omega), rowB_row_other rs _ (show (w.heap.size + 2) ≠ q by omega)⟩, below_rowR bY _ (show w.heap.size ≤ (w.heap.size + 2) by omega)⟩
end Go.Proofs.YtakaebjojgeehaaGreat
