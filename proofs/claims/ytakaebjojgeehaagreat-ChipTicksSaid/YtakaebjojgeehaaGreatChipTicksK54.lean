/- A part of the proof of ChipTicks: ChTicks. -/
import Derived.Test.YtakaebjojgeehaaGreatChipTicksK01
import Derived.Test.YtakaebjojgeehaaGreatChipTicksK02
import Derived.Test.YtakaebjojgeehaaGreatChipTicksK03
import Derived.Test.YtakaebjojgeehaaGreatChipTicksK04
import Derived.Test.YtakaebjojgeehaaGreatChipTicksK05
import Derived.Test.YtakaebjojgeehaaGreatChipTicksK06
import Derived.Test.YtakaebjojgeehaaGreatChipTicksK07
import Derived.Test.YtakaebjojgeehaaGreatChipTicksK08
import Derived.Test.YtakaebjojgeehaaGreatChipTicksK09
import Derived.Test.YtakaebjojgeehaaGreatChipTicksK10
import Derived.Test.YtakaebjojgeehaaGreatChipTicksK11
import Derived.Test.YtakaebjojgeehaaGreatChipTicksK12
import Derived.Test.YtakaebjojgeehaaGreatChipTicksK13
import Derived.Test.YtakaebjojgeehaaGreatChipTicksK14
import Derived.Test.YtakaebjojgeehaaGreatChipTicksK15
import Derived.Test.YtakaebjojgeehaaGreatChipTicksK16
import Derived.Test.YtakaebjojgeehaaGreatChipTicksK17
import Derived.Test.YtakaebjojgeehaaGreatChipTicksK18
import Derived.Test.YtakaebjojgeehaaGreatChipTicksK19
import Derived.Test.YtakaebjojgeehaaGreatChipTicksK20
import Derived.Test.YtakaebjojgeehaaGreatChipTicksK21
import Derived.Test.YtakaebjojgeehaaGreatChipTicksK22
import Derived.Test.YtakaebjojgeehaaGreatChipTicksK23
import Derived.Test.YtakaebjojgeehaaGreatChipTicksK24
import Derived.Test.YtakaebjojgeehaaGreatChipTicksK25
import Derived.Test.YtakaebjojgeehaaGreatChipTicksK26
import Derived.Test.YtakaebjojgeehaaGreatChipTicksK27
import Derived.Test.YtakaebjojgeehaaGreatChipTicksK28
import Derived.Test.YtakaebjojgeehaaGreatChipTicksK29
import Derived.Test.YtakaebjojgeehaaGreatChipTicksK30
import Derived.Test.YtakaebjojgeehaaGreatChipTicksK31
import Derived.Test.YtakaebjojgeehaaGreatChipTicksK32
import Derived.Test.YtakaebjojgeehaaGreatChipTicksK33
import Derived.Test.YtakaebjojgeehaaGreatChipTicksK34
import Derived.Test.YtakaebjojgeehaaGreatChipTicksK35
import Derived.Test.YtakaebjojgeehaaGreatChipTicksK36
import Derived.Test.YtakaebjojgeehaaGreatChipTicksK37
import Derived.Test.YtakaebjojgeehaaGreatChipTicksK38
import Derived.Test.YtakaebjojgeehaaGreatChipTicksK39
import Derived.Test.YtakaebjojgeehaaGreatChipTicksK40
import Derived.Test.YtakaebjojgeehaaGreatChipTicksK41
import Derived.Test.YtakaebjojgeehaaGreatChipTicksK42
import Derived.Test.YtakaebjojgeehaaGreatChipTicksK43
import Derived.Test.YtakaebjojgeehaaGreatChipTicksK44
import Derived.Test.YtakaebjojgeehaaGreatChipTicksK45
import Derived.Test.YtakaebjojgeehaaGreatChipTicksK46
import Derived.Test.YtakaebjojgeehaaGreatChipTicksK47
import Derived.Test.YtakaebjojgeehaaGreatChipTicksK48
import Derived.Test.YtakaebjojgeehaaGreatChipTicksK49
import Derived.Test.YtakaebjojgeehaaGreatChipTicksK50
import Derived.Test.YtakaebjojgeehaaGreatChipTicksK51
import Derived.Test.YtakaebjojgeehaaGreatChipTicksK52
import Derived.Test.YtakaebjojgeehaaGreatChipTicksK53
import Derived.Below
import Derived.BigQuiet
import Derived.ChangeMaps5
import Derived.Deep.AppendSrc
import Derived.Deep.DeepAppendWide
import Derived.Deep.DeepCutAuto
import Derived.Deep.Draws
import Derived.Deep.MidRow
import Derived.Deep.OwnRows
import Derived.Deep.QuietTactic
import Derived.Deep.RegionHeld3
import Derived.Deep.RegionWith
import Derived.Deep.Slices
import Derived.Deep.WholeRow
import Derived.Laws.CopyOwn
import Derived.Laws.OwnMore
import Derived.Lib.Bytealg
import Derived.Lib.Hide
import Derived.Lib.IndexAny
import Derived.Lib.SmallJoins
import Derived.Lib.Walk
import Derived.Maps.AppendAt
import Derived.OpenShut
import Derived.OrdersHeld
import Derived.OwnWalk
import Derived.RowKit3
import Derived.Shelf.Abstract
import Derived.StillTactics
import Derived.StillTail
import Derived.StillTailTactics
import Derived.Test.YtakaebjojgeehaaGreatChecked
import Derived.WalkKit
namespace Go.Proofs.YtakaebjojgeehaaGreat
open Go.RowKit
set_option maxRecDepth 100000
set_option linter.unusedVariables false
/-- A box with a state that reads as numbers and bytes. -/
def boxM (w : World) (B : Nat) (ns m : List Int) : Prop := ∃ vx vm, rowB w B 27 #[vx, vm] ∧ isArg w vx ns ∧ isByt w vm m
theorem boxM.below {w w' : World} {B : Nat} {ns m : List Int} (h : boxM w B ns m) (hb : Below w.heap.size w w') : boxM w' B ns m := by
  obtain ⟨vx, vm, h0, h1, h2⟩ := h
  exact ⟨vx, vm, rowB_below h0 hb (rowB_lt h0), isArg_below h1 hb (Nat.le_refl _), isByt_below h2 hb (Nat.le_refl _)⟩
theorem boxM.store {w : World} {B : Nat} {ns m ns' m' : List Int} {vx vm : Value} (h : boxM w B ns m) (h1 : isArg w vx ns') (h2 : isByt w vm m') : boxM (w.setRow B #[vx, vm]) B ns' m' := by
  obtain ⟨ux, um, h0, k1, k2⟩ := h
  exact ⟨vx, vm, rowB_row h0 _, isArg_box h0 (isArg_no k1 _) (isByt_no k2 _) h1 _, isByt_box h0 (isArg_no k1 _) (isByt_no k2 _) h2 _⟩
theorem memR.two {w : World} {u : Value} {ns m : List Int} (h : memR w u ns m) : ∃ vx vm, u = .agg #[vx, vm] ∧ isArg w vx ns ∧ isByt w vm m := h
theorem sameM_any (v u : Value) (ns m : List Int) (w : World) (h : memR w v ns m) (g : memR w u ns m) :
    Calls Tryz.prog 9 #[v, u] w fun e w' => e = .returned (.bool true) ∧ Below w.heap.size w w' := by
  obtain ⟨vx, vm, rfl, h1, h2⟩ := h
  obtain ⟨ux, um, rfl, h3, h4⟩ := g
  have := sameDv_any _ _ _ _ ns ns m m w h1 h2 h3 h4
  rw [decide_eq_true (rfl : ns = ns), decide_eq_true (rfl : m = m)] at this
  exact this
set_option maxHeartbeats 4000000 in
theorem chipTicks_walk (nm : ByteArray) (k b z : Int) (vd : Value) (ld : List Int) (v vm : Value) (l lb : List Int) (j : Int) (w : World) (hD : isByt w vd ld) (h : isArg w v l) (hm : isByt w vm lb) (hwf : ∀ x ∈ l, (Lit.int .i64 x).wf = true) (hbb : ∀ x ∈ lb, 0 ≤ x ∧ x < 256) (hL : lb.length ≤ 140737488351232) (hd : ld.length ≤ 140737488351232) (hz : -9223372036854775808 ≤ z ∧ z ≤ 9223372036854775807) (hj : -9223372036854775808 ≤ j ∧ j ≤ 9223372036854775807) :
    Calls Tryz.prog 3 #[.agg (chip5 nm k b z vd), .agg #[v, vm], .int .i64 j] w fun e w' => e = .returned (.bool true) ∧ Below w.heap.size w w' := by
  obtain ⟨da, dc, rfl, _⟩ := isByt_form hD
  obtain ⟨nd, hnd⟩ : ∃ nd, ld.length = nd := ⟨_, rfl⟩
  rw [hnd] at hd
  rw [hnd]
  clear hD hnd
  obtain ⟨va, vc, rfl, _⟩ := isArg_form h
  obtain ⟨ma, mc, rfl, _⟩ := isByt_form hm
  obtain ⟨k0, k1, bW, sW⟩ := boxes2 w (.cells (chip5 nm k b z (.slice da nd dc)) 24) (.cells #[.slice va l.length vc, .slice ma lb.length mc] 27)
  have hA := isArg_below h bW (Nat.le_refl _)
  have hM := isByt_below hm bW (Nat.le_refl _)
  have hRF := refForm_any nm k b z da nd dc _ _ l lb _ hA hM hbb (fun _ => hL) hd hz
  have hRT : ∀ (w' : World) (vx vy : Value) (i : Nat), isArg w' vx (chNs k z nd l lb i) → isByt w' vy (chBs k z nd l lb i) → Calls Tryz.prog 7 #[.agg (chip5 nm k b z (.slice da nd dc)), .agg #[vx, vy]] w' fun e w2 => ∃ u, e = .returned u ∧ memR w2 u (chNs k z nd l lb ((i + 1 : Nat) : Int)) (chBs k z nd l lb ((i + 1 : Nat) : Int)) ∧ Below w'.heap.size w' w2 := fun w' vx vy i h1 h2 => by
    have := refTick_any nm k b z da nd dc vx vy _ _ w' h1 h2 (ch_bytes k z nd l lb hbb _) (fun hk => by subst hk; exact Nat.le_trans (ch_len z nd l lb _) hL) hd hz
    have e := ch_add k z nd l lb hbb (i := (i : Int)) (j := 1) (by omega) (by omega)
    rw [e.1, e.2] at this
    exact this
  have hR1 : ∀ w', isArg w' (.slice va l.length vc) l → isByt w' (.slice ma lb.length mc) lb → Calls Tryz.prog 7 #[.agg (chip5 nm k b z (.slice da nd dc)), .agg #[.slice va l.length vc, .slice ma lb.length mc]] w' fun e w2 => ∃ u, e = .returned u ∧ memR w2 u (chNs k z nd l lb 1) (chBs k z nd l lb 1) ∧ Below w'.heap.size w' w2 := fun w' h1 h2 => refTick_any nm k b z da nd dc _ _ l lb w' h1 h2 hbb (fun _ => hL) hd hz
  have hP1 : ∀ w', isArg w' (.slice va l.length vc) l → isByt w' (.slice ma lb.length mc) lb → Calls Tryz.prog 10 #[.agg (chip5 nm k b z (.slice da nd dc)), .agg #[.slice va l.length vc, .slice ma lb.length mc]] w' fun e w2 => ∃ u, e = .returned u ∧ memR w2 u (chNs k z nd l lb 1) (chBs k z nd l lb 1) ∧ Below w'.heap.size w' w2 := fun w' h1 h2 => chTick_any nm k b z da nd dc _ _ l lb w' h1 h2 hwf hbb (fun _ => hL) hd hz
  have hP2 : j ≤ 800 → ∀ w', isArg w' (.slice va l.length vc) l → isByt w' (.slice ma lb.length mc) lb → Calls Tryz.prog 11 #[.agg (chip5 nm k b z (.slice da nd dc)), .agg #[.slice va l.length vc, .slice ma lb.length mc], .int .i64 j] w' fun e w2 => ∃ u, e = .returned u ∧ memR w2 u (chNs k z nd l lb j) (chBs k z nd l lb j) ∧ Below w'.heap.size w' w2 := fun hj8 w' h1 h2 => chSkip_any nm k b z da nd dc _ _ l lb j ⟨hj.1, by omega⟩ w' h1 h2 hwf hbb (fun _ => hL) hd hz
  have hneg : ¬ 0 < j → chNs k z nd l lb j = chNs k z nd l lb 0 ∧ chBs k z nd l lb j = chBs k z nd l lb 0 := fun h0 => ch_neg k z nd l lb (by omega)
  obtain ⟨NS, hNS⟩ : ∃ NS : Int → List Int, NS = chNs k z nd l lb := ⟨_, rfl⟩
  obtain ⟨BS, hBS⟩ : ∃ BS : Int → List Int, BS = chBs k z nd l lb := ⟨_, rfl⟩
  rw [← hNS, ← hBS] at hRF hRT hR1 hP1 hP2 hneg
  clear hNS hBS h hm hwf hbb hL hd hz
  dsimp only [chip5] at *
  have k0 : rowB _ _ _ _ := k0
  have k1 : rowB _ _ _ _ := k1
  by_cases h8 : 800 < j
  · have hd8 : decide (800 < j) = true := decide_eq_true h8
    go_enter Tryz.func3, Tryz.ntmps3
    go_wp2_with fail
    go_ret
    exact ⟨rfl, bW⟩
  · have hd8 : decide (800 < j) = false := decide_eq_false h8
    replace hP2 := hP2 (by omega)
    obtain ⟨K, hK⟩ : ∃ K : Nat, K = j.toNat := ⟨_, rfl⟩
    have hKj : NS j = NS (K : Int) ∧ BS j = BS (K : Int) := by
      by_cases h0 : 0 < j
      · have : (K : Int) = j := by omega
        rw [this]; exact ⟨rfl, rfl⟩
      · have : (K : Int) = 0 := by omega
        rw [this]; exact hneg h0
    rw [hKj.1, hKj.2] at hP2
    clear hneg hKj
    go_enter Tryz.func3, Tryz.ntmps3
    go_upto_region 4 with (first
      | (refine wpList_loadR rfl 24 _ rfl w.heap.size rfl 24 #[.string nm, .int .i64 k, .int .i64 b, .int .i64 z, .slice da nd dc] ?_ agCh ?_; with_reducible exact k0)
      | (refine wpList_loadR rfl 27 _ rfl (w.heap.size + 1) rfl 27 #[.slice va l.length vc, .slice ma lb.length mc] ?_ agDv ?_; with_reducible exact k1)
      | (go_at_call 6; refine hRF.mono ?_; rintro e w2 ⟨u, rfl, hu, hb2⟩; obtain ⟨ux, uc, up, ud, rfl, u1, u2⟩ := hu.open; have q2 := rowB_new w2 27 #[.slice none 0 0, .slice none 0 0])
      | (refine wpList_storeR rfl 27 _ _ rfl (w2.heap.size) rfl #[.slice ux (NS 0).length uc, .slice up (BS 0).length ud] rfl (dev2_one _ _ _ _ _ _) 27 #[.slice none 0 0, .slice none 0 0] rfl ?_ agDv ?_; with_reducible exact q2))
    change Code.wp _ _ _ _ ((w2.alloc (.cells #[.slice none 0 0, .slice none 0 0] 27)).setRow w2.heap.size #[.slice ux (NS 0).length uc, .slice up (BS 0).length ud])
    have p0 := rowB_below k0 hb2 (rowB_lt k0)
    have p1 := rowB_below k1 hb2 (rowB_lt k1)
    replace hA := isArg_below hA hb2 (Nat.le_refl _)
    replace hM := isByt_below hM hb2 (Nat.le_refl _)
    have bX := bW.trans (hb2.mono bW.size)
    have bA := (Below.refl w2.heap.size w2).alloc (Nat.le_refl _) (.cells #[.slice none 0 0, .slice none 0 0] 27)
    have hY : boxM ((w2.alloc (.cells #[.slice none 0 0, .slice none 0 0] 27)).setRow w2.heap.size #[.slice ux (NS 0).length uc, .slice up (BS 0).length ud]) w2.heap.size (NS 0) (BS 0) :=
      boxM.store ⟨_, _, q2, isArg_none _, isByt_none _⟩ (isArg_below u1 bA (Nat.le_refl _)) (isByt_below u2 bA (Nat.le_refl _))
    have bY := below_rowR bA #[.slice ux (NS 0).length uc, .slice up (BS 0).length ud] (Nat.le_refl _)
    generalize (w2.alloc (.cells #[.slice none 0 0, .slice none 0 0] 27)).setRow w2.heap.size #[.slice ux (NS 0).length uc, .slice up (BS 0).length ud] = w3 at *
    have l0 := rowB_lt p0
    have l1 := rowB_lt p1
    have lA := isArg_below hA bY (Nat.le_refl _)
    clear lA
    generalize hB : w2.heap.size = Y at *
    have HB := Lib.hid hB
    clear hRF hb2 u1 u2 hu q2 bA k0 k1 bW sW hB
    go_wp2_with fail
    go_loopw [14] (fun i wr => ∃ i' : Nat, i' ≤ K ∧ i = .int .i64 i' ∧ boxM wr Y (NS i') (BS i') ∧ Below Y w2 wr) (fun i _ => K - (intOf i).toNat)
    case atStart => exact ⟨0, Nat.zero_le _, rfl, hY, bY⟩
    case round =>
      clear hY bY
      obtain ⟨i, hi, rfl, hY, hS0⟩ := hrel
      have hsz := hS0.size
      have m0 := rowB_below p0 hS0 l0
      have m1 := rowB_below p1 hS0 l1
      obtain ⟨yx, ym, rY, y1, y2⟩ := hY
      by_cases hlt : (i : Int) < j
      · have hd2 : decide ((i : Int) < j) = true := decide_eq_true hlt
        have hT := hRT wr yx ym i y1 y2
        have lY := rowB_lt rY
        clear hRT hP1 hP2 hR1
        go_wp2_with (first
          | (refine wpList_loadR rfl 24 _ rfl w.heap.size rfl 24 #[.string nm, .int .i64 k, .int .i64 b, .int .i64 z, .slice da nd dc] ?_ agCh ?_; with_reducible exact m0)
          | (refine wpList_loadR rfl 27 _ rfl Y rfl 27 #[yx, ym] ?_ agDv ?_; with_reducible exact rY)
          | (go_at_call 7; refine hT.mono ?_; rintro e w4 ⟨u, rfl, hu, hb4⟩; obtain ⟨ux, uc, up, ud, rfl, u1, u2⟩ := hu.open; have r4 := rowB_below rY hb4 lY)
          | (refine wpList_storeR rfl 27 _ _ rfl Y rfl #[.slice ux (NS ((i + 1 : Nat) : Int)).length uc, .slice up (BS ((i + 1 : Nat) : Int)).length ud] rfl (dev2_one _ _ _ _ _ _) 27 #[yx, ym] rfl ?_ agDv ?_; with_reducible exact r4))
        go_roundw
        case rel => exact ⟨i + 1, by omega, by go_num, boxM.store ⟨_, _, r4, isArg_below y1 hb4 (Nat.le_refl _), isByt_below y2 hb4 (Nat.le_refl _)⟩ u1 u2, below_rowR (hS0.trans (hb4.mono (by omega))) _ (Nat.le_refl _)⟩
        case measure => simp [intOf]; omega
      · have hd2 : decide ((i : Int) < j) = false := decide_eq_false hlt
        obtain rfl : i = K := by omega
        have bZ := bX.trans (hS0.mono (by have := bX.size; omega))
        replace hA := isArg_below hA hS0 (Nat.le_of_eq HB.out)
        replace hM := isByt_below hM hS0 (Nat.le_of_eq HB.out)
        have xY : memR wr (.agg #[yx, ym]) (NS i) (BS i) := ⟨_, _, rfl, y1, y2⟩
        clear hRT hS0 p0 p1 bX y1 y2
        go_upto_region 8 with (fail)
        have hS := (Below.refl wr.heap.size wr).drew
        replace xY := xY.below (Below.refl wr.heap.size wr).drew
        refine wp_region_mix (fun w' => Below wr.heap.size wr w') [(0, 2), (1, 0), (2, 1), (3, 1), (5, 1), (6, 1), (4, 3), (7, 2), (8, 2), (9, 0), (10, 0), (11, 1), (12, 1), (13, 0), (15, 1), (14, 3), (16, 2), (17, 0), (18, 0)] (by kernel_rfl) (by kernel_rfl) (fun _ _ _ _ _ h => h) ?_
        simp only [List.map_cons, List.map_nil, opOf, List.getD_cons_zero, List.getD_cons_succ]
        change wpMix _ _ _ _ _ _ wr.drew
        refine wpMix_call ?_
        go_wp2_with (go_at_call 8; refine (chipsL_any _).mono ?_; rintro e v0 ⟨rfl, hb⟩)
        replace xY := xY.below hb
        replace hS := hS.trans (hb.mono hS.size)
        clear hb
        try refine ⟨fun h => (by cases h), ?_⟩
        (refine wpMix_still (fun K hK => ?_); go_simp; refine hK _ ?_; clear hK K)
        refine wpMix_held (.agg #[.string nm, .int .i64 k, .int .i64 b, .int .i64 z, .slice da nd dc]) rfl hS (fun w' hw' => exec_rowR 24 _ rfl w.heap.size rfl 24 #[.string nm, .int .i64 k, .int .i64 b, .int .i64 z, .slice da nd dc] (rowB_below m0 hw' (rowB_lt m0)) agCh) ?_
        simp only [Act.put, List.setIfInBounds_toArray, List.set_cons_zero, List.set_cons_succ]
        refine wpMix_held (.agg #[.slice va l.length vc, .slice ma lb.length mc]) rfl hS (fun w' hw' => exec_rowR 27 _ rfl (w.heap.size + 1) rfl 27 #[.slice va l.length vc, .slice ma lb.length mc] (rowB_below m1 hw' (rowB_lt m1)) agDv) ?_
        simp only [Act.put, List.setIfInBounds_toArray, List.set_cons_zero, List.set_cons_succ]
        refine wpMix_held (.agg #[.string nm, .int .i64 k, .int .i64 b, .int .i64 z, .slice da nd dc]) rfl hS (fun w' hw' => exec_rowR 24 _ rfl w.heap.size rfl 24 #[.string nm, .int .i64 k, .int .i64 b, .int .i64 z, .slice da nd dc] (rowB_below m0 hw' (rowB_lt m0)) agCh) ?_
        simp only [Act.put, List.setIfInBounds_toArray, List.set_cons_zero, List.set_cons_succ]
        refine wpMix_held (.agg #[.slice va l.length vc, .slice ma lb.length mc]) rfl hS (fun w' hw' => exec_rowR 27 _ rfl (w.heap.size + 1) rfl 27 #[.slice va l.length vc, .slice ma lb.length mc] (rowB_below m1 hw' (rowB_lt m1)) agDv) ?_
        simp only [Act.put, List.setIfInBounds_toArray, List.set_cons_zero, List.set_cons_succ]
        refine wpMix_call ?_
        go_wp2_with (go_at_call 10; refine (hP1 _ (isArg_below hA hS (Nat.le_refl _)) (isByt_below hM hS (Nat.le_refl _))).mono ?_; rintro e v4 ⟨u4, rfl, x4, hb⟩)
        replace xY := xY.below hb
        replace hS := hS.trans (hb.mono hS.size)
        clear hb
        first | refine ⟨fun _ => hS, ?_⟩ | refine ⟨hS, ?_⟩ | refine And.intro (fun _ => hS) ?_
        refine wpMix_call ?_
        go_wp2_with (go_at_call 7; refine (hR1 _ (isArg_below hA hS (Nat.le_refl _)) (isByt_below hM hS (Nat.le_refl _))).mono ?_; rintro e v7 ⟨u7, rfl, x7, hb⟩)
        replace x4 := x4.below hb
        replace xY := xY.below hb
        replace hS := hS.trans (hb.mono hS.size)
        clear hb
        try refine ⟨fun h => (by cases h), ?_⟩
        refine wpMix_call ?_
        go_wp2_with (go_at_call 9; refine (sameM_any _ _ _ _ _ x4 x7).mono ?_; rintro e v8 ⟨rfl, hb⟩)
        replace xY := xY.below hb
        replace hS := hS.trans (hb.mono hS.size)
        clear hb
        try refine ⟨fun h => (by cases h), ?_⟩
        (refine wpMix_still (fun K hK => ?_); go_simp; refine hK _ ?_; clear hK K)
        (refine wpMix_still (fun K hK => ?_); go_simp; refine hK _ ?_; clear hK K)
        refine wpMix_held (.agg #[.string nm, .int .i64 k, .int .i64 b, .int .i64 z, .slice da nd dc]) rfl hS (fun w' hw' => exec_rowR 24 _ rfl w.heap.size rfl 24 #[.string nm, .int .i64 k, .int .i64 b, .int .i64 z, .slice da nd dc] (rowB_below m0 hw' (rowB_lt m0)) agCh) ?_
        simp only [Act.put, List.setIfInBounds_toArray, List.set_cons_zero, List.set_cons_succ]
        refine wpMix_held (.agg #[.slice va l.length vc, .slice ma lb.length mc]) rfl hS (fun w' hw' => exec_rowR 27 _ rfl (w.heap.size + 1) rfl 27 #[.slice va l.length vc, .slice ma lb.length mc] (rowB_below m1 hw' (rowB_lt m1)) agDv) ?_
        simp only [Act.put, List.setIfInBounds_toArray, List.set_cons_zero, List.set_cons_succ]
        (refine wpMix_still (fun K hK => ?_); go_simp; refine hK _ ?_; clear hK K)
        refine wpMix_held (.agg #[yx, ym]) rfl hS (fun w' hw' => exec_rowR 27 _ rfl Y rfl 27 #[yx, ym] (rowB_below rY hw' (rowB_lt rY)) agDv) ?_
        simp only [Act.put, List.setIfInBounds_toArray, List.set_cons_zero, List.set_cons_succ]
        refine wpMix_call ?_
        go_wp2_with (go_at_call 11; refine (hP2 _ (isArg_below hA hS (Nat.le_refl _)) (isByt_below hM hS (Nat.le_refl _))).mono ?_; rintro e v14 ⟨u14, rfl, x14, hb⟩)
        replace xY := xY.below hb
        replace hS := hS.trans (hb.mono hS.size)
        clear hb
        first | refine ⟨fun _ => hS, ?_⟩ | refine ⟨hS, ?_⟩ | refine And.intro (fun _ => hS) ?_
        refine wpMix_call ?_
        go_wp2_with (go_at_call 9; refine (sameM_any _ _ _ _ _ x14 xY).mono ?_; rintro e v16 ⟨rfl, hb⟩)
        replace xY := xY.below hb
        replace hS := hS.trans (hb.mono hS.size)
        clear hb
        try refine ⟨fun h => (by cases h), ?_⟩
        (refine wpMix_still (fun K hK => ?_); go_simp; refine hK _ ?_; clear hK K)
        (refine wpMix_still (fun K hK => ?_); go_simp; refine hK _ ?_; clear hK K)
        refine wpMix_nil ?_
        go_wp2_with fail
        go_ret
        exact ⟨rfl, bZ.trans (hS.mono bZ.size)⟩
end Go.Proofs.YtakaebjojgeehaaGreat
