/- A part of the proof of ChipTicks: DrvRb. -/
import Derived.Test.YtakaebjojgeehaaGreatChipTicksK01
import Derived.Test.YtakaebjojgeehaaGreatChipTicksK02
import Derived.Test.YtakaebjojgeehaaGreatChipTicksK03
import Derived.Test.YtakaebjojgeehaaGreatChipTicksK04
import Derived.Test.YtakaebjojgeehaaGreatChipTicksK05
import Derived.Test.YtakaebjojgeehaaGreatChipTicksK06
import Derived.Test.YtakaebjojgeehaaGreatChipTicksK09
import Derived.Test.YtakaebjojgeehaaGreatChipTicksK12
import Derived.Test.YtakaebjojgeehaaGreatChipTicksK16
import Derived.Test.YtakaebjojgeehaaGreatChipTicksK17
import Derived.Test.YtakaebjojgeehaaGreatChipTicksK45
import Derived.Test.YtakaebjojgeehaaGreatChipTicksK46
import Derived.Below
import Derived.BigQuiet
import Derived.ChangeMaps5
import Derived.Deep.DeepAppendWide
import Derived.Deep.DeepCutAuto
import Derived.Deep.Draws
import Derived.Deep.MidRow
import Derived.Deep.OwnRows
import Derived.Deep.QuietTactic
import Derived.Deep.RegionHeld3
import Derived.Deep.RegionWith
import Derived.Deep.Slices
import Derived.Deep.WholeRow
import Derived.Laws.CopyOwn
import Derived.Laws.OwnMore
import Derived.Lib.Hide
import Derived.Lib.SmallJoins
import Derived.OpenShut
import Derived.OrdersHeld
import Derived.OwnWalk
import Derived.RowKit3
import Derived.StillTactics
import Derived.StillTail
import Derived.StillTailTactics
import Derived.Test.YtakaebjojgeehaaGreatChecked
import Derived.WalkKit
namespace Go.Proofs.YtakaebjojgeehaaGreat
open Go.RowKit
set_option maxRecDepth 100000
theorem Dr.of_len (ln lb : List Int) : (Dr.of ln lb).m.length ≤ lb.length := by
  show (drM lb).length ≤ _
  rw [drM_len]
  omega
theorem Dr.tick_len (s : Dr) : s.tick.m.length = s.m.length := by
  unfold Dr.tick Dr.move
  split
  · rfl
  · split
    · rfl
    · split
      · rfl
      · split
        · rfl
        · have h1 : s.byte.done.m = s.byte.m := by unfold Dr.done; split <;> rfl
          have h2 : s.byte.m.length = s.m.length := by unfold Dr.byte; split <;> simp
          rw [h1, h2]
theorem drvG.le {lo g j : Nat} {w : World} {a : Option Addr} {m : List Int} (h : bytO lo w a m g) (hg : lo ≤ g) (hj : drvG g a j) : lo ≤ j := by
  rcases hj with rfl | e
  · exact hg
  · rcases h with ⟨_, e2⟩ | ⟨q, e2, h1, _⟩
    · rw [e2] at e; cases e
    · rw [e2] at e; cases e; exact h1
set_option maxHeartbeats 4000000 in
theorem tickedDrv_any (nm : ByteArray) (bb zz : Int) (dat v vm : Value) (ln lb : List Int) (w : World) (h : isArg w v ln) (hm : isByt w vm lb) (hbb : ∀ x ∈ lb, 0 ≤ x ∧ x < 256) (hL : lb.length ≤ 140737488351232) :
    Calls Tryz.prog 7 #[.agg (chip5 nm 8 bb zz dat), .agg #[v, vm]] w fun e w' => ∃ u, e = .returned u ∧ devD w.heap.size w' u (Dr.of ln lb).tick ∧ Below w.heap.size w w' := by
  obtain ⟨k0, k1, k2, bW, sW⟩ := boxes3 w (.cells #[.string nm, .int .i64 8, .int .i64 bb, .int .i64 zz, dat] 24) (.cells #[v, vm] 27) (.cells #[.slice none 0 0, .slice none 0 0] 27)
  have k0 : rowB _ _ _ _ := k0
  have k1 : rowB _ _ _ _ := k1
  have k2 : rowB _ _ _ _ := k2
  have hF := formedDrv_any nm bb zz dat v vm ln lb _ (isArg_below h bW (Nat.le_refl _)) (isByt_below hm bW (Nat.le_refl _)) hL
  have hfit := Dr.of_fit ln lb hbb
  have hml := Dr.of_len ln lb
  clear h hm hbb
  generalize Dr.of ln lb = s at *
  obtain ⟨k, t, c, e, n, f, d, r, o, y, m⟩ := s
  have hs := hfit
  obtain ⟨b0, b1, b2, b3, b4, b5, b6, b7, b8, b9, b10, b11⟩ := hfit
  dsimp only [chip5] at *
  by_cases hc : 0 < c
  · have dc : decide (0 < c) = true := decide_eq_true (by omega)
    go_enter Tryz.func7, Tryz.ntmps7
    go_upto_region 2 with (first
      | (go_at_call 6; refine hF.mono ?_; rintro e w2 ⟨u, rfl, ⟨g, a, rfl, hg, hr, hq⟩, hb⟩; have q0 := rowB_below k0 hb (rowB_lt k0); have q1 := rowB_below k1 hb (rowB_lt k1); have q2 := rowB_below k2 hb (rowB_lt k2); rw [sW] at hg hq; have bX := bW.trans (hb.mono bW.size))
      | (refine wpList_storeR rfl 27 _ _ rfl (w.heap.size + 1) rfl #[.slice (some ⟨g, 0, none⟩) 10 10, .slice a m.length m.length] rfl (dev2_one _ _ _ _ _ _) 27 #[v, vm] rfl ?_ agDv ?_; with_reducible exact q1))
    try dsimp only at hq
    try dsimp only [Dr.ns] at hr
    replace q0 := rowB_row_other q0 #[.slice (some ⟨g, 0, none⟩) 10 10, .slice a m.length m.length] (show w.heap.size + 1 ≠ w.heap.size by omega)
    replace q2 := rowB_row_other q2 #[.slice (some ⟨g, 0, none⟩) 10 10, .slice a m.length m.length] (show w.heap.size + 1 ≠ w.heap.size + 2 by omega)
    replace hr := rowB_row_other hr #[.slice (some ⟨g, 0, none⟩) 10 10, .slice a m.length m.length] (show w.heap.size + 1 ≠ g by omega)
    replace hq := bytO.row hq (show w.heap.size + 1 < _ by omega) #[.slice (some ⟨g, 0, none⟩) 10 10, .slice a m.length m.length]
    replace q1 := rowB_row q1 #[.slice (some ⟨g, 0, none⟩) 10 10, .slice a m.length m.length]
    replace bX := below_rowR bX #[.slice (some ⟨g, 0, none⟩) 10 10, .slice a m.length m.length] (show w.heap.size ≤ w.heap.size + 1 by omega)
    generalize w2.setRow (w.heap.size + 1) #[.slice (some ⟨g, 0, none⟩) 10 10, .slice a m.length m.length] = w3 at *
    clear hb hF k0 k1 k2 bW sW
    have hk := rowB_cell q0 1 (v := .int .i64 8) rfl
    obtain ⟨d0, d1, y0, y1⟩ := dcells2 q1
    obtain ⟨⟨c0, c1, c2, c3, c4, c5, c6, c7, c8, c9⟩, ⟨z0, z1, z2, z3, z4, z5, z6, z7, z8, z9⟩⟩ := drCells hr
    have lg := rowB_lt hr
    have hT := turns_any ⟨k, t, c, e, n, f, d, r, o, y, m⟩ g (w.heap.size + 3) a w3 hr hq hs hc (show m.length ≤ _ by omega)
    unfold turnsEnd at hT
    have hlen := Dr.tick_len ⟨k, t, c, e, n, f, d, r, o, y, m⟩
    generalize hS : (⟨k, t, c, e, n, f, d, r, o, y, m⟩ : Dr).tick = S at *
    have HS := Lib.hid hS
    clear hS
    obtain ⟨k', t', c', e', n', f', d', r', o', y', m'⟩ := S
    dsimp only at hlen hT
    have HW := Lib.hid hlen
    clear hlen
    go_wp2_with (first
      | (go_at_call 23; refine hT.mono ?_; rintro e w5 ⟨rfl, rg, rq, ho⟩; have r1 := rowB_off q1 ho (fun hj => absurd (drvG.le hq hg hj) (by omega)); have r2 := rowB_off q2 ho (fun hj => absurd (drvG.le hq hg hj) (by omega)); have bY := bX.trans (ho.below bX.size (fun j hj => Nat.le_trans (by omega) (drvG.le hq hg hj))))
      | (refine wpList_loadR rfl 27 _ rfl (w.heap.size + 1) rfl 27 #[.slice (some ⟨g, 0, none⟩) 10 10, .slice a m.length m.length] ?_ agDv ?_; with_reducible exact r1)
      | (refine wpList_storeR rfl 27 _ _ rfl (w.heap.size + 2) rfl #[.slice (some ⟨g, 0, none⟩) 10 10, .slice a m.length m.length] rfl (dev2_one _ _ _ _ _ _) 27 #[.slice none 0 0, .slice none 0 0] rfl ?_ agDv ?_; with_reducible exact r2))
    refine bodyPost_ret (resultsR rfl (w.heap.size + 2) _ rfl (rowB_row r2 _) agDv) rfl ?_
    rw [HS.out]
    refine ⟨_, rfl, ⟨g, a, ?_, by omega, rowB_row_other rg _ (show w.heap.size + 2 ≠ g by omega), (bytO.row rq (show w.heap.size + 2 < w.heap.size + 3 by omega) _).mono (show w.heap.size ≤ w.heap.size + 3 by omega)⟩, below_rowR bY _ (by omega)⟩
    show Value.agg _ = .agg #[_, .slice a m'.length m'.length]
    rw [HW.out]
  · have e1 : (⟨k, t, c, e, n, f, d, r, o, y, m⟩ : Dr).tick = (⟨k, t, c, e, n, f, d, r, o, y, m⟩ : Dr) := by unfold Dr.tick; rw [if_pos (by show c = 0; omega)]
    rw [e1]
    clear e1
    have dc : decide (0 < c) = false := decide_eq_false (by omega)
    go_enter Tryz.func7, Tryz.ntmps7
    go_upto_region 2 with (first
      | (go_at_call 6; refine hF.mono ?_; rintro e w2 ⟨u, rfl, ⟨g, a, rfl, hg, hr, hq⟩, hb⟩; have q0 := rowB_below k0 hb (rowB_lt k0); have q1 := rowB_below k1 hb (rowB_lt k1); have q2 := rowB_below k2 hb (rowB_lt k2); rw [sW] at hg hq; have bX := bW.trans (hb.mono bW.size))
      | (refine wpList_storeR rfl 27 _ _ rfl (w.heap.size + 1) rfl #[.slice (some ⟨g, 0, none⟩) 10 10, .slice a m.length m.length] rfl (dev2_one _ _ _ _ _ _) 27 #[v, vm] rfl ?_ agDv ?_; with_reducible exact q1))
    try dsimp only at hq
    try dsimp only [Dr.ns] at hr
    replace q0 := rowB_row_other q0 #[.slice (some ⟨g, 0, none⟩) 10 10, .slice a m.length m.length] (show w.heap.size + 1 ≠ w.heap.size by omega)
    replace q2 := rowB_row_other q2 #[.slice (some ⟨g, 0, none⟩) 10 10, .slice a m.length m.length] (show w.heap.size + 1 ≠ w.heap.size + 2 by omega)
    replace hr := rowB_row_other hr #[.slice (some ⟨g, 0, none⟩) 10 10, .slice a m.length m.length] (show w.heap.size + 1 ≠ g by omega)
    replace hq := bytO.row hq (show w.heap.size + 1 < _ by omega) #[.slice (some ⟨g, 0, none⟩) 10 10, .slice a m.length m.length]
    replace q1 := rowB_row q1 #[.slice (some ⟨g, 0, none⟩) 10 10, .slice a m.length m.length]
    replace bX := below_rowR bX #[.slice (some ⟨g, 0, none⟩) 10 10, .slice a m.length m.length] (show w.heap.size ≤ w.heap.size + 1 by omega)
    generalize w2.setRow (w.heap.size + 1) #[.slice (some ⟨g, 0, none⟩) 10 10, .slice a m.length m.length] = w3 at *
    clear hb hF k0 k1 k2 bW sW
    have hk := rowB_cell q0 1 (v := .int .i64 8) rfl
    obtain ⟨d0, d1, y0, y1⟩ := dcells2 q1
    obtain ⟨⟨c0, c1, c2, c3, c4, c5, c6, c7, c8, c9⟩, ⟨z0, z1, z2, z3, z4, z5, z6, z7, z8, z9⟩⟩ := drCells hr
    have lg := rowB_lt hr
    go_wp2_with (first
      | (refine wpList_loadR rfl 27 _ rfl (w.heap.size + 1) rfl 27 #[.slice (some ⟨g, 0, none⟩) 10 10, .slice a m.length m.length] ?_ agDv ?_; with_reducible exact q1)
      | (refine wpList_storeR rfl 27 _ _ rfl (w.heap.size + 2) rfl #[.slice (some ⟨g, 0, none⟩) 10 10, .slice a m.length m.length] rfl (dev2_one _ _ _ _ _ _) 27 #[.slice none 0 0, .slice none 0 0] rfl ?_ agDv ?_; with_reducible exact q2))
    refine bodyPost_ret (resultsR rfl (w.heap.size + 2) _ rfl (rowB_row q2 _) agDv) rfl ?_
    exact ⟨_, rfl, ⟨g, a, rfl, by omega, rowB_row_other hr _ (show w.heap.size + 2 ≠ g by omega), (bytO.row hq (show w.heap.size + 2 < w.heap.size + 3 by omega) _).mono (show w.heap.size ≤ w.heap.size + 3 by omega)⟩, below_rowR bX _ (by omega)⟩
end Go.Proofs.YtakaebjojgeehaaGreat
