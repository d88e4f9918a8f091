/- What the reference says of drives: Fresh, Shows, Rests, Asking, Stored, Ticked, Given. -/
import Derived.Test.YtmjddoboogccoaaChecked
import Derived.Test.YtmjddoboogccoaaDevFormD
import Derived.Test.YtmjddoboogccoaaDevPick
import Derived.Test.YtmjddoboogccoaaDrvR
import Derived.Below
import Derived.BigQuiet
import Derived.ChangeMaps5
import Derived.Deep.DeepAppendWide
import Derived.Deep.DeepCutAuto
import Derived.Deep.Draws
import Derived.Deep.MidRow
import Derived.Deep.OwnRows
import Derived.Deep.QuietTactic
import Derived.Deep.RegionHeld3
import Derived.Deep.RegionWith
import Derived.Deep.Slices
import Derived.Deep.WholeRow
import Derived.Laws.CopyOwn
import Derived.Laws.OwnMore
import Derived.Lib.Hide
import Derived.Lib.SmallJoins
import Derived.OpenShut
import Derived.OrdersHeld
import Derived.OwnWalk
import Derived.RowKit3
import Derived.StillTactics
import Derived.StillTail
import Derived.StillTailTactics
import Derived.WalkKit
namespace Go.Proofs.Ytmjddoboogccoaa
open Go.RowKit
set_option maxRecDepth 100000

theorem Dr.of_len (ln lb : List Int) : (Dr.of ln lb).m.length ≤ lb.length := by
  show (drM lb).length ≤ _
  rw [drM_len]
  omega
theorem Dr.tick_len (s : Dr) : s.tick.m.length = s.m.length := by
  unfold Dr.tick Dr.move
  split
  · rfl
  · split
    · rfl
    · split
      · rfl
      · split
        · rfl
        · have h1 : s.byte.done.m = s.byte.m := by unfold Dr.done; split <;> rfl
          have h2 : s.byte.m.length = s.m.length := by unfold Dr.byte; split <;> simp
          rw [h1, h2]
theorem Dr.write_m (s : Dr) (a x : Int) : (s.write a x).m = s.m := by
  unfold Dr.write
  split
  · split <;> rfl
  · split
    · split <;> rfl
    · split <;> rfl
theorem bytO.off {lo g : Nat} {w w' : World} {a : Option Addr} {m : List Int} (h : bytO lo w a m g) (ho : Off (· = g) w w') : bytO lo w' a m g := by
  rcases h with h | ⟨q, e, h1, h2, h3⟩
  · exact .inl h
  · exact .inr ⟨q, e, h1, h2, rowB_off h3 ho h2⟩
set_option maxHeartbeats 1000000 in
theorem freshDrv_any (nm : ByteArray) (bb zz : Int) (dat : Value) (lb : List Int) (w : World) (hm : isByt w dat lb) (hL : lb.length ≤ 140737488351232) :
    Calls Try.prog 12 #[.agg (chip5 nm 8 bb zz dat)] w fun e w' => ∃ v, e = .returned v ∧ devD w.heap.size w' v (Dr.of [] lb) ∧ Below w.heap.size w w' := by
  obtain ⟨sp, sc, rfl, _⟩ := isByt_src hm 0
  obtain ⟨k0, k1, bW, sW⟩ := boxes2 w (.cells #[.string nm, .int .i64 8, .int .i64 bb, .int .i64 zz, .slice sp lb.length sc] 27) (.cells #[.slice none 0 0, .slice none 0 0] 25)
  have k1 : rowB _ _ _ _ := k1
  have hF := formedDrv_any nm bb zz (.slice sp lb.length sc) (.slice none 0 0) (.slice sp lb.length sc) [] lb _ (isArg_none ((w.alloc (.cells #[.string nm, .int .i64 8, .int .i64 bb, .int .i64 zz, .slice sp lb.length sc] 27)).alloc (.cells #[.slice none 0 0, .slice none 0 0] 25))) (isByt_below hm bW (Nat.le_refl _)) hL
  clear hm
  generalize Dr.of [] lb = s at *
  obtain ⟨k, t, c, e, n, f, d, r, o, y, m⟩ := s
  dsimp only [chip5] at *
  go_enter Try.func12, Try.ntmps12
  go_wp2_with (first
    | (go_at_call 25; refine hF.mono ?_; rintro e w2 ⟨u, rfl, ⟨g, a, rfl, hg, hr, hq⟩, hb⟩; have q1 := rowB_below k1 hb (rowB_lt k1); rw [sW] at hg hq; have bX := bW.trans (hb.mono bW.size))
    | (refine wpList_storeR rfl 25 _ _ rfl (w.heap.size + 1) rfl #[.slice (some ⟨g, 0, none⟩) 10 10, .slice a m.length m.length] rfl (dev2_one _ _ _ _ _ _) 25 #[.slice none 0 0, .slice none 0 0] rfl ?_ agDv ?_; with_reducible exact q1))
  refine bodyPost_ret (resultsR rfl (w.heap.size + 1) _ rfl (rowB_row q1 _) agDv) rfl ?_
  exact ⟨_, rfl, ⟨g, a, rfl, by omega, rowB_row_other hr _ (by omega), (bytO.row hq (by omega) _).mono (by omega)⟩, below_rowR bX _ (by omega)⟩
set_option maxHeartbeats 4000000 in
theorem showsDrv_any (nm : ByteArray) (bb zz : Int) (dat v vm : Value) (ln lb : List Int) (w : World) (h : isArg w v ln) (hm : isByt w vm lb) (hbb : ∀ x ∈ lb, 0 ≤ x ∧ x < 256) (hL : lb.length ≤ 140737488351232) :
    Calls Try.prog 22 #[.agg (chip5 nm 8 bb zz dat), .agg #[v, vm]] w fun e w' => e = .returned (.int .i64 (Dr.of ln lb).t) ∧ Below w.heap.size w w' := by
  obtain ⟨k0, k1, bW, sW⟩ := boxes2 w (.cells #[.string nm, .int .i64 8, .int .i64 bb, .int .i64 zz, dat] 27) (.cells #[v, vm] 25)
  have k0 : rowB _ _ _ _ := k0
  have k1 : rowB _ _ _ _ := k1
  have hF := formedDrv_any nm bb zz dat v vm ln lb _ (isArg_below h bW (Nat.le_refl _)) (isByt_below hm bW (Nat.le_refl _)) hL
  have hfit := Dr.of_fit ln lb hbb
  have hml := Dr.of_len ln lb
  clear h hm hbb
  generalize Dr.of ln lb = s at *
  obtain ⟨k, t, c, e, n, f, d, r, o, y, m⟩ := s
  have hs := hfit
  obtain ⟨b0, b1, b2, b3, b4, b5, b6, b7, b8, b9, b10, b11⟩ := hfit
  dsimp only [chip5] at *
  go_enter Try.func22, Try.ntmps22
  go_upto_region 2 with (first
    | (go_at_call 25; refine hF.mono ?_; rintro e w2 ⟨u, rfl, ⟨g, a, rfl, hg, hr, hq⟩, hb⟩; have q0 := rowB_below k0 hb (rowB_lt k0); have q1 := rowB_below k1 hb (rowB_lt k1); rw [sW] at hg hq; have bX := bW.trans (hb.mono bW.size))
    | (refine wpList_storeR rfl 25 _ _ rfl (w.heap.size + 1) rfl #[.slice (some ⟨g, 0, none⟩) 10 10, .slice a m.length m.length] rfl (dev2_one _ _ _ _ _ _) 25 #[v, vm] rfl ?_ agDv ?_; with_reducible exact q1))
  try dsimp only at hq
  try dsimp only [Dr.ns] at hr
  replace q0 := rowB_row_other q0 #[.slice (some ⟨g, 0, none⟩) 10 10, .slice a m.length m.length] (show w.heap.size + 1 ≠ w.heap.size by omega)
  replace hr := rowB_row_other hr #[.slice (some ⟨g, 0, none⟩) 10 10, .slice a m.length m.length] (show w.heap.size + 1 ≠ g by omega)
  replace hq := bytO.row hq (show w.heap.size + 1 < _ by omega) #[.slice (some ⟨g, 0, none⟩) 10 10, .slice a m.length m.length]
  replace q1 := rowB_row q1 #[.slice (some ⟨g, 0, none⟩) 10 10, .slice a m.length m.length]
  replace bX := below_rowR bX #[.slice (some ⟨g, 0, none⟩) 10 10, .slice a m.length m.length] (show w.heap.size ≤ w.heap.size + 1 by omega)
  generalize w2.setRow (w.heap.size + 1) #[.slice (some ⟨g, 0, none⟩) 10 10, .slice a m.length m.length] = w3 at *
  clear hb hF k0 k1 bW sW
  have hk := rowB_cell q0 1 (v := .int .i64 8) rfl
  obtain ⟨d0, d1, y0, y1⟩ := dcells2 q1
  obtain ⟨⟨c0, c1, c2, c3, c4, c5, c6, c7, c8, c9⟩, ⟨z0, z1, z2, z3, z4, z5, z6, z7, z8, z9⟩⟩ := drCells hr
  have lg := rowB_lt hr
  go_wp2_with fail
  go_ret
  exact ⟨rfl, bX⟩
set_option maxHeartbeats 4000000 in
theorem restsDrv_any (nm : ByteArray) (bb zz : Int) (dat v vm : Value) (ln lb : List Int) (w : World) (h : isArg w v ln) (hm : isByt w vm lb) (hbb : ∀ x ∈ lb, 0 ≤ x ∧ x < 256) (hL : lb.length ≤ 140737488351232) :
    Calls Try.prog 24 #[.agg (chip5 nm 8 bb zz dat), .agg #[v, vm]] w fun e w' => e = .returned (.int .i64 (Dr.of ln lb).next) ∧ Below w.heap.size w w' := by
  obtain ⟨k0, k1, bW, sW⟩ := boxes2 w (.cells #[.string nm, .int .i64 8, .int .i64 bb, .int .i64 zz, dat] 27) (.cells #[v, vm] 25)
  have k0 : rowB _ _ _ _ := k0
  have k1 : rowB _ _ _ _ := k1
  have hF := formedDrv_any nm bb zz dat v vm ln lb _ (isArg_below h bW (Nat.le_refl _)) (isByt_below hm bW (Nat.le_refl _)) hL
  have hfit := Dr.of_fit ln lb hbb
  have hml := Dr.of_len ln lb
  clear h hm hbb
  generalize Dr.of ln lb = s at *
  obtain ⟨k, t, c, e, n, f, d, r, o, y, m⟩ := s
  have hs := hfit
  obtain ⟨b0, b1, b2, b3, b4, b5, b6, b7, b8, b9, b10, b11⟩ := hfit
  dsimp only [chip5] at *
  show Calls _ _ _ _ fun e w' => e = .returned (.int .i64 (if 0 < c then (if 1 < f then f - 1 else 0) else 100000)) ∧ _
  obtain ⟨Q, hQ⟩ : ∃ Q : Int, (if 0 < c then (if 1 < f then f - 1 else 0) else 100000) = Q := ⟨_, rfl⟩
  rw [hQ]
  have wf : wrap64 (f - 1) = f - 1 := IntWalk.wrap64_in _ (by omega)
  by_cases hc : 0 < c
  · by_cases hf : 1 < f
    · rw [if_pos hc, if_pos hf] at hQ
      subst hQ
      have dc : decide (0 < c) = true := decide_eq_true (by omega)
      go_enter Try.func24, Try.ntmps24
      go_upto_region 2 with (first
        | (go_at_call 25; refine hF.mono ?_; rintro e w2 ⟨u, rfl, ⟨g, a, rfl, hg, hr, hq⟩, hb⟩; have q0 := rowB_below k0 hb (rowB_lt k0); have q1 := rowB_below k1 hb (rowB_lt k1); rw [sW] at hg hq; have bX := bW.trans (hb.mono bW.size))
        | (refine wpList_storeR rfl 25 _ _ rfl (w.heap.size + 1) rfl #[.slice (some ⟨g, 0, none⟩) 10 10, .slice a m.length m.length] rfl (dev2_one _ _ _ _ _ _) 25 #[v, vm] rfl ?_ agDv ?_; with_reducible exact q1))
      try dsimp only at hq
      try dsimp only [Dr.ns] at hr
      replace q0 := rowB_row_other q0 #[.slice (some ⟨g, 0, none⟩) 10 10, .slice a m.length m.length] (show w.heap.size + 1 ≠ w.heap.size by omega)
      replace hr := rowB_row_other hr #[.slice (some ⟨g, 0, none⟩) 10 10, .slice a m.length m.length] (show w.heap.size + 1 ≠ g by omega)
      replace hq := bytO.row hq (show w.heap.size + 1 < _ by omega) #[.slice (some ⟨g, 0, none⟩) 10 10, .slice a m.length m.length]
      replace q1 := rowB_row q1 #[.slice (some ⟨g, 0, none⟩) 10 10, .slice a m.length m.length]
      replace bX := below_rowR bX #[.slice (some ⟨g, 0, none⟩) 10 10, .slice a m.length m.length] (show w.heap.size ≤ w.heap.size + 1 by omega)
      generalize w2.setRow (w.heap.size + 1) #[.slice (some ⟨g, 0, none⟩) 10 10, .slice a m.length m.length] = w3 at *
      clear hb hF k0 k1 bW sW
      have hk := rowB_cell q0 1 (v := .int .i64 8) rfl
      obtain ⟨d0, d1, y0, y1⟩ := dcells2 q1
      obtain ⟨⟨c0, c1, c2, c3, c4, c5, c6, c7, c8, c9⟩, ⟨z0, z1, z2, z3, z4, z5, z6, z7, z8, z9⟩⟩ := drCells hr
      have lg := rowB_lt hr
      go_wp2_with fail
      all_goals first | (go_ret; exact ⟨rfl, bX⟩) | (exfalso; omega)
    · rw [if_pos hc, if_neg hf] at hQ
      subst hQ
      have dc : decide (0 < c) = true := decide_eq_true (by omega)
      go_enter Try.func24, Try.ntmps24
      go_upto_region 2 with (first
        | (go_at_call 25; refine hF.mono ?_; rintro e w2 ⟨u, rfl, ⟨g, a, rfl, hg, hr, hq⟩, hb⟩; have q0 := rowB_below k0 hb (rowB_lt k0); have q1 := rowB_below k1 hb (rowB_lt k1); rw [sW] at hg hq; have bX := bW.trans (hb.mono bW.size))
        | (refine wpList_storeR rfl 25 _ _ rfl (w.heap.size + 1) rfl #[.slice (some ⟨g, 0, none⟩) 10 10, .slice a m.length m.length] rfl (dev2_one _ _ _ _ _ _) 25 #[v, vm] rfl ?_ agDv ?_; with_reducible exact q1))
      try dsimp only at hq
      try dsimp only [Dr.ns] at hr
      replace q0 := rowB_row_other q0 #[.slice (some ⟨g, 0, none⟩) 10 10, .slice a m.length m.length] (show w.heap.size + 1 ≠ w.heap.size by omega)
      replace hr := rowB_row_other hr #[.slice (some ⟨g, 0, none⟩) 10 10, .slice a m.length m.length] (show w.heap.size + 1 ≠ g by omega)
      replace hq := bytO.row hq (show w.heap.size + 1 < _ by omega) #[.slice (some ⟨g, 0, none⟩) 10 10, .slice a m.length m.length]
      replace q1 := rowB_row q1 #[.slice (some ⟨g, 0, none⟩) 10 10, .slice a m.length m.length]
      replace bX := below_rowR bX #[.slice (some ⟨g, 0, none⟩) 10 10, .slice a m.length m.length] (show w.heap.size ≤ w.heap.size + 1 by omega)
      generalize w2.setRow (w.heap.size + 1) #[.slice (some ⟨g, 0, none⟩) 10 10, .slice a m.length m.length] = w3 at *
      clear hb hF k0 k1 bW sW
      have hk := rowB_cell q0 1 (v := .int .i64 8) rfl
      obtain ⟨d0, d1, y0, y1⟩ := dcells2 q1
      obtain ⟨⟨c0, c1, c2, c3, c4, c5, c6, c7, c8, c9⟩, ⟨z0, z1, z2, z3, z4, z5, z6, z7, z8, z9⟩⟩ := drCells hr
      have lg := rowB_lt hr
      go_wp2_with fail
      all_goals first | (go_ret; exact ⟨rfl, bX⟩) | (exfalso; omega)
  · rw [if_neg hc] at hQ
    subst hQ
    have dc : decide (0 < c) = false := decide_eq_false (by omega)
    go_enter Try.func24, Try.ntmps24
    go_upto_region 2 with (first
      | (go_at_call 25; refine hF.mono ?_; rintro e w2 ⟨u, rfl, ⟨g, a, rfl, hg, hr, hq⟩, hb⟩; have q0 := rowB_below k0 hb (rowB_lt k0); have q1 := rowB_below k1 hb (rowB_lt k1); rw [sW] at hg hq; have bX := bW.trans (hb.mono bW.size))
      | (refine wpList_storeR rfl 25 _ _ rfl (w.heap.size + 1) rfl #[.slice (some ⟨g, 0, none⟩) 10 10, .slice a m.length m.length] rfl (dev2_one _ _ _ _ _ _) 25 #[v, vm] rfl ?_ agDv ?_; with_reducible exact q1))
    try dsimp only at hq
    try dsimp only [Dr.ns] at hr
    replace q0 := rowB_row_other q0 #[.slice (some ⟨g, 0, none⟩) 10 10, .slice a m.length m.length] (show w.heap.size + 1 ≠ w.heap.size by omega)
    replace hr := rowB_row_other hr #[.slice (some ⟨g, 0, none⟩) 10 10, .slice a m.length m.length] (show w.heap.size + 1 ≠ g by omega)
    replace hq := bytO.row hq (show w.heap.size + 1 < _ by omega) #[.slice (some ⟨g, 0, none⟩) 10 10, .slice a m.length m.length]
    replace q1 := rowB_row q1 #[.slice (some ⟨g, 0, none⟩) 10 10, .slice a m.length m.length]
    replace bX := below_rowR bX #[.slice (some ⟨g, 0, none⟩) 10 10, .slice a m.length m.length] (show w.heap.size ≤ w.heap.size + 1 by omega)
    generalize w2.setRow (w.heap.size + 1) #[.slice (some ⟨g, 0, none⟩) 10 10, .slice a m.length m.length] = w3 at *
    clear hb hF k0 k1 bW sW
    have hk := rowB_cell q0 1 (v := .int .i64 8) rfl
    obtain ⟨d0, d1, y0, y1⟩ := dcells2 q1
    obtain ⟨⟨c0, c1, c2, c3, c4, c5, c6, c7, c8, c9⟩, ⟨z0, z1, z2, z3, z4, z5, z6, z7, z8, z9⟩⟩ := drCells hr
    have lg := rowB_lt hr
    go_wp2_with fail
    go_ret
    exact ⟨rfl, bX⟩
attribute [local go_sem ↓] run_devN in
set_option maxHeartbeats 4000000 in
theorem askingDrv_any (nm : ByteArray) (bb zz : Int) (dat v vm : Value) (ln lb : List Int) (w : World) (h : isArg w v ln) (hm : isByt w vm lb) (hbb : ∀ x ∈ lb, 0 ≤ x ∧ x < 256) (hL : lb.length ≤ 140737488351232) :
    Calls Try.prog 20 #[.agg (chip5 nm 8 bb zz dat), .agg #[v, vm]] w fun e w' => e = .returned (.bool (Dr.of ln lb).irq) ∧ Below w.heap.size w w' := by
  obtain ⟨k0, k1, bW, sW⟩ := boxes2 w (.cells #[.string nm, .int .i64 8, .int .i64 bb, .int .i64 zz, dat] 27) (.cells #[v, vm] 25)
  have k0 : rowB _ _ _ _ := k0
  have k1 : rowB _ _ _ _ := k1
  have hF := formedDrv_any nm bb zz dat v vm ln lb _ (isArg_below h bW (Nat.le_refl _)) (isByt_below hm bW (Nat.le_refl _)) hL
  have hfit := Dr.of_fit ln lb hbb
  have hml := Dr.of_len ln lb
  clear h hm hbb
  generalize Dr.of ln lb = s at *
  obtain ⟨k, t, c, e, n, f, d, r, o, y, m⟩ := s
  have hs := hfit
  obtain ⟨b0, b1, b2, b3, b4, b5, b6, b7, b8, b9, b10, b11⟩ := hfit
  dsimp only [chip5] at *
  show Calls _ _ _ _ fun e w' => e = .returned (.bool (decide (y = 1) && decide (r = 1))) ∧ _
  obtain ⟨Q, hQ⟩ : ∃ Q, (decide (y = 1) && decide (r = 1)) = Q := ⟨_, rfl⟩
  rw [hQ]
  have hM : (y * r == 1) = Q := by
    rw [← hQ]
    rcases (by omega : y = 0 ∨ y = 1) with rfl | rfl <;> rcases (by omega : r = 0 ∨ r = 1) with rfl | rfl <;> decide
  have wm : wrap64 (y * r) = y * r := by rcases (by omega : y = 0 ∨ y = 1) with rfl | rfl <;> rcases (by omega : r = 0 ∨ r = 1) with rfl | rfl <;> exact IntWalk.wrap64_in _ (by decide)
  clear hQ
  have wm2 : IntKind.i64.wrap (y * r) = y * r := by rcases (by omega : y = 0 ∨ y = 1) with rfl | rfl <;> rcases (by omega : r = 0 ∨ r = 1) with rfl | rfl <;> exact IntWalk.i64_in _ (by decide)
  go_enter Try.func20, Try.ntmps20
  go_upto_region 2 with (first
    | (go_at_call 25; refine hF.mono ?_; rintro e w2 ⟨u, rfl, ⟨g, a, rfl, hg, hr, hq⟩, hb⟩; have q0 := rowB_below k0 hb (rowB_lt k0); have q1 := rowB_below k1 hb (rowB_lt k1); rw [sW] at hg hq; have bX := bW.trans (hb.mono bW.size)))
  try dsimp only at hq
  try dsimp only [Dr.ns] at hr
  obtain ⟨w3, rfl⟩ : ∃ w3, w3 = w2 := ⟨_, rfl⟩
  clear hb hF k0 k1 bW sW
  have hk := rowB_cell q0 1 (v := .int .i64 8) rfl
  obtain ⟨⟨c0, c1, c2, c3, c4, c5, c6, c7, c8, c9⟩, ⟨z0, z1, z2, z3, z4, z5, z6, z7, z8, z9⟩⟩ := drCells hr
  have lg := rowB_lt hr
  go_upto_region 8 with fail
  go_quiet (fail)
  go_wp2_with fail
  go_ret
  exact ⟨by first | rfl | rw [hM], bX.trans ((below_drewN w3 nq _).mono bX.size)⟩
set_option maxHeartbeats 4000000 in
theorem storedDrv_any (nm : ByteArray) (bb zz : Int) (dat v vm : Value) (ln lb : List Int) (at' x : Int) (w : World) (h : isArg w v ln) (hm : isByt w vm lb) (hbb : ∀ x ∈ lb, 0 ≤ x ∧ x < 256) (hL : lb.length ≤ 140737488351232) :
    Calls Try.prog 16 #[.agg (chip5 nm 8 bb zz dat), .agg #[v, vm], .int .i64 at', .int .i64 x] w fun e w' => ∃ u, e = .returned u ∧ devD w.heap.size w' u ((Dr.of ln lb).write at' x) ∧ Below w.heap.size w w' := by
  obtain ⟨k0, k1, k2, bW, sW⟩ := boxes3 w (.cells #[.string nm, .int .i64 8, .int .i64 bb, .int .i64 zz, dat] 27) (.cells #[v, vm] 25) (.cells #[.slice none 0 0, .slice none 0 0] 25)
  have k0 : rowB _ _ _ _ := k0
  have k1 : rowB _ _ _ _ := k1
  have k2 : rowB _ _ _ _ := k2
  have hF := formedDrv_any nm bb zz dat v vm ln lb _ (isArg_below h bW (Nat.le_refl _)) (isByt_below hm bW (Nat.le_refl _)) hL
  have hfit := Dr.of_fit ln lb hbb
  have hml := Dr.of_len ln lb
  clear h hm hbb
  generalize Dr.of ln lb = s at *
  obtain ⟨k, t, c, e, n, f, d, r, o, y, m⟩ := s
  have hs := hfit
  obtain ⟨b0, b1, b2, b3, b4, b5, b6, b7, b8, b9, b10, b11⟩ := hfit
  dsimp only [chip5] at *
  have hM := fun w => modR_any x 256 (by decide) (by decide) w
  go_enter Try.func16, Try.ntmps16
  go_upto_region 2 with (first
    | (go_at_call 25; refine hF.mono ?_; rintro e w2 ⟨u, rfl, ⟨g, a, rfl, hg, hr, hq⟩, hb⟩; have q0 := rowB_below k0 hb (rowB_lt k0); have q1 := rowB_below k1 hb (rowB_lt k1); have q2 := rowB_below k2 hb (rowB_lt k2); rw [sW] at hg hq; have bX := bW.trans (hb.mono bW.size))
    | (refine wpList_storeR rfl 25 _ _ rfl (w.heap.size + 1) rfl #[.slice (some ⟨g, 0, none⟩) 10 10, .slice a m.length m.length] rfl (dev2_one _ _ _ _ _ _) 25 #[v, vm] rfl ?_ agDv ?_; with_reducible exact q1))
  try dsimp only at hq
  try dsimp only [Dr.ns] at hr
  replace q0 := rowB_row_other q0 #[.slice (some ⟨g, 0, none⟩) 10 10, .slice a m.length m.length] (show w.heap.size + 1 ≠ w.heap.size by omega)
  replace q2 := rowB_row_other q2 #[.slice (some ⟨g, 0, none⟩) 10 10, .slice a m.length m.length] (show w.heap.size + 1 ≠ w.heap.size + 2 by omega)
  replace hr := rowB_row_other hr #[.slice (some ⟨g, 0, none⟩) 10 10, .slice a m.length m.length] (show w.heap.size + 1 ≠ g by omega)
  replace hq := bytO.row hq (show w.heap.size + 1 < _ by omega) #[.slice (some ⟨g, 0, none⟩) 10 10, .slice a m.length m.length]
  replace q1 := rowB_row q1 #[.slice (some ⟨g, 0, none⟩) 10 10, .slice a m.length m.length]
  replace bX := below_rowR bX #[.slice (some ⟨g, 0, none⟩) 10 10, .slice a m.length m.length] (show w.heap.size ≤ w.heap.size + 1 by omega)
  generalize w2.setRow (w.heap.size + 1) #[.slice (some ⟨g, 0, none⟩) 10 10, .slice a m.length m.length] = w3 at *
  clear hb hF k0 k1 k2 bW sW
  have hk := rowB_cell q0 1 (v := .int .i64 8) rfl
  obtain ⟨d0, d1, y0, y1⟩ := dcells2 q1
  obtain ⟨⟨c0, c1, c2, c3, c4, c5, c6, c7, c8, c9⟩, ⟨z0, z1, z2, z3, z4, z5, z6, z7, z8, z9⟩⟩ := drCells hr
  have lg := rowB_lt hr
  go_quiet ((go_at_call 44; exact quiet_left (hM _)))
  replace q1 := rowB_below q1 (below_drewN w3 nq _) (rowB_lt q1)
  replace q2 := rowB_below q2 (below_drewN w3 nq _) (rowB_lt q2)
  replace q0 := rowB_below q0 (below_drewN w3 nq _) (rowB_lt q0)
  replace hr := rowB_below hr (below_drewN w3 nq _) (rowB_lt hr)
  replace hq := bytO.below hq (below_drewN w3 nq _)
  replace bX := bX.trans ((below_drewN w3 nq _).mono bX.size)
  generalize w3.drewN nq = w4 at *
  clear c0 c1 c2 c3 c4 c5 c6 c7 c8 c9 z0 z1 z2 z3 z4 z5 z6 z7 z8 z9 d0 d1 y0 y1 hk
  have hk := rowB_cell q0 1 (v := .int .i64 8) rfl
  have hC := commanded_any ⟨k, t, c, e, n, f, d, r, o, y, m⟩ g at' x w4 hr hs
  have hwm := Dr.write_m ⟨k, t, c, e, n, f, d, r, o, y, m⟩ at' x
  generalize hS : (⟨k, t, c, e, n, f, d, r, o, y, m⟩ : Dr).write at' x = S at *
  dsimp only at hwm
  have HS := Lib.hid hS
  clear hS
  have HW := Lib.hid hwm
  clear hwm
  obtain ⟨k', t', c', e', n', f', d', r', o', y', m'⟩ := S
  obtain rfl : m' = m := HW.out
  go_wp2_with (first
    | (go_at_call 45; refine hC.mono ?_; rintro e w5 ⟨rfl, rg, ho⟩; have r1 := rowB_off q1 ho (show ¬ (w.heap.size + 1 = g) by omega); have r2 := rowB_off q2 ho (show ¬ (w.heap.size + 2 = g) by omega); have rq := bytO.off hq ho; have bY := bX.trans (ho.below bX.size (fun j hj => by show w.heap.size ≤ j; subst hj; omega)))
    | (refine wpList_loadR rfl 25 _ rfl (w.heap.size + 1) rfl 25 #[.slice (some ⟨g, 0, none⟩) 10 10, .slice a m'.length m'.length] ?_ agDv ?_; with_reducible exact r1)
    | (refine wpList_storeR rfl 25 _ _ rfl (w.heap.size + 2) rfl #[.slice (some ⟨g, 0, none⟩) 10 10, .slice a m'.length m'.length] rfl (dev2_one _ _ _ _ _ _) 25 #[.slice none 0 0, .slice none 0 0] rfl ?_ agDv ?_; with_reducible exact r2))
  refine bodyPost_ret (resultsR rfl (w.heap.size + 2) _ rfl (rowB_row r2 _) agDv) rfl ?_
  rw [HS.out]
  exact ⟨_, rfl, ⟨g, a, rfl, by omega, rowB_row_other rg _ (show w.heap.size + 2 ≠ g by omega), (bytO.row rq (show w.heap.size + 2 < w.heap.size + 3 by omega) _).mono (show w.heap.size ≤ w.heap.size + 3 by omega)⟩, below_rowR bY _ (by omega)⟩
theorem drvG.le {lo g j : Nat} {w : World} {a : Option Addr} {m : List Int} (h : bytO lo w a m g) (hg : lo ≤ g) (hj : drvG g a j) : lo ≤ j := by
  rcases hj with rfl | e
  · exact hg
  · rcases h with ⟨_, e2⟩ | ⟨q, e2, h1, _⟩
    · rw [e2] at e; cases e
    · rw [e2] at e; cases e; exact h1
set_option maxHeartbeats 4000000 in
theorem tickedDrv_any (nm : ByteArray) (bb zz : Int) (dat v vm : Value) (ln lb : List Int) (w : World) (h : isArg w v ln) (hm : isByt w vm lb) (hbb : ∀ x ∈ lb, 0 ≤ x ∧ x < 256) (hL : lb.length ≤ 140737488351232) :
    Calls Try.prog 26 #[.agg (chip5 nm 8 bb zz dat), .agg #[v, vm]] w fun e w' => ∃ u, e = .returned u ∧ devD w.heap.size w' u (Dr.of ln lb).tick ∧ Below w.heap.size w w' := by
  obtain ⟨k0, k1, k2, bW, sW⟩ := boxes3 w (.cells #[.string nm, .int .i64 8, .int .i64 bb, .int .i64 zz, dat] 27) (.cells #[v, vm] 25) (.cells #[.slice none 0 0, .slice none 0 0] 25)
  have k0 : rowB _ _ _ _ := k0
  have k1 : rowB _ _ _ _ := k1
  have k2 : rowB _ _ _ _ := k2
  have hF := formedDrv_any nm bb zz dat v vm ln lb _ (isArg_below h bW (Nat.le_refl _)) (isByt_below hm bW (Nat.le_refl _)) hL
  have hfit := Dr.of_fit ln lb hbb
  have hml := Dr.of_len ln lb
  clear h hm hbb
  generalize Dr.of ln lb = s at *
  obtain ⟨k, t, c, e, n, f, d, r, o, y, m⟩ := s
  have hs := hfit
  obtain ⟨b0, b1, b2, b3, b4, b5, b6, b7, b8, b9, b10, b11⟩ := hfit
  dsimp only [chip5] at *
  by_cases hc : 0 < c
  · have dc : decide (0 < c) = true := decide_eq_true (by omega)
    go_enter Try.func26, Try.ntmps26
    go_upto_region 2 with (first
      | (go_at_call 25; refine hF.mono ?_; rintro e w2 ⟨u, rfl, ⟨g, a, rfl, hg, hr, hq⟩, hb⟩; have q0 := rowB_below k0 hb (rowB_lt k0); have q1 := rowB_below k1 hb (rowB_lt k1); have q2 := rowB_below k2 hb (rowB_lt k2); rw [sW] at hg hq; have bX := bW.trans (hb.mono bW.size))
      | (refine wpList_storeR rfl 25 _ _ rfl (w.heap.size + 1) rfl #[.slice (some ⟨g, 0, none⟩) 10 10, .slice a m.length m.length] rfl (dev2_one _ _ _ _ _ _) 25 #[v, vm] rfl ?_ agDv ?_; with_reducible exact q1))
    try dsimp only at hq
    try dsimp only [Dr.ns] at hr
    replace q0 := rowB_row_other q0 #[.slice (some ⟨g, 0, none⟩) 10 10, .slice a m.length m.length] (show w.heap.size + 1 ≠ w.heap.size by omega)
    replace q2 := rowB_row_other q2 #[.slice (some ⟨g, 0, none⟩) 10 10, .slice a m.length m.length] (show w.heap.size + 1 ≠ w.heap.size + 2 by omega)
    replace hr := rowB_row_other hr #[.slice (some ⟨g, 0, none⟩) 10 10, .slice a m.length m.length] (show w.heap.size + 1 ≠ g by omega)
    replace hq := bytO.row hq (show w.heap.size + 1 < _ by omega) #[.slice (some ⟨g, 0, none⟩) 10 10, .slice a m.length m.length]
    replace q1 := rowB_row q1 #[.slice (some ⟨g, 0, none⟩) 10 10, .slice a m.length m.length]
    replace bX := below_rowR bX #[.slice (some ⟨g, 0, none⟩) 10 10, .slice a m.length m.length] (show w.heap.size ≤ w.heap.size + 1 by omega)
    generalize w2.setRow (w.heap.size + 1) #[.slice (some ⟨g, 0, none⟩) 10 10, .slice a m.length m.length] = w3 at *
    clear hb hF k0 k1 k2 bW sW
    have hk := rowB_cell q0 1 (v := .int .i64 8) rfl
    obtain ⟨d0, d1, y0, y1⟩ := dcells2 q1
    obtain ⟨⟨c0, c1, c2, c3, c4, c5, c6, c7, c8, c9⟩, ⟨z0, z1, z2, z3, z4, z5, z6, z7, z8, z9⟩⟩ := drCells hr
    have lg := rowB_lt hr
    have hT := turns_any ⟨k, t, c, e, n, f, d, r, o, y, m⟩ g (w.heap.size + 3) a w3 hr hq hs hc (show m.length ≤ _ by omega)
    unfold turnsEnd at hT
    have hlen := Dr.tick_len ⟨k, t, c, e, n, f, d, r, o, y, m⟩
    generalize hS : (⟨k, t, c, e, n, f, d, r, o, y, m⟩ : Dr).tick = S at *
    have HS := Lib.hid hS
    clear hS
    obtain ⟨k', t', c', e', n', f', d', r', o', y', m'⟩ := S
    dsimp only at hlen hT
    have HW := Lib.hid hlen
    clear hlen
    go_wp2_with (first
      | (go_at_call 51; refine hT.mono ?_; rintro e w5 ⟨rfl, rg, rq, ho⟩; have r1 := rowB_off q1 ho (fun hj => absurd (drvG.le hq hg hj) (by omega)); have r2 := rowB_off q2 ho (fun hj => absurd (drvG.le hq hg hj) (by omega)); have bY := bX.trans (ho.below bX.size (fun j hj => Nat.le_trans (by omega) (drvG.le hq hg hj))))
      | (refine wpList_loadR rfl 25 _ rfl (w.heap.size + 1) rfl 25 #[.slice (some ⟨g, 0, none⟩) 10 10, .slice a m.length m.length] ?_ agDv ?_; with_reducible exact r1)
      | (refine wpList_storeR rfl 25 _ _ rfl (w.heap.size + 2) rfl #[.slice (some ⟨g, 0, none⟩) 10 10, .slice a m.length m.length] rfl (dev2_one _ _ _ _ _ _) 25 #[.slice none 0 0, .slice none 0 0] rfl ?_ agDv ?_; with_reducible exact r2))
    refine bodyPost_ret (resultsR rfl (w.heap.size + 2) _ rfl (rowB_row r2 _) agDv) rfl ?_
    rw [HS.out]
    refine ⟨_, rfl, ⟨g, a, ?_, by omega, rowB_row_other rg _ (show w.heap.size + 2 ≠ g by omega), (bytO.row rq (show w.heap.size + 2 < w.heap.size + 3 by omega) _).mono (show w.heap.size ≤ w.heap.size + 3 by omega)⟩, below_rowR bY _ (by omega)⟩
    show Value.agg _ = .agg #[_, .slice a m'.length m'.length]
    rw [HW.out]
  · have e1 : (⟨k, t, c, e, n, f, d, r, o, y, m⟩ : Dr).tick = (⟨k, t, c, e, n, f, d, r, o, y, m⟩ : Dr) := by unfold Dr.tick; rw [if_pos (by show c = 0; omega)]
    rw [e1]
    clear e1
    have dc : decide (0 < c) = false := decide_eq_false (by omega)
    go_enter Try.func26, Try.ntmps26
    go_upto_region 2 with (first
      | (go_at_call 25; refine hF.mono ?_; rintro e w2 ⟨u, rfl, ⟨g, a, rfl, hg, hr, hq⟩, hb⟩; have q0 := rowB_below k0 hb (rowB_lt k0); have q1 := rowB_below k1 hb (rowB_lt k1); have q2 := rowB_below k2 hb (rowB_lt k2); rw [sW] at hg hq; have bX := bW.trans (hb.mono bW.size))
      | (refine wpList_storeR rfl 25 _ _ rfl (w.heap.size + 1) rfl #[.slice (some ⟨g, 0, none⟩) 10 10, .slice a m.length m.length] rfl (dev2_one _ _ _ _ _ _) 25 #[v, vm] rfl ?_ agDv ?_; with_reducible exact q1))
    try dsimp only at hq
    try dsimp only [Dr.ns] at hr
    replace q0 := rowB_row_other q0 #[.slice (some ⟨g, 0, none⟩) 10 10, .slice a m.length m.length] (show w.heap.size + 1 ≠ w.heap.size by omega)
    replace q2 := rowB_row_other q2 #[.slice (some ⟨g, 0, none⟩) 10 10, .slice a m.length m.length] (show w.heap.size + 1 ≠ w.heap.size + 2 by omega)
    replace hr := rowB_row_other hr #[.slice (some ⟨g, 0, none⟩) 10 10, .slice a m.length m.length] (show w.heap.size + 1 ≠ g by omega)
    replace hq := bytO.row hq (show w.heap.size + 1 < _ by omega) #[.slice (some ⟨g, 0, none⟩) 10 10, .slice a m.length m.length]
    replace q1 := rowB_row q1 #[.slice (some ⟨g, 0, none⟩) 10 10, .slice a m.length m.length]
    replace bX := below_rowR bX #[.slice (some ⟨g, 0, none⟩) 10 10, .slice a m.length m.length] (show w.heap.size ≤ w.heap.size + 1 by omega)
    generalize w2.setRow (w.heap.size + 1) #[.slice (some ⟨g, 0, none⟩) 10 10, .slice a m.length m.length] = w3 at *
    clear hb hF k0 k1 k2 bW sW
    have hk := rowB_cell q0 1 (v := .int .i64 8) rfl
    obtain ⟨d0, d1, y0, y1⟩ := dcells2 q1
    obtain ⟨⟨c0, c1, c2, c3, c4, c5, c6, c7, c8, c9⟩, ⟨z0, z1, z2, z3, z4, z5, z6, z7, z8, z9⟩⟩ := drCells hr
    have lg := rowB_lt hr
    go_wp2_with (first
      | (refine wpList_loadR rfl 25 _ rfl (w.heap.size + 1) rfl 25 #[.slice (some ⟨g, 0, none⟩) 10 10, .slice a m.length m.length] ?_ agDv ?_; with_reducible exact q1)
      | (refine wpList_storeR rfl 25 _ _ rfl (w.heap.size + 2) rfl #[.slice (some ⟨g, 0, none⟩) 10 10, .slice a m.length m.length] rfl (dev2_one _ _ _ _ _ _) 25 #[.slice none 0 0, .slice none 0 0] rfl ?_ agDv ?_; with_reducible exact q2))
    refine bodyPost_ret (resultsR rfl (w.heap.size + 2) _ rfl (rowB_row q2 _) agDv) rfl ?_
    exact ⟨_, rfl, ⟨g, a, rfl, by omega, rowB_row_other hr _ (show w.heap.size + 2 ≠ g by omega), (bytO.row hq (show w.heap.size + 2 < w.heap.size + 3 by omega) _).mono (show w.heap.size ≤ w.heap.size + 3 by omega)⟩, below_rowR bX _ (by omega)⟩
end Go.Proofs.Ytmjddoboogccoaa
