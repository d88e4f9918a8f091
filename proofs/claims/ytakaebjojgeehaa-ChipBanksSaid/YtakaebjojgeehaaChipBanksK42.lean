/- A part of the proof of ChipBanks: DrvCc. -/
import Derived.Test.YtakaebjojgeehaaChipBanksK01
import Derived.Test.YtakaebjojgeehaaChipBanksK02
import Derived.Test.YtakaebjojgeehaaChipBanksK03
import Derived.Test.YtakaebjojgeehaaChipBanksK04
import Derived.Test.YtakaebjojgeehaaChipBanksK05
import Derived.Test.YtakaebjojgeehaaChipBanksK06
import Derived.Test.YtakaebjojgeehaaChipBanksK07
import Derived.Test.YtakaebjojgeehaaChipBanksK08
import Derived.Test.YtakaebjojgeehaaChipBanksK09
import Derived.Test.YtakaebjojgeehaaChipBanksK15
import Derived.Test.YtakaebjojgeehaaChipBanksK17
import Derived.Test.YtakaebjojgeehaaChipBanksK19
import Derived.Test.YtakaebjojgeehaaChipBanksK20
import Derived.Test.YtakaebjojgeehaaChipBanksK21
import Derived.Test.YtakaebjojgeehaaChipBanksK22
import Derived.Test.YtakaebjojgeehaaChipBanksK23
import Derived.Test.YtakaebjojgeehaaChipBanksK24
import Derived.Test.YtakaebjojgeehaaChipBanksK25
import Derived.Test.YtakaebjojgeehaaChipBanksK30
import Derived.Test.YtakaebjojgeehaaChipBanksK36
import Derived.Test.YtakaebjojgeehaaChipBanksK37
import Derived.Test.YtakaebjojgeehaaChipBanksK38
import Derived.Test.YtakaebjojgeehaaChipBanksK39
import Derived.Test.YtakaebjojgeehaaChipBanksK40
import Derived.Test.YtakaebjojgeehaaChipBanksK41
import Derived.Below
import Derived.BigQuiet
import Derived.ChangeMaps5
import Derived.Deep.AppendSrc
import Derived.Deep.DeepAppendWide
import Derived.Deep.DeepCutAuto
import Derived.Deep.Draws
import Derived.Deep.MidRow
import Derived.Deep.OwnRows
import Derived.Deep.QuietTactic
import Derived.Deep.RegionHeld3
import Derived.Deep.RegionWith
import Derived.Deep.Slices
import Derived.Deep.WholeRow
import Derived.Laws.CopyOwn
import Derived.Laws.OwnMore
import Derived.Lib.Hide
import Derived.Lib.SmallJoins
import Derived.Maps.AppendAt
import Derived.OpenShut
import Derived.OrdersHeld
import Derived.OwnWalk
import Derived.RowKit3
import Derived.StillTactics
import Derived.StillTail
import Derived.StillTailTactics
import Derived.Test.YtakaebjojgeehaaChecked
import Derived.WalkKit
namespace Go.Proofs.Ytakaebjojgeehaa
open Go.RowKit
set_option maxRecDepth 100000
set_option maxHeartbeats 1000000 in
theorem drvNew_any (vm : Value) (lb : List Int) (w : World) (hm : isByt w vm lb) (hL : lb.length ≤ 140737488351232) :
    Calls Try.prog 33 #[vm] w fun e w' => ∃ u, e = .returned u ∧ devA w' u (Dr.of [] lb) ∧ Below w.heap.size w w' := by
  obtain ⟨a0, c0, rfl, _⟩ := isByt_form hm
  obtain ⟨k1, bW, sW⟩ := boxes1 w (.cells #[.slice none 0 0, .slice none 0 0] 34)
  have k1 : rowB _ _ _ _ := k1
  have hload := drvLoad_any (.slice none 0 0) (.slice a0 lb.length c0) [] lb _ (isArg_none _) (isByt_below hm bW (Nat.le_refl _)) hL
  rw [sW] at hload
  obtain ⟨s, hs⟩ : ∃ s, Dr.of [] lb = s := ⟨_, rfl⟩
  rw [hs] at hload
  rw [hs]
  clear hs hm hL
  obtain ⟨k, t, c, e, n, l, d, r, o, b, m⟩ := s
  dsimp only [Dr.cs] at hload
  go_enter Try.func33, Try.ntmps33
  go_upto_region 2 with (go_at_call 62; refine hload.mono ?_; rintro e2 w1 ⟨u, rfl, hu, hb⟩; obtain ⟨a, cap, rfl, _⟩ := isByt_form (own8_byt hu); have hs := hb.size; rw [sW] at hs; replace k1 := rowB_below k1 hb (by omega); have bX := bW.trans (hb.mono (by omega)); clear hb hload)
  obtain ⟨y, hy⟩ : ∃ y, w1.heap.size = y := ⟨_, rfl⟩
  have hst := drvW.start (s := ⟨k, t, c, e, n, l, d, r, o, b, m⟩) (by omega) hu k1 bX hy
  dsimp only [Dr.cs] at hst
  clear hu k1 bX bW
  change Code.wp _ _ _ _ (w1.alloc (.cells #[.int .i64 k, .int .i64 t, .int .i64 c, .int .i64 e, .int .i64 n, .int .i64 l, .int .i64 d, .int .i64 r, .int .i64 o, .int .i64 b, .slice a m.length cap] 75))
  rw [hy]
  clear hs sW hy
  generalize w1.alloc (.cells #[.int .i64 k, .int .i64 t, .int .i64 c, .int .i64 e, .int .i64 n, .int .i64 l, .int .i64 d, .int .i64 r, .int .i64 o, .int .i64 b, .slice a m.length cap] 75) = w2 at *
  have hZ := hst
  have lZ := rowB_lt hZ.box
  go_wp2_with (first
      | (go_at_call 63; refine (drvDev_any (w.heap.size + 1) y _ _ _ _ _ _ _ _ _ _ _ _ _ hZ.st).mono ?_; rintro e2 w8 ⟨g, rfl, hr, hg, hb⟩; have k8 := rowB_below hZ.box hb lZ)
      | (refine wpList_storeR rfl 34 _ _ rfl w.heap.size rfl #[.slice (some ⟨g, 0, none⟩) 10 10, .slice a m.length cap] rfl (dev2_one _ _ _ _ _ _) 34 #[.slice none 0 0, .slice none 0 0] rfl ?_ agDv ?_; with_reducible exact k8)
)
  refine bodyPost_ret (resultsR rfl w.heap.size _ rfl (rowB_row k8 _) agDv) rfl ?_
  have hF := hZ.fin (s := ⟨k, t, c, e, n, l, d, r, o, b, m⟩) hr hg hb (.slice none 0 0) (.slice none 0 0)
  exact ⟨_, rfl, hF.1.toA, hF.2⟩
set_option maxHeartbeats 1000000 in
theorem drvRead_from (v vm : Value) (ln lb : List Int) (x : Int) (w : World) (h : isArg w v ln) (hm : isByt w vm lb) (hbb : ∀ x ∈ lb, 0 ≤ x ∧ x < 256) (hL : lb.length ≤ 140737488351232) :
    Calls Try.prog 48 #[.agg #[v, vm], .int .i64 x] w fun e' w' => ∃ u, e' = .returned (.tuple #[u, .int .i64 ((Dr.of ln lb).reg x)]) ∧ devF w.heap.size v vm w' u ((Dr.of ln lb).read x) ∧ Below w.heap.size w w' := by
  obtain ⟨k0, k1, bW, sW⟩ := boxes2 w (.cells #[v, vm] 34) (.cells #[.slice none 0 0, .slice none 0 0] 34)
  have k0 : rowB _ _ _ _ := k0
  have k1 : rowB _ _ _ _ := k1
  have hload := drvLoad_any v vm ln lb _ (isArg_below h bW (Nat.le_refl _)) (isByt_below hm bW (Nat.le_refl _)) hL
  have hfit := Dr.of_fit ln lb hbb
  have hmB : (Dr.of ln lb).m.length ≤ 140737488351232 := by show (drM lb).length ≤ _; rw [drM_len]; omega
  rw [sW] at hload
  obtain ⟨s, hs⟩ : ∃ s, Dr.of ln lb = s := ⟨_, rfl⟩
  rw [hs] at hload hfit hmB
  rw [hs]
  clear hs h hm hbb hL
  obtain ⟨k, t, c, e, n, l, d, r, o, b, m⟩ := s
  dsimp only [Dr.cs] at hload hmB
  rcases (by omega : x = 0 ∨ (x = 1 ∧ c = 4) ∨ (x = 1 ∧ c ≠ 4) ∨ x = 2 ∨ x = 3 ∨ (x ≠ 0 ∧ x ≠ 1 ∧ x ≠ 2 ∧ x ≠ 3)) with rfl | ⟨rfl, rfl⟩ | ⟨rfl, h4⟩ | rfl | rfl | ⟨n0, n1, n2, n3⟩
  · obtain ⟨X, hX⟩ : ∃ X, (⟨k, t, c, e, n, l, d, r, o, b, m⟩ : Dr).status = X := ⟨_, rfl⟩
    have hcb := hfit.c.1
    have hrb := hfit.r
    have hob := hfit.o
    dsimp only at hcb hrb hob
    have er : (⟨k, t, c, e, n, l, d, r, o, b, m⟩ : Dr).reg 0 = X := by unfold Dr.reg; rw [if_pos rfl, hX]
    have ev : (⟨k, t, c, e, n, l, d, r, o, b, m⟩ : Dr).read 0 = ⟨k, t, c, e, n, l, d, r, 0, b, m⟩ := by unfold Dr.read; rw [if_pos rfl]
    rw [er, ev]
    clear er ev
    have HX := Lib.hid hX
    clear hX
    go_enter Try.func48, Try.ntmps48
    go_upto_region 2 with (go_at_call 62; refine hload.mono ?_; rintro e2 w1 ⟨u, rfl, hu, hb⟩; obtain ⟨a, cap, rfl, _⟩ := isByt_form (own8_byt hu); have hs := hb.size; rw [sW] at hs; replace k1 := rowB_below k1 hb (by omega); have bX := bW.trans (hb.mono (by omega)); clear hb hload)
    obtain ⟨y, hy⟩ : ∃ y, w1.heap.size = y := ⟨_, rfl⟩
    have hst := drvW.start (s := ⟨k, t, c, e, n, l, d, r, o, b, m⟩) (by omega) hu k1 bX hy
    dsimp only [Dr.cs] at hst
    clear hu k1 bX bW k0
    change Code.wp _ _ _ _ (w1.alloc (.cells #[.int .i64 k, .int .i64 t, .int .i64 c, .int .i64 e, .int .i64 n, .int .i64 l, .int .i64 d, .int .i64 r, .int .i64 o, .int .i64 b, .slice a m.length cap] 75))
    rw [hy]
    clear hs sW hy
    generalize w1.alloc (.cells #[.int .i64 k, .int .i64 t, .int .i64 c, .int .i64 e, .int .i64 n, .int .i64 l, .int .i64 d, .int .i64 r, .int .i64 o, .int .i64 b, .slice a m.length cap] 75) = w2 at *
    obtain ⟨⟨e0, e1, e2, e3, e4, e5, e6, e7, e8, e9, e10⟩, ⟨z0, z1, z2, z3, z4, z5, z6, z7, z8, z9, z10⟩⟩ := elCells hst.st.row
    dsimp only at e0 e1 e2 e3 e4 e5 e6 e7 e8 e9 e10
    go_upto_region 14 with (go_at_call 80; refine (drvStatus_any ((w.heap.size + 1) + 1) y _ _ _ _ _ _ _ _ _ _ _ _ _ hst.st hcb hrb hob).mono ?_; rintro e2 w3 ⟨rfl, hb⟩; rw [HX.out]; replace hst := hst.calm hb; clear hb e0 z0 e1 z1 e2 z2 e3 z3 e4 z4 e5 z5 e6 z6 e7 z7 e8 z8 e9 z9 e10 z10; obtain ⟨⟨e0, e1, e2, e3, e4, e5, e6, e7, e8, e9, e10⟩, ⟨z0, z1, z2, z3, z4, z5, z6, z7, z8, z9, z10⟩⟩ := elCells hst.st.row)
    clear e0 z0 e1 z1 e2 z2 e3 z3 e4 z4 e5 z5 e6 z6 e7 z7 e8 z8 e9 z9 e10 z10
    have hZ := (drvW.put hst 8 (.int .i64 0) (t := ⟨k, t, c, e, n, l, d, r, 0, b, m⟩) rfl rfl)
    have lZ := rowB_lt hZ.box
    go_wp2_with (first
        | (go_at_call 63; refine (drvDev_any ((w.heap.size + 1) + 1) y _ _ _ _ _ _ _ _ _ _ _ _ _ hZ.st).mono ?_; rintro e2 w8 ⟨g, rfl, hr, hg, hb⟩; have k8 := rowB_below hZ.box hb lZ)
        | (refine wpList_storeR rfl 34 _ _ rfl (w.heap.size + 1) rfl #[.slice (some ⟨g, 0, none⟩) 10 10, .slice a m.length cap] rfl (dev2_one _ _ _ _ _ _) 34 #[.slice none 0 0, .slice none 0 0] rfl ?_ agDv ?_; with_reducible exact k8)
  )
    refine bodyPost_ret (resultsRT rfl (w.heap.size + 1) _ rfl (rowB_row k8 _) agDv rfl) rfl ?_
    exact ⟨_, rfl, hZ.fin (s := ⟨k, t, c, e, n, l, d, r, 0, b, m⟩) hr hg hb v vm⟩
  · have er : (⟨k, t, 4, e, n, l, d, r, o, b, m⟩ : Dr).reg 1 = d := by unfold Dr.reg; simp
    have ev : (⟨k, t, 4, e, n, l, d, r, o, b, m⟩ : Dr).read 1 = ⟨k, t, 4, e, n, l, d, r, o, b, m⟩ := by unfold Dr.read; rw [if_neg (by decide), if_neg (fun h => h.2 rfl)]
    rw [er, ev]
    clear er ev
    go_enter Try.func48, Try.ntmps48
    go_upto_region 2 with (go_at_call 62; refine hload.mono ?_; rintro e2 w1 ⟨u, rfl, hu, hb⟩; obtain ⟨a, cap, rfl, _⟩ := isByt_form (own8_byt hu); have hs := hb.size; rw [sW] at hs; replace k1 := rowB_below k1 hb (by omega); have bX := bW.trans (hb.mono (by omega)); clear hb hload)
    obtain ⟨y, hy⟩ : ∃ y, w1.heap.size = y := ⟨_, rfl⟩
    have hst := drvW.start (s := ⟨k, t, 4, e, n, l, d, r, o, b, m⟩) (by omega) hu k1 bX hy
    dsimp only [Dr.cs] at hst
    clear hu k1 bX bW k0
    change Code.wp _ _ _ _ (w1.alloc (.cells #[.int .i64 k, .int .i64 t, .int .i64 4, .int .i64 e, .int .i64 n, .int .i64 l, .int .i64 d, .int .i64 r, .int .i64 o, .int .i64 b, .slice a m.length cap] 75))
    rw [hy]
    clear hs sW hy
    generalize w1.alloc (.cells #[.int .i64 k, .int .i64 t, .int .i64 4, .int .i64 e, .int .i64 n, .int .i64 l, .int .i64 d, .int .i64 r, .int .i64 o, .int .i64 b, .slice a m.length cap] 75) = w2 at *
    obtain ⟨⟨e0, e1, e2, e3, e4, e5, e6, e7, e8, e9, e10⟩, ⟨z0, z1, z2, z3, z4, z5, z6, z7, z8, z9, z10⟩⟩ := elCells hst.st.row
    dsimp only at e0 e1 e2 e3 e4 e5 e6 e7 e8 e9 e10
    go_upto_region 14 with (fail)
    clear e0 z0 e1 z1 e2 z2 e3 z3 e4 z4 e5 z5 e6 z6 e7 z7 e8 z8 e9 z9 e10 z10
    have hZ := hst
    have lZ := rowB_lt hZ.box
    go_wp2_with (first
        | (go_at_call 63; refine (drvDev_any ((w.heap.size + 1) + 1) y _ _ _ _ _ _ _ _ _ _ _ _ _ hZ.st).mono ?_; rintro e2 w8 ⟨g, rfl, hr, hg, hb⟩; have k8 := rowB_below hZ.box hb lZ)
        | (refine wpList_storeR rfl 34 _ _ rfl (w.heap.size + 1) rfl #[.slice (some ⟨g, 0, none⟩) 10 10, .slice a m.length cap] rfl (dev2_one _ _ _ _ _ _) 34 #[.slice none 0 0, .slice none 0 0] rfl ?_ agDv ?_; with_reducible exact k8)
  )
    refine bodyPost_ret (resultsRT rfl (w.heap.size + 1) _ rfl (rowB_row k8 _) agDv rfl) rfl ?_
    exact ⟨_, rfl, hZ.fin (s := ⟨k, t, 4, e, n, l, d, r, o, b, m⟩) hr hg hb v vm⟩
  · have q4 : (c == 4) = false := by simpa using h4
    have er : (⟨k, t, c, e, n, l, d, r, o, b, m⟩ : Dr).reg 1 = d := by unfold Dr.reg; simp
    have ev : (⟨k, t, c, e, n, l, d, r, o, b, m⟩ : Dr).read 1 = ⟨k, t, c, e, n, l, d, 0, o, b, m⟩ := by unfold Dr.read; rw [if_neg (by decide), if_pos ⟨rfl, h4⟩]
    rw [er, ev]
    clear er ev
    go_enter Try.func48, Try.ntmps48
    go_upto_region 2 with (go_at_call 62; refine hload.mono ?_; rintro e2 w1 ⟨u, rfl, hu, hb⟩; obtain ⟨a, cap, rfl, _⟩ := isByt_form (own8_byt hu); have hs := hb.size; rw [sW] at hs; replace k1 := rowB_below k1 hb (by omega); have bX := bW.trans (hb.mono (by omega)); clear hb hload)
    obtain ⟨y, hy⟩ : ∃ y, w1.heap.size = y := ⟨_, rfl⟩
    have hst := drvW.start (s := ⟨k, t, c, e, n, l, d, r, o, b, m⟩) (by omega) hu k1 bX hy
    dsimp only [Dr.cs] at hst
    clear hu k1 bX bW k0
    change Code.wp _ _ _ _ (w1.alloc (.cells #[.int .i64 k, .int .i64 t, .int .i64 c, .int .i64 e, .int .i64 n, .int .i64 l, .int .i64 d, .int .i64 r, .int .i64 o, .int .i64 b, .slice a m.length cap] 75))
    rw [hy]
    clear hs sW hy
    generalize w1.alloc (.cells #[.int .i64 k, .int .i64 t, .int .i64 c, .int .i64 e, .int .i64 n, .int .i64 l, .int .i64 d, .int .i64 r, .int .i64 o, .int .i64 b, .slice a m.length cap] 75) = w2 at *
    obtain ⟨⟨e0, e1, e2, e3, e4, e5, e6, e7, e8, e9, e10⟩, ⟨z0, z1, z2, z3, z4, z5, z6, z7, z8, z9, z10⟩⟩ := elCells hst.st.row
    dsimp only at e0 e1 e2 e3 e4 e5 e6 e7 e8 e9 e10
    go_upto_region 14 with (fail)
    clear e0 z0 e1 z1 e2 z2 e3 z3 e4 z4 e5 z5 e6 z6 e7 z7 e8 z8 e9 z9 e10 z10
    have hZ := (drvW.put hst 7 (.int .i64 0) (t := ⟨k, t, c, e, n, l, d, 0, o, b, m⟩) rfl rfl)
    have lZ := rowB_lt hZ.box
    go_wp2_with (first
        | (go_at_call 63; refine (drvDev_any ((w.heap.size + 1) + 1) y _ _ _ _ _ _ _ _ _ _ _ _ _ hZ.st).mono ?_; rintro e2 w8 ⟨g, rfl, hr, hg, hb⟩; have k8 := rowB_below hZ.box hb lZ)
        | (refine wpList_storeR rfl 34 _ _ rfl (w.heap.size + 1) rfl #[.slice (some ⟨g, 0, none⟩) 10 10, .slice a m.length cap] rfl (dev2_one _ _ _ _ _ _) 34 #[.slice none 0 0, .slice none 0 0] rfl ?_ agDv ?_; with_reducible exact k8)
  )
    refine bodyPost_ret (resultsRT rfl (w.heap.size + 1) _ rfl (rowB_row k8 _) agDv rfl) rfl ?_
    exact ⟨_, rfl, hZ.fin (s := ⟨k, t, c, e, n, l, d, 0, o, b, m⟩) hr hg hb v vm⟩
  · have er : (⟨k, t, c, e, n, l, d, r, o, b, m⟩ : Dr).reg 2 = t := by unfold Dr.reg; simp
    have ev : (⟨k, t, c, e, n, l, d, r, o, b, m⟩ : Dr).read 2 = ⟨k, t, c, e, n, l, d, r, o, b, m⟩ := by unfold Dr.read; rw [if_neg (by decide), if_neg (by omega)]
    rw [er, ev]
    clear er ev
    go_enter Try.func48, Try.ntmps48
    go_upto_region 2 with (go_at_call 62; refine hload.mono ?_; rintro e2 w1 ⟨u, rfl, hu, hb⟩; obtain ⟨a, cap, rfl, _⟩ := isByt_form (own8_byt hu); have hs := hb.size; rw [sW] at hs; replace k1 := rowB_below k1 hb (by omega); have bX := bW.trans (hb.mono (by omega)); clear hb hload)
    obtain ⟨y, hy⟩ : ∃ y, w1.heap.size = y := ⟨_, rfl⟩
    have hst := drvW.start (s := ⟨k, t, c, e, n, l, d, r, o, b, m⟩) (by omega) hu k1 bX hy
    dsimp only [Dr.cs] at hst
    clear hu k1 bX bW k0
    change Code.wp _ _ _ _ (w1.alloc (.cells #[.int .i64 k, .int .i64 t, .int .i64 c, .int .i64 e, .int .i64 n, .int .i64 l, .int .i64 d, .int .i64 r, .int .i64 o, .int .i64 b, .slice a m.length cap] 75))
    rw [hy]
    clear hs sW hy
    generalize w1.alloc (.cells #[.int .i64 k, .int .i64 t, .int .i64 c, .int .i64 e, .int .i64 n, .int .i64 l, .int .i64 d, .int .i64 r, .int .i64 o, .int .i64 b, .slice a m.length cap] 75) = w2 at *
    obtain ⟨⟨e0, e1, e2, e3, e4, e5, e6, e7, e8, e9, e10⟩, ⟨z0, z1, z2, z3, z4, z5, z6, z7, z8, z9, z10⟩⟩ := elCells hst.st.row
    dsimp only at e0 e1 e2 e3 e4 e5 e6 e7 e8 e9 e10
    go_upto_region 14 with (fail)
    clear e0 z0 e1 z1 e2 z2 e3 z3 e4 z4 e5 z5 e6 z6 e7 z7 e8 z8 e9 z9 e10 z10
    have hZ := hst
    have lZ := rowB_lt hZ.box
    go_wp2_with (first
        | (go_at_call 63; refine (drvDev_any ((w.heap.size + 1) + 1) y _ _ _ _ _ _ _ _ _ _ _ _ _ hZ.st).mono ?_; rintro e2 w8 ⟨g, rfl, hr, hg, hb⟩; have k8 := rowB_below hZ.box hb lZ)
        | (refine wpList_storeR rfl 34 _ _ rfl (w.heap.size + 1) rfl #[.slice (some ⟨g, 0, none⟩) 10 10, .slice a m.length cap] rfl (dev2_one _ _ _ _ _ _) 34 #[.slice none 0 0, .slice none 0 0] rfl ?_ agDv ?_; with_reducible exact k8)
  )
    refine bodyPost_ret (resultsRT rfl (w.heap.size + 1) _ rfl (rowB_row k8 _) agDv rfl) rfl ?_
    exact ⟨_, rfl, hZ.fin (s := ⟨k, t, c, e, n, l, d, r, o, b, m⟩) hr hg hb v vm⟩
  · have er : (⟨k, t, c, e, n, l, d, r, o, b, m⟩ : Dr).reg 3 = b := by unfold Dr.reg; simp
    have ev : (⟨k, t, c, e, n, l, d, r, o, b, m⟩ : Dr).read 3 = ⟨k, t, c, e, n, l, d, r, o, b, m⟩ := by unfold Dr.read; rw [if_neg (by decide), if_neg (by omega)]
    rw [er, ev]
    clear er ev
    go_enter Try.func48, Try.ntmps48
    go_upto_region 2 with (go_at_call 62; refine hload.mono ?_; rintro e2 w1 ⟨u, rfl, hu, hb⟩; obtain ⟨a, cap, rfl, _⟩ := isByt_form (own8_byt hu); have hs := hb.size; rw [sW] at hs; replace k1 := rowB_below k1 hb (by omega); have bX := bW.trans (hb.mono (by omega)); clear hb hload)
    obtain ⟨y, hy⟩ : ∃ y, w1.heap.size = y := ⟨_, rfl⟩
    have hst := drvW.start (s := ⟨k, t, c, e, n, l, d, r, o, b, m⟩) (by omega) hu k1 bX hy
    dsimp only [Dr.cs] at hst
    clear hu k1 bX bW k0
    change Code.wp _ _ _ _ (w1.alloc (.cells #[.int .i64 k, .int .i64 t, .int .i64 c, .int .i64 e, .int .i64 n, .int .i64 l, .int .i64 d, .int .i64 r, .int .i64 o, .int .i64 b, .slice a m.length cap] 75))
    rw [hy]
    clear hs sW hy
    generalize w1.alloc (.cells #[.int .i64 k, .int .i64 t, .int .i64 c, .int .i64 e, .int .i64 n, .int .i64 l, .int .i64 d, .int .i64 r, .int .i64 o, .int .i64 b, .slice a m.length cap] 75) = w2 at *
    obtain ⟨⟨e0, e1, e2, e3, e4, e5, e6, e7, e8, e9, e10⟩, ⟨z0, z1, z2, z3, z4, z5, z6, z7, z8, z9, z10⟩⟩ := elCells hst.st.row
    dsimp only at e0 e1 e2 e3 e4 e5 e6 e7 e8 e9 e10
    go_upto_region 14 with (fail)
    clear e0 z0 e1 z1 e2 z2 e3 z3 e4 z4 e5 z5 e6 z6 e7 z7 e8 z8 e9 z9 e10 z10
    have hZ := hst
    have lZ := rowB_lt hZ.box
    go_wp2_with (first
        | (go_at_call 63; refine (drvDev_any ((w.heap.size + 1) + 1) y _ _ _ _ _ _ _ _ _ _ _ _ _ hZ.st).mono ?_; rintro e2 w8 ⟨g, rfl, hr, hg, hb⟩; have k8 := rowB_below hZ.box hb lZ)
        | (refine wpList_storeR rfl 34 _ _ rfl (w.heap.size + 1) rfl #[.slice (some ⟨g, 0, none⟩) 10 10, .slice a m.length cap] rfl (dev2_one _ _ _ _ _ _) 34 #[.slice none 0 0, .slice none 0 0] rfl ?_ agDv ?_; with_reducible exact k8)
  )
    refine bodyPost_ret (resultsRT rfl (w.heap.size + 1) _ rfl (rowB_row k8 _) agDv rfl) rfl ?_
    exact ⟨_, rfl, hZ.fin (s := ⟨k, t, c, e, n, l, d, r, o, b, m⟩) hr hg hb v vm⟩
  · have q0 : (x == 0) = false := by simpa using n0
    have q1 : (x == 1) = false := by simpa using n1
    have q2 : (x == 2) = false := by simpa using n2
    have q3 : (x == 3) = false := by simpa using n3
    have er : (⟨k, t, c, e, n, l, d, r, o, b, m⟩ : Dr).reg x = 0 := by unfold Dr.reg; rw [if_neg n0, if_neg n1, if_neg n2, if_neg n3]
    have ev : (⟨k, t, c, e, n, l, d, r, o, b, m⟩ : Dr).read x = ⟨k, t, c, e, n, l, d, r, o, b, m⟩ := by unfold Dr.read; rw [if_neg n0, if_neg (fun h => n1 h.1)]
    rw [er, ev]
    clear er ev n0 n1 n2 n3
    go_enter Try.func48, Try.ntmps48
    go_upto_region 2 with (go_at_call 62; refine hload.mono ?_; rintro e2 w1 ⟨u, rfl, hu, hb⟩; obtain ⟨a, cap, rfl, _⟩ := isByt_form (own8_byt hu); have hs := hb.size; rw [sW] at hs; replace k1 := rowB_below k1 hb (by omega); have bX := bW.trans (hb.mono (by omega)); clear hb hload)
    obtain ⟨y, hy⟩ : ∃ y, w1.heap.size = y := ⟨_, rfl⟩
    have hst := drvW.start (s := ⟨k, t, c, e, n, l, d, r, o, b, m⟩) (by omega) hu k1 bX hy
    dsimp only [Dr.cs] at hst
    clear hu k1 bX bW k0
    change Code.wp _ _ _ _ (w1.alloc (.cells #[.int .i64 k, .int .i64 t, .int .i64 c, .int .i64 e, .int .i64 n, .int .i64 l, .int .i64 d, .int .i64 r, .int .i64 o, .int .i64 b, .slice a m.length cap] 75))
    rw [hy]
    clear hs sW hy
    generalize w1.alloc (.cells #[.int .i64 k, .int .i64 t, .int .i64 c, .int .i64 e, .int .i64 n, .int .i64 l, .int .i64 d, .int .i64 r, .int .i64 o, .int .i64 b, .slice a m.length cap] 75) = w2 at *
    obtain ⟨⟨e0, e1, e2, e3, e4, e5, e6, e7, e8, e9, e10⟩, ⟨z0, z1, z2, z3, z4, z5, z6, z7, z8, z9, z10⟩⟩ := elCells hst.st.row
    dsimp only at e0 e1 e2 e3 e4 e5 e6 e7 e8 e9 e10
    go_upto_region 14 with (fail)
    clear e0 z0 e1 z1 e2 z2 e3 z3 e4 z4 e5 z5 e6 z6 e7 z7 e8 z8 e9 z9 e10 z10
    have hZ := hst
    have lZ := rowB_lt hZ.box
    go_wp2_with (first
        | (go_at_call 63; refine (drvDev_any ((w.heap.size + 1) + 1) y _ _ _ _ _ _ _ _ _ _ _ _ _ hZ.st).mono ?_; rintro e2 w8 ⟨g, rfl, hr, hg, hb⟩; have k8 := rowB_below hZ.box hb lZ)
        | (refine wpList_storeR rfl 34 _ _ rfl (w.heap.size + 1) rfl #[.slice (some ⟨g, 0, none⟩) 10 10, .slice a m.length cap] rfl (dev2_one _ _ _ _ _ _) 34 #[.slice none 0 0, .slice none 0 0] rfl ?_ agDv ?_; with_reducible exact k8)
  )
    refine bodyPost_ret (resultsRT rfl (w.heap.size + 1) _ rfl (rowB_row k8 _) agDv rfl) rfl ?_
    exact ⟨_, rfl, hZ.fin (s := ⟨k, t, c, e, n, l, d, r, o, b, m⟩) hr hg hb v vm⟩
theorem drvRead_any (v vm : Value) (l lb : List Int) (a : Int) (w : World) (h : isArg w v l) (hm : isByt w vm lb) (hbb : ∀ x ∈ lb, 0 ≤ x ∧ x < 256) (hL : lb.length ≤ 140737488351232) :
    Calls Try.prog 48 #[.agg #[v, vm], .int .i64 a] w fun e w' => ∃ u, e = .returned (.tuple #[u, .int .i64 ((Dr.of l lb).reg a)]) ∧ devA w' u ((Dr.of l lb).read a) ∧ Below w.heap.size w w' := by
  refine (drvRead_from v vm l lb a w h hm hbb hL).mono ?_
  rintro e w' ⟨u, e1, e2, e3⟩
  exact ⟨u, e1, e2.toA, e3⟩
end Go.Proofs.Ytakaebjojgeehaa
