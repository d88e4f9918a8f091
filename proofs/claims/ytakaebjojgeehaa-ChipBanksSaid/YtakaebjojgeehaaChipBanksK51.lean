/- A part of the proof of ChipBanks: DrvCd. -/
import Derived.Test.YtakaebjojgeehaaChipBanksK01
import Derived.Test.YtakaebjojgeehaaChipBanksK02
import Derived.Test.YtakaebjojgeehaaChipBanksK03
import Derived.Test.YtakaebjojgeehaaChipBanksK04
import Derived.Test.YtakaebjojgeehaaChipBanksK05
import Derived.Test.YtakaebjojgeehaaChipBanksK06
import Derived.Test.YtakaebjojgeehaaChipBanksK07
import Derived.Test.YtakaebjojgeehaaChipBanksK08
import Derived.Test.YtakaebjojgeehaaChipBanksK09
import Derived.Test.YtakaebjojgeehaaChipBanksK15
import Derived.Test.YtakaebjojgeehaaChipBanksK17
import Derived.Test.YtakaebjojgeehaaChipBanksK19
import Derived.Test.YtakaebjojgeehaaChipBanksK20
import Derived.Test.YtakaebjojgeehaaChipBanksK21
import Derived.Test.YtakaebjojgeehaaChipBanksK22
import Derived.Test.YtakaebjojgeehaaChipBanksK23
import Derived.Test.YtakaebjojgeehaaChipBanksK24
import Derived.Test.YtakaebjojgeehaaChipBanksK25
import Derived.Test.YtakaebjojgeehaaChipBanksK30
import Derived.Test.YtakaebjojgeehaaChipBanksK36
import Derived.Test.YtakaebjojgeehaaChipBanksK37
import Derived.Test.YtakaebjojgeehaaChipBanksK38
import Derived.Test.YtakaebjojgeehaaChipBanksK39
import Derived.Test.YtakaebjojgeehaaChipBanksK40
import Derived.Test.YtakaebjojgeehaaChipBanksK41
import Derived.Below
import Derived.BigQuiet
import Derived.ChangeMaps5
import Derived.Deep.AppendSrc
import Derived.Deep.DeepAppendWide
import Derived.Deep.DeepCutAuto
import Derived.Deep.Draws
import Derived.Deep.MidRow
import Derived.Deep.OwnRows
import Derived.Deep.QuietTactic
import Derived.Deep.RegionHeld3
import Derived.Deep.RegionWith
import Derived.Deep.Slices
import Derived.Deep.WholeRow
import Derived.Laws.CopyOwn
import Derived.Laws.OwnMore
import Derived.Lib.Hide
import Derived.Lib.SmallJoins
import Derived.Maps.AppendAt
import Derived.OpenShut
import Derived.OrdersHeld
import Derived.OwnWalk
import Derived.RowKit3
import Derived.StillTactics
import Derived.StillTail
import Derived.StillTailTactics
import Derived.Test.YtakaebjojgeehaaChecked
import Derived.WalkKit
namespace Go.Proofs.Ytakaebjojgeehaa
open Go.RowKit
set_option maxRecDepth 100000
theorem drGet (x : Int) : lo (x / 2 ^ wd 0) (fz 0 4) = x % 16 ∧ lo (x / 2 ^ wd 4) (fz 4 2) = x % 256 / 16 % 4 := by
  have e1 : wd 0 = 0 := rfl
  have e2 : fz 0 4 = 4 := rfl
  have e3 : wd 4 = 4 := rfl
  have e4 : fz 4 2 = 2 := rfl
  rw [e1, e2, e3, e4]
  unfold lo
  rw [show (2 : Int) ^ 0 = 1 by decide, show (2 : Int) ^ 4 = 16 by decide, show (2 : Int) ^ 2 = 4 by decide]
  omega
set_option maxHeartbeats 1000000 in
theorem drvWrite_from (v vm : Value) (ln lb : List Int) (x : Int) (z : Int) (w : World) (h : isArg w v ln) (hm : isByt w vm lb) (hbb : ∀ x ∈ lb, 0 ≤ x ∧ x < 256) (hL : lb.length ≤ 140737488351232) :
    Calls Try.prog 41 #[.agg #[v, vm], .int .i64 x, .int .i64 z] w fun e' w' => ∃ u, e' = .returned u ∧ devF w.heap.size v vm w' u ((Dr.of ln lb).write x z) ∧ Below w.heap.size w w' := by
  obtain ⟨k0, k1, bW, sW⟩ := boxes2 w (.cells #[v, vm] 34) (.cells #[.slice none 0 0, .slice none 0 0] 34)
  have k0 : rowB _ _ _ _ := k0
  have k1 : rowB _ _ _ _ := k1
  have hload := drvLoad_any v vm ln lb _ (isArg_below h bW (Nat.le_refl _)) (isByt_below hm bW (Nat.le_refl _)) hL
  have hfit := Dr.of_fit ln lb hbb
  have hmB : (Dr.of ln lb).m.length ≤ 140737488351232 := by show (drM lb).length ≤ _; rw [drM_len]; omega
  rw [sW] at hload
  obtain ⟨s, hs⟩ : ∃ s, Dr.of ln lb = s := ⟨_, rfl⟩
  rw [hs] at hload hfit hmB
  rw [hs]
  clear hs h hm hbb hL
  obtain ⟨k, t, c, e, n, l, d, r, o, b, m⟩ := s
  dsimp only [Dr.cs] at hload hmB
  rcases (by omega : x = 0 ∨ (x = 1 ∧ c = 4) ∨ (x = 1 ∧ c ≠ 4) ∨ x = 3 ∨ (x ≠ 0 ∧ x ≠ 1 ∧ x ≠ 3)) with rfl | ⟨rfl, rfl⟩ | ⟨rfl, h4⟩ | rfl | ⟨n0, n1, n3⟩
  · obtain ⟨hg1, hg2⟩ := drGet z
    have hxb : 0 ≤ z % 16 ∧ z % 16 < 16 := by omega
    obtain ⟨T, hT⟩ : ∃ T, (⟨k, t, c, e, n, l, d, r, o, b, m⟩ : Dr).write 0 z = T := ⟨_, rfl⟩
    rw [hT]
    have hT2 : (if c ≠ 0 ∨ z % 16 = 0 ∨ 4 < z % 16 ∨ (2 < z % 16 ∧ k = 0) then (⟨k, t, c, e, n, l, d, r, o, b, m⟩ : Dr) else (⟨k, t, z % 16, z % 256 / 16 % 4, 0, 30, d, oneD (z % 16 == 4), o, b, m⟩ : Dr)) = T := by
      rw [← hT]
      unfold Dr.write
      rw [if_pos rfl]
    clear hT
    obtain ⟨X, hX⟩ : ∃ X, z % 16 = X := ⟨_, rfl⟩
    obtain ⟨Y, hY⟩ : ∃ Y, z % 256 / 16 % 4 = Y := ⟨_, rfl⟩
    rw [hX] at hg1 hxb hT2
    rw [hY] at hg2 hT2
    clear hX hY
    have HT := Lib.hid hT2
    have HG1 := Lib.hid hg1
    have HG2 := Lib.hid hg2
    clear hT2 hg1 hg2
    obtain ⟨K2, T2, C2, E2, N2, L2, D2, R2, O2, B2, M2⟩ := T
    go_enter Try.func41, Try.ntmps41
    go_upto_region 2 with (go_at_call 62; refine hload.mono ?_; rintro e2 w1 ⟨u, rfl, hu, hb⟩; obtain ⟨a, cap, rfl, _⟩ := isByt_form (own8_byt hu); have hs := hb.size; rw [sW] at hs; replace k1 := rowB_below k1 hb (by omega); have bX := bW.trans (hb.mono (by omega)); clear hb hload)
    obtain ⟨y, hy⟩ : ∃ y, w1.heap.size = y := ⟨_, rfl⟩
    have hst := drvW.start (s := ⟨k, t, c, e, n, l, d, r, o, b, m⟩) (by omega) hu k1 bX hy
    dsimp only [Dr.cs] at hst
    clear hu k1 bX bW k0
    change Code.wp _ _ _ _ (w1.alloc (.cells #[.int .i64 k, .int .i64 t, .int .i64 c, .int .i64 e, .int .i64 n, .int .i64 l, .int .i64 d, .int .i64 r, .int .i64 o, .int .i64 b, .slice a m.length cap] 75))
    rw [hy]
    clear hs sW hy
    generalize w1.alloc (.cells #[.int .i64 k, .int .i64 t, .int .i64 c, .int .i64 e, .int .i64 n, .int .i64 l, .int .i64 d, .int .i64 r, .int .i64 o, .int .i64 b, .slice a m.length cap] 75) = w2 at *
    go_upto_region 11 with (first
        | (go_at_call 75; refine (get_any _ _ _ _).mono ?_; rintro e2 w' ⟨rfl, rfl⟩)
        | (rw [HG1.out, HG2.out]; go_at_call 74; refine (drvBegin_any ((w.heap.size + 1) + 1) y _ _ _ _ _ _ _ _ _ _ _ _ X Y _ hst.st hxb).mono ?_; rintro e2 w3 ⟨rfl, h6, hb⟩; rw [HT.out] at h6; replace hst := hst.next h6 hb; clear h6 hb)
  )
    have hZ := hst
    have lZ := rowB_lt hZ.box
    go_wp2_with (first
        | (go_at_call 63; refine (drvDev_any ((w.heap.size + 1) + 1) y _ _ _ _ _ _ _ _ _ _ _ _ _ hZ.st).mono ?_; rintro e2 w8 ⟨g, rfl, hr, hg, hb⟩; have k8 := rowB_below hZ.box hb lZ)
        | (refine wpList_storeR rfl 34 _ _ rfl (w.heap.size + 1) rfl #[.slice (some ⟨g, 0, none⟩) 10 10, .slice a m.length cap] rfl (dev2_one _ _ _ _ _ _) 34 #[.slice none 0 0, .slice none 0 0] rfl ?_ agDv ?_; with_reducible exact k8)
  )
    refine bodyPost_ret (resultsR rfl (w.heap.size + 1) _ rfl (rowB_row k8 _) agDv) rfl ?_
    exact ⟨_, rfl, hZ.fin (s := ⟨K2, T2, C2, E2, N2, L2, D2, R2, O2, B2, M2⟩) hr hg hb v vm⟩
  · obtain ⟨D, hD⟩ : ∃ D, z % 256 = D := ⟨_, rfl⟩
    have hlo : lo z (wd 8) = D := hD
    have ev : (⟨k, t, 4, e, n, l, d, r, o, b, m⟩ : Dr).write 1 z = ⟨k, t, 4, e, n, l, D, 0, o, b, m⟩ := by
      unfold Dr.write
      rw [if_neg (by decide), if_pos rfl, if_pos rfl, hD]
    rw [ev]
    clear ev hD
    go_enter Try.func41, Try.ntmps41
    go_upto_region 2 with (go_at_call 62; refine hload.mono ?_; rintro e2 w1 ⟨u, rfl, hu, hb⟩; obtain ⟨a, cap, rfl, _⟩ := isByt_form (own8_byt hu); have hs := hb.size; rw [sW] at hs; replace k1 := rowB_below k1 hb (by omega); have bX := bW.trans (hb.mono (by omega)); clear hb hload)
    obtain ⟨y, hy⟩ : ∃ y, w1.heap.size = y := ⟨_, rfl⟩
    have hst := drvW.start (s := ⟨k, t, 4, e, n, l, d, r, o, b, m⟩) (by omega) hu k1 bX hy
    dsimp only [Dr.cs] at hst
    clear hu k1 bX bW k0
    change Code.wp _ _ _ _ (w1.alloc (.cells #[.int .i64 k, .int .i64 t, .int .i64 4, .int .i64 e, .int .i64 n, .int .i64 l, .int .i64 d, .int .i64 r, .int .i64 o, .int .i64 b, .slice a m.length cap] 75))
    rw [hy]
    clear hs sW hy
    generalize w1.alloc (.cells #[.int .i64 k, .int .i64 t, .int .i64 4, .int .i64 e, .int .i64 n, .int .i64 l, .int .i64 d, .int .i64 r, .int .i64 o, .int .i64 b, .slice a m.length cap] 75) = w2 at *
    obtain ⟨⟨e0, e1, e2, e3, e4, e5, e6, e7, e8, e9, e10⟩, ⟨z0, z1, z2, z3, z4, z5, z6, z7, z8, z9, z10⟩⟩ := elCells hst.st.row
    dsimp only at e0 e1 e2 e3 e4 e5 e6 e7 e8 e9 e10
    go_upto_region 11 with (go_at_call 16; refine (low_any _ _ _).mono ?_; rintro e2 w' ⟨rfl, rfl⟩; rw [hlo])
    clear e0 z0 e1 z1 e2 z2 e3 z3 e4 z4 e5 z5 e6 z6 e7 z7 e8 z8 e9 z9 e10 z10
    have hZ := (drvW.put (drvW.put hst 6 (.int .i64 D) (t := ⟨k, t, 4, e, n, l, D, r, o, b, m⟩) rfl rfl) 7 (.int .i64 0) (t := ⟨k, t, 4, e, n, l, D, 0, o, b, m⟩) rfl rfl)
    have lZ := rowB_lt hZ.box
    go_wp2_with (first
        | (go_at_call 63; refine (drvDev_any ((w.heap.size + 1) + 1) y _ _ _ _ _ _ _ _ _ _ _ _ _ hZ.st).mono ?_; rintro e2 w8 ⟨g, rfl, hr, hg, hb⟩; have k8 := rowB_below hZ.box hb lZ)
        | (refine wpList_storeR rfl 34 _ _ rfl (w.heap.size + 1) rfl #[.slice (some ⟨g, 0, none⟩) 10 10, .slice a m.length cap] rfl (dev2_one _ _ _ _ _ _) 34 #[.slice none 0 0, .slice none 0 0] rfl ?_ agDv ?_; with_reducible exact k8)
  )
    refine bodyPost_ret (resultsR rfl (w.heap.size + 1) _ rfl (rowB_row k8 _) agDv) rfl ?_
    exact ⟨_, rfl, hZ.fin (s := ⟨k, t, 4, e, n, l, D, 0, o, b, m⟩) hr hg hb v vm⟩
  · obtain ⟨D, hD⟩ : ∃ D, z % 256 = D := ⟨_, rfl⟩
    have hlo : lo z (wd 8) = D := hD
    have q4 : (c == 4) = false := by simpa using h4
    have ev : (⟨k, t, c, e, n, l, d, r, o, b, m⟩ : Dr).write 1 z = ⟨k, t, c, e, n, l, D, r, o, b, m⟩ := by
      unfold Dr.write
      rw [if_neg (by decide), if_pos rfl, if_neg h4, hD]
    rw [ev]
    clear ev hD
    go_enter Try.func41, Try.ntmps41
    go_upto_region 2 with (go_at_call 62; refine hload.mono ?_; rintro e2 w1 ⟨u, rfl, hu, hb⟩; obtain ⟨a, cap, rfl, _⟩ := isByt_form (own8_byt hu); have hs := hb.size; rw [sW] at hs; replace k1 := rowB_below k1 hb (by omega); have bX := bW.trans (hb.mono (by omega)); clear hb hload)
    obtain ⟨y, hy⟩ : ∃ y, w1.heap.size = y := ⟨_, rfl⟩
    have hst := drvW.start (s := ⟨k, t, c, e, n, l, d, r, o, b, m⟩) (by omega) hu k1 bX hy
    dsimp only [Dr.cs] at hst
    clear hu k1 bX bW k0
    change Code.wp _ _ _ _ (w1.alloc (.cells #[.int .i64 k, .int .i64 t, .int .i64 c, .int .i64 e, .int .i64 n, .int .i64 l, .int .i64 d, .int .i64 r, .int .i64 o, .int .i64 b, .slice a m.length cap] 75))
    rw [hy]
    clear hs sW hy
    generalize w1.alloc (.cells #[.int .i64 k, .int .i64 t, .int .i64 c, .int .i64 e, .int .i64 n, .int .i64 l, .int .i64 d, .int .i64 r, .int .i64 o, .int .i64 b, .slice a m.length cap] 75) = w2 at *
    obtain ⟨⟨e0, e1, e2, e3, e4, e5, e6, e7, e8, e9, e10⟩, ⟨z0, z1, z2, z3, z4, z5, z6, z7, z8, z9, z10⟩⟩ := elCells hst.st.row
    dsimp only at e0 e1 e2 e3 e4 e5 e6 e7 e8 e9 e10
    go_upto_region 11 with (go_at_call 16; refine (low_any _ _ _).mono ?_; rintro e2 w' ⟨rfl, rfl⟩; rw [hlo])
    clear e0 z0 e1 z1 e2 z2 e3 z3 e4 z4 e5 z5 e6 z6 e7 z7 e8 z8 e9 z9 e10 z10
    have hZ := (drvW.put hst 6 (.int .i64 D) (t := ⟨k, t, c, e, n, l, D, r, o, b, m⟩) rfl rfl)
    have lZ := rowB_lt hZ.box
    go_wp2_with (first
        | (go_at_call 63; refine (drvDev_any ((w.heap.size + 1) + 1) y _ _ _ _ _ _ _ _ _ _ _ _ _ hZ.st).mono ?_; rintro e2 w8 ⟨g, rfl, hr, hg, hb⟩; have k8 := rowB_below hZ.box hb lZ)
        | (refine wpList_storeR rfl 34 _ _ rfl (w.heap.size + 1) rfl #[.slice (some ⟨g, 0, none⟩) 10 10, .slice a m.length cap] rfl (dev2_one _ _ _ _ _ _) 34 #[.slice none 0 0, .slice none 0 0] rfl ?_ agDv ?_; with_reducible exact k8)
  )
    refine bodyPost_ret (resultsR rfl (w.heap.size + 1) _ rfl (rowB_row k8 _) agDv) rfl ?_
    exact ⟨_, rfl, hZ.fin (s := ⟨k, t, c, e, n, l, D, r, o, b, m⟩) hr hg hb v vm⟩
  · obtain ⟨D, hD⟩ : ∃ D, z % 2 = D := ⟨_, rfl⟩
    have hlo : lo z (wd 1) = D := hD
    have ev : (⟨k, t, c, e, n, l, d, r, o, b, m⟩ : Dr).write 3 z = ⟨k, t, c, e, n, l, d, r, o, D, m⟩ := by
      unfold Dr.write
      rw [if_neg (by decide), if_neg (by decide), if_pos rfl, hD]
    rw [ev]
    clear ev hD
    go_enter Try.func41, Try.ntmps41
    go_upto_region 2 with (go_at_call 62; refine hload.mono ?_; rintro e2 w1 ⟨u, rfl, hu, hb⟩; obtain ⟨a, cap, rfl, _⟩ := isByt_form (own8_byt hu); have hs := hb.size; rw [sW] at hs; replace k1 := rowB_below k1 hb (by omega); have bX := bW.trans (hb.mono (by omega)); clear hb hload)
    obtain ⟨y, hy⟩ : ∃ y, w1.heap.size = y := ⟨_, rfl⟩
    have hst := drvW.start (s := ⟨k, t, c, e, n, l, d, r, o, b, m⟩) (by omega) hu k1 bX hy
    dsimp only [Dr.cs] at hst
    clear hu k1 bX bW k0
    change Code.wp _ _ _ _ (w1.alloc (.cells #[.int .i64 k, .int .i64 t, .int .i64 c, .int .i64 e, .int .i64 n, .int .i64 l, .int .i64 d, .int .i64 r, .int .i64 o, .int .i64 b, .slice a m.length cap] 75))
    rw [hy]
    clear hs sW hy
    generalize w1.alloc (.cells #[.int .i64 k, .int .i64 t, .int .i64 c, .int .i64 e, .int .i64 n, .int .i64 l, .int .i64 d, .int .i64 r, .int .i64 o, .int .i64 b, .slice a m.length cap] 75) = w2 at *
    obtain ⟨⟨e0, e1, e2, e3, e4, e5, e6, e7, e8, e9, e10⟩, ⟨z0, z1, z2, z3, z4, z5, z6, z7, z8, z9, z10⟩⟩ := elCells hst.st.row
    dsimp only at e0 e1 e2 e3 e4 e5 e6 e7 e8 e9 e10
    go_upto_region 11 with (go_at_call 16; refine (low_any _ _ _).mono ?_; rintro e2 w' ⟨rfl, rfl⟩; rw [hlo])
    clear e0 z0 e1 z1 e2 z2 e3 z3 e4 z4 e5 z5 e6 z6 e7 z7 e8 z8 e9 z9 e10 z10
    have hZ := (drvW.put hst 9 (.int .i64 D) (t := ⟨k, t, c, e, n, l, d, r, o, D, m⟩) rfl rfl)
    have lZ := rowB_lt hZ.box
    go_wp2_with (first
        | (go_at_call 63; refine (drvDev_any ((w.heap.size + 1) + 1) y _ _ _ _ _ _ _ _ _ _ _ _ _ hZ.st).mono ?_; rintro e2 w8 ⟨g, rfl, hr, hg, hb⟩; have k8 := rowB_below hZ.box hb lZ)
        | (refine wpList_storeR rfl 34 _ _ rfl (w.heap.size + 1) rfl #[.slice (some ⟨g, 0, none⟩) 10 10, .slice a m.length cap] rfl (dev2_one _ _ _ _ _ _) 34 #[.slice none 0 0, .slice none 0 0] rfl ?_ agDv ?_; with_reducible exact k8)
  )
    refine bodyPost_ret (resultsR rfl (w.heap.size + 1) _ rfl (rowB_row k8 _) agDv) rfl ?_
    exact ⟨_, rfl, hZ.fin (s := ⟨k, t, c, e, n, l, d, r, o, D, m⟩) hr hg hb v vm⟩
  · have q0 : (x == 0) = false := by simpa using n0
    have q1 : (x == 1) = false := by simpa using n1
    have q3 : (x == 3) = false := by simpa using n3
    have ev : (⟨k, t, c, e, n, l, d, r, o, b, m⟩ : Dr).write x z = ⟨k, t, c, e, n, l, d, r, o, b, m⟩ := by
      unfold Dr.write
      rw [if_neg n0, if_neg n1, if_neg n3]
    rw [ev]
    clear ev n0 n1 n3
    go_enter Try.func41, Try.ntmps41
    go_upto_region 2 with (go_at_call 62; refine hload.mono ?_; rintro e2 w1 ⟨u, rfl, hu, hb⟩; obtain ⟨a, cap, rfl, _⟩ := isByt_form (own8_byt hu); have hs := hb.size; rw [sW] at hs; replace k1 := rowB_below k1 hb (by omega); have bX := bW.trans (hb.mono (by omega)); clear hb hload)
    obtain ⟨y, hy⟩ : ∃ y, w1.heap.size = y := ⟨_, rfl⟩
    have hst := drvW.start (s := ⟨k, t, c, e, n, l, d, r, o, b, m⟩) (by omega) hu k1 bX hy
    dsimp only [Dr.cs] at hst
    clear hu k1 bX bW k0
    change Code.wp _ _ _ _ (w1.alloc (.cells #[.int .i64 k, .int .i64 t, .int .i64 c, .int .i64 e, .int .i64 n, .int .i64 l, .int .i64 d, .int .i64 r, .int .i64 o, .int .i64 b, .slice a m.length cap] 75))
    rw [hy]
    clear hs sW hy
    generalize w1.alloc (.cells #[.int .i64 k, .int .i64 t, .int .i64 c, .int .i64 e, .int .i64 n, .int .i64 l, .int .i64 d, .int .i64 r, .int .i64 o, .int .i64 b, .slice a m.length cap] 75) = w2 at *
    obtain ⟨⟨e0, e1, e2, e3, e4, e5, e6, e7, e8, e9, e10⟩, ⟨z0, z1, z2, z3, z4, z5, z6, z7, z8, z9, z10⟩⟩ := elCells hst.st.row
    dsimp only at e0 e1 e2 e3 e4 e5 e6 e7 e8 e9 e10
    go_upto_region 11 with (fail)
    clear e0 z0 e1 z1 e2 z2 e3 z3 e4 z4 e5 z5 e6 z6 e7 z7 e8 z8 e9 z9 e10 z10
    have hZ := hst
    have lZ := rowB_lt hZ.box
    go_wp2_with (first
        | (go_at_call 63; refine (drvDev_any ((w.heap.size + 1) + 1) y _ _ _ _ _ _ _ _ _ _ _ _ _ hZ.st).mono ?_; rintro e2 w8 ⟨g, rfl, hr, hg, hb⟩; have k8 := rowB_below hZ.box hb lZ)
        | (refine wpList_storeR rfl 34 _ _ rfl (w.heap.size + 1) rfl #[.slice (some ⟨g, 0, none⟩) 10 10, .slice a m.length cap] rfl (dev2_one _ _ _ _ _ _) 34 #[.slice none 0 0, .slice none 0 0] rfl ?_ agDv ?_; with_reducible exact k8)
  )
    refine bodyPost_ret (resultsR rfl (w.heap.size + 1) _ rfl (rowB_row k8 _) agDv) rfl ?_
    exact ⟨_, rfl, hZ.fin (s := ⟨k, t, c, e, n, l, d, r, o, b, m⟩) hr hg hb v vm⟩
theorem drvWrite_any (v vm : Value) (l lb : List Int) (a x : Int) (w : World) (h : isArg w v l) (hm : isByt w vm lb) (hbb : ∀ x ∈ lb, 0 ≤ x ∧ x < 256) (hL : lb.length ≤ 140737488351232) :
    Calls Try.prog 41 #[.agg #[v, vm], .int .i64 a, .int .i64 x] w fun e w' => ∃ u, e = .returned u ∧ devA w' u ((Dr.of l lb).write a x) ∧ Below w.heap.size w w' := by
  refine (drvWrite_from v vm l lb a x w h hm hbb hL).mono ?_
  rintro e w' ⟨u, e1, e2, e3⟩
  exact ⟨u, e1, e2.toA, e3⟩
end Go.Proofs.Ytakaebjojgeehaa
