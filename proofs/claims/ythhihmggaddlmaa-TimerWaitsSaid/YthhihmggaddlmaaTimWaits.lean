/- The walk of the law TimerWaits. -/
import Derived.Test.YthhihmggaddlmaaChecked
import Derived.Test.YthhihmggaddlmaaLinM
import Derived.Test.YthhihmggaddlmaaLinT
import Derived.Test.YthhihmggaddlmaaMakeNext
import Derived.Test.YthhihmggaddlmaaTimKeep
import Derived.Below
import Derived.BigQuiet
import Derived.ChangeMaps5
import Derived.Deep.CutBlock
import Derived.Deep.DeepCutAuto
import Derived.Deep.Draws
import Derived.Deep.MidRow
import Derived.Deep.OwnRows
import Derived.Deep.QuietTactic
import Derived.Deep.RegionHeld3
import Derived.Deep.RegionLaw
import Derived.Deep.RegionWith
import Derived.Deep.Slices
import Derived.Deep.WholeRow
import Derived.Lib.Hide
import Derived.Lib.SmallJoins
import Derived.OpenShut
import Derived.OrdersHeld
import Derived.OwnWalk
import Derived.RangeFuncBox
import Derived.RowKit3
import Derived.StillTactics
import Derived.StillTail
import Derived.StillTailTactics
import Derived.WalkKit
namespace Go.Proofs.Ythhihmggaddlmaa
open Go.RowKit
set_option maxRecDepth 100000
set_option maxHeartbeats 4000000 in
theorem timerWaits_walk (v : Value) (l : List Int) (k : Int) (w : World) (h : isArg w v l) (hwf : ∀ x ∈ l, (Lit.int .i64 x).wf = true) (hk : -9223372036854775808 ≤ k ∧ k ≤ 9223372036854775807) :
    Calls Try.prog 7 #[v, .int .i64 k] w fun e w' => e = .returned (.bool true) ∧ Below w.heap.size w w' := by
  have b0 := (boxes1 w (.cells #[v] 75)).2.1
  have S0 : stream w (w.alloc (.cells #[v] 75)) w.heap.size l := ⟨Nat.le_refl _, b0, hwf, v, Boxed.new w 75 v, h⟩
  obtain ⟨sa, sl, scap, rfl⟩ : ∃ a n c, v = .slice a n c := by
    rcases h with ⟨a, cap, rfl, _⟩ | ⟨b, off, cap, rfl, _⟩ <;> exact ⟨_, _, _, rfl⟩
  clear h
  go_enter Try.func7, Try.ntmps7
  go_upto_region 3 with (first
    | (go_at_call_of 39 (Value.int .i64 300); refine (next_any w w.heap.size _ 300 (by decide) _ S1).mono ?_; rintro e w2 ⟨b, rfl, l0, l1, G2, z2, l2, S2⟩)
    | (go_at_call_of 39 (Value.int .i64 300); refine (next_any w w.heap.size l 300 (by decide) _ S0).mono ?_; rintro e w1 ⟨a, rfl, a0, a1, G1, z1, l1, S1⟩)
    | (go_at_call_of 39 (Value.int .i64 8); refine (next_any w w.heap.size _ 8 (by decide) _ S2).mono ?_; rintro e w3 ⟨c, rfl, c0, c1, G3, z3, l3, S3⟩)
    | (go_at_call_of 39 (Value.int .i64 2); refine (next_any w w.heap.size _ 2 (by decide) _ S3).mono ?_; rintro e w4 ⟨f, rfl, f0, f1, G4, z4, l4, S4⟩))
  have sz4 : w4.heap.size = w.heap.size + 1 := by rw [z4, z3, z2, z1]; simp
  obtain ⟨nn, nd, bb, sB⟩ := boxes2 w4 (.cells #[.int .i64 a, .int .i64 b, .int .i64 c, .int .i64 f] 3) (.cells #[.slice (some ⟨w.heap.size + 1, 0, none⟩) 4 4, .slice none 0 0] 51)
  rw [sz4] at nn nd bb sB
  have hr : rowB _ _ 3 #[.int .i64 a, .int .i64 b, .int .i64 c, .int .i64 f] := nn
  have rd : rowB _ _ 51 #[.slice (some ⟨w.heap.size + 1, 0, none⟩) 4 4, .slice none 0 0] := nd
  have bX := S4.2.1.trans (bb.mono (Nat.le_succ _))
  change Code.wp _ _ _ _ ((w4.alloc (.cells #[.int .i64 a, .int .i64 b, .int .i64 c, .int .i64 f] 3)).alloc (.cells #[.slice (some ⟨w.heap.size + 1, 0, none⟩) 4 4, .slice none 0 0] 51))
  generalize (w4.alloc (.cells #[.int .i64 a, .int .i64 b, .int .i64 c, .int .i64 f] 3)).alloc (.cells #[.slice (some ⟨w.heap.size + 1, 0, none⟩) 4 4, .slice none 0 0] 51) = wA at *
  clear S0 S1 S2 S3 S4 G1 G2 G3 G4 z1 z2 z3 z4 sz4 nn nd bb b0 hwf
  have fit : (Tm.mk a b c f).fit := ⟨by dsimp only; omega, by dsimp only; omega, by dsimp only; omega, by dsimp only; omega⟩
  have ha := tm_and fit.k 1 (.inl rfl)
  rw [Int.ediv_one] at ha
  dsimp only at ha
  have x0 := numB_arg (l := [a, b, c, f]) hr (by simp)
  have hNx := tmNext_any _ (.slice none 0 0) [a, b, c, f] wA x0
  rw [show Tm.of [a, b, c, f] = ⟨a, b, c, f⟩ from Tm.of_ns fit] at hNx
  have bounds : a < 300 ∧ b < 300 ∧ c < 8 ∧ f < 2 := by omega
  obtain ⟨u0, u1, u2, u3⟩ := bounds
  clear a1 l1 c1 f1
  obtain ⟨d0, d1, _, _⟩ := dcells2 rd
  by_cases hc : c % 2 = 1
  · rw [show (Tm.mk a b c f).next = a from if_pos hc] at hNx
    rw [decide_eq_true hc] at ha
    go_upto_region 5 with (go_at_call 31; refine hNx.mono ?_; rintro e wB ⟨rfl, hbN⟩; have rdB := rowB_below rd hbN (rowB_lt rd); have hrB := rowB_below hr hbN (rowB_lt hr); obtain ⟨e0, e1, _, _⟩ := dcells2 rdB; obtain ⟨i0, i1, i2, i3, _⟩ := dcells4 hrB)
    have bY := bX.trans (hbN.mono bX.size)
    clear hNx x0 d0 d1 hbN bX rd hr sB
    have hM0 : 0 ≤ a ∧ a ≤ a ∧ a ≤ 1000 := by omega
    have hbl := fun w => below_any k (a + 1) hk (by omega) w
    obtain ⟨m, hm⟩ : ∃ m, k % (a + 1) = m := ⟨_, rfl⟩
    have hm0 := Int.emod_nonneg k (b := a + 1) (by omega)
    have hm1 := Int.emod_lt_of_pos k (b := a + 1) (by omega)
    rw [hm] at hbl hm0 hm1
    clear hm
    have hof : Tm.of [a, b, c, f] = ⟨a, b, c, f⟩ := Tm.of_ns fit
    have hSk : ∀ v w, isArg w v [a, b, c, f] → _ := fun v w h => tmSkip_any v (.slice none 0 0) [a, b, c, f] m (by omega) w h
    have hSn : ∀ v w, isArg w v [a, b, c, f] → _ := fun v w h => tmSkip_any v (.slice none 0 0) [a, b, c, f] (a + 1) (by omega) w h
    have hIr : ∀ v w, isArg w v [a, b, c, f] → _ := fun v w h => tmIrq_any v (.slice none 0 0) [a, b, c, f] w h
    rw [hof] at hSk hSn hIr
    have hW := waits_on fit hc m hm0 (by show m ≤ a; omega)
    have fitE := Tm.skip_fit fit m
    have fitF := Tm.skip_fit fit (a + 1)
    generalize hE : (Tm.mk a b c f).skip m = E at *
    generalize hG : (Tm.mk a b c f).skip (a + 1) = G at *
    have hIe : ∀ v w, isArg w v E.ns → _ := fun v w h => tmIrq_any v (.slice none 0 0) E.ns w h
    rw [Tm.of_ns fitE, hW.1] at hIe
    have hRd : ∀ v w, isArg w v G.ns → _ := fun v w h => tmRead_any v (.slice none 0 0) G.ns 3 w h
    rw [Tm.of_ns fitF, hW.2] at hRd
    generalize (Tm.mk a b c f).irq = I at *
    clear hW fitE fitF hE hG hof
    obtain ⟨E0, E1, E2, E3⟩ := E
    obtain ⟨G0, G1, G2, G3⟩ := G
    obtain ⟨H, hH⟩ : ∃ H, (Tm.mk G0 G1 G2 G3).read 3 = H := ⟨_, rfl⟩
    rw [hH] at hRd
    clear hH
    obtain ⟨H0, H1, H2, H3⟩ := H
    dsimp only [Tm.ns] at hSk hSn hIe hRd hIr
    have xB := numB_arg (l := [a, b, c, f]) hrB (by simp)
    go_cut [9] (fun s wx => ∃ y ge, s = .pointer (some ⟨y, 0, none⟩) ∧ rowB wx y 51 #[.slice (some ⟨ge, 0, none⟩) 4 4, .slice none 0 0] ∧ rowB wx ge 3 (#[.int .i64 E0, .int .i64 E1, .int .i64 E2, .int .i64 E3]) ∧ Below wB.heap.size wB wx)
    case first =>
      refine wp_region_tree (fun w' => Below wB.heap.size wB w') [0, 1, 2, 3, 4, 5] (.rd 0 (.rd 1 (.rd 2 (.rd 3 (.rd 4 (.rd 5 (.two 6 (.one 7 (.one 8 (.mix []))) 7 (.one 6 (.one 8 (.mix [])))))))))) (by kernel_rfl) (by kernel_rfl) (fun _ _ _ _ _ h => h) ?_
      simp only [Tr.put, List.map_nil, opOf, List.getD_cons_zero, List.getD_cons_succ]
      change wpTr _ _ _ _ _ _ wB.drew
      have hS : Below wB.heap.size wB wB.drew := (Below.refl _ _).drew
      generalize wB.drew = wC at *
      refine wpTr_held (.agg #[.slice (some ⟨w.heap.size + 1, 0, none⟩) 4 4, .slice none 0 0]) rfl hS (fun w' hw' => exec_rowR 51 _ rfl (w.heap.size + 1 + 1) rfl 51 #[.slice (some ⟨w.heap.size + 1, 0, none⟩) 4 4, .slice none 0 0] (rowB_below rdB hw' (rowB_lt rdB)) agDv) ?_
      simp only [Act.put, List.setIfInBounds_toArray, List.set_cons_zero, List.set_cons_succ]
      refine wpTr_held (.int .i64 k) rfl hS (fun w' hw' => by go_simp) ?_
      simp only [Act.put, List.setIfInBounds_toArray, List.set_cons_zero, List.set_cons_succ]
      refine wpTr_held (.int .i64 a) rfl hS (fun w' hw' => by go_simp) ?_
      simp only [Act.put, List.setIfInBounds_toArray, List.set_cons_zero, List.set_cons_succ]
      refine wpTr_held (.int .i64 (a)) rfl hS (fun w' hw' => by go_simp; first | (intro h; omega) | exact if_neg (by omega)) ?_
      simp only [Act.put, List.setIfInBounds_toArray, List.set_cons_zero, List.set_cons_succ]
      refine wpTr_held (.int .i64 (a + 1)) rfl hS (fun w' hw' => by go_simp; exact IntWalk.i64_in _ (by omega)) ?_
      simp only [Act.put, List.setIfInBounds_toArray, List.set_cons_zero, List.set_cons_succ]
      refine wpTr_heldCall (.int .i64 m) rfl hS 37 #[.int .i64 k, .int .i64 (a + 1)] (fun w' _ => by go_simp) (fun w' _ => (hbl w').mono fun _ _ ⟨h, g⟩ => ⟨h, g.symm⟩) ?_
      simp only [Act.put, List.setIfInBounds_toArray, List.set_cons_zero, List.set_cons_succ]
      refine wpTr_two ?_ ?_
      · go_wp2_with (go_at_call 36; refine (hSk _ _ (isArg_below xB hS (Nat.le_refl _))).mono ?_; rintro e wD ⟨u, rfl, ⟨ge, rfl, hge, hre⟩, hb⟩; replace hS := hS.trans (hb.mono hS.size))
        refine ⟨hS, ?_⟩
        refine wpTr_one ?_
        go_wp2_with fail
        have nz := rowB_new wD 51 #[.slice none 0 0, .slice none 0 0]
        have hS2 := hS.alloc hS.size (.cells #[.slice none 0 0, .slice none 0 0] 51)
        have re := rowB_alloc hre (.cells #[.slice none 0 0, .slice none 0 0] 51)
        have lg := rowB_lt hre
        have lS := hS.size
        refine ⟨hS2, ?_⟩
        refine wpTr_one ?_
        go_wp2_with (refine wpList_storeR rfl 51 _ _ rfl wD.heap.size rfl #[.slice (some ⟨ge, 0, none⟩) 4 4, .slice none 0 0] rfl (dev2_one _ _ _ _ _ _) 51 #[.slice none 0 0, .slice none 0 0] rfl ?_ agDv ?_; with_reducible exact nz)
        have hS3 := below_rowR hS2 #[.slice (some ⟨ge, 0, none⟩) 4 4, .slice none 0 0] lS
        refine ⟨hS3, ?_⟩
        refine wpTr_mix ?_
        refine wpMix_nil ?_
        have HFIN := Lib.hid (show ∃ y ge', Value.pointer (some ⟨wD.heap.size, 0, none⟩) = .pointer (some ⟨y, 0, none⟩) ∧ rowB _ y 51 #[.slice (some ⟨ge', 0, none⟩) 4 4, .slice none 0 0] ∧ rowB _ ge' 3 (#[.int .i64 E0, .int .i64 E1, .int .i64 E2, .int .i64 E3]) ∧ Below wB.heap.size wB _ from ⟨wD.heap.size, ge, rfl, rowB_row nz #[.slice (some ⟨ge, 0, none⟩) 4 4, .slice none 0 0], rowB_row_other re #[.slice (some ⟨ge, 0, none⟩) 4 4, .slice none 0 0] (show wD.heap.size ≠ ge by omega), hS3⟩)
        go_wp2_with fail
        go_meet
        case rel => exact HFIN.out
      · go_wp2_with fail
        have nz := rowB_new wC 51 #[.slice none 0 0, .slice none 0 0]
        have lS := hS.size
        replace hS := hS.alloc hS.size (.cells #[.slice none 0 0, .slice none 0 0] 51)
        refine ⟨hS, ?_⟩
        refine wpTr_one ?_
        have sz := World.size_alloc wC (.cells #[.slice none 0 0, .slice none 0 0] 51)
        generalize wC.alloc (.cells #[.slice none 0 0, .slice none 0 0] 51) = wY at *
        go_wp2_with (go_at_call 36; refine (hSk _ _ (isArg_below xB hS (Nat.le_refl _))).mono ?_; rintro e wD ⟨u, rfl, ⟨ge, rfl, hge, hre⟩, hb⟩; replace hS := hS.trans (hb.mono hS.size))
        refine ⟨hS, ?_⟩
        have nz := rowB_below nz hb (rowB_lt nz)
        rw [sz] at hge
        refine wpTr_one ?_
        go_wp2_with (refine wpList_storeR rfl 51 _ _ rfl wC.heap.size rfl #[.slice (some ⟨ge, 0, none⟩) 4 4, .slice none 0 0] rfl (dev2_one _ _ _ _ _ _) 51 #[.slice none 0 0, .slice none 0 0] rfl ?_ agDv ?_; with_reducible exact nz)
        have hS3 := below_rowR hS #[.slice (some ⟨ge, 0, none⟩) 4 4, .slice none 0 0] lS
        refine ⟨hS3, ?_⟩
        refine wpTr_mix ?_
        refine wpMix_nil ?_
        have HFIN := Lib.hid (show ∃ y ge', Value.pointer (some ⟨wC.heap.size, 0, none⟩) = .pointer (some ⟨y, 0, none⟩) ∧ rowB _ y 51 #[.slice (some ⟨ge', 0, none⟩) 4 4, .slice none 0 0] ∧ rowB _ ge' 3 (#[.int .i64 E0, .int .i64 E1, .int .i64 E2, .int .i64 E3]) ∧ Below wB.heap.size wB _ from ⟨wC.heap.size, ge, rfl, rowB_row nz #[.slice (some ⟨ge, 0, none⟩) 4 4, .slice none 0 0], rowB_row_other hre #[.slice (some ⟨ge, 0, none⟩) 4 4, .slice none 0 0] (show wC.heap.size ≠ ge by omega), hS3⟩)
        go_wp2_with fail
        go_meet
        case rel => exact HFIN.out
    case rest =>
      obtain ⟨y, ge, rfl, ry, re, hS⟩ := hcut
      have rdC := rowB_below rdB hS (rowB_lt rdB)
      have hrC := rowB_below hrB hS (rowB_lt hrB)
      have bZ := bY.trans (hS.mono bY.size)
      have x3 := numB_arg (l := [a, b, c, f]) hrC (by simp)
      have x4 := numB_arg (l := [E0, E1, E2, E3]) re (by simp)
      clear e0 e1 i0 i1 i2 i3 rdB hrB xB hS hSk hbl
      obtain ⟨e0, e1, _, _⟩ := dcells2 rdC
      go_upto_region 7 with (first
        | (go_at_call 36; refine (hSn _ _ x3).mono ?_; rintro e wD ⟨u, rfl, ⟨gg, rfl, hgg, hrg⟩, hb⟩; have xg := numB_arg hrg (by simp))
        | (go_at_call 25; refine (hRd _ _ xg).mono ?_; rintro e wE ⟨u, rfl, ⟨gh, rfl, hgh, hrh⟩, hb2⟩))
      have bb2 := hb.trans (hb2.mono hb.size)
      have lc := rowB_lt rdC
      have hS : Below wc.heap.size wc ((wE.alloc (.cells #[.slice (some ⟨gh, 0, none⟩) 4 4, .slice none 0 0] 51)).drew) := (bb2.alloc bb2.size (.cells #[.slice (some ⟨gh, 0, none⟩) 4 4, .slice none 0 0] 51)).drew
      change Code.wp _ _ _ _ (wE.alloc (.cells #[.slice (some ⟨gh, 0, none⟩) 4 4, .slice none 0 0] 51))
      generalize wE.alloc (.cells #[.slice (some ⟨gh, 0, none⟩) 4 4, .slice none 0 0] 51) = wF at *
      refine wp_region_mixM (fun w' => Below wc.heap.size wc w') 4194262 8 [(0, 2, 0), (1, 0, 4194300), (2, 1, 4194280), (4, 1, 4194272), (3, 3, 0), (5, 2, 0), (6, 0, 4194176), (7, 0, 4194048), (8, 0, 4193792), (9, 0, 3671040), (10, 0, 3670016), (11, 0, 4190208), (12, 0, 4186112), (13, 0, 4177920), (14, 0, 4161536), (15, 0, 4128768), (16, 0, 4063232), (17, 0, 3932160), (18, 0, 3670016), (19, 0, 3145728), (20, 0, 2097152), (21, 0, 0)] (by kernel_rfl) (by kernel_rfl) (fun _ _ _ _ _ h => h) ?_
      simp only [List.map_cons, List.map_nil, opOf, List.getD_cons_zero, List.getD_cons_succ]
      change wpMix _ _ _ _ _ _ wF.drew
      refine wpMix_call ?_
      go_wp2_with (go_at_call 38; refine (timersK_any _).mono ?_; rintro e w6 ⟨rfl, hb⟩; replace hS := hS.trans (hb.mono hS.size); clear hb)
      try refine ⟨fun h => (by cases h), ?_⟩
      (refine wpMix_still (fun K hK => ?_); go_simp; refine hK _ ?_; clear hK K)
      refine wpMix_held ((.agg #[.slice (some ⟨ge, 0, none⟩) 4 4, .slice none 0 0])) rfl hS (fun w' hw' => exec_rowR 51 _ rfl y rfl 51 #[.slice (some ⟨ge, 0, none⟩) 4 4, .slice none 0 0] (rowB_below ry hw' (rowB_lt ry)) agDv) ?_
      simp only [Act.put, List.setIfInBounds_toArray, List.set_cons_zero, List.set_cons_succ]
      refine wpMix_held ((.agg #[.slice (some ⟨w.heap.size + 1, 0, none⟩) 4 4, .slice none 0 0])) rfl hS (fun w' hw' => exec_rowR 51 _ rfl (w.heap.size + 1 + 1) rfl 51 #[.slice (some ⟨w.heap.size + 1, 0, none⟩) 4 4, .slice none 0 0] (rowB_below rdC hw' (rowB_lt rdC)) agDv) ?_
      simp only [Act.put, List.setIfInBounds_toArray, List.set_cons_zero, List.set_cons_succ]
      refine wpMix_call ?_
      go_wp2_with (go_at_call 29; refine (hIe _ _ (isArg_below x4 hS (Nat.le_refl _))).mono ?_; rintro e w7 ⟨rfl, hb⟩; replace hS := hS.trans (hb.mono hS.size); clear hb)
      first | refine ⟨fun _ => hS, ?_⟩ | refine ⟨hS, ?_⟩ | refine And.intro (fun _ => hS) ?_
      refine wpMix_call ?_
      go_wp2_with (go_at_call 29; refine (hIr _ _ (isArg_below x3 hS (Nat.le_refl _))).mono ?_; rintro e w8 ⟨rfl, hb⟩; replace hS := hS.trans (hb.mono hS.size); clear hb)
      obtain ⟨q0, q1, _, _⟩ := dcells2 (rowB_below rdC hS (rowB_lt rdC))
      obtain ⟨j0, j1, j2, j3, _⟩ := dcells4 (rowB_below hrC hS (rowB_lt hrC))
      try refine ⟨fun h => (by cases h), ?_⟩
      (refine wpMix_still (fun K hK => ?_); go_simp; refine hK _ ?_; clear hK K)
      (refine wpMix_still (fun K hK => ?_); go_simp; refine hK _ ?_; clear hK K)
      (refine wpMix_still (fun K hK => ?_); go_simp; refine hK _ ?_; clear hK K)
      (refine wpMix_still (fun K hK => ?_); go_simp; refine hK _ ?_; clear hK K)
      (refine wpMix_still (fun K hK => ?_); go_simp; refine hK _ ?_; clear hK K)
      (refine wpMix_still (fun K hK => ?_); go_simp; refine hK _ ?_; clear hK K)
      (refine wpMix_still (fun K hK => ?_); go_simp; refine hK _ ?_; clear hK K)
      (refine wpMix_still (fun K hK => ?_); go_simp; refine hK _ ?_; clear hK K)
      (refine wpMix_still (fun K hK => ?_); go_simp; refine hK _ ?_; clear hK K)
      (refine wpMix_still (fun K hK => ?_); go_simp; refine hK _ ?_; clear hK K)
      (refine wpMix_still (fun K hK => ?_); go_simp; refine hK _ ?_; clear hK K)
      (refine wpMix_still (fun K hK => ?_); go_simp; refine hK _ ?_; clear hK K)
      (refine wpMix_still (fun K hK => ?_); go_simp; refine hK _ ?_; clear hK K)
      (refine wpMix_still (fun K hK => ?_); go_simp; refine hK _ ?_; clear hK K)
      (refine wpMix_still (fun K hK => ?_); go_simp; refine hK _ ?_; clear hK K)
      (refine wpMix_still (fun K hK => ?_); go_simp; refine hK _ ?_; clear hK K)
      refine wpMix_nil ?_
      go_wp2_with fail
      go_ret
      exact ⟨rfl, bZ.trans (hS.mono bZ.size)⟩
  · rw [show (Tm.mk a b c f).next = 100000 from if_neg hc] at hNx
    rw [decide_eq_false hc] at ha
    go_upto_region 5 with (go_at_call 31; refine hNx.mono ?_; rintro e wB ⟨rfl, hbN⟩; have rdB := rowB_below rd hbN (rowB_lt rd); have hrB := rowB_below hr hbN (rowB_lt hr); obtain ⟨e0, e1, _, _⟩ := dcells2 rdB; obtain ⟨i0, i1, i2, i3, _⟩ := dcells4 hrB)
    have bY := bX.trans (hbN.mono bX.size)
    clear hNx x0 d0 d1 hbN bX rd hr sB
    have hM0 : 0 ≤ 1000 ∧ 1000 ≤ 100000 ∧ 1000 ≤ 1000 := by omega
    have hbl := fun w => below_any k (1001) hk (by omega) w
    obtain ⟨m, hm⟩ : ∃ m, k % (1001) = m := ⟨_, rfl⟩
    have hm0 := Int.emod_nonneg k (b := 1001) (by omega)
    have hm1 := Int.emod_lt_of_pos k (b := 1001) (by omega)
    rw [hm] at hbl hm0 hm1
    clear hm
    have hof : Tm.of [a, b, c, f] = ⟨a, b, c, f⟩ := Tm.of_ns fit
    have hSk : ∀ v w, isArg w v [a, b, c, f] → _ := fun v w h => tmSkip_any v (.slice none 0 0) [a, b, c, f] m (by omega) w h
    have hSn : ∀ v w, isArg w v [a, b, c, f] → _ := fun v w h => tmSkip_any v (.slice none 0 0) [a, b, c, f] (100000 + 1) (by omega) w h
    have hIr : ∀ v w, isArg w v [a, b, c, f] → _ := fun v w h => tmIrq_any v (.slice none 0 0) [a, b, c, f] w h
    rw [hof] at hSk hSn hIr
    have hW := waits_off (s := ⟨a, b, c, f⟩) hc m (100000 + 1)
    have fitE := Tm.skip_fit fit m
    have fitF := Tm.skip_fit fit (100000 + 1)
    generalize hE : (Tm.mk a b c f).skip m = E at *
    generalize hG : (Tm.mk a b c f).skip (100000 + 1) = G at *
    have hIe : ∀ v w, isArg w v E.ns → _ := fun v w h => tmIrq_any v (.slice none 0 0) E.ns w h
    rw [Tm.of_ns fitE, hW.1] at hIe
    have hRd : ∀ v w, isArg w v G.ns → _ := fun v w h => tmRead_any v (.slice none 0 0) G.ns 3 w h
    rw [Tm.of_ns fitF, hW.2] at hRd
    generalize (Tm.mk a b c f).irq = I at *
    clear hW fitE fitF hE hG hof
    obtain ⟨E0, E1, E2, E3⟩ := E
    obtain ⟨G0, G1, G2, G3⟩ := G
    obtain ⟨H, hH⟩ : ∃ H, (Tm.mk G0 G1 G2 G3).read 3 = H := ⟨_, rfl⟩
    rw [hH] at hRd
    clear hH
    obtain ⟨H0, H1, H2, H3⟩ := H
    dsimp only [Tm.ns] at hSk hSn hIe hRd hIr
    have xB := numB_arg (l := [a, b, c, f]) hrB (by simp)
    go_cut [9] (fun s wx => ∃ y ge, s = .pointer (some ⟨y, 0, none⟩) ∧ rowB wx y 51 #[.slice (some ⟨ge, 0, none⟩) 4 4, .slice none 0 0] ∧ rowB wx ge 3 (#[.int .i64 E0, .int .i64 E1, .int .i64 E2, .int .i64 E3]) ∧ Below wB.heap.size wB wx)
    case first =>
      refine wp_region_tree (fun w' => Below wB.heap.size wB w') [0, 1, 2, 3, 4, 5] (.rd 0 (.rd 1 (.rd 2 (.rd 3 (.rd 4 (.rd 5 (.two 6 (.one 7 (.one 8 (.mix []))) 7 (.one 6 (.one 8 (.mix [])))))))))) (by kernel_rfl) (by kernel_rfl) (fun _ _ _ _ _ h => h) ?_
      simp only [Tr.put, List.map_nil, opOf, List.getD_cons_zero, List.getD_cons_succ]
      change wpTr _ _ _ _ _ _ wB.drew
      have hS : Below wB.heap.size wB wB.drew := (Below.refl _ _).drew
      generalize wB.drew = wC at *
      refine wpTr_held (.agg #[.slice (some ⟨w.heap.size + 1, 0, none⟩) 4 4, .slice none 0 0]) rfl hS (fun w' hw' => exec_rowR 51 _ rfl (w.heap.size + 1 + 1) rfl 51 #[.slice (some ⟨w.heap.size + 1, 0, none⟩) 4 4, .slice none 0 0] (rowB_below rdB hw' (rowB_lt rdB)) agDv) ?_
      simp only [Act.put, List.setIfInBounds_toArray, List.set_cons_zero, List.set_cons_succ]
      refine wpTr_held (.int .i64 k) rfl hS (fun w' hw' => by go_simp) ?_
      simp only [Act.put, List.setIfInBounds_toArray, List.set_cons_zero, List.set_cons_succ]
      refine wpTr_held (.int .i64 100000) rfl hS (fun w' hw' => by go_simp) ?_
      simp only [Act.put, List.setIfInBounds_toArray, List.set_cons_zero, List.set_cons_succ]
      refine wpTr_held (.int .i64 (1000)) rfl hS (fun w' hw' => by go_simp) ?_
      simp only [Act.put, List.setIfInBounds_toArray, List.set_cons_zero, List.set_cons_succ]
      refine wpTr_held (.int .i64 (1001)) rfl hS (fun w' hw' => by go_simp; exact IntWalk.i64_in _ (by omega)) ?_
      simp only [Act.put, List.setIfInBounds_toArray, List.set_cons_zero, List.set_cons_succ]
      refine wpTr_heldCall (.int .i64 m) rfl hS 37 #[.int .i64 k, .int .i64 (1001)] (fun w' _ => by go_simp) (fun w' _ => (hbl w').mono fun _ _ ⟨h, g⟩ => ⟨h, g.symm⟩) ?_
      simp only [Act.put, List.setIfInBounds_toArray, List.set_cons_zero, List.set_cons_succ]
      refine wpTr_two ?_ ?_
      · go_wp2_with (go_at_call 36; refine (hSk _ _ (isArg_below xB hS (Nat.le_refl _))).mono ?_; rintro e wD ⟨u, rfl, ⟨ge, rfl, hge, hre⟩, hb⟩; replace hS := hS.trans (hb.mono hS.size))
        refine ⟨hS, ?_⟩
        refine wpTr_one ?_
        go_wp2_with fail
        have nz := rowB_new wD 51 #[.slice none 0 0, .slice none 0 0]
        have hS2 := hS.alloc hS.size (.cells #[.slice none 0 0, .slice none 0 0] 51)
        have re := rowB_alloc hre (.cells #[.slice none 0 0, .slice none 0 0] 51)
        have lg := rowB_lt hre
        have lS := hS.size
        refine ⟨hS2, ?_⟩
        refine wpTr_one ?_
        go_wp2_with (refine wpList_storeR rfl 51 _ _ rfl wD.heap.size rfl #[.slice (some ⟨ge, 0, none⟩) 4 4, .slice none 0 0] rfl (dev2_one _ _ _ _ _ _) 51 #[.slice none 0 0, .slice none 0 0] rfl ?_ agDv ?_; with_reducible exact nz)
        have hS3 := below_rowR hS2 #[.slice (some ⟨ge, 0, none⟩) 4 4, .slice none 0 0] lS
        refine ⟨hS3, ?_⟩
        refine wpTr_mix ?_
        refine wpMix_nil ?_
        have HFIN := Lib.hid (show ∃ y ge', Value.pointer (some ⟨wD.heap.size, 0, none⟩) = .pointer (some ⟨y, 0, none⟩) ∧ rowB _ y 51 #[.slice (some ⟨ge', 0, none⟩) 4 4, .slice none 0 0] ∧ rowB _ ge' 3 (#[.int .i64 E0, .int .i64 E1, .int .i64 E2, .int .i64 E3]) ∧ Below wB.heap.size wB _ from ⟨wD.heap.size, ge, rfl, rowB_row nz #[.slice (some ⟨ge, 0, none⟩) 4 4, .slice none 0 0], rowB_row_other re #[.slice (some ⟨ge, 0, none⟩) 4 4, .slice none 0 0] (show wD.heap.size ≠ ge by omega), hS3⟩)
        go_wp2_with fail
        go_meet
        case rel => exact HFIN.out
      · go_wp2_with fail
        have nz := rowB_new wC 51 #[.slice none 0 0, .slice none 0 0]
        have lS := hS.size
        replace hS := hS.alloc hS.size (.cells #[.slice none 0 0, .slice none 0 0] 51)
        refine ⟨hS, ?_⟩
        refine wpTr_one ?_
        have sz := World.size_alloc wC (.cells #[.slice none 0 0, .slice none 0 0] 51)
        generalize wC.alloc (.cells #[.slice none 0 0, .slice none 0 0] 51) = wY at *
        go_wp2_with (go_at_call 36; refine (hSk _ _ (isArg_below xB hS (Nat.le_refl _))).mono ?_; rintro e wD ⟨u, rfl, ⟨ge, rfl, hge, hre⟩, hb⟩; replace hS := hS.trans (hb.mono hS.size))
        refine ⟨hS, ?_⟩
        have nz := rowB_below nz hb (rowB_lt nz)
        rw [sz] at hge
        refine wpTr_one ?_
        go_wp2_with (refine wpList_storeR rfl 51 _ _ rfl wC.heap.size rfl #[.slice (some ⟨ge, 0, none⟩) 4 4, .slice none 0 0] rfl (dev2_one _ _ _ _ _ _) 51 #[.slice none 0 0, .slice none 0 0] rfl ?_ agDv ?_; with_reducible exact nz)
        have hS3 := below_rowR hS #[.slice (some ⟨ge, 0, none⟩) 4 4, .slice none 0 0] lS
        refine ⟨hS3, ?_⟩
        refine wpTr_mix ?_
        refine wpMix_nil ?_
        have HFIN := Lib.hid (show ∃ y ge', Value.pointer (some ⟨wC.heap.size, 0, none⟩) = .pointer (some ⟨y, 0, none⟩) ∧ rowB _ y 51 #[.slice (some ⟨ge', 0, none⟩) 4 4, .slice none 0 0] ∧ rowB _ ge' 3 (#[.int .i64 E0, .int .i64 E1, .int .i64 E2, .int .i64 E3]) ∧ Below wB.heap.size wB _ from ⟨wC.heap.size, ge, rfl, rowB_row nz #[.slice (some ⟨ge, 0, none⟩) 4 4, .slice none 0 0], rowB_row_other hre #[.slice (some ⟨ge, 0, none⟩) 4 4, .slice none 0 0] (show wC.heap.size ≠ ge by omega), hS3⟩)
        go_wp2_with fail
        go_meet
        case rel => exact HFIN.out
    case rest =>
      obtain ⟨y, ge, rfl, ry, re, hS⟩ := hcut
      have rdC := rowB_below rdB hS (rowB_lt rdB)
      have hrC := rowB_below hrB hS (rowB_lt hrB)
      have bZ := bY.trans (hS.mono bY.size)
      have x3 := numB_arg (l := [a, b, c, f]) hrC (by simp)
      have x4 := numB_arg (l := [E0, E1, E2, E3]) re (by simp)
      clear e0 e1 i0 i1 i2 i3 rdB hrB xB hS hSk hbl
      obtain ⟨e0, e1, _, _⟩ := dcells2 rdC
      go_upto_region 7 with (first
        | (go_at_call 36; refine (hSn _ _ x3).mono ?_; rintro e wD ⟨u, rfl, ⟨gg, rfl, hgg, hrg⟩, hb⟩; have xg := numB_arg hrg (by simp))
        | (go_at_call 25; refine (hRd _ _ xg).mono ?_; rintro e wE ⟨u, rfl, ⟨gh, rfl, hgh, hrh⟩, hb2⟩))
      have bb2 := hb.trans (hb2.mono hb.size)
      have lc := rowB_lt rdC
      have hS : Below wc.heap.size wc ((wE.alloc (.cells #[.slice (some ⟨gh, 0, none⟩) 4 4, .slice none 0 0] 51)).drew) := (bb2.alloc bb2.size (.cells #[.slice (some ⟨gh, 0, none⟩) 4 4, .slice none 0 0] 51)).drew
      change Code.wp _ _ _ _ (wE.alloc (.cells #[.slice (some ⟨gh, 0, none⟩) 4 4, .slice none 0 0] 51))
      generalize wE.alloc (.cells #[.slice (some ⟨gh, 0, none⟩) 4 4, .slice none 0 0] 51) = wF at *
      refine wp_region_mixM (fun w' => Below wc.heap.size wc w') 4194262 8 [(0, 2, 0), (1, 0, 4194300), (2, 1, 4194280), (4, 1, 4194272), (3, 3, 0), (5, 2, 0), (6, 0, 4194176), (7, 0, 4194048), (8, 0, 4193792), (9, 0, 3671040), (10, 0, 3670016), (11, 0, 4190208), (12, 0, 4186112), (13, 0, 4177920), (14, 0, 4161536), (15, 0, 4128768), (16, 0, 4063232), (17, 0, 3932160), (18, 0, 3670016), (19, 0, 3145728), (20, 0, 2097152), (21, 0, 0)] (by kernel_rfl) (by kernel_rfl) (fun _ _ _ _ _ h => h) ?_
      simp only [List.map_cons, List.map_nil, opOf, List.getD_cons_zero, List.getD_cons_succ]
      change wpMix _ _ _ _ _ _ wF.drew
      refine wpMix_call ?_
      go_wp2_with (go_at_call 38; refine (timersK_any _).mono ?_; rintro e w6 ⟨rfl, hb⟩; replace hS := hS.trans (hb.mono hS.size); clear hb)
      try refine ⟨fun h => (by cases h), ?_⟩
      (refine wpMix_still (fun K hK => ?_); go_simp; refine hK _ ?_; clear hK K)
      refine wpMix_held ((.agg #[.slice (some ⟨ge, 0, none⟩) 4 4, .slice none 0 0])) rfl hS (fun w' hw' => exec_rowR 51 _ rfl y rfl 51 #[.slice (some ⟨ge, 0, none⟩) 4 4, .slice none 0 0] (rowB_below ry hw' (rowB_lt ry)) agDv) ?_
      simp only [Act.put, List.setIfInBounds_toArray, List.set_cons_zero, List.set_cons_succ]
      refine wpMix_held ((.agg #[.slice (some ⟨w.heap.size + 1, 0, none⟩) 4 4, .slice none 0 0])) rfl hS (fun w' hw' => exec_rowR 51 _ rfl (w.heap.size + 1 + 1) rfl 51 #[.slice (some ⟨w.heap.size + 1, 0, none⟩) 4 4, .slice none 0 0] (rowB_below rdC hw' (rowB_lt rdC)) agDv) ?_
      simp only [Act.put, List.setIfInBounds_toArray, List.set_cons_zero, List.set_cons_succ]
      refine wpMix_call ?_
      go_wp2_with (go_at_call 29; refine (hIe _ _ (isArg_below x4 hS (Nat.le_refl _))).mono ?_; rintro e w7 ⟨rfl, hb⟩; replace hS := hS.trans (hb.mono hS.size); clear hb)
      first | refine ⟨fun _ => hS, ?_⟩ | refine ⟨hS, ?_⟩ | refine And.intro (fun _ => hS) ?_
      refine wpMix_call ?_
      go_wp2_with (go_at_call 29; refine (hIr _ _ (isArg_below x3 hS (Nat.le_refl _))).mono ?_; rintro e w8 ⟨rfl, hb⟩; replace hS := hS.trans (hb.mono hS.size); clear hb)
      obtain ⟨q0, q1, _, _⟩ := dcells2 (rowB_below rdC hS (rowB_lt rdC))
      obtain ⟨j0, j1, j2, j3, _⟩ := dcells4 (rowB_below hrC hS (rowB_lt hrC))
      try refine ⟨fun h => (by cases h), ?_⟩
      (refine wpMix_still (fun K hK => ?_); go_simp; refine hK _ ?_; clear hK K)
      (refine wpMix_still (fun K hK => ?_); go_simp; refine hK _ ?_; clear hK K)
      (refine wpMix_still (fun K hK => ?_); go_simp; refine hK _ ?_; clear hK K)
      (refine wpMix_still (fun K hK => ?_); go_simp; refine hK _ ?_; clear hK K)
      (refine wpMix_still (fun K hK => ?_); go_simp; refine hK _ ?_; clear hK K)
      (refine wpMix_still (fun K hK => ?_); go_simp; refine hK _ ?_; clear hK K)
      (refine wpMix_still (fun K hK => ?_); go_simp; refine hK _ ?_; clear hK K)
      (refine wpMix_still (fun K hK => ?_); go_simp; refine hK _ ?_; clear hK K)
      (refine wpMix_still (fun K hK => ?_); go_simp; refine hK _ ?_; clear hK K)
      (refine wpMix_still (fun K hK => ?_); go_simp; refine hK _ ?_; clear hK K)
      (refine wpMix_still (fun K hK => ?_); go_simp; refine hK _ ?_; clear hK K)
      (refine wpMix_still (fun K hK => ?_); go_simp; refine hK _ ?_; clear hK K)
      (refine wpMix_still (fun K hK => ?_); go_simp; refine hK _ ?_; clear hK K)
      (refine wpMix_still (fun K hK => ?_); go_simp; refine hK _ ?_; clear hK K)
      (refine wpMix_still (fun K hK => ?_); go_simp; refine hK _ ?_; clear hK K)
      (refine wpMix_still (fun K hK => ?_); go_simp; refine hK _ ?_; clear hK K)
      refine wpMix_nil ?_
      go_wp2_with fail
      go_ret
      exact ⟨rfl, bZ.trans (hS.mono bZ.size)⟩
end Go.Proofs.Ythhihmggaddlmaa
