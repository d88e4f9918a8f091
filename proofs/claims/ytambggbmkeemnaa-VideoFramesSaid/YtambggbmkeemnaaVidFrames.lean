/- The walk of the law VideoFrames. -/
import Derived.Test.YtambggbmkeemnaaChecked
import Derived.Test.YtambggbmkeemnaaLinM
import Derived.Test.YtambggbmkeemnaaLinO
import Derived.Test.YtambggbmkeemnaaVidFrm
import Derived.Test.YtambggbmkeemnaaVidScr
import Derived.Below
import Derived.BigQuiet
import Derived.ChangeMaps5
import Derived.Deep.CutBlock
import Derived.Deep.DeepAppendWide
import Derived.Deep.DeepCutAuto
import Derived.Deep.Draws
import Derived.Deep.MidRow
import Derived.Deep.OwnRows
import Derived.Deep.QuietTactic
import Derived.Deep.RegionHeld3
import Derived.Deep.RegionLaw
import Derived.Deep.RegionWith
import Derived.Deep.Slices
import Derived.Deep.WholeRow
import Derived.Great.BuildSlice
import Derived.Laws.CopyOwn
import Derived.Laws.OwnMore
import Derived.Lib.Hide
import Derived.Lib.SmallJoins
import Derived.OpenShut
import Derived.OrdersHeld
import Derived.OwnWalk
import Derived.RangeFuncBox
import Derived.RowKit3
import Derived.Shelf.Abstract
import Derived.SizedLaws
import Derived.StillTactics
import Derived.StillTail
import Derived.StillTailTactics
import Derived.WalkKit
namespace Go.Proofs.Ytambggbmkeemnaa
open Go.RowKit
set_option maxRecDepth 100000

set_option maxHeartbeats 8000000 in
theorem videoFrames_walk (v : Value) (l : List Int) (k j : Int) (w : World) (h : isArg w v l) (hwf : ∀ x ∈ l, (Lit.int .i64 x).wf = true) (hk : -9223372036854775808 ≤ k ∧ k ≤ 9223372036854775807) (hj : -9223372036854775808 ≤ j ∧ j ≤ 9223372036854775807) :
    Calls Try.prog 5 #[v, .int .i64 k, .int .i64 j] w fun e w' => e = .returned (.bool true) ∧ Below w.heap.size w w' := by
  have hbl := fun w => below_any k 2560 hk (by decide) w
  obtain ⟨c, hc⟩ : ∃ c, k % 2560 = c := ⟨_, rfl⟩
  rw [hc] at hbl
  have c0 : -9223372036854775808 ≤ c ∧ c ≤ 9223372036854775807 := by omega
  clear hc hk
  have hSc := screen_any v l w h hwf
  clear h hwf
  go_enter Try.func5, Try.ntmps5
  go_upto_region 2 with (first
    | (go_at_call 25; refine (hbl _).mono ?_; rintro e wx ⟨rfl, rfl⟩)
    | (go_at_call 24; refine hSc.mono ?_; rintro e w1 ⟨u1, m, rfl, hd1, hf1, hb1⟩)
    | (go_at_call 23; refine (vidSkip_at hf1 c c0 rfl hd1).mono ?_; rintro e w2 ⟨u2, rfl, ⟨g, q, rfl, hg, hq, hgq, hr, hrq⟩, hb2⟩))
  change Code.wp _ _ _ _ (w2.alloc (.cells #[.slice (some ⟨g, 0, none⟩) 2 2, .slice (some ⟨q, 0, none⟩) 32 32] 25))
  have bX := hb1.trans (hb2.mono hb1.size)
  have lB := bX.size
  replace bX := bX.alloc lB (.cells #[.slice (some ⟨g, 0, none⟩) 2 2, .slice (some ⟨q, 0, none⟩) 32 32] 25)
  have rB := rowB_new w2 25 #[.slice (some ⟨g, 0, none⟩) 2 2, .slice (some ⟨q, 0, none⟩) 32 32]
  have xD : devV 0 (w2.alloc (.cells #[.slice (some ⟨g, 0, none⟩) 2 2, .slice (some ⟨q, 0, none⟩) 32 32] 25)) (.agg #[.slice (some ⟨g, 0, none⟩) 2 2, .slice (some ⟨q, 0, none⟩) 32 32]) ((⟨2559, 0, m⟩ : Vd).ticks c.toNat) := ⟨g, q, rfl, Nat.zero_le _, Nat.zero_le _, hgq, rowB_alloc hr _, rowB_alloc hrq _⟩
  have hfD := Vd.ticks_fit hf1 c.toNat
  generalize (⟨2559, 0, m⟩ : Vd).ticks c.toNat = D at *
  generalize w2.alloc (.cells #[.slice (some ⟨g, 0, none⟩) 2 2, .slice (some ⟨q, 0, none⟩) 32 32] 25) = w3 at *
  generalize w2.heap.size = B at *
  clear hSc hbl hd1 hf1 hb1 hb2 hr hrq hg hq
  have hlat := Vd.later hfD
  obtain ⟨N, hN⟩ : ∃ N, D.next = N := ⟨_, rfl⟩
  obtain ⟨O, hO⟩ : ∃ O, D.out = O := ⟨_, rfl⟩
  rw [hN, hO] at hlat
  obtain ⟨hl1, hl2⟩ := hlat
  have hNb : 0 ≤ N ∧ N ≤ 100000 := by rcases hl2 with ⟨h, _⟩ | ⟨h, _⟩ <;> omega
  obtain ⟨M, hM⟩ : ∃ M, (if 2560 < N then 2560 else N) = M := ⟨_, rfl⟩
  have hMb : 0 ≤ M ∧ M ≤ 2560 ∧ M ≤ N := by rw [← hM]; split <;> omega
  obtain ⟨jj, hjj⟩ : ∃ jj, j % (M + 1) = jj := ⟨_, rfl⟩
  have hbl := fun w => below_any j (M + 1) hj (by omega) w
  rw [hjj] at hbl
  have hj0 : 0 ≤ jj := by rw [← hjj]; exact Int.emod_nonneg _ (by omega)
  have hj1 : jj < M + 1 := by rw [← hjj]; exact Int.emod_lt_of_pos _ (by omega)
  have hjb : -9223372036854775808 ≤ jj ∧ jj ≤ 9223372036854775807 := by omega
  have hoE : (D.ticks jj.toNat).out = O := by
    rcases hl2 with ⟨_, h⟩ | ⟨_, _, h⟩
    · exact h jj hj0 (by omega)
    · exact h jj hj0 (by omega)
  have hfE := Vd.ticks_fit hfD jj.toNat
  obtain ⟨E, hE⟩ : ∃ E, D.ticks jj.toNat = E := ⟨_, rfl⟩
  rw [hE] at hoE hfE
  have HM := Lib.hid hM
  clear hM hjj
  obtain ⟨d0, d1, _, _⟩ := dcells2 rB
  go_upto_region 3 with (go_at_call 18; refine (vidNext_at hfD hN xD).mono ?_; rintro e w4 ⟨rfl, hb⟩)
  replace rB := rowB_below rB hb (rowB_lt rB)
  replace xD := xD.below hb
  replace bX := bX.trans (hb.mono bX.size)
  clear hb d0 d1
  go_cut [9] (fun s wx => ∃ y ge qe, s = .pointer (some ⟨y, 0, none⟩) ∧ rowB wx y 25 #[.slice (some ⟨ge, 0, none⟩) 2 2, .slice (some ⟨qe, 0, none⟩) 32 32] ∧ devV 0 wx (.agg #[.slice (some ⟨ge, 0, none⟩) 2 2, .slice (some ⟨qe, 0, none⟩) 32 32]) E ∧ Below w4.heap.size w4 wx)
  case first =>
    refine wp_region_tree (fun w' => Below w4.heap.size w4 w') [0, 1, 2, 3, 4, 5] (.rd 0 (.rd 1 (.rd 2 (.rd 3 (.rd 4 (.rd 5 (.two 6 (.one 7 (.one 8 (.mix []))) 7 (.one 6 (.one 8 (.mix [])))))))))) (by kernel_rfl) (by kernel_rfl) (fun _ _ _ _ _ h => h) ?_
    simp only [Tr.put, List.map_nil, opOf, List.getD_cons_zero, List.getD_cons_succ]
    change wpTr _ _ _ _ _ _ w4.drew
    have hS : Below w4.heap.size w4 w4.drew := (Below.refl _ _).drew
    generalize w4.drew = wC at *
    refine wpTr_held (.agg #[.slice (some ⟨g, 0, none⟩) 2 2, .slice (some ⟨q, 0, none⟩) 32 32]) rfl hS (fun w' hw' => exec_rowR 25 _ rfl B rfl 25 #[.slice (some ⟨g, 0, none⟩) 2 2, .slice (some ⟨q, 0, none⟩) 32 32] (rowB_below rB hw' (rowB_lt rB)) agDv) ?_
    simp only [Act.put, List.setIfInBounds_toArray, List.set_cons_zero, List.set_cons_succ]
    refine wpTr_held (.int .i64 j) rfl hS (fun w' hw' => by go_simp) ?_
    simp only [Act.put, List.setIfInBounds_toArray, List.set_cons_zero, List.set_cons_succ]
    refine wpTr_held (.int .i64 N) rfl hS (fun w' hw' => by go_simp) ?_
    simp only [Act.put, List.setIfInBounds_toArray, List.set_cons_zero, List.set_cons_succ]
    refine wpTr_held (.int .i64 M) rfl hS (fun w' hw' => by have hM := HM.out; go_simp; first | exact hM | (rw [← hM]; split <;> omega) | done) ?_
    simp only [Act.put, List.setIfInBounds_toArray, List.set_cons_zero, List.set_cons_succ]
    refine wpTr_held (.int .i64 (M + 1)) rfl hS (fun w' hw' => by go_simp; exact IntWalk.i64_in _ (by omega)) ?_
    simp only [Act.put, List.setIfInBounds_toArray, List.set_cons_zero, List.set_cons_succ]
    refine wpTr_heldCall (.int .i64 jj) rfl hS 25 #[.int .i64 j, .int .i64 (M + 1)] (fun w' _ => by go_simp) (fun w' _ => (hbl w').mono fun _ _ ⟨h, g⟩ => ⟨h, g.symm⟩) ?_
    simp only [Act.put, List.setIfInBounds_toArray, List.set_cons_zero, List.set_cons_succ]
    refine wpTr_two ?_ ?_
    · go_wp2_with (go_at_call 23; refine (vidSkip_at hfD jj hjb hE (xD.below hS)).mono ?_; rintro e wD ⟨u, rfl, ⟨ge, qe, rfl, hge, hqe, hgqe, hre, hse⟩, hb⟩; replace hS := hS.trans (hb.mono hS.size))
      refine ⟨hS, ?_⟩
      refine wpTr_one ?_
      go_wp2_with fail
      have nz := rowB_new wD 25 #[.slice none 0 0, .slice none 0 0]
      have lS := hS.size
      replace hS := hS.alloc lS (.cells #[.slice none 0 0, .slice none 0 0] 25)
      have re := rowB_alloc hre (.cells #[.slice none 0 0, .slice none 0 0] 25)
      have se := rowB_alloc hse (.cells #[.slice none 0 0, .slice none 0 0] 25)
      have lg := rowB_lt hre
      have lq := rowB_lt hse
      refine ⟨hS, ?_⟩
      refine wpTr_one ?_
      go_wp2_with (refine wpList_storeR rfl 25 _ _ rfl wD.heap.size rfl #[.slice (some ⟨ge, 0, none⟩) 2 2, .slice (some ⟨qe, 0, none⟩) 32 32] rfl (dev2_one _ _ _ _ _ _) 25 #[.slice none 0 0, .slice none 0 0] rfl ?_ agDv ?_; with_reducible exact nz)
      replace hS := below_rowR hS #[.slice (some ⟨ge, 0, none⟩) 2 2, .slice (some ⟨qe, 0, none⟩) 32 32] lS
      refine ⟨hS, ?_⟩
      refine wpTr_mix ?_
      refine wpMix_nil ?_
      have HFIN := Lib.hid (show ∃ y ge' qe', Value.pointer (some ⟨wD.heap.size, 0, none⟩) = .pointer (some ⟨y, 0, none⟩) ∧ rowB _ y 25 #[.slice (some ⟨ge', 0, none⟩) 2 2, .slice (some ⟨qe', 0, none⟩) 32 32] ∧ devV 0 _ (.agg #[.slice (some ⟨ge', 0, none⟩) 2 2, .slice (some ⟨qe', 0, none⟩) 32 32]) E ∧ Below w4.heap.size w4 _ from ⟨wD.heap.size, ge, qe, rfl, rowB_row nz #[.slice (some ⟨ge, 0, none⟩) 2 2, .slice (some ⟨qe, 0, none⟩) 32 32], ⟨ge, qe, rfl, Nat.zero_le _, Nat.zero_le _, hgqe, rowB_row_other re #[.slice (some ⟨ge, 0, none⟩) 2 2, .slice (some ⟨qe, 0, none⟩) 32 32] (show wD.heap.size ≠ ge by omega), rowB_row_other se #[.slice (some ⟨ge, 0, none⟩) 2 2, .slice (some ⟨qe, 0, none⟩) 32 32] (show wD.heap.size ≠ qe by omega)⟩, hS⟩)
      go_wp2_with fail
      go_meet
      case rel => exact HFIN.out
    · go_wp2_with fail
      have nz := rowB_new wC 25 #[.slice none 0 0, .slice none 0 0]
      have lS := hS.size
      have sz := World.size_alloc wC (.cells #[.slice none 0 0, .slice none 0 0] 25)
      replace hS := hS.alloc lS (.cells #[.slice none 0 0, .slice none 0 0] 25)
      refine ⟨hS, ?_⟩
      refine wpTr_one ?_
      generalize wC.alloc (.cells #[.slice none 0 0, .slice none 0 0] 25) = wY at *
      generalize wC.heap.size = y at *
      go_wp2_with (go_at_call 23; refine (vidSkip_at hfD jj hjb hE (xD.below hS)).mono ?_; rintro e wD ⟨u, rfl, ⟨ge, qe, rfl, hge, hqe, hgqe, hre, hse⟩, hb⟩; replace hS := hS.trans (hb.mono hS.size); replace nz := rowB_below nz hb (rowB_lt nz))
      refine ⟨hS, ?_⟩
      refine wpTr_one ?_
      go_wp2_with (refine wpList_storeR rfl 25 _ _ rfl y rfl #[.slice (some ⟨ge, 0, none⟩) 2 2, .slice (some ⟨qe, 0, none⟩) 32 32] rfl (dev2_one _ _ _ _ _ _) 25 #[.slice none 0 0, .slice none 0 0] rfl ?_ agDv ?_; with_reducible exact nz)
      replace hS := below_rowR hS #[.slice (some ⟨ge, 0, none⟩) 2 2, .slice (some ⟨qe, 0, none⟩) 32 32] lS
      refine ⟨hS, ?_⟩
      refine wpTr_mix ?_
      refine wpMix_nil ?_
      have HFIN := Lib.hid (show ∃ y' ge' qe', Value.pointer (some ⟨y, 0, none⟩) = .pointer (some ⟨y', 0, none⟩) ∧ rowB _ y' 25 #[.slice (some ⟨ge', 0, none⟩) 2 2, .slice (some ⟨qe', 0, none⟩) 32 32] ∧ devV 0 _ (.agg #[.slice (some ⟨ge', 0, none⟩) 2 2, .slice (some ⟨qe', 0, none⟩) 32 32]) E ∧ Below w4.heap.size w4 _ from ⟨y, ge, qe, rfl, rowB_row nz #[.slice (some ⟨ge, 0, none⟩) 2 2, .slice (some ⟨qe, 0, none⟩) 32 32], ⟨ge, qe, rfl, Nat.zero_le _, Nat.zero_le _, hgqe, rowB_row_other hre #[.slice (some ⟨ge, 0, none⟩) 2 2, .slice (some ⟨qe, 0, none⟩) 32 32] (show y ≠ ge by omega), rowB_row_other hse #[.slice (some ⟨ge, 0, none⟩) 2 2, .slice (some ⟨qe, 0, none⟩) 32 32] (show y ≠ qe by omega)⟩, hS⟩)
      go_wp2_with fail
      go_meet
      case rel => exact HFIN.out
  case rest =>
    obtain ⟨y, ge, qe, rfl, rE, xE, hS⟩ := hcut
    replace rB := rowB_below rB hS (rowB_lt rB)
    replace xD := xD.below hS
    replace bX := bX.trans (hS.mono bX.size)
    have hfL := Vd.ticks_fit hfD (2560 : Int).toNat
    clear hS hE hjb hj0 hj1 hbl HM hMb
    go_upto_region 4 with (fail)
    replace xD : devV 0 wc.drew _ _ := xD
    replace xE : devV 0 wc.drew _ _ := xE
    rcases hl2 with ⟨rfl, _⟩ | ⟨hNN, hne, _⟩
    · have hS : Below wc.heap.size wc wc.drew := (Below.refl _ _).drew
      refine wp_region_mixM (fun w' => Below wc.heap.size wc w') 2055198630 25167896 [(0, 2, 0), (1, 0, 2147483644), (2, 1, 2147483608), (5, 1, 2147483584), (3, 3, 0), (4, 3, 0), (6, 2, 0), (7, 0, 2147483392), (8, 0, 2147483136), (9, 0, 2147482624), (10, 1, 2147477504), (12, 1, 2147475456), (11, 3, 0), (13, 2, 0), (14, 0, 2147450880), (15, 0, 2147418112), (16, 0, 2147352576), (17, 0, 2147221504), (18, 0, 2146959360), (19, 0, 2146435072), (20, 1, 2105540608), (21, 0, 2109734912), (22, 0, 2105540608), (25, 1, 2080374784), (23, 3, 0), (24, 3, 0), (26, 2, 0), (27, 0, 1879048192), (28, 0, 1610612736), (29, 0, 1073741824), (30, 0, 0)] (by kernel_rfl) (by kernel_rfl) (fun _ _ _ _ _ h => h) ?_
      simp only [List.map_cons, List.map_nil, opOf, List.getD_cons_zero, List.getD_cons_succ]
      change wpMix _ _ _ _ _ _ wc.drew
      generalize wc.drew = wd at *
      refine wpMix_call ?_
      go_wp2_with (go_at_call 26; refine (videosK_any _).mono ?_; rintro e v0 ⟨rfl, hb⟩; replace xD := xD.below hb; replace xE := xE.below hb; replace hS := hS.trans (hb.mono hS.size); clear hb)
      try refine ⟨fun h => (by cases h), ?_⟩
      (refine wpMix_still (fun K hK => ?_); go_simp; refine hK _ ?_; clear hK K)
      refine wpMix_held ((.agg #[.slice (some ⟨g, 0, none⟩) 2 2, .slice (some ⟨q, 0, none⟩) 32 32])) rfl hS (fun w' hw' => exec_rowR 25 _ rfl B rfl 25 #[.slice (some ⟨g, 0, none⟩) 2 2, .slice (some ⟨q, 0, none⟩) 32 32] (rowB_below rB hw' (rowB_lt rB)) agDv) ?_
      simp only [Act.put, List.setIfInBounds_toArray, List.set_cons_zero, List.set_cons_succ]
      refine wpMix_held ((.agg #[.slice (some ⟨g, 0, none⟩) 2 2, .slice (some ⟨q, 0, none⟩) 32 32])) rfl hS (fun w' hw' => exec_rowR 25 _ rfl B rfl 25 #[.slice (some ⟨g, 0, none⟩) 2 2, .slice (some ⟨q, 0, none⟩) 32 32] (rowB_below rB hw' (rowB_lt rB)) agDv) ?_
      simp only [Act.put, List.setIfInBounds_toArray, List.set_cons_zero, List.set_cons_succ]
      refine wpMix_call ?_
      go_wp2_with (go_at_call 23; refine (vidSkip_at hfD 2560 (by decide) rfl xD).mono ?_; rintro e v1 ⟨u1, rfl, x1, hb⟩; replace xD := xD.below hb; replace xE := xE.below hb; replace hS := hS.trans (hb.mono hS.size); clear hb)
      first | refine ⟨fun _ => hS, ?_⟩ | refine ⟨hS, ?_⟩ | refine And.intro (fun _ => hS) ?_
      refine wpMix_call ?_
      go_wp2_with (go_at_call 16; refine (vidOut_at hfL hl1 x1).mono ?_; rintro e v2 ⟨rfl, hb⟩; replace xD := xD.below hb; replace xE := xE.below hb; replace hS := hS.trans (hb.mono hS.size); clear hb)
      first | refine ⟨fun _ => hS, ?_⟩ | refine ⟨hS, ?_⟩ | refine And.intro (fun _ => hS) ?_
      refine wpMix_call ?_
      go_wp2_with (go_at_call 16; refine (vidOut_at hfD hO xD).mono ?_; rintro e v3 ⟨rfl, hb⟩; replace xD := xD.below hb; replace xE := xE.below hb; replace hS := hS.trans (hb.mono hS.size); clear hb)
      try refine ⟨fun h => (by cases h), ?_⟩
      (refine wpMix_still (fun K hK => ?_); go_simp; refine hK _ ?_; clear hK K)
      (refine wpMix_still (fun K hK => ?_); go_simp; refine hK _ ?_; clear hK K)
      (refine wpMix_still (fun K hK => ?_); go_simp; refine hK _ ?_; clear hK K)
      refine wpMix_held ((.agg #[.slice (some ⟨ge, 0, none⟩) 2 2, .slice (some ⟨qe, 0, none⟩) 32 32])) rfl hS (fun w' hw' => exec_rowR 25 _ rfl y rfl 25 #[.slice (some ⟨ge, 0, none⟩) 2 2, .slice (some ⟨qe, 0, none⟩) 32 32] (rowB_below rE hw' (rowB_lt rE)) agDv) ?_
      simp only [Act.put, List.setIfInBounds_toArray, List.set_cons_zero, List.set_cons_succ]
      refine wpMix_held ((.agg #[.slice (some ⟨g, 0, none⟩) 2 2, .slice (some ⟨q, 0, none⟩) 32 32])) rfl hS (fun w' hw' => exec_rowR 25 _ rfl B rfl 25 #[.slice (some ⟨g, 0, none⟩) 2 2, .slice (some ⟨q, 0, none⟩) 32 32] (rowB_below rB hw' (rowB_lt rB)) agDv) ?_
      simp only [Act.put, List.setIfInBounds_toArray, List.set_cons_zero, List.set_cons_succ]
      refine wpMix_call ?_
      go_wp2_with (go_at_call 16; refine (vidOut_at hfE hoE xE).mono ?_; rintro e v4 ⟨rfl, hb⟩; replace xD := xD.below hb; replace hS := hS.trans (hb.mono hS.size); clear hb)
      first | refine ⟨fun _ => hS, ?_⟩ | refine ⟨hS, ?_⟩ | refine And.intro (fun _ => hS) ?_
      refine wpMix_call ?_
      go_wp2_with (go_at_call 16; refine (vidOut_at hfD hO xD).mono ?_; rintro e v5 ⟨rfl, hb⟩; replace xD := xD.below hb; replace hS := hS.trans (hb.mono hS.size); clear hb)
      try refine ⟨fun h => (by cases h), ?_⟩
      (refine wpMix_still (fun K hK => ?_); go_simp; refine hK _ ?_; clear hK K)
      (refine wpMix_still (fun K hK => ?_); go_simp; refine hK _ ?_; clear hK K)
      (refine wpMix_still (fun K hK => ?_); go_simp; refine hK _ ?_; clear hK K)
      (refine wpMix_still (fun K hK => ?_); go_simp; refine hK _ ?_; clear hK K)
      (refine wpMix_still (fun K hK => ?_); go_simp; refine hK _ ?_; clear hK K)
      (refine wpMix_still (fun K hK => ?_); go_simp; refine hK _ ?_; clear hK K)
      refine wpMix_off rfl hS ?_
      simp only [Act.put, List.setIfInBounds_toArray, List.set_cons_zero, List.set_cons_succ]
      (refine wpMix_still (fun K hK => ?_); go_simp; refine hK _ ?_; clear hK K)
      (refine wpMix_still (fun K hK => ?_); go_simp; refine hK _ ?_; clear hK K)
      refine wpMix_off rfl hS ?_
      simp only [Act.put, List.setIfInBounds_toArray, List.set_cons_zero, List.set_cons_succ]
      refine wpMix_call ?_
      go_wp2_with fail
      first | refine ⟨fun _ => hS, ?_⟩ | refine ⟨hS, ?_⟩ | refine And.intro (fun _ => hS) ?_
      refine wpMix_call ?_
      go_wp2_with fail
      first | refine ⟨fun _ => hS, ?_⟩ | refine ⟨hS, ?_⟩ | refine And.intro (fun _ => hS) ?_
      refine wpMix_call ?_
      go_wp2_with fail
      try refine ⟨fun h => (by cases h), ?_⟩
      (refine wpMix_still (fun K hK => ?_); go_simp; refine hK _ ?_; clear hK K)
      (refine wpMix_still (fun K hK => ?_); go_simp; refine hK _ ?_; clear hK K)
      (refine wpMix_still (fun K hK => ?_); go_simp; refine hK _ ?_; clear hK K)
      (refine wpMix_still (fun K hK => ?_); go_simp; refine hK _ ?_; clear hK K)
      refine wpMix_nil ?_
      go_wp2_with fail
      go_ret
      exact ⟨rfl, bX.trans (hS.mono bX.size)⟩
    · have hfX := Vd.ticks_fit hfD (N + 1).toNat
      obtain ⟨X, hX⟩ : ∃ X, D.ticks (N + 1).toNat = X := ⟨_, rfl⟩
      rw [hX] at hne hfX
      obtain ⟨P, hP⟩ : ∃ P, X.out = P := ⟨_, rfl⟩
      rw [hP] at hne
      have hn0 : (N == 100000) = false := by simp; omega
      have hn1 : (P != O) = true := by simpa using hne
      have hN1 : -9223372036854775808 ≤ N + 1 ∧ N + 1 ≤ 9223372036854775807 := by omega
      have wN : wrap64 (N + 1) = N + 1 := IntWalk.wrap64_in _ (by omega)
      clear hNb hne
      have hS : Below wc.heap.size wc wc.drew := (Below.refl _ _).drew
      refine wp_region_mixM (fun w' => Below wc.heap.size wc w') 2055198630 25167896 [(0, 2, 0), (1, 0, 2147483644), (2, 1, 2147483608), (5, 1, 2147483584), (3, 3, 0), (4, 3, 0), (6, 2, 0), (7, 0, 2147483392), (8, 0, 2147483136), (9, 0, 2147482624), (10, 1, 2147477504), (12, 1, 2147475456), (11, 3, 0), (13, 2, 0), (14, 0, 2147450880), (15, 0, 2147418112), (16, 0, 2147352576), (17, 0, 2147221504), (18, 0, 2146959360), (19, 0, 2146435072), (20, 1, 2105540608), (21, 0, 2109734912), (22, 0, 2105540608), (25, 1, 2080374784), (23, 3, 0), (24, 3, 0), (26, 2, 0), (27, 0, 1879048192), (28, 0, 1610612736), (29, 0, 1073741824), (30, 0, 0)] (by kernel_rfl) (by kernel_rfl) (fun _ _ _ _ _ h => h) ?_
      simp only [List.map_cons, List.map_nil, opOf, List.getD_cons_zero, List.getD_cons_succ]
      change wpMix _ _ _ _ _ _ wc.drew
      generalize wc.drew = wd at *
      refine wpMix_call ?_
      go_wp2_with (go_at_call 26; refine (videosK_any _).mono ?_; rintro e v0 ⟨rfl, hb⟩; replace xD := xD.below hb; replace xE := xE.below hb; replace hS := hS.trans (hb.mono hS.size); clear hb)
      try refine ⟨fun h => (by cases h), ?_⟩
      (refine wpMix_still (fun K hK => ?_); go_simp; refine hK _ ?_; clear hK K)
      refine wpMix_held ((.agg #[.slice (some ⟨g, 0, none⟩) 2 2, .slice (some ⟨q, 0, none⟩) 32 32])) rfl hS (fun w' hw' => exec_rowR 25 _ rfl B rfl 25 #[.slice (some ⟨g, 0, none⟩) 2 2, .slice (some ⟨q, 0, none⟩) 32 32] (rowB_below rB hw' (rowB_lt rB)) agDv) ?_
      simp only [Act.put, List.setIfInBounds_toArray, List.set_cons_zero, List.set_cons_succ]
      refine wpMix_held ((.agg #[.slice (some ⟨g, 0, none⟩) 2 2, .slice (some ⟨q, 0, none⟩) 32 32])) rfl hS (fun w' hw' => exec_rowR 25 _ rfl B rfl 25 #[.slice (some ⟨g, 0, none⟩) 2 2, .slice (some ⟨q, 0, none⟩) 32 32] (rowB_below rB hw' (rowB_lt rB)) agDv) ?_
      simp only [Act.put, List.setIfInBounds_toArray, List.set_cons_zero, List.set_cons_succ]
      refine wpMix_call ?_
      go_wp2_with (go_at_call 23; refine (vidSkip_at hfD 2560 (by decide) rfl xD).mono ?_; rintro e v1 ⟨u1, rfl, x1, hb⟩; replace xD := xD.below hb; replace xE := xE.below hb; replace hS := hS.trans (hb.mono hS.size); clear hb)
      first | refine ⟨fun _ => hS, ?_⟩ | refine ⟨hS, ?_⟩ | refine And.intro (fun _ => hS) ?_
      refine wpMix_call ?_
      go_wp2_with (go_at_call 16; refine (vidOut_at hfL hl1 x1).mono ?_; rintro e v2 ⟨rfl, hb⟩; replace xD := xD.below hb; replace xE := xE.below hb; replace hS := hS.trans (hb.mono hS.size); clear hb)
      first | refine ⟨fun _ => hS, ?_⟩ | refine ⟨hS, ?_⟩ | refine And.intro (fun _ => hS) ?_
      refine wpMix_call ?_
      go_wp2_with (go_at_call 16; refine (vidOut_at hfD hO xD).mono ?_; rintro e v3 ⟨rfl, hb⟩; replace xD := xD.below hb; replace xE := xE.below hb; replace hS := hS.trans (hb.mono hS.size); clear hb)
      try refine ⟨fun h => (by cases h), ?_⟩
      (refine wpMix_still (fun K hK => ?_); go_simp; refine hK _ ?_; clear hK K)
      (refine wpMix_still (fun K hK => ?_); go_simp; refine hK _ ?_; clear hK K)
      (refine wpMix_still (fun K hK => ?_); go_simp; refine hK _ ?_; clear hK K)
      refine wpMix_held ((.agg #[.slice (some ⟨ge, 0, none⟩) 2 2, .slice (some ⟨qe, 0, none⟩) 32 32])) rfl hS (fun w' hw' => exec_rowR 25 _ rfl y rfl 25 #[.slice (some ⟨ge, 0, none⟩) 2 2, .slice (some ⟨qe, 0, none⟩) 32 32] (rowB_below rE hw' (rowB_lt rE)) agDv) ?_
      simp only [Act.put, List.setIfInBounds_toArray, List.set_cons_zero, List.set_cons_succ]
      refine wpMix_held ((.agg #[.slice (some ⟨g, 0, none⟩) 2 2, .slice (some ⟨q, 0, none⟩) 32 32])) rfl hS (fun w' hw' => exec_rowR 25 _ rfl B rfl 25 #[.slice (some ⟨g, 0, none⟩) 2 2, .slice (some ⟨q, 0, none⟩) 32 32] (rowB_below rB hw' (rowB_lt rB)) agDv) ?_
      simp only [Act.put, List.setIfInBounds_toArray, List.set_cons_zero, List.set_cons_succ]
      refine wpMix_call ?_
      go_wp2_with (go_at_call 16; refine (vidOut_at hfE hoE xE).mono ?_; rintro e v4 ⟨rfl, hb⟩; replace xD := xD.below hb; replace hS := hS.trans (hb.mono hS.size); clear hb)
      first | refine ⟨fun _ => hS, ?_⟩ | refine ⟨hS, ?_⟩ | refine And.intro (fun _ => hS) ?_
      refine wpMix_call ?_
      go_wp2_with (go_at_call 16; refine (vidOut_at hfD hO xD).mono ?_; rintro e v5 ⟨rfl, hb⟩; replace xD := xD.below hb; replace hS := hS.trans (hb.mono hS.size); clear hb)
      try refine ⟨fun h => (by cases h), ?_⟩
      (refine wpMix_still (fun K hK => ?_); go_simp; refine hK _ ?_; clear hK K)
      (refine wpMix_still (fun K hK => ?_); go_simp; refine hK _ ?_; clear hK K)
      (refine wpMix_still (fun K hK => ?_); go_simp; refine hK _ ?_; clear hK K)
      (refine wpMix_still (fun K hK => ?_); go_simp; refine hK _ ?_; clear hK K)
      (refine wpMix_still (fun K hK => ?_); go_simp; refine hK _ ?_; clear hK K)
      (refine wpMix_still (fun K hK => ?_); go_simp; refine hK _ ?_; clear hK K)
      refine wpMix_held ((.agg #[.slice (some ⟨g, 0, none⟩) 2 2, .slice (some ⟨q, 0, none⟩) 32 32])) rfl hS (fun w' hw' => exec_rowR 25 _ rfl B rfl 25 #[.slice (some ⟨g, 0, none⟩) 2 2, .slice (some ⟨q, 0, none⟩) 32 32] (rowB_below rB hw' (rowB_lt rB)) agDv) ?_
      simp only [Act.put, List.setIfInBounds_toArray, List.set_cons_zero, List.set_cons_succ]
      (refine wpMix_still (fun K hK => ?_); go_simp; refine hK _ ?_; clear hK K)
      (refine wpMix_still (fun K hK => ?_); go_simp; refine hK _ ?_; clear hK K)
      refine wpMix_held ((.agg #[.slice (some ⟨g, 0, none⟩) 2 2, .slice (some ⟨q, 0, none⟩) 32 32])) rfl hS (fun w' hw' => exec_rowR 25 _ rfl B rfl 25 #[.slice (some ⟨g, 0, none⟩) 2 2, .slice (some ⟨q, 0, none⟩) 32 32] (rowB_below rB hw' (rowB_lt rB)) agDv) ?_
      simp only [Act.put, List.setIfInBounds_toArray, List.set_cons_zero, List.set_cons_succ]
      refine wpMix_call ?_
      go_wp2_with (go_at_call 23; refine (vidSkip_at hfD (N + 1) hN1 hX xD).mono ?_; rintro e v6 ⟨u2, rfl, x2, hb⟩; replace xD := xD.below hb; replace hS := hS.trans (hb.mono hS.size); clear hb)
      first | refine ⟨fun _ => hS, ?_⟩ | refine ⟨hS, ?_⟩ | refine And.intro (fun _ => hS) ?_
      refine wpMix_call ?_
      go_wp2_with (go_at_call 16; refine (vidOut_at hfX hP x2).mono ?_; rintro e v7 ⟨rfl, hb⟩; replace xD := xD.below hb; replace hS := hS.trans (hb.mono hS.size); clear hb)
      first | refine ⟨fun _ => hS, ?_⟩ | refine ⟨hS, ?_⟩ | refine And.intro (fun _ => hS) ?_
      refine wpMix_call ?_
      go_wp2_with (go_at_call 16; refine (vidOut_at hfD hO xD).mono ?_; rintro e v8 ⟨rfl, hb⟩; replace hS := hS.trans (hb.mono hS.size); clear hb)
      try refine ⟨fun h => (by cases h), ?_⟩
      (refine wpMix_still (fun K hK => ?_); go_simp; refine hK _ ?_; clear hK K)
      (refine wpMix_still (fun K hK => ?_); go_simp; refine hK _ ?_; clear hK K)
      (refine wpMix_still (fun K hK => ?_); go_simp; refine hK _ ?_; clear hK K)
      (refine wpMix_still (fun K hK => ?_); go_simp; refine hK _ ?_; clear hK K)
      refine wpMix_nil ?_
      go_wp2_with fail
      go_ret
      exact ⟨rfl, bX.trans (hS.mono bX.size)⟩
end Go.Proofs.Ytambggbmkeemnaa
