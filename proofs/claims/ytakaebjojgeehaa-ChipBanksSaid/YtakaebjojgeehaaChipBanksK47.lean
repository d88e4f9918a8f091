/- A part of the proof of ChipBanks: VidCb. -/
import Derived.Test.YtakaebjojgeehaaChipBanksK01
import Derived.Test.YtakaebjojgeehaaChipBanksK02
import Derived.Test.YtakaebjojgeehaaChipBanksK03
import Derived.Test.YtakaebjojgeehaaChipBanksK04
import Derived.Test.YtakaebjojgeehaaChipBanksK05
import Derived.Test.YtakaebjojgeehaaChipBanksK06
import Derived.Test.YtakaebjojgeehaaChipBanksK07
import Derived.Test.YtakaebjojgeehaaChipBanksK08
import Derived.Test.YtakaebjojgeehaaChipBanksK09
import Derived.Test.YtakaebjojgeehaaChipBanksK15
import Derived.Test.YtakaebjojgeehaaChipBanksK20
import Derived.Test.YtakaebjojgeehaaChipBanksK34
import Derived.Test.YtakaebjojgeehaaChipBanksK46
import Derived.Below
import Derived.BigQuiet
import Derived.ChangeMaps5
import Derived.Deep.DeepCutAuto
import Derived.Deep.Draws
import Derived.Deep.MidRow
import Derived.Deep.OwnRows
import Derived.Deep.QuietTactic
import Derived.Deep.RegionHeld3
import Derived.Deep.RegionWith
import Derived.Deep.Slices
import Derived.Deep.WholeRow
import Derived.Laws.CopyOwn
import Derived.Lib.Hide
import Derived.Lib.SmallJoins
import Derived.OpenShut
import Derived.OrdersHeld
import Derived.OwnWalk
import Derived.RowKit3
import Derived.StillTactics
import Derived.StillTail
import Derived.StillTailTactics
import Derived.Test.YtakaebjojgeehaaChecked
import Derived.WalkKit
namespace Go.Proofs.Ytakaebjojgeehaa
open Go.RowKit
set_option maxRecDepth 100000
theorem zeroVd : (#[.int .i64 0, .int .i64 0, .int .u8 0, .int .u8 0, .int .u8 0, .int .u8 0, .int .u8 0, .int .u8 0, .int .u8 0, .int .u8 0, .int .u8 0, .int .u8 0, .int .u8 0, .int .u8 0, .int .u8 0, .int .u8 0, .int .u8 0, .int .u8 0, .int .u8 0, .int .u8 0, .int .u8 0, .int .u8 0, .int .u8 0, .int .u8 0, .int .u8 0, .int .u8 0, .int .u8 0, .int .u8 0, .int .u8 0, .int .u8 0, .int .u8 0, .int .u8 0, .int .u8 0, .int .u8 0] : Array Value) = Vd.cs ⟨0, 0, zeros32⟩ := rfl
set_option maxHeartbeats 2000000 in
theorem vidLoad_any (v vm : Value) (l lb : List Int) (w : World) (h : isArg w v l) (hm : isByt w vm lb) :
    Calls Try.prog 59 #[.agg #[v, vm]] w fun e w' => e = .returned (.agg (Vd.ofN l lb).cs) ∧ Below w.heap.size w w' := by
  obtain ⟨k0, k1, bW, sW⟩ := boxes2 w (.cells #[v, vm] 34) (.cells (Vd.cs ⟨0, 0, zeros32⟩) 68)
  have k0 : rowB _ _ _ _ := k0
  have k1 : rowB _ _ _ _ := k1
  have h1 := isArg_below h bW (Nat.le_refl _)
  have hm1 := isByt_below hm bW (Nat.le_refl _)
  obtain ⟨P, hP⟩ : ∃ P, (vidL l).getD 0 0 % 2560 = P := ⟨_, rfl⟩
  obtain ⟨H, hH⟩ : ∃ H, (vidL l).getD 1 0 % 2 = H := ⟨_, rfl⟩
  have hH2 : lo (l.getD 1 0) 1 = H := by
    rw [← hH]
    cases l with
    | nil => rfl
    | cons x r => rfl
  have hPos := fun w' h' => vidPosition_any v vm l w' h'
  simp only [hP] at hPos
  have hNum := fun w' h' => devNumber_any v vm l 1 1 w' h'
  simp only [show wd 1 = 1 from rfl, hH2] at hNum
  have hR : Vd.ofN l lb = ⟨P, H, pad 32 lb⟩ := by unfold Vd.ofN; rw [hP, hH]
  rw [hR]
  clear hR hP hH hH2 h hm
  go_enter Try.func59, Try.ntmps59
  go_upto_region 1 with (fail)
  simp only [zeroVd]
  generalize (w.alloc (.cells #[v, vm] 34)).alloc (.cells (Vd.cs ⟨0, 0, zeros32⟩) 68) = w1 at *
  go_cut [3] (fun s wx => ∃ y, s = .pointer (some ⟨y, 0, none⟩) ∧ w1.heap.size ≤ y ∧ rowB wx y 68 (Vd.cs ⟨P, H, zeros32⟩) ∧ Below w1.heap.size w1 wx)
  case first =>
    refine wp_region_tree (fun w' => Below w1.heap.size w1 w') [0, 2, 4] (.rd 0 (.rd 2 (.two 1 (.two 3 (.rd 4 (.one 5 (.one 6 (.mix [])))) 5 (.one 3 (.rd 4 (.one 6 (.mix []))))) 5 (.one 1 (.one 3 (.rd 4 (.one 6 (.mix [])))))))) (by kernel_rfl) (by kernel_rfl) (fun _ _ _ _ _ h => h) ?_
    simp only [Tr.put, List.map_nil, opOf, List.getD_cons_zero, List.getD_cons_succ]
    change wpTr _ _ _ _ _ _ w1.drew
    have hS := (Below.refl w1.heap.size w1).drew
    generalize w1.drew = w2 at *
    refine wpTr_held (.agg #[v, vm]) rfl hS (fun w' hw' => exec_rowR 34 _ rfl w.heap.size rfl 34 #[v, vm] (rowB_below k0 hw' (rowB_lt k0)) agDv) ?_
    simp only [Act.put, List.setIfInBounds_toArray, List.set_cons_zero, List.set_cons_succ]
    refine wpTr_held (.agg #[v, vm]) rfl hS (fun w' hw' => exec_rowR 34 _ rfl w.heap.size rfl 34 #[v, vm] (rowB_below k0 hw' (rowB_lt k0)) agDv) ?_
    simp only [Act.put, List.setIfInBounds_toArray, List.set_cons_zero, List.set_cons_succ]
    refine wpTr_two ?_ ?_
    · go_wp2_with (go_at_call 83; refine (hPos _ (isArg_below h1 hS (Nat.le_refl _))).mono ?_; rintro e u1 ⟨rfl, hb⟩; replace hS := hS.trans (hb.mono hS.size); clear hb)
      refine ⟨hS, ?_⟩
      refine wpTr_two ?_ ?_
      · go_wp2_with (go_at_call 84; refine (hNum _ (isArg_below h1 hS (Nat.le_refl _))).mono ?_; rintro e u2 ⟨rfl, hb⟩; replace hS := hS.trans (hb.mono hS.size); clear hb)
        refine ⟨hS, ?_⟩
        refine wpTr_held (.agg (Vd.cs ⟨P, H, zeros32⟩)) rfl hS (fun w' hw' => by go_simp; first | rfl | done) ?_
        simp only [Act.put, List.setIfInBounds_toArray, List.set_cons_zero, List.set_cons_succ]
        refine wpTr_one ?_
        go_wp2_with fail
        simp only [zeroVd]
        have hz := rowB_new u2 68 (Vd.cs ⟨0, 0, zeros32⟩)
        have lz := hS.size
        replace hS := hS.alloc lz (.cells (Vd.cs ⟨0, 0, zeros32⟩) 68)
        generalize u2.alloc (.cells (Vd.cs ⟨0, 0, zeros32⟩) 68) = u3 at *
        generalize u2.heap.size = z3 at *
        refine ⟨hS, ?_⟩
        refine wpTr_one ?_
        go_wp2_with (refine wpList_storeR rfl 68 _ _ rfl z3 rfl (Vd.cs ⟨P, H, zeros32⟩) rfl (Vd.cs_one _) 68 (Vd.cs ⟨0, 0, zeros32⟩) rfl ?_ (agVd rfl) ?_; with_reducible exact hz)
        replace hS := below_rowR hS (Vd.cs ⟨P, H, zeros32⟩) lz
        replace hz := rowB_row hz (Vd.cs ⟨P, H, zeros32⟩)
        refine ⟨hS, ?_⟩
        refine wpTr_mix ?_
        refine wpMix_nil ?_
        have HFIN := Lib.hid (show ∃ y, Value.pointer (some ⟨z3, 0, none⟩) = .pointer (some ⟨y, 0, none⟩) ∧ w1.heap.size ≤ y ∧ rowB _ y 68 (Vd.cs ⟨P, H, zeros32⟩) ∧ Below w1.heap.size w1 _ from ⟨_, rfl, lz, hz, hS⟩)
        go_wp2_with fail
        go_meet
        case rel => exact HFIN.out
      · go_wp2_with fail
        simp only [zeroVd]
        have hz := rowB_new u1 68 (Vd.cs ⟨0, 0, zeros32⟩)
        have lz := hS.size
        replace hS := hS.alloc lz (.cells (Vd.cs ⟨0, 0, zeros32⟩) 68)
        generalize u1.alloc (.cells (Vd.cs ⟨0, 0, zeros32⟩) 68) = u5 at *
        generalize u1.heap.size = z5 at *
        refine ⟨hS, ?_⟩
        refine wpTr_one ?_
        go_wp2_with (go_at_call 84; refine (hNum _ (isArg_below h1 hS (Nat.le_refl _))).mono ?_; rintro e u6 ⟨rfl, hb⟩; replace hz := rowB_below hz hb (rowB_lt hz); replace hS := hS.trans (hb.mono hS.size); clear hb)
        refine ⟨hS, ?_⟩
        refine wpTr_held (.agg (Vd.cs ⟨P, H, zeros32⟩)) rfl hS (fun w' hw' => by go_simp; first | rfl | done) ?_
        simp only [Act.put, List.setIfInBounds_toArray, List.set_cons_zero, List.set_cons_succ]
        refine wpTr_one ?_
        go_wp2_with (refine wpList_storeR rfl 68 _ _ rfl z5 rfl (Vd.cs ⟨P, H, zeros32⟩) rfl (Vd.cs_one _) 68 (Vd.cs ⟨0, 0, zeros32⟩) rfl ?_ (agVd rfl) ?_; with_reducible exact hz)
        replace hS := below_rowR hS (Vd.cs ⟨P, H, zeros32⟩) lz
        replace hz := rowB_row hz (Vd.cs ⟨P, H, zeros32⟩)
        refine ⟨hS, ?_⟩
        refine wpTr_mix ?_
        refine wpMix_nil ?_
        have HFIN := Lib.hid (show ∃ y, Value.pointer (some ⟨z5, 0, none⟩) = .pointer (some ⟨y, 0, none⟩) ∧ w1.heap.size ≤ y ∧ rowB _ y 68 (Vd.cs ⟨P, H, zeros32⟩) ∧ Below w1.heap.size w1 _ from ⟨_, rfl, lz, hz, hS⟩)
        go_wp2_with fail
        go_meet
        case rel => exact HFIN.out
    · go_wp2_with fail
      simp only [zeroVd]
      have hz := rowB_new w2 68 (Vd.cs ⟨0, 0, zeros32⟩)
      have lz := hS.size
      replace hS := hS.alloc lz (.cells (Vd.cs ⟨0, 0, zeros32⟩) 68)
      generalize w2.alloc (.cells (Vd.cs ⟨0, 0, zeros32⟩) 68) = u8 at *
      generalize w2.heap.size = z8 at *
      refine ⟨hS, ?_⟩
      refine wpTr_one ?_
      go_wp2_with (go_at_call 83; refine (hPos _ (isArg_below h1 hS (Nat.le_refl _))).mono ?_; rintro e u9 ⟨rfl, hb⟩; replace hz := rowB_below hz hb (rowB_lt hz); replace hS := hS.trans (hb.mono hS.size); clear hb)
      refine ⟨hS, ?_⟩
      refine wpTr_one ?_
      go_wp2_with (go_at_call 84; refine (hNum _ (isArg_below h1 hS (Nat.le_refl _))).mono ?_; rintro e u10 ⟨rfl, hb⟩; replace hz := rowB_below hz hb (rowB_lt hz); replace hS := hS.trans (hb.mono hS.size); clear hb)
      refine ⟨hS, ?_⟩
      refine wpTr_held (.agg (Vd.cs ⟨P, H, zeros32⟩)) rfl hS (fun w' hw' => by go_simp; first | rfl | done) ?_
      simp only [Act.put, List.setIfInBounds_toArray, List.set_cons_zero, List.set_cons_succ]
      refine wpTr_one ?_
      go_wp2_with (refine wpList_storeR rfl 68 _ _ rfl z8 rfl (Vd.cs ⟨P, H, zeros32⟩) rfl (Vd.cs_one _) 68 (Vd.cs ⟨0, 0, zeros32⟩) rfl ?_ (agVd rfl) ?_; with_reducible exact hz)
      replace hS := below_rowR hS (Vd.cs ⟨P, H, zeros32⟩) lz
      replace hz := rowB_row hz (Vd.cs ⟨P, H, zeros32⟩)
      refine ⟨hS, ?_⟩
      refine wpTr_mix ?_
      refine wpMix_nil ?_
      have HFIN := Lib.hid (show ∃ y, Value.pointer (some ⟨z8, 0, none⟩) = .pointer (some ⟨y, 0, none⟩) ∧ w1.heap.size ≤ y ∧ rowB _ y 68 (Vd.cs ⟨P, H, zeros32⟩) ∧ Below w1.heap.size w1 _ from ⟨_, rfl, lz, hz, hS⟩)
      go_wp2_with fail
      go_meet
      case rel => exact HFIN.out
  case rest =>
    obtain ⟨y, rfl, hy, hr, hS⟩ := hcut
    clear hPos hNum h1
    replace hm1 := isByt_below hm1 hS (Nat.le_refl _)
    replace k0 := rowB_below k0 hS (rowB_lt k0)
    replace k1 := rowB_below k1 hS (rowB_lt k1)
    replace bW := bW.trans (hS.mono bW.size)
    have hyw : w.heap.size + 2 ≤ y := by omega
    clear hS hy sW
    obtain ⟨ii, i1, i2, i3, i4⟩ := infoBt
    have hsz : (Try.prog.info? 5).map (·.size) = some 1 := by rw [i1]; exact congrArg some i3
    obtain ⟨X1, hX1⟩ : ∃ X1, X1 = (lb.take 32).map (Value.int .u8) := ⟨_, rfl⟩
    obtain ⟨ZL, hZL⟩ : ∃ ZL, ZL = (Vd.cs ⟨P, H, zeros32⟩).toList := ⟨_, rfl⟩
    have hsp : (splice ZL 2 X1).toArray = Vd.cs ⟨P, H, pad 32 lb⟩ := by rw [hX1, hZL]; exact vd_splice P H lb
    have hXl : X1.length = Nat.min lb.length 32 := by rw [hX1, List.length_map, List.length_take]; exact Nat.min_comm _ _
    have hX1c : ∀ x ∈ X1, x.oneCell' = true := fun x hx => by
      rw [hX1] at hx
      obtain ⟨y, _, rfl⟩ := List.mem_map.1 hx
      rfl
    have hfit : 2 + X1.length ≤ ZL.length := by
      have : ZL.length = 34 := by rw [hZL]; rfl
      have : X1.length ≤ 32 := by rw [hXl]; exact Nat.min_le_right _ _
      omega
    replace hr : rowB wc y 68 ZL.toArray := by rw [hZL]; exact hr
    obtain ⟨sp, sc, rfl, _⟩ := isByt_src hm1 32
    have HSP := Lib.hid hsp
    have HXL := Lib.hid hXl
    have HX1C := Lib.hid hX1c
    have HFIT := Lib.hid hfit
    have HX := Lib.hid hX1
    clear hsp hXl hX1c hfit hX1 hZL
    go_upto_region 2 with (fail)
    refine wp_region_mix (fun w' => Below wc.heap.size wc w') [(0, 0), (2, 1), (3, 1), (1, 1), (4, 2)] (by kernel_rfl) (by kernel_rfl) (fun _ _ _ _ _ h => h) ?_
    simp only [List.map_cons, List.map_nil, opOf, List.getD_cons_zero, List.getD_cons_succ]
    change wpMix _ _ _ _ _ _ wc.drew
    have hS : Below wc.heap.size wc wc.drew := (Below.refl _ _).drew
    have hyl := rowB_lt hr
    have hT : Below (w.heap.size + 2) wc wc.drew := (Below.refl _ _).drew
    replace hm1 := isByt_below hm1 hS (Nat.le_refl _)
    obtain ⟨sp', sc', e', hsrc⟩ := isByt_src hm1 32
    cases e'
    rw [← HX.out] at hsrc
    have HSRC := Lib.hid hsrc
    clear hsrc
    replace hr : rowB wc.drew y 68 ZL.toArray := hr
    generalize wc.drew = wd at *
    (refine wpMix_still (fun K hK => ?_); go_simp; refine hK _ ?_; clear hK K)
    refine wpMix_held (.pointer (some ⟨w.heap.size, 1, none⟩)) rfl hS (fun w' hw' => by go_simp) ?_
    simp only [Act.put, List.setIfInBounds_toArray, List.set_cons_zero, List.set_cons_succ]
    refine wpMix_held (.slice sp lb.length sc) rfl hS (fun w' hw' => by have c := rowB_cell (rowB_below k0 hw' (rowB_lt k0)) 1 (v := .slice sp lb.length sc) rfl; go_simp) ?_
    simp only [Act.put, List.setIfInBounds_toArray, List.set_cons_zero, List.set_cons_succ]
    refine wpMix_held (.slice (some ⟨y, 2, none⟩) 32 32) rfl hS (fun w' hw' => by go_simp) ?_
    simp only [Act.put, List.setIfInBounds_toArray, List.set_cons_zero, List.set_cons_succ]
    refine wpMix_call ?_
    go_wp2_with (refine wpList_copy_splice (o := ⟨some 13, _, _, _, _, _⟩) rfl _ _ 22 22 rfl 5 Try.underlying22 hsz (some ⟨y, 2, none⟩) sp 32 32 lb.length sc rfl rfl y 2 ZL 68 hr X1 HXL.out (fun hp => ⟨rfl, HSRC.out hp⟩) HFIT.out HX1C.out (w.heap.size + 2) wc hT hyw ?_; intro w6 HG hb6)
    try refine ⟨fun h => (by cases h), ?_⟩
    refine wpMix_nil ?_
    have r0 : rowB w6 y 68 (Vd.cs ⟨P, H, pad 32 lb⟩) := by
      have := HG.out
      rw [HSP.out] at this
      exact this
    replace k1 := rowB_below k1 hb6 (by omega)
    have bX := bW.trans (hb6.mono (by omega))
    clear HG HSP HXL HX1C HFIT HX HSRC hr hS hT
    go_wp2_with (first
      | (refine wpList_loadR rfl 68 _ rfl y rfl 68 (Vd.cs ⟨P, H, pad 32 lb⟩) ?_ (agVd (pad_len _ _)) ?_; with_reducible exact r0)
      | (refine wpList_storeR rfl 68 _ _ rfl (w.heap.size + 1) rfl (Vd.cs ⟨P, H, pad 32 lb⟩) rfl (Vd.cs_one _) 68 (Vd.cs ⟨0, 0, zeros32⟩) (by rw [Vd.cs_size rfl, Vd.cs_size (pad_len _ _)]) ?_ (agVd (pad_len _ _)) ?_; with_reducible exact k1))
    refine bodyPost_ret (resultsR rfl (w.heap.size + 1) _ rfl (rowB_row k1 _) (agVd (pad_len _ _))) rfl ?_
    exact ⟨rfl, below_rowR bX _ (by omega)⟩
theorem Vd.cs_src {s : Vd} {w : World} {g : Nat} (h : rowB w g 68 s.cs) : ∀ (j : Nat) (v : Value), (s.m.map (Value.int .u8))[j]? = some v → w.cell? ((⟨g, 2, none⟩ : Addr).add j) = some v := by
  intro j v hv
  rw [Addr.add_lit]
  refine rowB_cell h (2 + j) ?_
  unfold Vd.cs
  rw [List.getElem?_toArray, Nat.add_comm 2 j, List.getElem?_cons_succ, List.getElem?_cons_succ]
  exact hv
set_option maxHeartbeats 2000000 in
theorem vidDev_any (s : Vd) (g : Nat) (w : World) (h : rowB w g 68 s.cs) (hs : s.fit) :
    Calls Try.prog 60 #[.pointer (some ⟨g, 0, none⟩)] w fun e w' => ∃ u, e = .returned u ∧ devV w.heap.size w' u s ∧ Below w.heap.size w w' := by
  obtain ⟨k0, bW, sW⟩ := boxes1 w (.cells #[.slice none 0 0, .slice none 0 0] 34)
  have k0 : rowB _ _ _ _ := k0
  have hg := rowB_lt h
  replace h := rowB_alloc h (.cells #[.slice none 0 0, .slice none 0 0] 34)
  obtain ⟨ii, i1, i2, i3, i4⟩ := infoBt
  have hsz : (Try.prog.info? 5).map (·.size) = some 1 := by rw [i1]; exact congrArg some i3
  obtain ⟨X1, hX1⟩ : ∃ X1, X1 = s.m.map (Value.int .u8) := ⟨_, rfl⟩
  obtain ⟨Z1, hZ1⟩ : ∃ Z1, Z1 = (List.replicate 32 (0 : Int)).map (Value.int .u8) := ⟨_, rfl⟩
  have hsp : (splice Z1 0 X1).toArray = byts s.m := by
    have e := splice_pad 32 s.m
    rw [pad_self hs.m, List.take_of_length_le (by rw [hs.m]; exact Nat.le_refl _)] at e
    rw [hX1, hZ1]
    exact e
  have hXl : X1.length = Nat.min 32 32 := by rw [hX1, List.length_map, hs.m]; rfl
  have hX1c : ∀ x ∈ X1, x.oneCell' = true := fun x hx => by
    rw [hX1] at hx
    obtain ⟨y, _, rfl⟩ := List.mem_map.1 hx
    rfl
  have hZl : Z1.length = 32 := by rw [hZ1]; simp
  have hZa : madeCells #[.int .u8 0] 32 = Z1.toArray := by rw [made_byts, hZ1]; rfl
  have hfit : 0 + X1.length ≤ Z1.length := by rw [hZl, hXl]; decide
  have HSP := Lib.hid hsp
  have HXL := Lib.hid hXl
  have HX1C := Lib.hid hX1c
  have HFIT := Lib.hid hfit
  have HX := Lib.hid hX1
  have HZA := Lib.hid hZa
  clear hsp hXl hX1c hfit hX1 hZa hZ1 hZl hs
  go_enter Try.func60, Try.ntmps60
  go_upto_region 1 with (fail)
  generalize w.alloc (.cells #[.slice none 0 0, .slice none 0 0] 34) = w1 at *
  have n0 := rowB_new w1 5 Z1.toArray
  have k1 := rowB_alloc k0 (.cells Z1.toArray 5)
  have h1 := rowB_alloc h (.cells Z1.toArray 5)
  have b1 := bW.alloc bW.size (.cells Z1.toArray 5)
  rw [sW] at n0
  have HQ := Lib.hid sW
  clear sW h k0 bW
  go_upto_region 2 with (at_make; refine wpList_make_row _ rfl _ _ _ rfl 5 ii (.int .u8 0) Try.underlying22 i1 i2 i3 rfl _ _ 32 rfl rfl (by rw [i4]; omega) (by omega) ?_; rw [HZA.out, HQ.out])
  generalize w1.alloc (.cells Z1.toArray 5) = w2 at *
  have hsrc := Vd.cs_src h1
  rw [← HX.out] at hsrc
  have HSRC := Lib.hid hsrc
  clear hsrc
  go_upto_region 3 with (refine wpList_copy_splice (o := ⟨some 10, _, _, _, _, _⟩) rfl _ _ 22 22 rfl 5 Try.underlying22 hsz (some ⟨w.heap.size + 1, 0, none⟩) (some ⟨g, 2, none⟩) 32 32 32 32 rfl rfl (w.heap.size + 1) 0 Z1 5 n0 X1 HXL.out (fun hp => ⟨rfl, ⟨⟨g, 2, none⟩, rfl, HSRC.out⟩⟩) HFIT.out HX1C.out (w.heap.size + 1) w2 (Below.refl (w.heap.size + 1) w2) (Nat.le_refl _) ?_; intro w3 HG hb)
  have r0 : rowB w3 (w.heap.size + 1) 5 (byts s.m) := by
    have := HG.out
    rw [HSP.out] at this
    exact this
  replace k1 := rowB_below k1 hb (by omega)
  replace h1 := rowB_below h1 hb (by omega)
  have bX := b1.trans (hb.mono (by omega))
  clear HG HSP HXL HX1C HFIT HX HSRC HZA HQ n0 b1
  refine wp_region_mix (fun w' => Below w3.heap.size w3 w') [(0, 0), (1, 0), (2, 0), (3, 0), (4, 0), (5, 0), (6, 0), (7, 0), (9, 1), (8, 3), (10, 2), (11, 2)] (by kernel_rfl) (by kernel_rfl) (fun _ _ _ _ _ h => h) ?_
  simp only [List.map_cons, List.map_nil, opOf, List.getD_cons_zero, List.getD_cons_succ]
  change wpMix _ _ _ _ _ _ w3.drew
  have hS : Below w3.heap.size w3 w3.drew := (Below.refl _ _).drew
  have c0 := rowB_cell (rowB_below h1 hS (rowB_lt h1)) 0 (v := .int .i64 s.p) rfl
  have c1 := rowB_cell (rowB_below h1 hS (rowB_lt h1)) 1 (v := .int .i64 s.h) rfl
  have lq := rowB_lt r0
  generalize w3.drew = w4 at *
  (refine wpMix_still (fun K hK => ?_); go_simp; refine hK _ ?_; clear hK K)
  (refine wpMix_still (fun K hK => ?_); go_simp; refine hK _ ?_; clear hK K)
  (refine wpMix_still (fun K hK => ?_); go_simp; refine hK _ ?_; clear hK K)
  (refine wpMix_still (fun K hK => ?_); go_simp; refine hK _ ?_; clear hK K)
  (refine wpMix_still (fun K hK => ?_); go_simp; refine hK _ ?_; clear hK K)
  (refine wpMix_still (fun K hK => ?_); go_simp; refine hK _ ?_; clear hK K)
  (refine wpMix_still (fun K hK => ?_); go_simp; refine hK _ ?_; clear hK K)
  (refine wpMix_still (fun K hK => ?_); go_simp; refine hK _ ?_; clear hK K)
  refine wpMix_held (.slice (some ⟨w.heap.size + 1, 0, none⟩) 32 32) rfl hS (fun w' hw' => by go_simp) ?_
  simp only [Act.put, List.setIfInBounds_toArray, List.set_cons_zero, List.set_cons_succ]
  refine wpMix_call ?_
  go_wp2_with fail
  have n5 := rowB_new w4 3 #[.int .i64 s.p, .int .i64 s.h]
  have k5 := rowB_alloc (rowB_below k1 hS (rowB_lt k1)) (.cells #[.int .i64 s.p, .int .i64 s.h] 3)
  have r5 := rowB_alloc (rowB_below r0 hS lq) (.cells #[.int .i64 s.p, .int .i64 s.h] 3)
  have lS := hS.size
  replace hS := hS.alloc lS (.cells #[.int .i64 s.p, .int .i64 s.h] 3)
  generalize w4.alloc (.cells #[.int .i64 s.p, .int .i64 s.h] 3) = w5 at *
  generalize w4.heap.size = y at *
  first | refine ⟨fun _ => hS, ?_⟩ | refine ⟨hS, ?_⟩ | refine And.intro (fun _ => hS) ?_
  refine wpMix_call ?_
  go_wp2_with fail
  try refine ⟨fun h => (by cases h), ?_⟩
  refine wpMix_call ?_
  go_wp2_with (refine wpList_storeR rfl 34 _ _ rfl w.heap.size rfl #[.slice (some ⟨y, 0, none⟩) 2 2, .slice (some ⟨w.heap.size + 1, 0, none⟩) 32 32] rfl (dev2_one _ _ _ _ _ _) 34 #[.slice none 0 0, .slice none 0 0] rfl ?_ agDv ?_; with_reducible exact k5)
  try refine ⟨fun h => (by cases h), ?_⟩
  refine wpMix_nil ?_
  go_wp2_with fail
  refine bodyPost_ret (resultsR rfl w.heap.size _ rfl (rowB_row k5 _) agDv) rfl ?_
  exact ⟨_, rfl, ⟨y, w.heap.size + 1, rfl, by omega, by omega, by omega, rowB_row_other n5 _ (by omega), rowB_row_other r5 _ (by omega)⟩, below_rowR (bX.trans (hS.mono bX.size)) _ (by omega)⟩
end Go.Proofs.Ytakaebjojgeehaa
