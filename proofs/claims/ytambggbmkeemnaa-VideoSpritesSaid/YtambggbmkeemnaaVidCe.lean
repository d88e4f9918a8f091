/- Contracts of package video: Skip, Tick, Next, Out. -/
import Derived.Test.YtambggbmkeemnaaChecked
import Derived.Test.YtambggbmkeemnaaVidCd
import Derived.Test.YtambggbmkeemnaaVidNext
import Derived.Below
import Derived.BigQuiet
import Derived.ChangeMaps5
import Derived.Deep.DeepCutAuto
import Derived.Deep.Draws
import Derived.Deep.MidRow
import Derived.Deep.OwnRows
import Derived.Deep.QuietTactic
import Derived.Deep.RegionHeld3
import Derived.Deep.RegionWith
import Derived.Deep.Slices
import Derived.Deep.WholeRow
import Derived.Laws.CopyOwn
import Derived.Lib.Hide
import Derived.Lib.SmallJoins
import Derived.OpenShut
import Derived.OrdersHeld
import Derived.OwnWalk
import Derived.RowKit3
import Derived.Shelf.Abstract
import Derived.StillTactics
import Derived.StillTail
import Derived.StillTailTactics
import Derived.WalkKit
namespace Go.Proofs.Ytambggbmkeemnaa
open Go.RowKit
set_option maxRecDepth 100000

set_option maxHeartbeats 2000000 in
theorem vidSkip_any (v vm : Value) (l lb : List Int) (k : Int) (w : World) (h : isArg w v l) (hm : isByt w vm lb) (hb : ∀ x ∈ lb, 0 ≤ x ∧ x < 256) (hk : -9223372036854775808 ≤ k ∧ k ≤ 9223372036854775807) :
    Calls Try.prog 23 #[.agg #[v, vm], .int .i64 k] w fun e w' => ∃ u, e = .returned u ∧ devV w.heap.size w' u ((Vd.ofN l lb).ticks k.toNat) ∧ Below w.heap.size w w' := by
  obtain ⟨k0, k1, bW, sW⟩ := boxes2 w (.cells #[v, vm] 25) (.cells #[.slice none 0 0, .slice none 0 0] 25)
  have k0 : rowB _ _ _ _ := k0
  have k1 : rowB _ _ _ _ := k1
  have hload := vidLoad_any v vm l lb _ (isArg_below h bW (Nat.le_refl _)) (isByt_below hm bW (Nat.le_refl _))
  have hfit := Vd.ofN_fit l lb hb
  clear h hm hb
  generalize Vd.ofN l lb = s at *
  obtain ⟨p, f, m⟩ := s
  have hp := hfit.p
  have hf := hfit.h
  have hl := hfit.m
  dsimp only at hp hf hl
  obtain ⟨j, hj, hj0, hjk⟩ : ∃ j : Int, (if k < 0 then 0 else k) = j ∧ (0 ≤ j ∧ j ≤ 9223372036854775807) ∧ k.toNat = j.toNat := by
    by_cases h : k < 0
    · exact ⟨0, if_pos h, by decide, by omega⟩
    · exact ⟨k, if_neg h, by omega, rfl⟩
  rw [hjk]
  clear hjk hk
  have tj : j.tmod 2560 = j % 2560 := Int.tmod_eq_emod_of_nonneg hj0.1
  have wj : wrap64 (p + j % 2560) = p + j % 2560 := IntWalk.wrap64_in _ (by omega)
  have tp : (p + j % 2560).tmod 2560 = (p + j % 2560) % 2560 := Int.tmod_eq_emod_of_nonneg (by omega)
  obtain ⟨n, hn⟩ : ∃ n, (if 2560 < j then 2560 else j) = n := ⟨_, rfl⟩
  have hn2 : n ≤ 2560 := by rw [← hn]; split <;> omega
  go_enter Try.func23, Try.ntmps23
  go_upto_region 2 with (first
    | (go_at_call 30; refine hload.mono ?_; rintro e w1 ⟨rfl, hb⟩; have bX := bW.trans (hb.mono bW.size); have r1 := rowB_below k1 hb (rowB_lt k1); have hs := hb.size; rw [sW] at hs; have nz := rowB_new w1 53 (Vd.cs ⟨0, 0, zeros32⟩); clear hb hload)
    | (refine wpList_storeR rfl 53 _ _ rfl w1.heap.size rfl (Vd.cs ⟨p, f, m⟩) rfl (Vd.cs_one _) 53 (Vd.cs ⟨0, 0, zeros32⟩) (by rw [Vd.cs_size rfl, Vd.cs_size hl]) ?_ (agVd hl) ?_; exact nz))
  change Code.wp _ _ _ _ ((w1.alloc (.cells (Vd.cs ⟨0, 0, zeros32⟩) 53)).setRow w1.heap.size (Vd.cs ⟨p, f, m⟩))
  replace r1 := rowB_row_other (rowB_alloc r1 (.cells (Vd.cs ⟨0, 0, zeros32⟩) 53)) (Vd.cs ⟨p, f, m⟩) (show w1.heap.size ≠ w.heap.size + 1 by omega)
  replace bX := below_rowR (bX.alloc (by omega) (.cells (Vd.cs ⟨0, 0, zeros32⟩) 53)) (Vd.cs ⟨p, f, m⟩) (show w.heap.size ≤ w1.heap.size by omega)
  replace nz := rowB_row nz (Vd.cs ⟨p, f, m⟩)
  generalize (w1.alloc (.cells (Vd.cs ⟨0, 0, zeros32⟩) 53)).setRow w1.heap.size (Vd.cs ⟨p, f, m⟩) = w2 at *
  generalize w1.heap.size = y at *
  have hF := vidFirst_any ⟨p, f, m⟩ y n 45 #[.pointer (some ⟨y, 0, none⟩)] #[] (vhit m) w2 nz hfit hn2 (enters_of Try.func45 (by kernel_rfl) rfl) vis_hit (fun p w' hp hb => (vidHits_any ⟨_, _, _⟩ y p w' (rowB_below nz hb (rowB_lt nz)) hfit hp).mono (fun e w'' h => ⟨h.1, by rw [← h.2]; exact Below.refl _ _⟩))
  have HF := Lib.hid hF
  clear hF
  go_upto_if 14 with (first
    | (go_at_call 40; refine HF.out.mono ?_; rintro e w3 ⟨K, rfl, hF, hbF⟩))
  replace nz := rowB_below nz hbF (rowB_lt nz)
  replace r1 := rowB_below r1 hbF (rowB_lt r1)
  replace bX := bX.trans (hbF.mono bX.size)
  rw [← hn] at hF
  have hT := Vd.ticks_first hfit hF hj0.1
  have hTf := Vd.ticks_fit hfit j.toNat
  dsimp only at hT
  rw [show (p + j % 2560) % 2560 = (p + j) % 2560 by omega] at hT
  clear HF hF hbF hn hn2 hj k0 k1
  have z0 := rowB_free nz 0
  have z1 := rowB_free nz 1
  have c0 := rowB_cell nz 0 (v := .int .i64 p) rfl
  have c1 := rowB_cell nz 1 (v := .int .i64 f) rfl
  by_cases h0 : 0 < K
  · rw [if_pos h0] at hT
    rw [hT] at hTf
    have hd : decide (0 < K) = true := decide_eq_true h0
    go_upto_region 6 with fail
    replace nz : rowB _ y 53 (Vd.cs ⟨(p + j) % 2560, 1, m⟩) := rowB_eq (rowB_set (rowB_eq (rowB_set nz 1 (.int .i64 1)) (Vd.cs_setH _ _ _ _)) 0 (.int .i64 ((p + j) % 2560))) (Vd.cs_setP _ _ _ _)
    replace r1 := rowB_other (rowB_other r1 ⟨y, 1, none⟩ (.int .i64 1) (show y ≠ w.heap.size + 1 by omega)) ⟨y, 0, none⟩ (.int .i64 ((p + j) % 2560)) (show y ≠ w.heap.size + 1 by omega)
    replace bX := Below.setCell (Below.setCell bX (p := ⟨y, 1, none⟩) (show w.heap.size ≤ y by omega) (.int .i64 1)) (p := ⟨y, 0, none⟩) (show w.heap.size ≤ y by omega) (.int .i64 ((p + j) % 2560))
    clear z0 z1 c0 c1 tj wj tp
    obtain ⟨P, hP⟩ : ∃ P, (p + j) % 2560 = P := ⟨_, rfl⟩
    rw [hP] at nz r1 bX hTf hT ⊢
    have HT := Lib.hid hT
    clear hP hT
    have hdev := fun w' h' => vidDev_any ⟨P, 1, m⟩ y w' h' hTf
    go_wp2_with (first
      | (go_at_call 31; refine (hdev _ nz).mono ?_; rintro e w3 ⟨u, rfl, ⟨g, q, rfl, hg, hq, hgq, hr, hr2⟩, hb⟩; have r2 := rowB_below r1 hb (rowB_lt r1); have l2 := rowB_lt r1; replace bX := bX.trans (hb.mono bX.size))
      | (refine wpList_storeR rfl 25 _ _ rfl (w.heap.size + 1) rfl #[.slice (some ⟨g, 0, none⟩) 2 2, .slice (some ⟨q, 0, none⟩) 32 32] rfl (dev2_one _ _ _ _ _ _) 25 #[.slice none 0 0, .slice none 0 0] rfl ?_ agDv ?_; with_reducible exact r2))
    refine bodyPost_ret (resultsR rfl (w.heap.size + 1) _ rfl (rowB_row r2 _) agDv) rfl ?_
    rw [HT.out]
    exact ⟨_, rfl, ⟨g, q, rfl, by omega, by omega, hgq, rowB_row_other hr _ (by omega), rowB_row_other hr2 _ (by omega)⟩, below_rowR bX _ (by omega)⟩
  · rw [if_neg h0] at hT
    rw [hT] at hTf
    have hd : decide (0 < K) = false := decide_eq_false h0
    go_upto_region 6 with fail
    replace nz : rowB _ y 53 (Vd.cs ⟨(p + j) % 2560, f, m⟩) := rowB_eq (rowB_set nz 0 (.int .i64 ((p + j) % 2560))) (Vd.cs_setP _ _ _ _)
    replace r1 := rowB_other r1 ⟨y, 0, none⟩ (.int .i64 ((p + j) % 2560)) (show y ≠ w.heap.size + 1 by omega)
    replace bX := Below.setCell bX (p := ⟨y, 0, none⟩) (show w.heap.size ≤ y by omega) (.int .i64 ((p + j) % 2560))
    clear z0 z1 c0 c1 tj wj tp
    obtain ⟨P, hP⟩ : ∃ P, (p + j) % 2560 = P := ⟨_, rfl⟩
    rw [hP] at nz r1 bX hTf hT ⊢
    have HT := Lib.hid hT
    clear hP hT
    have hdev := fun w' h' => vidDev_any ⟨P, f, m⟩ y w' h' hTf
    go_wp2_with (first
      | (go_at_call 31; refine (hdev _ nz).mono ?_; rintro e w3 ⟨u, rfl, ⟨g, q, rfl, hg, hq, hgq, hr, hr2⟩, hb⟩; have r2 := rowB_below r1 hb (rowB_lt r1); have l2 := rowB_lt r1; replace bX := bX.trans (hb.mono bX.size))
      | (refine wpList_storeR rfl 25 _ _ rfl (w.heap.size + 1) rfl #[.slice (some ⟨g, 0, none⟩) 2 2, .slice (some ⟨q, 0, none⟩) 32 32] rfl (dev2_one _ _ _ _ _ _) 25 #[.slice none 0 0, .slice none 0 0] rfl ?_ agDv ?_; with_reducible exact r2))
    refine bodyPost_ret (resultsR rfl (w.heap.size + 1) _ rfl (rowB_row r2 _) agDv) rfl ?_
    rw [HT.out]
    exact ⟨_, rfl, ⟨g, q, rfl, by omega, by omega, hgq, rowB_row_other hr _ (by omega), rowB_row_other hr2 _ (by omega)⟩, below_rowR bX _ (by omega)⟩
theorem vidTick_any (v vm : Value) (l lb : List Int) (w : World) (h : isArg w v l) (hm : isByt w vm lb) (hb : ∀ x ∈ lb, 0 ≤ x ∧ x < 256) :
    Calls Try.prog 22 #[.agg #[v, vm]] w fun e w' => ∃ u, e = .returned u ∧ devV w.heap.size w' u (Vd.ofN l lb).tick ∧ Below w.heap.size w w' := by
  obtain ⟨k0, k1, bW, sW⟩ := boxes2 w (.cells #[v, vm] 25) (.cells #[.slice none 0 0, .slice none 0 0] 25)
  have k0 : rowB _ _ _ _ := k0
  have k1 : rowB _ _ _ _ := k1
  have hS := vidSkip_any v vm l lb 1 _ (isArg_below h bW (Nat.le_refl _)) (isByt_below hm bW (Nat.le_refl _)) hb (by decide)
  rw [show (Vd.ofN l lb).ticks (1 : Int).toNat = (Vd.ofN l lb).tick from rfl] at hS
  clear h hm hb
  go_enter Try.func22, Try.ntmps22
  go_wp2_with (first
    | (go_at_call 23; refine hS.mono ?_; rintro e w3 ⟨u, rfl, ⟨g, q, rfl, hg, hq, hgq, hr, hr2⟩, hb⟩; have r2 := rowB_below k1 hb (rowB_lt k1); have bX := bW.trans (hb.mono bW.size))
    | (refine wpList_storeR rfl 25 _ _ rfl (w.heap.size + 1) rfl #[.slice (some ⟨g, 0, none⟩) 2 2, .slice (some ⟨q, 0, none⟩) 32 32] rfl (dev2_one _ _ _ _ _ _) 25 #[.slice none 0 0, .slice none 0 0] rfl ?_ agDv ?_; with_reducible exact r2))
  refine bodyPost_ret (resultsR rfl (w.heap.size + 1) _ rfl (rowB_row r2 _) agDv) rfl ?_
  exact ⟨_, rfl, ⟨g, q, rfl, by omega, by omega, hgq, rowB_row_other hr _ (by omega), rowB_row_other hr2 _ (by omega)⟩, below_rowR bX _ (by omega)⟩
theorem vidOut_any (v vm : Value) (l lb : List Int) (w : World) (h : isArg w v l) (hm : isByt w vm lb) (hb : ∀ x ∈ lb, 0 ≤ x ∧ x < 256) :
    Calls Try.prog 16 #[.agg #[v, vm]] w fun e w' => e = .returned (.int .i64 (Vd.ofN l lb).out) ∧ Below w.heap.size w w' := by
  obtain ⟨k0, bW, sW⟩ := boxes1 w (.cells #[v, vm] 25)
  have k0 : rowB _ _ _ _ := k0
  have hload := vidLoad_any v vm l lb _ (isArg_below h bW (Nat.le_refl _)) (isByt_below hm bW (Nat.le_refl _))
  have hfit := Vd.ofN_fit l lb hb
  clear h hm hb
  generalize Vd.ofN l lb = s at *
  obtain ⟨p, f, m⟩ := s
  have hp := hfit.p
  have hf := hfit.h
  have hl := hfit.m
  dsimp only at hp hf hl
  go_enter Try.func16, Try.ntmps16
  go_upto_region 2 with (first
    | (go_at_call 30; refine hload.mono ?_; rintro e w1 ⟨rfl, hb⟩; have bX := bW.trans (hb.mono bW.size); have hs := hb.size; rw [sW] at hs; have nz := rowB_new w1 53 (Vd.cs ⟨0, 0, zeros32⟩); clear hb hload)
    | (refine wpList_storeR rfl 53 _ _ rfl w1.heap.size rfl (Vd.cs ⟨p, f, m⟩) rfl (Vd.cs_one _) 53 (Vd.cs ⟨0, 0, zeros32⟩) (by rw [Vd.cs_size rfl, Vd.cs_size hl]) ?_ (agVd hl) ?_; exact nz))
  change Code.wp _ _ _ _ ((w1.alloc (.cells (Vd.cs ⟨0, 0, zeros32⟩) 53)).setRow w1.heap.size (Vd.cs ⟨p, f, m⟩))
  replace bX := below_rowR (bX.alloc (by omega) (.cells (Vd.cs ⟨0, 0, zeros32⟩) 53)) (Vd.cs ⟨p, f, m⟩) (show w.heap.size ≤ w1.heap.size by omega)
  replace nz := rowB_row nz (Vd.cs ⟨p, f, m⟩)
  generalize (w1.alloc (.cells (Vd.cs ⟨0, 0, zeros32⟩) 53)).setRow w1.heap.size (Vd.cs ⟨p, f, m⟩) = w2 at *
  generalize w1.heap.size = y at *
  have hC := vidColor_any ⟨p, f, m⟩ y p w2 nz hfit hp
  have c0 := rowB_cell nz 0 (v := .int .i64 p) rfl
  go_wp2_with (go_at_call 38; refine hC.mono ?_; rintro e w' ⟨rfl, rfl⟩)
  go_ret
  exact ⟨rfl, bX⟩
theorem vidAsk_any (p f : Int) (m : List Int) (y z : Nat) (c q : Int) (w : World) (h : rowB w y 53 (Vd.cs ⟨p, f, m⟩)) (hz : rowB w z 3 #[.int .i64 c]) (hfit : (⟨p, f, m⟩ : Vd).fit) (hq : 0 ≤ q ∧ q < 2560) :
    Calls Try.prog 41 #[.int .i64 q, .pointer (some ⟨y, 0, none⟩), .pointer (some ⟨z, 0, none⟩)] w fun e w' => e = .returned (.bool (vcol m q != c)) ∧ Below w.heap.size w w' := by
  have hC := fun w' (hw : rowB w' y 53 (Vd.cs ⟨p, f, m⟩)) => vidColor_any ⟨p, f, m⟩ y q w' hw hfit hq
  dsimp only at hC
  generalize vcol m q = C at *
  have c0 := rowB_cell hz 0 (v := .int .i64 c) rfl
  go_enter Try.func41, Try.ntmps41
  go_upto_region 1 with fail
  go_quiet ((go_at_call 38; exact quiet_left (hC _ (rowB_below h (below_drewN _ _ _) (rowB_lt h)))))
  go_wp2_with fail
  go_ret
  exact ⟨rfl, below_drewN _ _ _⟩
set_option maxHeartbeats 1000000 in
theorem vidNext_any (v vm : Value) (l lb : List Int) (w : World) (h : isArg w v l) (hm : isByt w vm lb) (hb : ∀ x ∈ lb, 0 ≤ x ∧ x < 256) :
    Calls Try.prog 18 #[.agg #[v, vm]] w fun e w' => e = .returned (.int .i64 (Vd.ofN l lb).next) ∧ Below w.heap.size w w' := by
  obtain ⟨k0, bW, sW⟩ := boxes1 w (.cells #[v, vm] 25)
  have k0 : rowB _ _ _ _ := k0
  have hload := vidLoad_any v vm l lb _ (isArg_below h bW (Nat.le_refl _)) (isByt_below hm bW (Nat.le_refl _))
  have hfit := Vd.ofN_fit l lb hb
  clear h hm hb
  generalize Vd.ofN l lb = s at *
  obtain ⟨p, f, m⟩ := s
  have hp := hfit.p
  have hf := hfit.h
  have hl := hfit.m
  dsimp only at hp hf hl
  go_enter Try.func18, Try.ntmps18
  go_upto_region 2 with (first
    | (go_at_call 30; refine hload.mono ?_; rintro e w1 ⟨rfl, hb⟩; have bX := bW.trans (hb.mono bW.size); have hs := hb.size; rw [sW] at hs; have nz := rowB_new w1 53 (Vd.cs ⟨0, 0, zeros32⟩); clear hb hload)
    | (refine wpList_storeR rfl 53 _ _ rfl w1.heap.size rfl (Vd.cs ⟨p, f, m⟩) rfl (Vd.cs_one _) 53 (Vd.cs ⟨0, 0, zeros32⟩) (by rw [Vd.cs_size rfl, Vd.cs_size hl]) ?_ (agVd hl) ?_; exact nz))
  change Code.wp _ _ _ _ ((w1.alloc (.cells (Vd.cs ⟨0, 0, zeros32⟩) 53)).setRow w1.heap.size (Vd.cs ⟨p, f, m⟩))
  replace bX := below_rowR (bX.alloc (by omega) (.cells (Vd.cs ⟨0, 0, zeros32⟩) 53)) (Vd.cs ⟨p, f, m⟩) (show w.heap.size ≤ w1.heap.size by omega)
  replace nz := rowB_row nz (Vd.cs ⟨p, f, m⟩)
  generalize (w1.alloc (.cells (Vd.cs ⟨0, 0, zeros32⟩) 53)).setRow w1.heap.size (Vd.cs ⟨p, f, m⟩) = w2 at *
  generalize w1.heap.size = y at *
  have hC := vidColor_any ⟨p, f, m⟩ y p w2 nz hfit hp
  have c0 := rowB_cell nz 0 (v := .int .i64 p) rfl
  have hN := @Vd.next_first ⟨p, f, m⟩ hfit
  dsimp only at hC hN
  generalize hX : vcol m p = X at *
  clear hX
  go_upto_region 3 with (go_at_call 38; refine hC.mono ?_; rintro e w' ⟨rfl, rfl⟩)
  change Code.wp _ _ _ _ (w2.alloc (.cells #[.int .i64 X] 3))
  have hz := rowB_new w2 3 #[.int .i64 X]
  have ly := rowB_lt nz
  replace nz := rowB_alloc nz (.cells #[.int .i64 X] 3)
  replace bX := bX.alloc bX.size (.cells #[.int .i64 X] 3)
  clear hC c0
  generalize w2.alloc (.cells #[.int .i64 X] 3) = w3 at *
  generalize w2.heap.size = z at *
  have hF := vidFirst_any ⟨p, f, m⟩ y 2559 41 #[] #[.pointer (some ⟨y, 0, none⟩), .pointer (some ⟨z, 0, none⟩)] (fun q => vcol m q != X) w3 nz hfit (by decide) (enters_of Try.func41 (by kernel_rfl) rfl) vis_next (fun q w' hq hb => vidAsk_any p f m y z X q w' (rowB_below nz hb (rowB_lt nz)) (rowB_below hz hb (rowB_lt hz)) hfit hq)
  have HF := Lib.hid hF
  clear hF
  go_upto_if 14 with (go_at_call 40; refine HF.out.mono ?_; rintro e w4 ⟨K, rfl, hF, hbF⟩)
  have hT := hN hF
  have hK : 0 ≤ K ∧ K < 2560 := by rcases hF with ⟨rfl, _⟩ | ⟨h, _⟩ <;> omega
  have HT := Lib.hid hT
  clear hT hN HF hF
  replace bX := bX.trans (hbF.mono bX.size)
  by_cases h0 : K = 0
  · subst h0
    go_wp2_with fail
    go_ret
    rw [HT.out]
    exact ⟨rfl, bX⟩
  · have hd : (K == 0) = false := by simpa using h0
    have wk : wrap64 (K - 1) = K - 1 := IntWalk.wrap64_in _ (by omega)
    go_wp2_with fail
    go_ret
    rw [HT.out, if_neg h0]
    exact ⟨rfl, bX⟩
end Go.Proofs.Ytambggbmkeemnaa
