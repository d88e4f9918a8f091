/- A part of the proof of ChipBanks: VidCd. -/
import Derived.Test.YtakaebjojgeehaaChipBanksK01
import Derived.Test.YtakaebjojgeehaaChipBanksK02
import Derived.Test.YtakaebjojgeehaaChipBanksK03
import Derived.Test.YtakaebjojgeehaaChipBanksK04
import Derived.Test.YtakaebjojgeehaaChipBanksK05
import Derived.Test.YtakaebjojgeehaaChipBanksK06
import Derived.Test.YtakaebjojgeehaaChipBanksK07
import Derived.Test.YtakaebjojgeehaaChipBanksK08
import Derived.Test.YtakaebjojgeehaaChipBanksK09
import Derived.Test.YtakaebjojgeehaaChipBanksK15
import Derived.Test.YtakaebjojgeehaaChipBanksK20
import Derived.Test.YtakaebjojgeehaaChipBanksK34
import Derived.Test.YtakaebjojgeehaaChipBanksK46
import Derived.Test.YtakaebjojgeehaaChipBanksK47
import Derived.Below
import Derived.BigQuiet
import Derived.ChangeMaps5
import Derived.Deep.DeepCutAuto
import Derived.Deep.Draws
import Derived.Deep.MidRow
import Derived.Deep.OwnRows
import Derived.Deep.QuietTactic
import Derived.Deep.RegionHeld3
import Derived.Deep.RegionWith
import Derived.Deep.Slices
import Derived.Deep.WholeRow
import Derived.Laws.CopyOwn
import Derived.Lib.Hide
import Derived.Lib.SmallJoins
import Derived.OpenShut
import Derived.OrdersHeld
import Derived.OwnWalk
import Derived.RowKit3
import Derived.Shelf.Abstract
import Derived.StillTactics
import Derived.StillTail
import Derived.StillTailTactics
import Derived.Test.YtakaebjojgeehaaChecked
import Derived.WalkKit
namespace Go.Proofs.Ytakaebjojgeehaa
open Go.RowKit
set_option maxRecDepth 100000
theorem Vd.cs_setH (p f x : Int) (m : List Int) : (Vd.cs ⟨p, f, m⟩).setIfInBounds 1 (.int .i64 x) = Vd.cs ⟨p, x, m⟩ := by unfold Vd.cs; rw [List.setIfInBounds_toArray]; rfl
theorem Vd.cs_setR (p f x : Int) (m : List Int) (i : Nat) : (Vd.cs ⟨p, f, m⟩).setIfInBounds (2 + i) (.int .u8 x) = Vd.cs ⟨p, f, m.set i x⟩ := by
  unfold Vd.cs
  rw [List.setIfInBounds_toArray, Nat.add_comm 2 i]
  simp
theorem vidNew_any (w : World) : Calls Try.prog 31 #[] w fun e w' => ∃ v, e = .returned v ∧ devV w.heap.size w' v ⟨2559, 0, zeros32⟩ ∧ Below w.heap.size w w' := by
  obtain ⟨k1, bW, sW⟩ := boxes1 w (.cells #[.slice none 0 0, .slice none 0 0] 34)
  have k1 : rowB _ _ _ _ := k1
  have hload := vidLoad_any (.slice none 0 0) (.slice none 0 0) [] [] _ (isArg_none (w.alloc (.cells #[.slice none 0 0, .slice none 0 0] 34))) (.inl ⟨_, _, rfl, rfl⟩)
  have hfit := Vd.ofN_fit [] [] (fun x hx => by cases hx)
  rw [show Vd.ofN [] [] = ⟨2559, 0, zeros32⟩ from rfl] at hload hfit
  go_enter Try.func31, Try.ntmps31
  go_upto_region 2 with (first
    | (go_at_call 59; refine hload.mono ?_; rintro e w1 ⟨rfl, hb⟩; have bX := bW.trans (hb.mono bW.size); have r1 := rowB_below k1 hb (rowB_lt k1); have hs := hb.size; rw [sW] at hs; have nz := rowB_new w1 68 (Vd.cs ⟨0, 0, zeros32⟩); clear hb hload)
    | (refine wpList_storeR rfl 68 _ _ rfl w1.heap.size rfl (Vd.cs ⟨2559, 0, zeros32⟩) rfl (Vd.cs_one _) 68 (Vd.cs ⟨0, 0, zeros32⟩) rfl ?_ (agVd rfl) ?_; exact nz))
  change Code.wp _ _ _ _ ((w1.alloc (.cells (Vd.cs ⟨0, 0, zeros32⟩) 68)).setRow w1.heap.size (Vd.cs ⟨2559, 0, zeros32⟩))
  replace r1 := rowB_row_other (rowB_alloc r1 (.cells (Vd.cs ⟨0, 0, zeros32⟩) 68)) (Vd.cs ⟨2559, 0, zeros32⟩) (show w1.heap.size ≠ w.heap.size by omega)
  replace bX := below_rowR (bX.alloc (by omega) (.cells (Vd.cs ⟨0, 0, zeros32⟩) 68)) (Vd.cs ⟨2559, 0, zeros32⟩) (show w.heap.size ≤ w1.heap.size by omega)
  replace nz := rowB_row nz (Vd.cs ⟨2559, 0, zeros32⟩)
  generalize (w1.alloc (.cells (Vd.cs ⟨0, 0, zeros32⟩) 68)).setRow w1.heap.size (Vd.cs ⟨2559, 0, zeros32⟩) = w2 at *
  generalize w1.heap.size = y at *
  have hdev := fun w' h' => vidDev_any ⟨2559, 0, zeros32⟩ y w' h' hfit
  go_wp2_with (first
    | (go_at_call 60; refine (hdev _ nz).mono ?_; rintro e w3 ⟨u, rfl, ⟨g, q, rfl, hg, hq, hgq, hr, hr2⟩, hb⟩; have r2 := rowB_below r1 hb (rowB_lt r1); have l2 := rowB_lt r1; replace bX := bX.trans (hb.mono bX.size))
    | (refine wpList_storeR rfl 34 _ _ rfl w.heap.size rfl #[.slice (some ⟨g, 0, none⟩) 2 2, .slice (some ⟨q, 0, none⟩) 32 32] rfl (dev2_one _ _ _ _ _ _) 34 #[.slice none 0 0, .slice none 0 0] rfl ?_ agDv ?_; with_reducible exact r2))
  refine bodyPost_ret (resultsR rfl w.heap.size _ rfl (rowB_row r2 _) agDv) rfl ?_
  exact ⟨_, rfl, ⟨g, q, rfl, by omega, by omega, hgq, rowB_row_other hr _ (by omega), rowB_row_other hr2 _ (by omega)⟩, below_rowR bX _ (by omega)⟩
set_option maxHeartbeats 2000000 in
theorem vidRead_any (v vm : Value) (l lb : List Int) (a : Int) (w : World) (h : isArg w v l) (hm : isByt w vm lb) (hb : ∀ x ∈ lb, 0 ≤ x ∧ x < 256) :
    Calls Try.prog 46 #[.agg #[v, vm], .int .i64 a] w fun e w' => ∃ u, e = .returned (.tuple #[u, .int .i64 ((Vd.ofN l lb).reg a)]) ∧ devV w.heap.size w' u ((Vd.ofN l lb).read a) ∧ Below w.heap.size w w' := by
  obtain ⟨k0, k1, bW, sW⟩ := boxes2 w (.cells #[v, vm] 34) (.cells #[.slice none 0 0, .slice none 0 0] 34)
  have k0 : rowB _ _ _ _ := k0
  have k1 : rowB _ _ _ _ := k1
  have hload := vidLoad_any v vm l lb _ (isArg_below h bW (Nat.le_refl _)) (isByt_below hm bW (Nat.le_refl _))
  have hfit := Vd.ofN_fit l lb hb
  clear h hm hb
  generalize Vd.ofN l lb = s at *
  obtain ⟨p, f, m⟩ := s
  have hp := hfit.p
  have hf := hfit.h
  have hl := hfit.m
  dsimp only at hp hf hl
  have t1 : p.tdiv 64 = p / 64 := Int.tdiv_eq_ediv_of_nonneg hp.1
  have t2 : p.tmod 64 = p % 64 := Int.tmod_eq_emod_of_nonneg hp.1
  have wt : wrap64 (p / 64) = p / 64 := IntWalk.wrap64_in _ (by omega)
  rcases (by omega : a < 0 ∨ 32 ≤ a ∨ a = 5 ∨ a = 6 ∨ a = 7 ∨ ((0 ≤ a ∧ a < 32) ∧ a ≠ 5 ∧ a ≠ 6 ∧ a ≠ 7)) with h | h | rfl | rfl | rfl | ⟨⟨h, h2⟩, n5, n6, n7⟩
  · have e : (⟨p, f, m⟩ : Vd).reg a = 0 := by unfold Vd.reg; rw [if_neg (by omega), if_neg (by omega), if_neg (by omega), if_neg (by omega)]
    rw [e]
    clear e
    have e : (⟨p, f, m⟩ : Vd).read a = ⟨p, f, m⟩ := by unfold Vd.read; rw [if_neg (by omega)]
    rw [e]
    clear e
    have d5 : (a == 5) = false := by simp; omega
    have d6 : (a == 6) = false := by simp; omega
    have d7 : (a == 7) = false := by simp; omega
    have dA : decide (0 ≤ a) = false := decide_eq_false (by omega)
    go_enter Try.func46, Try.ntmps46
    go_upto_region 2 with (first
      | (go_at_call 59; refine hload.mono ?_; rintro e w1 ⟨rfl, hb⟩; have bX := bW.trans (hb.mono bW.size); have r1 := rowB_below k1 hb (rowB_lt k1); have hs := hb.size; rw [sW] at hs; have nz := rowB_new w1 68 (Vd.cs ⟨0, 0, zeros32⟩); clear hb hload)
      | (refine wpList_storeR rfl 68 _ _ rfl w1.heap.size rfl (Vd.cs ⟨p, f, m⟩) rfl (Vd.cs_one _) 68 (Vd.cs ⟨0, 0, zeros32⟩) (by rw [Vd.cs_size rfl, Vd.cs_size hl]) ?_ (agVd hl) ?_; exact nz))
    change Code.wp _ _ _ _ ((w1.alloc (.cells (Vd.cs ⟨0, 0, zeros32⟩) 68)).setRow w1.heap.size (Vd.cs ⟨p, f, m⟩))
    replace r1 := rowB_row_other (rowB_alloc r1 (.cells (Vd.cs ⟨0, 0, zeros32⟩) 68)) (Vd.cs ⟨p, f, m⟩) (show w1.heap.size ≠ w.heap.size + 1 by omega)
    replace bX := below_rowR (bX.alloc (by omega) (.cells (Vd.cs ⟨0, 0, zeros32⟩) 68)) (Vd.cs ⟨p, f, m⟩) (show w.heap.size ≤ w1.heap.size by omega)
    replace nz := rowB_row nz (Vd.cs ⟨p, f, m⟩)
    generalize (w1.alloc (.cells (Vd.cs ⟨0, 0, zeros32⟩) 68)).setRow w1.heap.size (Vd.cs ⟨p, f, m⟩) = w2 at *
    generalize w1.heap.size = y at *
    obtain ⟨c0, c1⟩ : w2.cell? ⟨y, 0, none⟩ = some (.int .i64 p) ∧ w2.cell? ⟨y, 1, none⟩ = some (.int .i64 f) := ⟨rowB_cell nz 0 rfl, rowB_cell nz 1 rfl⟩
    have hdev := fun w' h' => vidDev_any ⟨p, f, m⟩ y w' h' hfit
    go_wp2_with (first
      | (go_at_call 60; refine (hdev _ nz).mono ?_; rintro e w3 ⟨u, rfl, ⟨g, q, rfl, hg, hq, hgq, hr, hr2⟩, hb⟩; have r2 := rowB_below r1 hb (rowB_lt r1); have l2 := rowB_lt r1; replace bX := bX.trans (hb.mono bX.size))
      | (refine wpList_storeR rfl 34 _ _ rfl (w.heap.size + 1) rfl #[.slice (some ⟨g, 0, none⟩) 2 2, .slice (some ⟨q, 0, none⟩) 32 32] rfl (dev2_one _ _ _ _ _ _) 34 #[.slice none 0 0, .slice none 0 0] rfl ?_ agDv ?_; with_reducible exact r2))
    refine bodyPost_ret (resultsRT rfl (w.heap.size + 1) _ rfl (rowB_row r2 _) agDv rfl) rfl ?_
    exact ⟨_, rfl, ⟨g, q, rfl, by omega, by omega, hgq, rowB_row_other hr _ (by omega), rowB_row_other hr2 _ (by omega)⟩, below_rowR bX _ (by omega)⟩
  · have e : (⟨p, f, m⟩ : Vd).reg a = 0 := by unfold Vd.reg; rw [if_neg (by omega), if_neg (by omega), if_neg (by omega), if_neg (by omega)]
    rw [e]
    clear e
    have e : (⟨p, f, m⟩ : Vd).read a = ⟨p, f, m⟩ := by unfold Vd.read; rw [if_neg (by omega)]
    rw [e]
    clear e
    have d5 : (a == 5) = false := by simp; omega
    have d6 : (a == 6) = false := by simp; omega
    have d7 : (a == 7) = false := by simp; omega
    have dA : decide (0 ≤ a) = true := decide_eq_true (by omega)
    have dB : decide (a < 32) = false := decide_eq_false (by omega)
    go_enter Try.func46, Try.ntmps46
    go_upto_region 2 with (first
      | (go_at_call 59; refine hload.mono ?_; rintro e w1 ⟨rfl, hb⟩; have bX := bW.trans (hb.mono bW.size); have r1 := rowB_below k1 hb (rowB_lt k1); have hs := hb.size; rw [sW] at hs; have nz := rowB_new w1 68 (Vd.cs ⟨0, 0, zeros32⟩); clear hb hload)
      | (refine wpList_storeR rfl 68 _ _ rfl w1.heap.size rfl (Vd.cs ⟨p, f, m⟩) rfl (Vd.cs_one _) 68 (Vd.cs ⟨0, 0, zeros32⟩) (by rw [Vd.cs_size rfl, Vd.cs_size hl]) ?_ (agVd hl) ?_; exact nz))
    change Code.wp _ _ _ _ ((w1.alloc (.cells (Vd.cs ⟨0, 0, zeros32⟩) 68)).setRow w1.heap.size (Vd.cs ⟨p, f, m⟩))
    replace r1 := rowB_row_other (rowB_alloc r1 (.cells (Vd.cs ⟨0, 0, zeros32⟩) 68)) (Vd.cs ⟨p, f, m⟩) (show w1.heap.size ≠ w.heap.size + 1 by omega)
    replace bX := below_rowR (bX.alloc (by omega) (.cells (Vd.cs ⟨0, 0, zeros32⟩) 68)) (Vd.cs ⟨p, f, m⟩) (show w.heap.size ≤ w1.heap.size by omega)
    replace nz := rowB_row nz (Vd.cs ⟨p, f, m⟩)
    generalize (w1.alloc (.cells (Vd.cs ⟨0, 0, zeros32⟩) 68)).setRow w1.heap.size (Vd.cs ⟨p, f, m⟩) = w2 at *
    generalize w1.heap.size = y at *
    obtain ⟨c0, c1⟩ : w2.cell? ⟨y, 0, none⟩ = some (.int .i64 p) ∧ w2.cell? ⟨y, 1, none⟩ = some (.int .i64 f) := ⟨rowB_cell nz 0 rfl, rowB_cell nz 1 rfl⟩
    have hdev := fun w' h' => vidDev_any ⟨p, f, m⟩ y w' h' hfit
    go_wp2_with (first
      | (go_at_call 60; refine (hdev _ nz).mono ?_; rintro e w3 ⟨u, rfl, ⟨g, q, rfl, hg, hq, hgq, hr, hr2⟩, hb⟩; have r2 := rowB_below r1 hb (rowB_lt r1); have l2 := rowB_lt r1; replace bX := bX.trans (hb.mono bX.size))
      | (refine wpList_storeR rfl 34 _ _ rfl (w.heap.size + 1) rfl #[.slice (some ⟨g, 0, none⟩) 2 2, .slice (some ⟨q, 0, none⟩) 32 32] rfl (dev2_one _ _ _ _ _ _) 34 #[.slice none 0 0, .slice none 0 0] rfl ?_ agDv ?_; with_reducible exact r2))
    refine bodyPost_ret (resultsRT rfl (w.heap.size + 1) _ rfl (rowB_row r2 _) agDv rfl) rfl ?_
    exact ⟨_, rfl, ⟨g, q, rfl, by omega, by omega, hgq, rowB_row_other hr _ (by omega), rowB_row_other hr2 _ (by omega)⟩, below_rowR bX _ (by omega)⟩
  · have e : (⟨p, f, m⟩ : Vd).reg 5 = p / 64 := rfl
    rw [e]
    clear e
    have e : (⟨p, f, m⟩ : Vd).read 5 = ⟨p, f, m⟩ := rfl
    rw [e]
    clear e
    go_enter Try.func46, Try.ntmps46
    go_upto_region 2 with (first
      | (go_at_call 59; refine hload.mono ?_; rintro e w1 ⟨rfl, hb⟩; have bX := bW.trans (hb.mono bW.size); have r1 := rowB_below k1 hb (rowB_lt k1); have hs := hb.size; rw [sW] at hs; have nz := rowB_new w1 68 (Vd.cs ⟨0, 0, zeros32⟩); clear hb hload)
      | (refine wpList_storeR rfl 68 _ _ rfl w1.heap.size rfl (Vd.cs ⟨p, f, m⟩) rfl (Vd.cs_one _) 68 (Vd.cs ⟨0, 0, zeros32⟩) (by rw [Vd.cs_size rfl, Vd.cs_size hl]) ?_ (agVd hl) ?_; exact nz))
    change Code.wp _ _ _ _ ((w1.alloc (.cells (Vd.cs ⟨0, 0, zeros32⟩) 68)).setRow w1.heap.size (Vd.cs ⟨p, f, m⟩))
    replace r1 := rowB_row_other (rowB_alloc r1 (.cells (Vd.cs ⟨0, 0, zeros32⟩) 68)) (Vd.cs ⟨p, f, m⟩) (show w1.heap.size ≠ w.heap.size + 1 by omega)
    replace bX := below_rowR (bX.alloc (by omega) (.cells (Vd.cs ⟨0, 0, zeros32⟩) 68)) (Vd.cs ⟨p, f, m⟩) (show w.heap.size ≤ w1.heap.size by omega)
    replace nz := rowB_row nz (Vd.cs ⟨p, f, m⟩)
    generalize (w1.alloc (.cells (Vd.cs ⟨0, 0, zeros32⟩) 68)).setRow w1.heap.size (Vd.cs ⟨p, f, m⟩) = w2 at *
    generalize w1.heap.size = y at *
    obtain ⟨c0, c1⟩ : w2.cell? ⟨y, 0, none⟩ = some (.int .i64 p) ∧ w2.cell? ⟨y, 1, none⟩ = some (.int .i64 f) := ⟨rowB_cell nz 0 rfl, rowB_cell nz 1 rfl⟩
    have hdev := fun w' h' => vidDev_any ⟨p, f, m⟩ y w' h' hfit
    go_wp2_with (first
      | (go_at_call 60; refine (hdev _ nz).mono ?_; rintro e w3 ⟨u, rfl, ⟨g, q, rfl, hg, hq, hgq, hr, hr2⟩, hb⟩; have r2 := rowB_below r1 hb (rowB_lt r1); have l2 := rowB_lt r1; replace bX := bX.trans (hb.mono bX.size))
      | (refine wpList_storeR rfl 34 _ _ rfl (w.heap.size + 1) rfl #[.slice (some ⟨g, 0, none⟩) 2 2, .slice (some ⟨q, 0, none⟩) 32 32] rfl (dev2_one _ _ _ _ _ _) 34 #[.slice none 0 0, .slice none 0 0] rfl ?_ agDv ?_; with_reducible exact r2))
    refine bodyPost_ret (resultsRT rfl (w.heap.size + 1) _ rfl (rowB_row r2 _) agDv rfl) rfl ?_
    exact ⟨_, rfl, ⟨g, q, rfl, by omega, by omega, hgq, rowB_row_other hr _ (by omega), rowB_row_other hr2 _ (by omega)⟩, below_rowR bX _ (by omega)⟩
  · have e : (⟨p, f, m⟩ : Vd).reg 6 = p % 64 := rfl
    rw [e]
    clear e
    have e : (⟨p, f, m⟩ : Vd).read 6 = ⟨p, f, m⟩ := rfl
    rw [e]
    clear e
    go_enter Try.func46, Try.ntmps46
    go_upto_region 2 with (first
      | (go_at_call 59; refine hload.mono ?_; rintro e w1 ⟨rfl, hb⟩; have bX := bW.trans (hb.mono bW.size); have r1 := rowB_below k1 hb (rowB_lt k1); have hs := hb.size; rw [sW] at hs; have nz := rowB_new w1 68 (Vd.cs ⟨0, 0, zeros32⟩); clear hb hload)
      | (refine wpList_storeR rfl 68 _ _ rfl w1.heap.size rfl (Vd.cs ⟨p, f, m⟩) rfl (Vd.cs_one _) 68 (Vd.cs ⟨0, 0, zeros32⟩) (by rw [Vd.cs_size rfl, Vd.cs_size hl]) ?_ (agVd hl) ?_; exact nz))
    change Code.wp _ _ _ _ ((w1.alloc (.cells (Vd.cs ⟨0, 0, zeros32⟩) 68)).setRow w1.heap.size (Vd.cs ⟨p, f, m⟩))
    replace r1 := rowB_row_other (rowB_alloc r1 (.cells (Vd.cs ⟨0, 0, zeros32⟩) 68)) (Vd.cs ⟨p, f, m⟩) (show w1.heap.size ≠ w.heap.size + 1 by omega)
    replace bX := below_rowR (bX.alloc (by omega) (.cells (Vd.cs ⟨0, 0, zeros32⟩) 68)) (Vd.cs ⟨p, f, m⟩) (show w.heap.size ≤ w1.heap.size by omega)
    replace nz := rowB_row nz (Vd.cs ⟨p, f, m⟩)
    generalize (w1.alloc (.cells (Vd.cs ⟨0, 0, zeros32⟩) 68)).setRow w1.heap.size (Vd.cs ⟨p, f, m⟩) = w2 at *
    generalize w1.heap.size = y at *
    obtain ⟨c0, c1⟩ : w2.cell? ⟨y, 0, none⟩ = some (.int .i64 p) ∧ w2.cell? ⟨y, 1, none⟩ = some (.int .i64 f) := ⟨rowB_cell nz 0 rfl, rowB_cell nz 1 rfl⟩
    have hdev := fun w' h' => vidDev_any ⟨p, f, m⟩ y w' h' hfit
    go_wp2_with (first
      | (go_at_call 60; refine (hdev _ nz).mono ?_; rintro e w3 ⟨u, rfl, ⟨g, q, rfl, hg, hq, hgq, hr, hr2⟩, hb⟩; have r2 := rowB_below r1 hb (rowB_lt r1); have l2 := rowB_lt r1; replace bX := bX.trans (hb.mono bX.size))
      | (refine wpList_storeR rfl 34 _ _ rfl (w.heap.size + 1) rfl #[.slice (some ⟨g, 0, none⟩) 2 2, .slice (some ⟨q, 0, none⟩) 32 32] rfl (dev2_one _ _ _ _ _ _) 34 #[.slice none 0 0, .slice none 0 0] rfl ?_ agDv ?_; with_reducible exact r2))
    refine bodyPost_ret (resultsRT rfl (w.heap.size + 1) _ rfl (rowB_row r2 _) agDv rfl) rfl ?_
    exact ⟨_, rfl, ⟨g, q, rfl, by omega, by omega, hgq, rowB_row_other hr _ (by omega), rowB_row_other hr2 _ (by omega)⟩, below_rowR bX _ (by omega)⟩
  · have e : (⟨p, f, m⟩ : Vd).reg 7 = f := rfl
    rw [e]
    clear e
    have e : (⟨p, f, m⟩ : Vd).read 7 = ⟨p, 0, m⟩ := rfl
    rw [e]
    clear e
    go_enter Try.func46, Try.ntmps46
    go_upto_region 2 with (first
      | (go_at_call 59; refine hload.mono ?_; rintro e w1 ⟨rfl, hb⟩; have bX := bW.trans (hb.mono bW.size); have r1 := rowB_below k1 hb (rowB_lt k1); have hs := hb.size; rw [sW] at hs; have nz := rowB_new w1 68 (Vd.cs ⟨0, 0, zeros32⟩); clear hb hload)
      | (refine wpList_storeR rfl 68 _ _ rfl w1.heap.size rfl (Vd.cs ⟨p, f, m⟩) rfl (Vd.cs_one _) 68 (Vd.cs ⟨0, 0, zeros32⟩) (by rw [Vd.cs_size rfl, Vd.cs_size hl]) ?_ (agVd hl) ?_; exact nz))
    change Code.wp _ _ _ _ ((w1.alloc (.cells (Vd.cs ⟨0, 0, zeros32⟩) 68)).setRow w1.heap.size (Vd.cs ⟨p, f, m⟩))
    replace r1 := rowB_row_other (rowB_alloc r1 (.cells (Vd.cs ⟨0, 0, zeros32⟩) 68)) (Vd.cs ⟨p, f, m⟩) (show w1.heap.size ≠ w.heap.size + 1 by omega)
    replace bX := below_rowR (bX.alloc (by omega) (.cells (Vd.cs ⟨0, 0, zeros32⟩) 68)) (Vd.cs ⟨p, f, m⟩) (show w.heap.size ≤ w1.heap.size by omega)
    replace nz := rowB_row nz (Vd.cs ⟨p, f, m⟩)
    generalize (w1.alloc (.cells (Vd.cs ⟨0, 0, zeros32⟩) 68)).setRow w1.heap.size (Vd.cs ⟨p, f, m⟩) = w2 at *
    generalize w1.heap.size = y at *
    obtain ⟨c0, c1⟩ : w2.cell? ⟨y, 0, none⟩ = some (.int .i64 p) ∧ w2.cell? ⟨y, 1, none⟩ = some (.int .i64 f) := ⟨rowB_cell nz 0 rfl, rowB_cell nz 1 rfl⟩
    have z1 := rowB_free nz 1
    go_upto_region 11 with fail
    replace nz : rowB _ y 68 (Vd.cs ⟨p, 0, m⟩) := rowB_eq (rowB_set nz 1 (.int .i64 0)) (Vd.cs_setH _ _ _ _)
    replace r1 := rowB_other r1 ⟨y, 1, none⟩ (.int .i64 0) (show y ≠ w.heap.size + 1 by omega)
    replace bX := Below.setCell bX (p := ⟨y, 1, none⟩) (show w.heap.size ≤ y by omega) (.int .i64 0)
    have hdev := fun w' h' => vidDev_any ⟨p, 0, m⟩ y w' h' ⟨hfit.p, ⟨(by decide : (0 : Int) ≤ 0), (by decide : (0 : Int) < 2)⟩, hfit.m, hfit.b⟩
    go_wp2_with (first
      | (go_at_call 60; refine (hdev _ nz).mono ?_; rintro e w3 ⟨u, rfl, ⟨g, q, rfl, hg, hq, hgq, hr, hr2⟩, hb⟩; have r2 := rowB_below r1 hb (rowB_lt r1); have l2 := rowB_lt r1; replace bX := bX.trans (hb.mono bX.size))
      | (refine wpList_storeR rfl 34 _ _ rfl (w.heap.size + 1) rfl #[.slice (some ⟨g, 0, none⟩) 2 2, .slice (some ⟨q, 0, none⟩) 32 32] rfl (dev2_one _ _ _ _ _ _) 34 #[.slice none 0 0, .slice none 0 0] rfl ?_ agDv ?_; with_reducible exact r2))
    refine bodyPost_ret (resultsRT rfl (w.heap.size + 1) _ rfl (rowB_row r2 _) agDv rfl) rfl ?_
    exact ⟨_, rfl, ⟨g, q, rfl, by omega, by omega, hgq, rowB_row_other hr _ (by omega), rowB_row_other hr2 _ (by omega)⟩, below_rowR bX _ (by omega)⟩
  · have e : (⟨p, f, m⟩ : Vd).reg a = vreg m a.toNat := by unfold Vd.reg; rw [if_neg n5, if_neg n6, if_neg n7, if_pos ⟨h, h2⟩]
    rw [e]
    clear e
    have e : (⟨p, f, m⟩ : Vd).read a = ⟨p, f, m⟩ := by unfold Vd.read; rw [if_neg n7]
    rw [e]
    clear e
    have d5 : (a == 5) = false := by simp; omega
    have d6 : (a == 6) = false := by simp; omega
    have d7 : (a == 7) = false := by simp; omega
    have dA : decide (0 ≤ a) = true := decide_eq_true (by omega)
    have dB : decide (a < 32) = true := decide_eq_true (by omega)
    go_enter Try.func46, Try.ntmps46
    go_upto_region 2 with (first
      | (go_at_call 59; refine hload.mono ?_; rintro e w1 ⟨rfl, hb⟩; have bX := bW.trans (hb.mono bW.size); have r1 := rowB_below k1 hb (rowB_lt k1); have hs := hb.size; rw [sW] at hs; have nz := rowB_new w1 68 (Vd.cs ⟨0, 0, zeros32⟩); clear hb hload)
      | (refine wpList_storeR rfl 68 _ _ rfl w1.heap.size rfl (Vd.cs ⟨p, f, m⟩) rfl (Vd.cs_one _) 68 (Vd.cs ⟨0, 0, zeros32⟩) (by rw [Vd.cs_size rfl, Vd.cs_size hl]) ?_ (agVd hl) ?_; exact nz))
    change Code.wp _ _ _ _ ((w1.alloc (.cells (Vd.cs ⟨0, 0, zeros32⟩) 68)).setRow w1.heap.size (Vd.cs ⟨p, f, m⟩))
    replace r1 := rowB_row_other (rowB_alloc r1 (.cells (Vd.cs ⟨0, 0, zeros32⟩) 68)) (Vd.cs ⟨p, f, m⟩) (show w1.heap.size ≠ w.heap.size + 1 by omega)
    replace bX := below_rowR (bX.alloc (by omega) (.cells (Vd.cs ⟨0, 0, zeros32⟩) 68)) (Vd.cs ⟨p, f, m⟩) (show w.heap.size ≤ w1.heap.size by omega)
    replace nz := rowB_row nz (Vd.cs ⟨p, f, m⟩)
    generalize (w1.alloc (.cells (Vd.cs ⟨0, 0, zeros32⟩) 68)).setRow w1.heap.size (Vd.cs ⟨p, f, m⟩) = w2 at *
    generalize w1.heap.size = y at *
    obtain ⟨c0, c1⟩ : w2.cell? ⟨y, 0, none⟩ = some (.int .i64 p) ∧ w2.cell? ⟨y, 1, none⟩ = some (.int .i64 f) := ⟨rowB_cell nz 0 rfl, rowB_cell nz 1 rfl⟩
    have hreg := vidReg_any ⟨p, f, m⟩ y a w2 nz hfit ⟨h, h2⟩
    go_upto_region 11 with (go_at_call 78; refine hreg.mono ?_; rintro e w' ⟨rfl, rfl⟩)
    have hdev := fun w' h' => vidDev_any ⟨p, f, m⟩ y w' h' hfit
    go_wp2_with (first
      | (go_at_call 60; refine (hdev _ nz).mono ?_; rintro e w3 ⟨u, rfl, ⟨g, q, rfl, hg, hq, hgq, hr, hr2⟩, hb⟩; have r2 := rowB_below r1 hb (rowB_lt r1); have l2 := rowB_lt r1; replace bX := bX.trans (hb.mono bX.size))
      | (refine wpList_storeR rfl 34 _ _ rfl (w.heap.size + 1) rfl #[.slice (some ⟨g, 0, none⟩) 2 2, .slice (some ⟨q, 0, none⟩) 32 32] rfl (dev2_one _ _ _ _ _ _) 34 #[.slice none 0 0, .slice none 0 0] rfl ?_ agDv ?_; with_reducible exact r2))
    refine bodyPost_ret (resultsRT rfl (w.heap.size + 1) _ rfl (rowB_row r2 _) agDv rfl) rfl ?_
    exact ⟨_, rfl, ⟨g, q, rfl, by omega, by omega, hgq, rowB_row_other hr _ (by omega), rowB_row_other hr2 _ (by omega)⟩, below_rowR bX _ (by omega)⟩
set_option maxHeartbeats 2000000 in
theorem vidWrite_any (v vm : Value) (l lb : List Int) (a d : Int) (w : World) (h : isArg w v l) (hm : isByt w vm lb) (hb : ∀ x ∈ lb, 0 ≤ x ∧ x < 256) :
    Calls Try.prog 39 #[.agg #[v, vm], .int .i64 a, .int .i64 d] w fun e w' => ∃ u, e = .returned u ∧ devV w.heap.size w' u ((Vd.ofN l lb).write a d) ∧ Below w.heap.size w w' := by
  obtain ⟨k0, k1, bW, sW⟩ := boxes2 w (.cells #[v, vm] 34) (.cells #[.slice none 0 0, .slice none 0 0] 34)
  have k0 : rowB _ _ _ _ := k0
  have k1 : rowB _ _ _ _ := k1
  have hload := vidLoad_any v vm l lb _ (isArg_below h bW (Nat.le_refl _)) (isByt_below hm bW (Nat.le_refl _))
  have hfit := Vd.ofN_fit l lb hb
  clear h hm hb
  generalize Vd.ofN l lb = s at *
  obtain ⟨p, f, m⟩ := s
  have hp := hfit.p
  have hf := hfit.h
  have hl := hfit.m
  dsimp only at hp hf hl
  rcases (by omega : (a < 0 ∨ 32 ≤ a ∨ (5 ≤ a ∧ a ≤ 7)) ∨ ((0 ≤ a ∧ a < 32) ∧ a ≠ 5 ∧ a ≠ 6 ∧ a ≠ 7)) with h | ⟨⟨h, h2⟩, n5, n6, n7⟩
  · have e : (⟨p, f, m⟩ : Vd).write a d = ⟨p, f, m⟩ := by unfold Vd.write; rw [if_neg (by omega)]
    rw [e]
    clear e
    rcases (by omega : a < 0 ∨ 32 ≤ a ∨ a = 5 ∨ a = 6 ∨ a = 7) with h | h | rfl | rfl | rfl
    · have d5 : (a == 5) = false := by simp; omega
      have d6 : (a == 6) = false := by simp; omega
      have d7 : (a == 7) = false := by simp; omega
      have dA : decide (0 ≤ a) = false := decide_eq_false (by omega)
      go_enter Try.func39, Try.ntmps39
      go_upto_region 2 with (first
        | (go_at_call 59; refine hload.mono ?_; rintro e w1 ⟨rfl, hb⟩; have bX := bW.trans (hb.mono bW.size); have r1 := rowB_below k1 hb (rowB_lt k1); have hs := hb.size; rw [sW] at hs; have nz := rowB_new w1 68 (Vd.cs ⟨0, 0, zeros32⟩); clear hb hload)
        | (refine wpList_storeR rfl 68 _ _ rfl w1.heap.size rfl (Vd.cs ⟨p, f, m⟩) rfl (Vd.cs_one _) 68 (Vd.cs ⟨0, 0, zeros32⟩) (by rw [Vd.cs_size rfl, Vd.cs_size hl]) ?_ (agVd hl) ?_; exact nz))
      change Code.wp _ _ _ _ ((w1.alloc (.cells (Vd.cs ⟨0, 0, zeros32⟩) 68)).setRow w1.heap.size (Vd.cs ⟨p, f, m⟩))
      replace r1 := rowB_row_other (rowB_alloc r1 (.cells (Vd.cs ⟨0, 0, zeros32⟩) 68)) (Vd.cs ⟨p, f, m⟩) (show w1.heap.size ≠ w.heap.size + 1 by omega)
      replace bX := below_rowR (bX.alloc (by omega) (.cells (Vd.cs ⟨0, 0, zeros32⟩) 68)) (Vd.cs ⟨p, f, m⟩) (show w.heap.size ≤ w1.heap.size by omega)
      replace nz := rowB_row nz (Vd.cs ⟨p, f, m⟩)
      generalize (w1.alloc (.cells (Vd.cs ⟨0, 0, zeros32⟩) 68)).setRow w1.heap.size (Vd.cs ⟨p, f, m⟩) = w2 at *
      generalize w1.heap.size = y at *
      have hdev := fun w' h' => vidDev_any ⟨p, f, m⟩ y w' h' hfit
      go_wp2_with (first
        | (go_at_call 60; refine (hdev _ nz).mono ?_; rintro e w3 ⟨u, rfl, ⟨g, q, rfl, hg, hq, hgq, hr, hr2⟩, hb⟩; have r2 := rowB_below r1 hb (rowB_lt r1); have l2 := rowB_lt r1; replace bX := bX.trans (hb.mono bX.size))
        | (refine wpList_storeR rfl 34 _ _ rfl (w.heap.size + 1) rfl #[.slice (some ⟨g, 0, none⟩) 2 2, .slice (some ⟨q, 0, none⟩) 32 32] rfl (dev2_one _ _ _ _ _ _) 34 #[.slice none 0 0, .slice none 0 0] rfl ?_ agDv ?_; with_reducible exact r2))
      refine bodyPost_ret (resultsR rfl (w.heap.size + 1) _ rfl (rowB_row r2 _) agDv) rfl ?_
      exact ⟨_, rfl, ⟨g, q, rfl, by omega, by omega, hgq, rowB_row_other hr _ (by omega), rowB_row_other hr2 _ (by omega)⟩, below_rowR bX _ (by omega)⟩
    · have d5 : (a == 5) = false := by simp; omega
      have d6 : (a == 6) = false := by simp; omega
      have d7 : (a == 7) = false := by simp; omega
      have dA : decide (0 ≤ a) = true := decide_eq_true (by omega)
      have dB : decide (a < 32) = false := decide_eq_false (by omega)
      go_enter Try.func39, Try.ntmps39
      go_upto_region 2 with (first
        | (go_at_call 59; refine hload.mono ?_; rintro e w1 ⟨rfl, hb⟩; have bX := bW.trans (hb.mono bW.size); have r1 := rowB_below k1 hb (rowB_lt k1); have hs := hb.size; rw [sW] at hs; have nz := rowB_new w1 68 (Vd.cs ⟨0, 0, zeros32⟩); clear hb hload)
        | (refine wpList_storeR rfl 68 _ _ rfl w1.heap.size rfl (Vd.cs ⟨p, f, m⟩) rfl (Vd.cs_one _) 68 (Vd.cs ⟨0, 0, zeros32⟩) (by rw [Vd.cs_size rfl, Vd.cs_size hl]) ?_ (agVd hl) ?_; exact nz))
      change Code.wp _ _ _ _ ((w1.alloc (.cells (Vd.cs ⟨0, 0, zeros32⟩) 68)).setRow w1.heap.size (Vd.cs ⟨p, f, m⟩))
      replace r1 := rowB_row_other (rowB_alloc r1 (.cells (Vd.cs ⟨0, 0, zeros32⟩) 68)) (Vd.cs ⟨p, f, m⟩) (show w1.heap.size ≠ w.heap.size + 1 by omega)
      replace bX := below_rowR (bX.alloc (by omega) (.cells (Vd.cs ⟨0, 0, zeros32⟩) 68)) (Vd.cs ⟨p, f, m⟩) (show w.heap.size ≤ w1.heap.size by omega)
      replace nz := rowB_row nz (Vd.cs ⟨p, f, m⟩)
      generalize (w1.alloc (.cells (Vd.cs ⟨0, 0, zeros32⟩) 68)).setRow w1.heap.size (Vd.cs ⟨p, f, m⟩) = w2 at *
      generalize w1.heap.size = y at *
      have hdev := fun w' h' => vidDev_any ⟨p, f, m⟩ y w' h' hfit
      go_wp2_with (first
        | (go_at_call 60; refine (hdev _ nz).mono ?_; rintro e w3 ⟨u, rfl, ⟨g, q, rfl, hg, hq, hgq, hr, hr2⟩, hb⟩; have r2 := rowB_below r1 hb (rowB_lt r1); have l2 := rowB_lt r1; replace bX := bX.trans (hb.mono bX.size))
        | (refine wpList_storeR rfl 34 _ _ rfl (w.heap.size + 1) rfl #[.slice (some ⟨g, 0, none⟩) 2 2, .slice (some ⟨q, 0, none⟩) 32 32] rfl (dev2_one _ _ _ _ _ _) 34 #[.slice none 0 0, .slice none 0 0] rfl ?_ agDv ?_; with_reducible exact r2))
      refine bodyPost_ret (resultsR rfl (w.heap.size + 1) _ rfl (rowB_row r2 _) agDv) rfl ?_
      exact ⟨_, rfl, ⟨g, q, rfl, by omega, by omega, hgq, rowB_row_other hr _ (by omega), rowB_row_other hr2 _ (by omega)⟩, below_rowR bX _ (by omega)⟩
    · go_enter Try.func39, Try.ntmps39
      go_upto_region 2 with (first
        | (go_at_call 59; refine hload.mono ?_; rintro e w1 ⟨rfl, hb⟩; have bX := bW.trans (hb.mono bW.size); have r1 := rowB_below k1 hb (rowB_lt k1); have hs := hb.size; rw [sW] at hs; have nz := rowB_new w1 68 (Vd.cs ⟨0, 0, zeros32⟩); clear hb hload)
        | (refine wpList_storeR rfl 68 _ _ rfl w1.heap.size rfl (Vd.cs ⟨p, f, m⟩) rfl (Vd.cs_one _) 68 (Vd.cs ⟨0, 0, zeros32⟩) (by rw [Vd.cs_size rfl, Vd.cs_size hl]) ?_ (agVd hl) ?_; exact nz))
      change Code.wp _ _ _ _ ((w1.alloc (.cells (Vd.cs ⟨0, 0, zeros32⟩) 68)).setRow w1.heap.size (Vd.cs ⟨p, f, m⟩))
      replace r1 := rowB_row_other (rowB_alloc r1 (.cells (Vd.cs ⟨0, 0, zeros32⟩) 68)) (Vd.cs ⟨p, f, m⟩) (show w1.heap.size ≠ w.heap.size + 1 by omega)
      replace bX := below_rowR (bX.alloc (by omega) (.cells (Vd.cs ⟨0, 0, zeros32⟩) 68)) (Vd.cs ⟨p, f, m⟩) (show w.heap.size ≤ w1.heap.size by omega)
      replace nz := rowB_row nz (Vd.cs ⟨p, f, m⟩)
      generalize (w1.alloc (.cells (Vd.cs ⟨0, 0, zeros32⟩) 68)).setRow w1.heap.size (Vd.cs ⟨p, f, m⟩) = w2 at *
      generalize w1.heap.size = y at *
      have hdev := fun w' h' => vidDev_any ⟨p, f, m⟩ y w' h' hfit
      go_wp2_with (first
        | (go_at_call 60; refine (hdev _ nz).mono ?_; rintro e w3 ⟨u, rfl, ⟨g, q, rfl, hg, hq, hgq, hr, hr2⟩, hb⟩; have r2 := rowB_below r1 hb (rowB_lt r1); have l2 := rowB_lt r1; replace bX := bX.trans (hb.mono bX.size))
        | (refine wpList_storeR rfl 34 _ _ rfl (w.heap.size + 1) rfl #[.slice (some ⟨g, 0, none⟩) 2 2, .slice (some ⟨q, 0, none⟩) 32 32] rfl (dev2_one _ _ _ _ _ _) 34 #[.slice none 0 0, .slice none 0 0] rfl ?_ agDv ?_; with_reducible exact r2))
      refine bodyPost_ret (resultsR rfl (w.heap.size + 1) _ rfl (rowB_row r2 _) agDv) rfl ?_
      exact ⟨_, rfl, ⟨g, q, rfl, by omega, by omega, hgq, rowB_row_other hr _ (by omega), rowB_row_other hr2 _ (by omega)⟩, below_rowR bX _ (by omega)⟩
    · go_enter Try.func39, Try.ntmps39
      go_upto_region 2 with (first
        | (go_at_call 59; refine hload.mono ?_; rintro e w1 ⟨rfl, hb⟩; have bX := bW.trans (hb.mono bW.size); have r1 := rowB_below k1 hb (rowB_lt k1); have hs := hb.size; rw [sW] at hs; have nz := rowB_new w1 68 (Vd.cs ⟨0, 0, zeros32⟩); clear hb hload)
        | (refine wpList_storeR rfl 68 _ _ rfl w1.heap.size rfl (Vd.cs ⟨p, f, m⟩) rfl (Vd.cs_one _) 68 (Vd.cs ⟨0, 0, zeros32⟩) (by rw [Vd.cs_size rfl, Vd.cs_size hl]) ?_ (agVd hl) ?_; exact nz))
      change Code.wp _ _ _ _ ((w1.alloc (.cells (Vd.cs ⟨0, 0, zeros32⟩) 68)).setRow w1.heap.size (Vd.cs ⟨p, f, m⟩))
      replace r1 := rowB_row_other (rowB_alloc r1 (.cells (Vd.cs ⟨0, 0, zeros32⟩) 68)) (Vd.cs ⟨p, f, m⟩) (show w1.heap.size ≠ w.heap.size + 1 by omega)
      replace bX := below_rowR (bX.alloc (by omega) (.cells (Vd.cs ⟨0, 0, zeros32⟩) 68)) (Vd.cs ⟨p, f, m⟩) (show w.heap.size ≤ w1.heap.size by omega)
      replace nz := rowB_row nz (Vd.cs ⟨p, f, m⟩)
      generalize (w1.alloc (.cells (Vd.cs ⟨0, 0, zeros32⟩) 68)).setRow w1.heap.size (Vd.cs ⟨p, f, m⟩) = w2 at *
      generalize w1.heap.size = y at *
      have hdev := fun w' h' => vidDev_any ⟨p, f, m⟩ y w' h' hfit
      go_wp2_with (first
        | (go_at_call 60; refine (hdev _ nz).mono ?_; rintro e w3 ⟨u, rfl, ⟨g, q, rfl, hg, hq, hgq, hr, hr2⟩, hb⟩; have r2 := rowB_below r1 hb (rowB_lt r1); have l2 := rowB_lt r1; replace bX := bX.trans (hb.mono bX.size))
        | (refine wpList_storeR rfl 34 _ _ rfl (w.heap.size + 1) rfl #[.slice (some ⟨g, 0, none⟩) 2 2, .slice (some ⟨q, 0, none⟩) 32 32] rfl (dev2_one _ _ _ _ _ _) 34 #[.slice none 0 0, .slice none 0 0] rfl ?_ agDv ?_; with_reducible exact r2))
      refine bodyPost_ret (resultsR rfl (w.heap.size + 1) _ rfl (rowB_row r2 _) agDv) rfl ?_
      exact ⟨_, rfl, ⟨g, q, rfl, by omega, by omega, hgq, rowB_row_other hr _ (by omega), rowB_row_other hr2 _ (by omega)⟩, below_rowR bX _ (by omega)⟩
    · go_enter Try.func39, Try.ntmps39
      go_upto_region 2 with (first
        | (go_at_call 59; refine hload.mono ?_; rintro e w1 ⟨rfl, hb⟩; have bX := bW.trans (hb.mono bW.size); have r1 := rowB_below k1 hb (rowB_lt k1); have hs := hb.size; rw [sW] at hs; have nz := rowB_new w1 68 (Vd.cs ⟨0, 0, zeros32⟩); clear hb hload)
        | (refine wpList_storeR rfl 68 _ _ rfl w1.heap.size rfl (Vd.cs ⟨p, f, m⟩) rfl (Vd.cs_one _) 68 (Vd.cs ⟨0, 0, zeros32⟩) (by rw [Vd.cs_size rfl, Vd.cs_size hl]) ?_ (agVd hl) ?_; exact nz))
      change Code.wp _ _ _ _ ((w1.alloc (.cells (Vd.cs ⟨0, 0, zeros32⟩) 68)).setRow w1.heap.size (Vd.cs ⟨p, f, m⟩))
      replace r1 := rowB_row_other (rowB_alloc r1 (.cells (Vd.cs ⟨0, 0, zeros32⟩) 68)) (Vd.cs ⟨p, f, m⟩) (show w1.heap.size ≠ w.heap.size + 1 by omega)
      replace bX := below_rowR (bX.alloc (by omega) (.cells (Vd.cs ⟨0, 0, zeros32⟩) 68)) (Vd.cs ⟨p, f, m⟩) (show w.heap.size ≤ w1.heap.size by omega)
      replace nz := rowB_row nz (Vd.cs ⟨p, f, m⟩)
      generalize (w1.alloc (.cells (Vd.cs ⟨0, 0, zeros32⟩) 68)).setRow w1.heap.size (Vd.cs ⟨p, f, m⟩) = w2 at *
      generalize w1.heap.size = y at *
      have hdev := fun w' h' => vidDev_any ⟨p, f, m⟩ y w' h' hfit
      go_wp2_with (first
        | (go_at_call 60; refine (hdev _ nz).mono ?_; rintro e w3 ⟨u, rfl, ⟨g, q, rfl, hg, hq, hgq, hr, hr2⟩, hb⟩; have r2 := rowB_below r1 hb (rowB_lt r1); have l2 := rowB_lt r1; replace bX := bX.trans (hb.mono bX.size))
        | (refine wpList_storeR rfl 34 _ _ rfl (w.heap.size + 1) rfl #[.slice (some ⟨g, 0, none⟩) 2 2, .slice (some ⟨q, 0, none⟩) 32 32] rfl (dev2_one _ _ _ _ _ _) 34 #[.slice none 0 0, .slice none 0 0] rfl ?_ agDv ?_; with_reducible exact r2))
      refine bodyPost_ret (resultsR rfl (w.heap.size + 1) _ rfl (rowB_row r2 _) agDv) rfl ?_
      exact ⟨_, rfl, ⟨g, q, rfl, by omega, by omega, hgq, rowB_row_other hr _ (by omega), rowB_row_other hr2 _ (by omega)⟩, below_rowR bX _ (by omega)⟩
  · have e : (⟨p, f, m⟩ : Vd).write a d = ⟨p, f, m.set a.toNat (d % 256)⟩ := by unfold Vd.write; rw [if_pos (by omega)]
    have hwf := Vd.write_fit hfit a d
    rw [e] at hwf ⊢
    clear e
    have hLw : ∀ w, Calls Try.prog _ _ w _ := fun w => low_any d 8 w
    simp only [show lo d (wd 8) = d % 256 from rfl] at hLw
    have hE : 0 ≤ d % 256 ∧ d % 256 < 256 := by omega
    obtain ⟨E, hE2⟩ : ∃ E, d % 256 = E := ⟨_, rfl⟩
    rw [hE2] at hwf hE ⊢
    simp only [hE2] at hLw
    clear hE2
    have wE : IntKind.u8.wrap E = E := Int.emod_eq_of_lt hE.1 hE.2
    have d5 : (a == 5) = false := by simp; omega
    have d6 : (a == 6) = false := by simp; omega
    have d7 : (a == 7) = false := by simp; omega
    have dA : decide (0 ≤ a) = true := decide_eq_true (by omega)
    have dB : decide (a < 32) = true := decide_eq_true (by omega)
    obtain ⟨n, rfl⟩ : ∃ n : Nat, a = n := ⟨a.toNat, by omega⟩
    rw [Int.toNat_natCast] at hwf ⊢
    have hn : n < 32 := by omega
    go_enter Try.func39, Try.ntmps39
    go_upto_region 2 with (first
      | (go_at_call 59; refine hload.mono ?_; rintro e w1 ⟨rfl, hb⟩; have bX := bW.trans (hb.mono bW.size); have r1 := rowB_below k1 hb (rowB_lt k1); have hs := hb.size; rw [sW] at hs; have nz := rowB_new w1 68 (Vd.cs ⟨0, 0, zeros32⟩); clear hb hload)
      | (refine wpList_storeR rfl 68 _ _ rfl w1.heap.size rfl (Vd.cs ⟨p, f, m⟩) rfl (Vd.cs_one _) 68 (Vd.cs ⟨0, 0, zeros32⟩) (by rw [Vd.cs_size rfl, Vd.cs_size hl]) ?_ (agVd hl) ?_; exact nz))
    change Code.wp _ _ _ _ ((w1.alloc (.cells (Vd.cs ⟨0, 0, zeros32⟩) 68)).setRow w1.heap.size (Vd.cs ⟨p, f, m⟩))
    replace r1 := rowB_row_other (rowB_alloc r1 (.cells (Vd.cs ⟨0, 0, zeros32⟩) 68)) (Vd.cs ⟨p, f, m⟩) (show w1.heap.size ≠ w.heap.size + 1 by omega)
    replace bX := below_rowR (bX.alloc (by omega) (.cells (Vd.cs ⟨0, 0, zeros32⟩) 68)) (Vd.cs ⟨p, f, m⟩) (show w.heap.size ≤ w1.heap.size by omega)
    replace nz := rowB_row nz (Vd.cs ⟨p, f, m⟩)
    generalize (w1.alloc (.cells (Vd.cs ⟨0, 0, zeros32⟩) 68)).setRow w1.heap.size (Vd.cs ⟨p, f, m⟩) = w2 at *
    generalize w1.heap.size = y at *
    have z1 := rowB_free nz (2 + n)
    have c1 := rowB_cell nz (2 + n) (Vd.cs_reg (s := ⟨p, f, m⟩) hl n hn)
    go_upto_region 5 with (go_at_call 16; refine (hLw _).mono ?_; rintro e w' ⟨rfl, rfl⟩)
    replace nz : rowB _ y 68 (Vd.cs ⟨p, f, m.set n E⟩) := rowB_eq (rowB_set nz (2 + n) (.int .u8 E)) (Vd.cs_setR _ _ _ _ _)
    replace r1 := rowB_other r1 ⟨y, 2 + n, none⟩ (.int .u8 E) (show y ≠ w.heap.size + 1 by omega)
    replace bX := Below.setCell bX (p := ⟨y, 2 + n, none⟩) (show w.heap.size ≤ y by omega) (.int .u8 E)
    have hdev := fun w' h' => vidDev_any ⟨p, f, m.set n E⟩ y w' h' hwf
    go_wp2_with (first
      | (go_at_call 60; refine (hdev _ nz).mono ?_; rintro e w3 ⟨u, rfl, ⟨g, q, rfl, hg, hq, hgq, hr, hr2⟩, hb⟩; have r2 := rowB_below r1 hb (rowB_lt r1); have l2 := rowB_lt r1; replace bX := bX.trans (hb.mono bX.size))
      | (refine wpList_storeR rfl 34 _ _ rfl (w.heap.size + 1) rfl #[.slice (some ⟨g, 0, none⟩) 2 2, .slice (some ⟨q, 0, none⟩) 32 32] rfl (dev2_one _ _ _ _ _ _) 34 #[.slice none 0 0, .slice none 0 0] rfl ?_ agDv ?_; with_reducible exact r2))
    refine bodyPost_ret (resultsR rfl (w.heap.size + 1) _ rfl (rowB_row r2 _) agDv) rfl ?_
    exact ⟨_, rfl, ⟨g, q, rfl, by omega, by omega, hgq, rowB_row_other hr _ (by omega), rowB_row_other hr2 _ (by omega)⟩, below_rowR bX _ (by omega)⟩
end Go.Proofs.Ytakaebjojgeehaa
