/- The laws' screen: a video chip with some registers. -/
import Derived.Test.YtambggbmkeemnaaBytes
import Derived.Test.YtambggbmkeemnaaChecked
import Derived.Test.YtambggbmkeemnaaVidKeep
import Derived.Below
import Derived.BigQuiet
import Derived.ChangeMaps5
import Derived.Deep.CutBlock
import Derived.Deep.DeepAppendWide
import Derived.Deep.DeepCutAuto
import Derived.Deep.Draws
import Derived.Deep.MidRow
import Derived.Deep.OwnRows
import Derived.Deep.QuietTactic
import Derived.Deep.RegionHeld3
import Derived.Deep.RegionLaw
import Derived.Deep.RegionWith
import Derived.Deep.Slices
import Derived.Deep.WholeRow
import Derived.Great.BuildSlice
import Derived.Laws.CopyOwn
import Derived.Laws.OwnMore
import Derived.Lib.Hide
import Derived.Lib.SmallJoins
import Derived.OpenShut
import Derived.OrdersHeld
import Derived.OwnWalk
import Derived.RangeFuncBox
import Derived.RowKit3
import Derived.Shelf.Abstract
import Derived.SizedLaws
import Derived.StillTactics
import Derived.StillTail
import Derived.StillTailTactics
import Derived.WalkKit
namespace Go.Proofs.Ytambggbmkeemnaa
open Go.RowKit
set_option maxRecDepth 100000

theorem vid_written {m : List Int} (hs : (⟨2559, 0, m⟩ : Vd).fit) (a d : Int) : ∃ m', (⟨2559, 0, m⟩ : Vd).write a d = ⟨2559, 0, m'⟩ ∧ (⟨2559, 0, m'⟩ : Vd).fit := by
  have hf := Vd.write_fit hs a d
  have h : ∃ m', (⟨2559, 0, m⟩ : Vd).write a d = ⟨2559, 0, m'⟩ := by
    unfold Vd.write
    split
    · exact ⟨_, rfl⟩
    · exact ⟨_, rfl⟩
  obtain ⟨m', e⟩ := h
  exact ⟨m', e, e ▸ hf⟩
set_option maxHeartbeats 2000000 in
theorem screen_any (v : Value) (l : List Int) (w : World) (h : isArg w v l) (hwf : ∀ x ∈ l, (Lit.int .i64 x).wf = true) :
    Calls Try.prog 24 #[v] w fun e w' => ∃ u m, e = .returned u ∧ devV w.heap.size w' u ⟨2559, 0, m⟩ ∧ (⟨2559, 0, m⟩ : Vd).fit ∧ Below w.heap.size w w' := by
  obtain ⟨k0, bW, sW⟩ := boxes1 w (.cells #[.slice none 0 0, .slice none 0 0] 25)
  have k0 : rowB _ _ _ _ := k0
  have h1 := isArg_below h bW (Nat.le_refl _)
  have hN := vidNew_any (w.alloc (.cells #[.slice none 0 0, .slice none 0 0] 25))
  go_enter Try.func24, Try.ntmps24
  go_upto_region 2 with (first
    | (go_at_call 10; refine hN.mono ?_; rintro e w1 ⟨u, rfl, ⟨g0, q0, rfl, hg, hq, hgq, hr, hr2⟩, hb⟩; have nz := rowB_new w1 25 #[.slice (some ⟨g0, 0, none⟩) 2 2, .slice (some ⟨q0, 0, none⟩) 32 32]))
  change Code.wp _ _ _ _ (w1.alloc (.cells #[.slice (some ⟨g0, 0, none⟩) 2 2, .slice (some ⟨q0, 0, none⟩) 32 32] 25))
  have bX := bW.trans (hb.mono bW.size)
  have hgB : g0 ≠ w1.heap.size ∧ q0 ≠ w1.heap.size := ⟨Nat.ne_of_lt (rowB_lt hr), Nat.ne_of_lt (rowB_lt hr2)⟩
  have r0 := rowB_alloc (rowB_below k0 hb (rowB_lt k0)) (.cells #[.slice (some ⟨g0, 0, none⟩) 2 2, .slice (some ⟨q0, 0, none⟩) 32 32] 25)
  replace hr := rowB_alloc hr (.cells #[.slice (some ⟨g0, 0, none⟩) 2 2, .slice (some ⟨q0, 0, none⟩) 32 32] 25)
  replace hr2 := rowB_alloc hr2 (.cells #[.slice (some ⟨g0, 0, none⟩) 2 2, .slice (some ⟨q0, 0, none⟩) 32 32] 25)
  have lB := hb.size
  have h2 := isArg_below (isArg_below h1 hb (Nat.le_refl _)) ((Below.refl w1.heap.size w1).alloc (Nat.le_refl _) (.cells #[.slice (some ⟨g0, 0, none⟩) 2 2, .slice (some ⟨q0, 0, none⟩) 32 32] 25)) (Nat.le_refl _)
  rw [sW] at hg hq lB
  replace bX := bX.alloc bX.size (.cells #[.slice (some ⟨g0, 0, none⟩) 2 2, .slice (some ⟨q0, 0, none⟩) 32 32] 25)
  clear hN h h1 bW k0 hb
  generalize w1.alloc (.cells #[.slice (some ⟨g0, 0, none⟩) 2 2, .slice (some ⟨q0, 0, none⟩) 32 32] 25) = w2 at *
  generalize w1.heap.size = B at *
  have hBy := bytes_any v l 32 (by decide) (by decide) w2 h2 hwf
  have lB2 := rowB_lt nz
  go_upto_region 3 with (go_at_call 46; refine hBy.mono ?_; rintro e w3 ⟨bb, rfl, ⟨cs, hcs, hcn, hcv⟩, hbb, hb⟩)
  replace nz := rowB_below nz hb (rowB_lt nz)
  replace r0 := rowB_below r0 hb (rowB_lt r0)
  replace hr2 := rowB_below hr2 hb (rowB_lt hr2)
  replace hr := rowB_below hr hb (rowB_lt hr)
  replace bX := bX.trans (hb.mono bX.size)
  clear hb hBy h2
  have lbb : bb ≠ B := by omega
  clear lB2 hbb
  go_loopw [11] (fun i wr => ∃ (k : Nat) (m : List Int) (g q : Nat), k ≤ 32 ∧ i = .int .i64 k ∧ (⟨2559, 0, m⟩ : Vd).fit ∧ rowB wr B 25 #[.slice (some ⟨g, 0, none⟩) 2 2, .slice (some ⟨q, 0, none⟩) 32 32] ∧ rowB wr g 3 #[.int .i64 2559, .int .i64 0] ∧ rowB wr q 5 (byts m) ∧ rowB wr bb 5 cs ∧ (g ≠ B ∧ q ≠ B ∧ g ≠ q ∧ w.heap.size + 1 ≤ g ∧ w.heap.size + 1 ≤ q) ∧ Below (w.heap.size + 1) w3 wr) (fun i _ => 32 - (intOf i).toNat)
  case atStart => exact ⟨0, zeros32, g0, q0, Nat.zero_le _, rfl, vid_zero, nz, hr, hr2, hcs, ⟨hgB.1, hgB.2, hgq, hg, hq⟩, Below.refl _ _⟩
  case round =>
    clear nz hr hr2 hg hq hgq hgB hcs
    obtain ⟨k, m, g, q, hk, rfl, hf, rB, rg, rq, rb, ⟨hgB, hqB, hgq, hg, hq⟩, hS⟩ := hrel
    obtain ⟨c0, c1, _, _⟩ := dcells2 rB
    have hlS := hS.size
    have hl3 : w.heap.size + 1 ≤ w3.heap.size := by have := rowB_lt r0; omega
    by_cases hlt : k < 32
    · have hd : decide ((k : Int) < 32) = true := decide_eq_true (by omega)
      obtain ⟨x, hx, hx0⟩ := hcv k hlt
      have cx := rowB_cell rb k hx
      have wx : wrap64 x = x := IntWalk.wrap64_in _ (by omega)
      have tx : x.tmod 50 = x % 50 := Int.tmod_eq_emod_of_nonneg hx0.1
      have HCV := Lib.hid hcv
      clear hcv hx
      by_cases h1 : k = 1
      · subst h1
        obtain ⟨m', hm', hf'⟩ := vid_written hf 1 (x % 50)
        have hW := vidWrite_at (lo := 0) hf 1 (x % 50) hm' (v := .agg #[.slice (some ⟨g, 0, none⟩) 2 2, .slice (some ⟨q, 0, none⟩) 32 32]) (w := wr) ⟨g, q, rfl, Nat.zero_le _, Nat.zero_le _, hgq, rg, rq⟩
        go_wp2_with (first
          | (go_at_call 14; refine hW.mono ?_; rintro e w4 ⟨u, rfl, ⟨g2, q2, rfl, hg2, hq2, hgq2, hr2, hrq2⟩, hb3⟩; have r3 := rowB_below rB hb3 (rowB_lt rB); have r4 := rowB_below rb hb3 (rowB_lt rb); have l3 := rowB_lt rB; have l4 := hS.size)
          | (refine wpList_storeR rfl 25 _ _ rfl B rfl #[.slice (some ⟨g2, 0, none⟩) 2 2, .slice (some ⟨q2, 0, none⟩) 32 32] rfl (dev2_one _ _ _ _ _ _) 25 #[.slice (some ⟨g, 0, none⟩) 2 2, .slice (some ⟨q, 0, none⟩) 32 32] rfl ?_ agDv ?_; with_reducible exact r3))
        go_roundw
        case rel => exact ⟨2, m', g2, q2, by omega, by go_num, hf', rowB_row r3 _, rowB_row_other hr2 _ (by omega), rowB_row_other hrq2 _ (by omega), rowB_row_other r4 _ (by omega), ⟨by omega, by omega, hgq2, by omega, by omega⟩, below_rowR (hS.trans (hb3.mono (by omega))) _ (by omega)⟩
        case measure => simp [intOf] <;> omega
      · by_cases h2 : k = 2
        · subst h2
          obtain ⟨m', hm', hf'⟩ := vid_written hf 2 (x % 50)
          have hW := vidWrite_at (lo := 0) hf 2 (x % 50) hm' (v := .agg #[.slice (some ⟨g, 0, none⟩) 2 2, .slice (some ⟨q, 0, none⟩) 32 32]) (w := wr) ⟨g, q, rfl, Nat.zero_le _, Nat.zero_le _, hgq, rg, rq⟩
          go_wp2_with (first
            | (go_at_call 14; refine hW.mono ?_; rintro e w4 ⟨u, rfl, ⟨g2, q2, rfl, hg2, hq2, hgq2, hr2, hrq2⟩, hb3⟩; have r3 := rowB_below rB hb3 (rowB_lt rB); have r4 := rowB_below rb hb3 (rowB_lt rb); have l3 := rowB_lt rB; have l4 := hS.size)
            | (refine wpList_storeR rfl 25 _ _ rfl B rfl #[.slice (some ⟨g2, 0, none⟩) 2 2, .slice (some ⟨q2, 0, none⟩) 32 32] rfl (dev2_one _ _ _ _ _ _) 25 #[.slice (some ⟨g, 0, none⟩) 2 2, .slice (some ⟨q, 0, none⟩) 32 32] rfl ?_ agDv ?_; with_reducible exact r3))
          go_roundw
          case rel => exact ⟨3, m', g2, q2, by omega, by go_num, hf', rowB_row r3 _, rowB_row_other hr2 _ (by omega), rowB_row_other hrq2 _ (by omega), rowB_row_other r4 _ (by omega), ⟨by omega, by omega, hgq2, by omega, by omega⟩, below_rowR (hS.trans (hb3.mono (by omega))) _ (by omega)⟩
          case measure => simp [intOf] <;> omega
        · have d1 : ((k : Int) == 1) = false := by simp; omega
          have d2 : ((k : Int) == 2) = false := by simp; omega
          obtain ⟨m', hm', hf'⟩ := vid_written hf (k : Int) x
          have hW := vidWrite_at (lo := 0) hf (k : Int) x hm' (v := .agg #[.slice (some ⟨g, 0, none⟩) 2 2, .slice (some ⟨q, 0, none⟩) 32 32]) (w := wr) ⟨g, q, rfl, Nat.zero_le _, Nat.zero_le _, hgq, rg, rq⟩
          go_wp2_with (first
            | (go_at_call 14; refine hW.mono ?_; rintro e w4 ⟨u, rfl, ⟨g2, q2, rfl, hg2, hq2, hgq2, hr2, hrq2⟩, hb3⟩; have r3 := rowB_below rB hb3 (rowB_lt rB); have r4 := rowB_below rb hb3 (rowB_lt rb); have l3 := rowB_lt rB; have l4 := hS.size)
            | (refine wpList_storeR rfl 25 _ _ rfl B rfl #[.slice (some ⟨g2, 0, none⟩) 2 2, .slice (some ⟨q2, 0, none⟩) 32 32] rfl (dev2_one _ _ _ _ _ _) 25 #[.slice (some ⟨g, 0, none⟩) 2 2, .slice (some ⟨q, 0, none⟩) 32 32] rfl ?_ agDv ?_; with_reducible exact r3))
          go_roundw
          case rel => exact ⟨k + 1, m', g2, q2, by omega, by go_num, hf', rowB_row r3 _, rowB_row_other hr2 _ (by omega), rowB_row_other hrq2 _ (by omega), rowB_row_other r4 _ (by omega), ⟨by omega, by omega, hgq2, by omega, by omega⟩, below_rowR (hS.trans (hb3.mono (by omega))) _ (by omega)⟩
          case measure => simp [intOf] <;> omega
    · have hd : decide ((k : Int) < 32) = false := decide_eq_false (by omega)
      have r5 := rowB_below r0 hS (Nat.lt_succ_self _)
      have bZ := bX.trans (hS.mono (by omega))
      go_wp2_with (refine wpList_storeR rfl 25 _ _ rfl w.heap.size rfl #[.slice (some ⟨g, 0, none⟩) 2 2, .slice (some ⟨q, 0, none⟩) 32 32] rfl (dev2_one _ _ _ _ _ _) 25 #[.slice none 0 0, .slice none 0 0] rfl ?_ agDv ?_; with_reducible exact r5)
      refine bodyPost_ret (resultsR rfl w.heap.size _ rfl (rowB_row r5 _) agDv) rfl ?_
      exact ⟨_, m, rfl, ⟨g, q, rfl, by omega, by omega, hgq, rowB_row_other rg _ (by omega), rowB_row_other rq _ (by omega)⟩, hf, below_rowR bZ _ (Nat.le_refl _)⟩
end Go.Proofs.Ytambggbmkeemnaa
