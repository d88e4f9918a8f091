/- Contracts of package core's New, Nmi and interrupted. -/
import Derived.Test.YthhihmggaddlmaaChecked
import Derived.Test.YthhihmggaddlmaaCoreSmall
import Derived.Below
import Derived.BigQuiet
import Derived.ChangeMaps5
import Derived.Deep.DeepCutAuto
import Derived.Deep.Draws
import Derived.Deep.MidRow
import Derived.Deep.OwnRows
import Derived.Deep.QuietTactic
import Derived.Deep.RegionHeld3
import Derived.Deep.RegionWith
import Derived.Deep.Slices
import Derived.Deep.WholeRow
import Derived.Lib.Hide
import Derived.Lib.SmallJoins
import Derived.OpenShut
import Derived.OrdersHeld
import Derived.OwnWalk
import Derived.RowKit3
import Derived.StillTactics
import Derived.StillTail
import Derived.StillTailTactics
import Derived.WalkKit
namespace Go.Proofs.Ythhihmggaddlmaa
open Go.RowKit
set_option maxRecDepth 100000

def newR (k : Nat) : Int := if k = 4 then 4 else 0
theorem and4 {p : Int} (h : 0 ≤ p ∧ p < 256) : bits .and .i64 p 4 = p / 4 % 2 * 4 := by
  obtain ⟨n, rfl⟩ := byte_fin h
  exact (by decide +kernel : ∀ n : Fin 256, bits .and .i64 (n.val : Int) 4 = (n.val : Int) / 4 % 2 * 4) n

set_option maxHeartbeats 2000000 in
theorem intr_any (nm : ByteArray) (v0 v1 : Value) (a2 a3 : Option Addr) (l2 p2 l3 p3 : Nat) (f : Nat → Int) (h4 : 0 ≤ f 4 ∧ f 4 < 256) (op pl : Int) (n q : Bool) (w : World) :
    Calls Try.prog 88 #[.agg (cpu5 nm v0 v1 (.slice a2 l2 p2) (.slice a3 l3 p3)), .agg (core12 f op pl n), .bool q] w fun e w' => e = .returned (.agg (coreM f (intr l2 l3 f op pl n q))) ∧ Below w.heap.size w w' := by
  obtain ⟨k0, k1, k2, bW, sW⟩ := boxes3 w (.cells (cpu5 nm v0 v1 (.slice a2 l2 p2) (.slice a3 l3 p3)) 25) (.cells (core12 f op pl n) 29) (.cells (core12 (fun _ => 0) 0 0 false) 29)
  have k0 : rowB _ _ _ _ := k0
  have k1 : coreB _ _ _ _ _ _ _ := k1
  have k2 : coreB _ _ _ _ _ _ _ := k2
  have hb4 := and4 h4
  clear h4
  have q3 : ∀ w', rowB w' w.heap.size 25 (cpu5 nm v0 v1 (.slice a2 l2 p2) (.slice a3 l3 p3)) → w'.cell? ⟨w.heap.size, 3, none⟩ = some (.slice a2 l2 p2) ∧ w'.cell? ⟨w.heap.size, 4, none⟩ = some (.slice a3 l3 p3) := fun w' h => ⟨rowB_cell h 3 rfl, rowB_cell h 4 rfl⟩
  obtain ⟨e3, e4⟩ := q3 _ k0
  have cop := coreB_op k1
  have cpl := coreB_pl k1
  have cnm := coreB_nm k1
  have c4 := coreB_reg k1 4 (by decide)
  have z9 := rowB_free k1 9
  have z10 := rowB_free k1 10
  have z11 := rowB_free k1 11
  clear q3 k0
  go_enter Try.func88, Try.ntmps88
  go_upto_region 1 with (fail)
  change Code.wp _ _ _ _ (((w.alloc (.cells (cpu5 nm v0 v1 (.slice a2 l2 p2) (.slice a3 l3 p3)) 25)).alloc (.cells (core12 f op pl n) 29)).alloc (.cells (core12 (fun _ => 0) 0 0 false) 29))
  generalize ((w.alloc (.cells (cpu5 nm v0 v1 (.slice a2 l2 p2) (.slice a3 l3 p3)) 25)).alloc (.cells (core12 f op pl n) 29)).alloc (.cells (core12 (fun _ => 0) 0 0 false) 29) = w1 at *
  by_cases hA : n = true ∧ 0 < l3
  · have hm : intr l2 l3 f op pl n q = (257, 0, false) := by unfold intr; rw [if_pos hA]
    have HM := Lib.hid hm
    obtain ⟨rfl, hl⟩ := hA
    have j1 := coreB_setPl (coreB_setOp (coreB_setNm k1 false) 257) 0
    have j2 := rowB_other (rowB_other (rowB_other k2 ⟨w.heap.size + 1, 11, none⟩ (.bool false) (by simp)) ⟨w.heap.size + 1, 9, none⟩ (.int .i64 257) (by simp)) ⟨w.heap.size + 1, 10, none⟩ (.int .i64 0) (by simp)
    have jb := ((bW.setCell (p := ⟨w.heap.size + 1, 11, none⟩) (by simp) (.bool false)).setCell (p := ⟨w.heap.size + 1, 9, none⟩) (by simp) (.int .i64 257)).setCell (p := ⟨w.heap.size + 1, 10, none⟩) (by simp) (.int .i64 0)
    clear k1 k2 bW hm hb4
    go_upto_region 5 with (fail)
    generalize ((w1.setCell ⟨w.heap.size + 1, 11, none⟩ (.bool false)).setCell ⟨w.heap.size + 1, 9, none⟩ (.int .i64 257)).setCell ⟨w.heap.size + 1, 10, none⟩ (.int .i64 0) = w2 at *
    go_wp2_with (first
      | (refine wpList_loadR rfl 29 _ rfl (w.heap.size + 1) rfl 29 (core12 f 257 0 false) ?_ agK ?_; with_reducible exact j1)
      | (refine wpList_storeR rfl 29 _ _ rfl (w.heap.size + 2) rfl (core12 f 257 0 false) rfl (core12_one _ _ _ _) 29 (core12 (fun _ => 0) 0 0 false) rfl ?_ agK ?_; with_reducible exact j2))
    exact bodyPost_ret (resultsR rfl (w.heap.size + 2) _ rfl (rowB_row j2 _) agK) rfl ⟨by rw [HM.out]; rfl, below_rowR jb _ (by omega)⟩
  · by_cases hB : q = true ∧ f 4 / 4 % 2 = 0 ∧ 0 < l2
    · have hm : intr l2 l3 f op pl n q = (256, 0, n) := by unfold intr; rw [if_neg hA, if_pos hB]
      have HM := Lib.hid hm
      obtain ⟨rfl, hf4, hl⟩ := hB
      have j1 := coreB_setPl (coreB_setOp k1 256) 0
      have j2 := rowB_other (rowB_other k2 ⟨w.heap.size + 1, 9, none⟩ (.int .i64 256) (by simp)) ⟨w.heap.size + 1, 10, none⟩ (.int .i64 0) (by simp)
      have jb := (bW.setCell (p := ⟨w.heap.size + 1, 9, none⟩) (by simp) (.int .i64 256)).setCell (p := ⟨w.heap.size + 1, 10, none⟩) (by simp) (.int .i64 0)
      rw [hf4] at hb4
      clear k1 k2 bW hm hf4
      have hn : n = false ∨ (n = true ∧ l3 = 0) := by
        cases n
        · exact .inl rfl
        · exact .inr ⟨rfl, by rcases Nat.eq_zero_or_pos l3 with h | h; exact h; exact absurd ⟨rfl, h⟩ hA⟩
      clear hA
      rcases hn with rfl | ⟨rfl, rfl⟩
      all_goals
        go_upto_region 5 with (fail)
        generalize (w1.setCell ⟨w.heap.size + 1, 9, none⟩ (.int .i64 256)).setCell ⟨w.heap.size + 1, 10, none⟩ (.int .i64 0) = w2 at *
      · go_wp2_with (first
      | (refine wpList_loadR rfl 29 _ rfl (w.heap.size + 1) rfl 29 (core12 f 256 0 false) ?_ agK ?_; with_reducible exact j1)
      | (refine wpList_storeR rfl 29 _ _ rfl (w.heap.size + 2) rfl (core12 f 256 0 false) rfl (core12_one _ _ _ _) 29 (core12 (fun _ => 0) 0 0 false) rfl ?_ agK ?_; with_reducible exact j2))
        exact bodyPost_ret (resultsR rfl (w.heap.size + 2) _ rfl (rowB_row j2 _) agK) rfl ⟨by rw [HM.out]; rfl, below_rowR jb _ (by omega)⟩
      · go_wp2_with (first
      | (refine wpList_loadR rfl 29 _ rfl (w.heap.size + 1) rfl 29 (core12 f 256 0 true) ?_ agK ?_; with_reducible exact j1)
      | (refine wpList_storeR rfl 29 _ _ rfl (w.heap.size + 2) rfl (core12 f 256 0 true) rfl (core12_one _ _ _ _) 29 (core12 (fun _ => 0) 0 0 false) rfl ?_ agK ?_; with_reducible exact j2))
        exact bodyPost_ret (resultsR rfl (w.heap.size + 2) _ rfl (rowB_row j2 _) agK) rfl ⟨by rw [HM.out]; rfl, below_rowR jb _ (by omega)⟩
    · have hm : intr l2 l3 f op pl n q = (op, pl, n) := by unfold intr; rw [if_neg hA, if_neg hB]
      have HM := Lib.hid hm
      have hn : n = false ∨ (n = true ∧ l3 = 0) := by
        cases n
        · exact .inl rfl
        · exact .inr ⟨rfl, by rcases Nat.eq_zero_or_pos l3 with h | h; exact h; exact absurd ⟨rfl, h⟩ hA⟩
      have hq : q = false ∨ (q = true ∧ f 4 / 4 % 2 = 1) ∨ (q = true ∧ f 4 / 4 % 2 = 0 ∧ l2 = 0) := by
        cases q
        · exact .inl rfl
        · rcases (by omega : f 4 / 4 % 2 = 0 ∨ f 4 / 4 % 2 = 1) with h | h
          · exact .inr (.inr ⟨rfl, h, by rcases Nat.eq_zero_or_pos l2 with h' | h'; exact h'; exact absurd ⟨rfl, h, h'⟩ hB⟩)
          · exact .inr (.inl ⟨rfl, h⟩)
      clear hm hA hB
      rcases hn with rfl | ⟨rfl, rfl⟩ <;> rcases hq with rfl | ⟨rfl, hf4⟩ | ⟨rfl, hf4, rfl⟩
      all_goals
        try rw [hf4] at hb4
        try clear hf4
        go_upto_region 5 with (fail)
      · go_wp2_with (first
          | (refine wpList_loadR rfl 29 _ rfl (w.heap.size + 1) rfl 29 (core12 f op pl false) ?_ agK ?_; with_reducible exact k1)
          | (refine wpList_storeR rfl 29 _ _ rfl (w.heap.size + 2) rfl (core12 f op pl false) rfl (core12_one _ _ _ _) 29 (core12 (fun _ => 0) 0 0 false) rfl ?_ agK ?_; with_reducible exact k2))
        exact bodyPost_ret (resultsR rfl (w.heap.size + 2) _ rfl (rowB_row k2 _) agK) rfl ⟨by rw [HM.out]; rfl, below_rowR bW _ (by omega)⟩
      · go_wp2_with (first
          | (refine wpList_loadR rfl 29 _ rfl (w.heap.size + 1) rfl 29 (core12 f op pl false) ?_ agK ?_; with_reducible exact k1)
          | (refine wpList_storeR rfl 29 _ _ rfl (w.heap.size + 2) rfl (core12 f op pl false) rfl (core12_one _ _ _ _) 29 (core12 (fun _ => 0) 0 0 false) rfl ?_ agK ?_; with_reducible exact k2))
        exact bodyPost_ret (resultsR rfl (w.heap.size + 2) _ rfl (rowB_row k2 _) agK) rfl ⟨by rw [HM.out]; rfl, below_rowR bW _ (by omega)⟩
      · go_wp2_with (first
          | (refine wpList_loadR rfl 29 _ rfl (w.heap.size + 1) rfl 29 (core12 f op pl false) ?_ agK ?_; with_reducible exact k1)
          | (refine wpList_storeR rfl 29 _ _ rfl (w.heap.size + 2) rfl (core12 f op pl false) rfl (core12_one _ _ _ _) 29 (core12 (fun _ => 0) 0 0 false) rfl ?_ agK ?_; with_reducible exact k2))
        exact bodyPost_ret (resultsR rfl (w.heap.size + 2) _ rfl (rowB_row k2 _) agK) rfl ⟨by rw [HM.out]; rfl, below_rowR bW _ (by omega)⟩
      · go_wp2_with (first
          | (refine wpList_loadR rfl 29 _ rfl (w.heap.size + 1) rfl 29 (core12 f op pl true) ?_ agK ?_; with_reducible exact k1)
          | (refine wpList_storeR rfl 29 _ _ rfl (w.heap.size + 2) rfl (core12 f op pl true) rfl (core12_one _ _ _ _) 29 (core12 (fun _ => 0) 0 0 false) rfl ?_ agK ?_; with_reducible exact k2))
        exact bodyPost_ret (resultsR rfl (w.heap.size + 2) _ rfl (rowB_row k2 _) agK) rfl ⟨by rw [HM.out]; rfl, below_rowR bW _ (by omega)⟩
      · go_wp2_with (first
          | (refine wpList_loadR rfl 29 _ rfl (w.heap.size + 1) rfl 29 (core12 f op pl true) ?_ agK ?_; with_reducible exact k1)
          | (refine wpList_storeR rfl 29 _ _ rfl (w.heap.size + 2) rfl (core12 f op pl true) rfl (core12_one _ _ _ _) 29 (core12 (fun _ => 0) 0 0 false) rfl ?_ agK ?_; with_reducible exact k2))
        exact bodyPost_ret (resultsR rfl (w.heap.size + 2) _ rfl (rowB_row k2 _) agK) rfl ⟨by rw [HM.out]; rfl, below_rowR bW _ (by omega)⟩
      · go_wp2_with (first
          | (refine wpList_loadR rfl 29 _ rfl (w.heap.size + 1) rfl 29 (core12 f op pl true) ?_ agK ?_; with_reducible exact k1)
          | (refine wpList_storeR rfl 29 _ _ rfl (w.heap.size + 2) rfl (core12 f op pl true) rfl (core12_one _ _ _ _) 29 (core12 (fun _ => 0) 0 0 false) rfl ?_ agK ?_; with_reducible exact k2))
        exact bodyPost_ret (resultsR rfl (w.heap.size + 2) _ rfl (rowB_row k2 _) agK) rfl ⟨by rw [HM.out]; rfl, below_rowR bW _ (by omega)⟩
end Go.Proofs.Ythhihmggaddlmaa
