/- The law CoreAsks: New, Nmi and Ask against the reference. -/
import Derived.Test.YtnmemknmipengaaCoreRefAsk
import Derived.Test.YtnmemknmipengaaCoreEq
namespace Go.Proofs.Ytnmemknmipengaa
open Go.RowKit

theorem cores_law (w : World) :
    Calls Try.prog 11 #[] w fun e w' => e = .returned (.bool true) ∧ Below w.heap.size w w' := by
  go_enter Try.func11, Try.ntmps11
  go_upto_region 2 with (first
      | (go_at_call 14; refine (new_any _).mono ?_; rintro e w1 ⟨rfl, hb⟩; have nz := rowB_new w1 43 (core12 (fun _ => 0) 0 0 false))
      | (refine wpList_storeR rfl 43 _ _ rfl (w1.heap.size) rfl (core12 newR 258 0 false) rfl (core12_one _ _ _ _) 43 (core12 (fun _ => 0) 0 0 false) rfl ?_ agK ?_; exact nz))
  have nX := rowB_row nz (core12 newR 258 0 false)
  have bX := below_rowR (hb.alloc hb.size (.cells (core12 (fun _ => 0) 0 0 false) 43)) (core12 newR 258 0 false) hb.size
  have c9 := coreB_op nX
  have c4 := coreB_reg nX 4 (by decide)
  rw [show newR 4 = 4 from rfl] at c4
  rw [zero12]
  generalize (w1.alloc (.cells (core12 (fun _ => 0) 0 0 false) 43)).setRow w1.heap.size (core12 newR 258 0 false) = w2 at *
  go_wp2_with fail
  go_ret
  exact ⟨rfl, bX⟩
structure six (w : World) (a b c d e g : Nat) (k0 k1 AK AB : Array Value) : Prop where
  h0 : rowB w a 43 k0
  h1 : rowB w b 43 k1
  h2 : rowB w c 43 AK
  h3 : rowB w d 45 AB
  h4 : rowB w e 43 AK
  h5 : rowB w g 45 AB
theorem six.below {w w' : World} {a b c d e g : Nat} {k0 k1 AK AB : Array Value} (h : six w a b c d e g k0 k1 AK AB) (hb : Below w.heap.size w w') : six w' a b c d e g k0 k1 AK AB :=
  ⟨rowB_below h.h0 hb (rowB_lt h.h0), rowB_below h.h1 hb (rowB_lt h.h1), rowB_below h.h2 hb (rowB_lt h.h2), rowB_below h.h3 hb (rowB_lt h.h3), rowB_below h.h4 hb (rowB_lt h.h4), rowB_below h.h5 hb (rowB_lt h.h5)⟩
theorem pair_mid (w : World) (k : Array Value) : rowB (((w.alloc (.cells (core12 (fun _ => 0) 0 0 false) 43)).alloc (.cells (bus3 0 0 0) 45)).setRow w.heap.size k) (w.heap.size + 1) 45 (bus3 0 0 0) := by
  obtain ⟨k0, k1, bW, sW⟩ := boxes2 w (.cells (core12 (fun _ => 0) 0 0 false) 43) (.cells (bus3 0 0 0) 45)
  exact rowB_row_other (show rowB _ _ _ _ from k1) k (by omega)
theorem pair_new (w : World) (k b : Array Value) :
    rowB ((((w.alloc (.cells (core12 (fun _ => 0) 0 0 false) 43)).alloc (.cells (bus3 0 0 0) 45)).setRow w.heap.size k).setRow (w.heap.size + 1) b) w.heap.size 43 k ∧
    rowB ((((w.alloc (.cells (core12 (fun _ => 0) 0 0 false) 43)).alloc (.cells (bus3 0 0 0) 45)).setRow w.heap.size k).setRow (w.heap.size + 1) b) (w.heap.size + 1) 45 b ∧
    Below w.heap.size w ((((w.alloc (.cells (core12 (fun _ => 0) 0 0 false) 43)).alloc (.cells (bus3 0 0 0) 45)).setRow w.heap.size k).setRow (w.heap.size + 1) b) := by
  obtain ⟨k0, k1, bW, sW⟩ := boxes2 w (.cells (core12 (fun _ => 0) 0 0 false) 43) (.cells (bus3 0 0 0) 45)
  have k0 : rowB _ _ _ _ := k0
  have k1 : rowB _ _ _ _ := k1
  exact ⟨rowB_row_other (rowB_row k0 k) b (by omega), rowB_row (rowB_row_other k1 k (by omega)) b, below_rowR (below_rowR bW k (Nat.le_refl _)) b (by omega)⟩

set_option maxRecDepth 100000 in
set_option maxHeartbeats 4000000 in
theorem coreAsks_walk (c : Cp) (v0 v1 v2 v3 : Value) (f : Nat → Int) (op pl : Int) (n q : Bool) (w : World) (h : cpuArg w v0 v1 v2 v3 c) :
    Calls Try.prog 4 #[.agg #[.string c.name, v0, v1, v2, v3], .agg (core12 f op pl n), .bool q] w fun e w' => e = .returned (.bool true) ∧ Below w.heap.size w w' := by
  change Calls Try.prog 4 #[.agg (cpu5 c.name v0 v1 v2 v3), .agg (core12 f op pl n), .bool q] w fun e w' => e = .returned (.bool true) ∧ Below w.heap.size w w'
  obtain ⟨k0, k1, bW, sW⟩ := boxes2 w (.cells (cpu5 c.name v0 v1 v2 v3) 41) (.cells (core12 f op pl n) 43)
  have k0 : rowB _ _ _ _ := k0
  have k1 : rowB _ _ _ _ := k1
  have hask := fun w' (hb : Below w.heap.size w w') => ask_any c v0 v1 v2 v3 f op pl n q w' (cpuArg_below h hb (Nat.le_refl _))
  have hasked := fun w' (hb : Below w.heap.size w w') => askedRef_any c v0 v1 v2 v3 f op pl n q w' (cpuArg_below h hb (Nat.le_refl _))
  obtain ⟨AK, hAK, hAo, hAe⟩ : ∃ AK, AK = askCore c (fitR f) op pl n q ∧ AK.size = 12 ∧ (AK.all (·.oneCell') = true ∧ ∀ w, (Op.equalIn 10000 43 (.agg AK) (.agg AK)).run Try.prog w = .ok true w) := by
    refine ⟨_, rfl, ?_⟩
    unfold askCore
    dsimp only
    split
    · exact ⟨rfl, core12_one _ _ _ _, fun w => equal12 _ _ _ _ w⟩
    · exact ⟨rfl, core12_one _ _ _ _, fun w => equal12 _ _ _ _ w⟩
  obtain ⟨AB, hAB, hBo, hBe⟩ : ∃ AB, AB = askBus c (fitR f) op pl n q ∧ AB.size = 3 ∧ (AB.all (·.oneCell') = true ∧ ∀ w, (Op.equalIn 10000 45 (.agg AB) (.agg AB)).run Try.prog w = .ok true w) := by
    refine ⟨_, rfl, ?_⟩
    unfold askBus
    dsimp only
    split
    · exact ⟨rfl, bus3_one _ _ _, fun w => equal3 _ _ _ w⟩
    · exact ⟨rfl, bus3_one _ _ _, fun w => equal3 _ _ _ w⟩
  rw [← hAK, ← hAB] at hask hasked
  obtain ⟨hA1, hAe⟩ := hAe
  obtain ⟨hB1, hBe⟩ := hBe
  have agAK : isAg Try.prog 43 AK.size := by rw [hAo]; exact agK
  have agAB : isAg Try.prog 45 AB.size := by rw [hBo]; exact agB
  have HASK := Lib.hid hask
  have HASKED := Lib.hid hasked
  have HAe := Lib.hid hAe
  have HBe := Lib.hid hBe
  have HA1 := Lib.hid hA1
  have HB1 := Lib.hid hB1
  have HAo := Lib.hid hAo
  have HBo := Lib.hid hBo
  have HgA := Lib.hid agAK
  have HgB := Lib.hid agAB
  clear hask hasked hAK hAB h hAe hBe hA1 hB1 hAo hBo agAK agAB
  go_enter Try.func4, Try.ntmps4
  go_upto_region 1 with (fail)
  generalize (w.alloc (.cells (cpu5 c.name v0 v1 v2 v3) 41)).alloc (.cells (core12 f op pl n) 43) = w1 at *
  go_upto_region 3 with (go_at_call 11; refine (cores_law _).mono ?_; rintro e w2 ⟨rfl, hb2⟩; have j0 := rowB_below k0 hb2 (rowB_lt k0); have j1 := rowB_below k1 hb2 (rowB_lt k1); have bj := bW.trans (hb2.mono bW.size))
  clear k0 k1 bW hb2
  have nz := rowB_new w2 43 (core12 (fun _ => 0) 0 0 false)
  go_upto_region 4 with (first
      | (refine wpList_loadR rfl 43 _ rfl (w.heap.size + 1) rfl 43 (core12 f op pl n) ?_ agK ?_; with_reducible exact j1)
      | (refine wpList_storeR rfl 43 _ _ rfl (w2.heap.size) rfl (core12 f op pl n) rfl (core12_one _ _ _ _) 43 (core12 (fun _ => 0) 0 0 false) rfl ?_ agK ?_; exact nz))
  have l2 : w.heap.size + 1 < w2.heap.size := rowB_lt j1
  have m7 := rowB_row nz (core12 f op pl n)
  have m0 := rowB_row_other (rowB_alloc j0 (.cells (core12 (fun _ => 0) 0 0 false) 43)) (core12 f op pl n) (show w2.heap.size ≠ w.heap.size by omega)
  have m1 := rowB_row_other (rowB_alloc j1 (.cells (core12 (fun _ => 0) 0 0 false) 43)) (core12 f op pl n) (show w2.heap.size ≠ w.heap.size + 1 by omega)
  have bm := below_rowR (bj.alloc bj.size (.cells (core12 (fun _ => 0) 0 0 false) 43)) (core12 f op pl n) bj.size
  rw [zero12]
  generalize (w2.alloc (.cells (core12 (fun _ => 0) 0 0 false) 43)).setRow w2.heap.size (core12 f op pl n) = w3 at *
  generalize w2.heap.size = x7 at *
  clear j0 j1 bj nz
  have z11 := rowB_free m7 11
  have c11 := coreB_nm m7
  go_upto_region 5 with (fail)
  have i7 := coreB_setNm m7 true
  have i0 := rowB_other m0 ⟨x7, 11, none⟩ (.bool true) (by show x7 ≠ w.heap.size; omega)
  have i1 := rowB_other m1 ⟨x7, 11, none⟩ (.bool true) (by show x7 ≠ w.heap.size + 1; omega)
  have bi := bm.setCell (p := ⟨x7, 11, none⟩) (by show w.heap.size ≤ x7; omega) (.bool true)
  clear m0 m1 m7 bm z11 c11
  generalize w3.setCell ⟨x7, 11, none⟩ (.bool true) = w4 at *
  go_upto_region 6 with (first
      | (refine wpList_loadR rfl 41 _ rfl (w.heap.size) rfl 41 (cpu5 c.name v0 v1 v2 v3) ?_ agP ?_; with_reducible exact i0)
      | (refine wpList_loadR rfl 43 _ rfl (w.heap.size + 1) rfl 43 (core12 f op pl n) ?_ agK ?_; with_reducible exact i1)
      | (go_at_call 12; refine (HASK.out _ bi).mono ?_; rintro e w5 ⟨rfl, hb⟩; have nz := rowB_alloc (rowB_new w5 43 (core12 (fun _ => 0) 0 0 false)) (.cells (bus3 0 0 0) 45); have ny := pair_mid w5 AK)
      | (refine wpList_storeR rfl 43 _ _ rfl (w5.heap.size) rfl AK rfl HA1.out 43 (core12 (fun _ => 0) 0 0 false) HAo.out.symm ?_ HgA.out ?_; exact nz)
      | (refine wpList_storeR rfl 45 _ _ rfl (w5.heap.size + 1) rfl AB rfl HB1.out 45 (bus3 0 0 0) HBo.out.symm ?_ HgB.out ?_; exact ny))
  obtain ⟨p8, q8, bp⟩ := pair_new w5 AK AB
  clear nz ny
  have hbp := hb.trans (bp.mono hb.size)
  have i0' := rowB_below i0 hbp (rowB_lt i0)
  have i1' := rowB_below i1 hbp (rowB_lt i1)
  have i7' := rowB_below i7 hbp (rowB_lt i7)
  have bi' := bi.trans (hbp.mono bi.size)
  have l8 := hb.size
  clear i0 i1 i7 bi bp hb hbp
  change Code.wp _ _ _ _ ((((w5.alloc (.cells (core12 (fun _ => 0) 0 0 false) 43)).alloc (.cells (bus3 0 0 0) 45)).setRow w5.heap.size AK).setRow (w5.heap.size + 1) AB)
  generalize (((w5.alloc (.cells (core12 (fun _ => 0) 0 0 false) 43)).alloc (.cells (bus3 0 0 0) 45)).setRow w5.heap.size AK).setRow (w5.heap.size + 1) AB = w5z at *
  have i0 := i0'
  have i1 := i1'
  have i7 := i7'
  have bi := bi'
  clear i0' i1' i7' bi'
  go_upto_region 7 with (first
      | (refine wpList_loadR rfl 41 _ rfl (w.heap.size) rfl 41 (cpu5 c.name v0 v1 v2 v3) ?_ agP ?_; with_reducible exact i0)
      | (refine wpList_loadR rfl 43 _ rfl (w.heap.size + 1) rfl 43 (core12 f op pl n) ?_ agK ?_; with_reducible exact i1)
      | (go_at_call 13; refine (HASKED.out _ bi).mono ?_; rintro e w6 ⟨rfl, hb⟩; have nz := rowB_alloc (rowB_new w6 43 (core12 (fun _ => 0) 0 0 false)) (.cells (bus3 0 0 0) 45); have ny := pair_mid w6 AK)
      | (refine wpList_storeR rfl 43 _ _ rfl (w6.heap.size) rfl AK rfl HA1.out 43 (core12 (fun _ => 0) 0 0 false) HAo.out.symm ?_ HgA.out ?_; exact nz)
      | (refine wpList_storeR rfl 45 _ _ rfl (w6.heap.size + 1) rfl AB rfl HB1.out 45 (bus3 0 0 0) HBo.out.symm ?_ HgB.out ?_; exact ny))
  obtain ⟨p10, q10, bp⟩ := pair_new w6 AK AB
  clear nz ny
  have hbp := hb.trans (bp.mono hb.size)
  have i0' := rowB_below i0 hbp (rowB_lt i0)
  have i1' := rowB_below i1 hbp (rowB_lt i1)
  have i7' := rowB_below i7 hbp (rowB_lt i7)
  have p8' := rowB_below p8 hbp (rowB_lt p8)
  have q8' := rowB_below q8 hbp (rowB_lt q8)
  have bi' := bi.trans (hbp.mono bi.size)
  have l10 := hb.size
  clear i0 i1 i7 p8 q8 bi bp hb hbp
  change Code.wp _ _ _ _ ((((w6.alloc (.cells (core12 (fun _ => 0) 0 0 false) 43)).alloc (.cells (bus3 0 0 0) 45)).setRow w6.heap.size AK).setRow (w6.heap.size + 1) AB)
  generalize (((w6.alloc (.cells (core12 (fun _ => 0) 0 0 false) 43)).alloc (.cells (bus3 0 0 0) 45)).setRow w6.heap.size AK).setRow (w6.heap.size + 1) AB = w6z at *
  have i0 := i0'
  have i1 := i1'
  have i7 := i7'
  have p8 := p8'
  have q8 := q8'
  have bi := bi'
  clear i0' i1' i7' p8' q8' bi'
  clear HASK HASKED i0
  have h6 : six w6z (w.heap.size + 1) x7 w5.heap.size (w5.heap.size + 1) w6.heap.size (w6.heap.size + 1) (core12 f op pl n) (core12 f op pl true) AK AB := ⟨i1, i7, p8, q8, p10, q10⟩
  clear i1 i7 p8 q8 p10 q10 k0 k1
  have hgK : Try.prog.eqGuardType Try.prog.depth 43 = false := by kernel_rfl
  have hgB : Try.prog.eqGuardType Try.prog.depth 45 = false := by kernel_rfl
  have hq1 : ∀ w, (Op.equalIn 10000 43 (.agg (core12 newR 258 0 false)) (.agg #[.int .i64 0, .int .i64 0, .int .i64 0, .int .i64 0, .int .i64 4, .int .i64 0, .int .i64 0, .int .i64 0, .int .i64 0, .int .i64 258, .int .i64 0, .bool false])).run Try.prog w = .ok true w := fun w => equal12 newR 258 0 false w
  have hq2 : ∀ w, (Op.equalIn 10000 43 (.agg (core12 f op pl true)) (.agg (core12 f op pl true))).run Try.prog w = .ok true w := fun w => equal12 f op pl true w
  have hq3 := HAe.out
  have hq4 := HBe.out
  refine wp_region_mix (fun w' => six w' (w.heap.size + 1) x7 w5.heap.size (w5.heap.size + 1) w6.heap.size (w6.heap.size + 1) (core12 f op pl n) (core12 f op pl true) AK AB) [(1, 1), (2, 1), (0, 3), (3, 0), (4, 0), (5, 1), (7, 1), (6, 3), (8, 0), (9, 0), (10, 0), (11, 1), (12, 1), (13, 0), (14, 0), (15, 0), (16, 1), (17, 1), (18, 0), (19, 0), (20, 0)] (by kernel_rfl) (by kernel_rfl) (fun _ _ _ _ _ h => h) ?_
  simp only [List.map_cons, List.map_nil, opOf, List.getD_cons_zero, List.getD_cons_succ]
  change wpMix _ _ _ _ _ _ w6z.drew
  have h6 : six w6z.drew (w.heap.size + 1) x7 w5.heap.size (w5.heap.size + 1) w6.heap.size (w6.heap.size + 1) (core12 f op pl n) (core12 f op pl true) AK AB := ⟨h6.h0, h6.h1, h6.h2, h6.h3, h6.h4, h6.h5⟩
  have bi := bi.drew
  generalize w6z.drew = wz at *
  refine wpMix_held (.agg #[.int .i64 0, .int .i64 0, .int .i64 0, .int .i64 0, .int .i64 4, .int .i64 0, .int .i64 0, .int .i64 0, .int .i64 0]) rfl h6 (fun w' h' => by go_simp) ?_
  simp only [Act.put, List.setIfInBounds_toArray, List.set_cons_zero, List.set_cons_succ]
  refine wpMix_held (.agg #[.int .i64 0, .int .i64 0, .int .i64 0, .int .i64 0, .int .i64 4, .int .i64 0, .int .i64 0, .int .i64 0, .int .i64 0, .int .i64 258, .int .i64 0, .bool false]) rfl h6 (fun w' h' => by go_simp) ?_
  simp only [Act.put, List.setIfInBounds_toArray, List.set_cons_zero, List.set_cons_succ]
  refine wpMix_call ?_
  go_wp2_with (go_at_call 14; refine (new_any _).mono ?_; rintro e va ⟨rfl, hb⟩; have h6' := h6.below hb; have bi' := bi.trans (hb.mono bi.size))
  first | refine ⟨fun _ => h6', ?_⟩ | refine ⟨h6', ?_⟩
  clear h6 bi hb
  have h6 := h6'
  have bi := bi'
  clear h6' bi'
  (refine wpMix_still (fun K hK => ?_); go_simp; refine hK _ ?_; clear hK K)
  (refine wpMix_still (fun K hK => ?_); go_simp; refine hK _ ?_; clear hK K)
  refine wpMix_held (.agg (core12 f op pl n)) rfl h6 (fun w' h' => exec_rowR 43 _ rfl (w.heap.size + 1) rfl 43 (core12 f op pl n) h'.h0 agK) ?_
  simp only [Act.put, List.setIfInBounds_toArray, List.set_cons_zero, List.set_cons_succ]
  refine wpMix_held (.agg (core12 f op pl true)) rfl h6 (fun w' h' => exec_rowR 43 _ rfl (x7) rfl 43 (core12 f op pl true) h'.h1 agK) ?_
  simp only [Act.put, List.setIfInBounds_toArray, List.set_cons_zero, List.set_cons_succ]
  refine wpMix_call ?_
  go_wp2_with (go_at_call 15; refine (nmi_any f op pl n _).mono ?_; rintro e vb ⟨rfl, hb⟩; have h6' := h6.below hb; have bi' := bi.trans (hb.mono bi.size))
  first | refine ⟨fun _ => h6', ?_⟩ | refine ⟨h6', ?_⟩
  clear h6 bi hb
  have h6 := h6'
  have bi := bi'
  clear h6' bi'
  (refine wpMix_still (fun K hK => ?_); go_simp; refine hK _ ?_; clear hK K)
  (refine wpMix_still (fun K hK => ?_); go_simp; refine hK _ ?_; clear hK K)
  (refine wpMix_still (fun K hK => ?_); go_simp; refine hK _ ?_; clear hK K)
  refine wpMix_held (.agg (AK)) rfl h6 (fun w' h' => exec_rowR 43 _ rfl (w5.heap.size) rfl 43 (AK) h'.h2 HgA.out) ?_
  simp only [Act.put, List.setIfInBounds_toArray, List.set_cons_zero, List.set_cons_succ]
  refine wpMix_held (.agg (AK)) rfl h6 (fun w' h' => exec_rowR 43 _ rfl (w6.heap.size) rfl 43 (AK) h'.h4 HgA.out) ?_
  simp only [Act.put, List.setIfInBounds_toArray, List.set_cons_zero, List.set_cons_succ]
  (refine wpMix_still (fun K hK => ?_); go_simp; refine hK _ ?_; clear hK K)
  (refine wpMix_still (fun K hK => ?_); go_simp; refine hK _ ?_; clear hK K)
  (refine wpMix_still (fun K hK => ?_); go_simp; refine hK _ ?_; clear hK K)
  refine wpMix_held (.agg (AB)) rfl h6 (fun w' h' => exec_rowR 45 _ rfl (w5.heap.size + 1) rfl 45 (AB) h'.h3 HgB.out) ?_
  simp only [Act.put, List.setIfInBounds_toArray, List.set_cons_zero, List.set_cons_succ]
  refine wpMix_held (.agg (AB)) rfl h6 (fun w' h' => exec_rowR 45 _ rfl (w6.heap.size + 1) rfl 45 (AB) h'.h5 HgB.out) ?_
  simp only [Act.put, List.setIfInBounds_toArray, List.set_cons_zero, List.set_cons_succ]
  (refine wpMix_still (fun K hK => ?_); go_simp; refine hK _ ?_; clear hK K)
  (refine wpMix_still (fun K hK => ?_); go_simp; refine hK _ ?_; clear hK K)
  (refine wpMix_still (fun K hK => ?_); go_simp; refine hK _ ?_; clear hK K)
  refine wpMix_nil ?_
  go_wp2_with fail
  go_ret
  exact ⟨rfl, bi⟩
end Go.Proofs.Ytnmemknmipengaa
