/- The law CoreTells: Tell against the reference. -/
import Derived.Test.YtnmemknmipengaaCoreAns
import Derived.Test.YtnmemknmipengaaCoreEq
namespace Go.Proofs.Ytnmemknmipengaa
open Go.RowKit

theorem cores_tells (w : World) :
    Calls Try.prog 11 #[] w fun e w' => e = .returned (.bool true) ∧ Below w.heap.size w w' := by
  go_enter Try.func11, Try.ntmps11
  go_upto_region 2 with (first
      | (go_at_call 14; refine (new_any _).mono ?_; rintro e w1 ⟨rfl, hb⟩; have nz := rowB_new w1 43 (core12 (fun _ => 0) 0 0 false))
      | (refine wpList_storeR rfl 43 _ _ rfl (w1.heap.size) rfl (core12 newR 258 0 false) rfl (core12_one _ _ _ _) 43 (core12 (fun _ => 0) 0 0 false) rfl ?_ agK ?_; exact nz))
  have nX := rowB_row nz (core12 newR 258 0 false)
  have bX := below_rowR (hb.alloc hb.size (.cells (core12 (fun _ => 0) 0 0 false) 43)) (core12 newR 258 0 false) hb.size
  have c9 := coreB_op nX
  have c4 := coreB_reg nX 4 (by decide)
  rw [show newR 4 = 4 from rfl] at c4
  rw [zero12]
  generalize (w1.alloc (.cells (core12 (fun _ => 0) 0 0 false) 43)).setRow w1.heap.size (core12 newR 258 0 false) = w2 at *
  go_wp2_with fail
  go_ret
  exact ⟨rfl, bX⟩
structure twoW (w : World) (a b : Nat) (k0 k1 : Array Value) : Prop where
  h0 : rowB w a 41 k0
  h1 : rowB w b 43 k1
theorem twoW.below {w w' : World} {a b : Nat} {k0 k1 : Array Value} (h : twoW w a b k0 k1) (hb : Below w.heap.size w w') : twoW w' a b k0 k1 :=
  ⟨rowB_below h.h0 hb (rowB_lt h.h0), rowB_below h.h1 hb (rowB_lt h.h1)⟩

set_option maxRecDepth 100000 in
set_option maxHeartbeats 4000000 in
theorem coreTells_walk (c : Cp) (v0 v1 v2 v3 : Value) (f : Nat → Int) (op pl : Int) (n : Bool) (data : Int) (w : World) (h : cpuArg w v0 v1 v2 v3 c) :
    Calls Try.prog 5 #[.agg #[.string c.name, v0, v1, v2, v3], .agg (core12 f op pl n), .int .i64 data] w fun e w' => e = .returned (.bool true) ∧ Below w.heap.size w w' := by
  change Calls Try.prog 5 #[.agg (cpu5 c.name v0 v1 v2 v3), .agg (core12 f op pl n), .int .i64 data] w fun e w' => e = .returned (.bool true) ∧ Below w.heap.size w w'
  obtain ⟨k0, k1, bi, sW⟩ := boxes2 w (.cells (cpu5 c.name v0 v1 v2 v3) 41) (.cells (core12 f op pl n) 43)
  have h6 : twoW _ _ _ _ _ := ⟨k0, k1⟩
  have htell := fun w' (hb : Below w.heap.size w w') => tell_any c v0 v1 v2 v3 f op pl n data w' (cpuArg_below h hb (Nat.le_refl _))
  have hans := fun w' (hb : Below w.heap.size w w') => answered_any c v0 v1 v2 v3 f op pl n data w' (cpuArg_below h hb (Nat.le_refl _))
  obtain ⟨Q, hQ, hq1⟩ : ∃ Q, Q = tellCore c (fitR f) op pl n data ∧ ∀ w, (Op.equalIn 10000 43 (.agg Q) (.agg Q)).run Try.prog w = .ok true w := by
    refine ⟨_, rfl, ?_⟩
    unfold tellCore
    repeat' split
    all_goals exact fun w => equal12 _ _ _ _ w
  rw [← hQ] at htell hans
  have HT := Lib.hid htell
  have HN := Lib.hid hans
  have hgK : Try.prog.eqGuardType Try.prog.depth 43 = false := by kernel_rfl
  clear htell hans hQ h k0 k1 sW
  go_enter Try.func5, Try.ntmps5
  go_upto_region 1 with (fail)
  generalize (w.alloc (.cells (cpu5 c.name v0 v1 v2 v3) 41)).alloc (.cells (core12 f op pl n) 43) = w1 at *
  refine wp_region_mix (fun w' => twoW w' w.heap.size (w.heap.size + 1) (cpu5 c.name v0 v1 v2 v3) (core12 f op pl n)) [(0, 2), (1, 0), (2, 1), (3, 1), (4, 1), (6, 1), (7, 1), (8, 1), (5, 3), (9, 2), (10, 0), (11, 0), (12, 0)] (by kernel_rfl) (by kernel_rfl) (fun _ _ _ _ _ h => h) ?_
  simp only [List.map_cons, List.map_nil, opOf, List.getD_cons_zero, List.getD_cons_succ]
  change wpMix _ _ _ _ _ _ w1.drew
  have h6 : twoW w1.drew w.heap.size (w.heap.size + 1) (cpu5 c.name v0 v1 v2 v3) (core12 f op pl n) := ⟨h6.h0, h6.h1⟩
  have bi := bi.drew
  generalize w1.drew = wz at *
  refine wpMix_call ?_
  go_wp2_with (go_at_call 11; refine (cores_tells _).mono ?_; rintro e va ⟨rfl, hb⟩; have h6' := h6.below hb; have bi' := bi.trans (hb.mono bi.size))
  first | refine ⟨fun h => (by cases h), ?_⟩ | skip
  clear h6 bi hb
  have h6 := h6'
  have bi := bi'
  clear h6' bi'
  (refine wpMix_still (fun K hK => ?_); go_simp; refine hK _ ?_; clear hK K)
  refine wpMix_held (.agg (cpu5 c.name v0 v1 v2 v3)) rfl h6 (fun w' h' => exec_rowR 41 _ rfl (w.heap.size) rfl 41 (cpu5 c.name v0 v1 v2 v3) h'.h0 agP) ?_
  simp only [Act.put, List.setIfInBounds_toArray, List.set_cons_zero, List.set_cons_succ]
  refine wpMix_held (.agg (core12 f op pl n)) rfl h6 (fun w' h' => exec_rowR 43 _ rfl (w.heap.size + 1) rfl 43 (core12 f op pl n) h'.h1 agK) ?_
  simp only [Act.put, List.setIfInBounds_toArray, List.set_cons_zero, List.set_cons_succ]
  refine wpMix_held (.int .i64 data) rfl h6 (fun w' h' => by go_simp) ?_
  simp only [Act.put, List.setIfInBounds_toArray, List.set_cons_zero, List.set_cons_succ]
  refine wpMix_held (.agg (cpu5 c.name v0 v1 v2 v3)) rfl h6 (fun w' h' => exec_rowR 41 _ rfl (w.heap.size) rfl 41 (cpu5 c.name v0 v1 v2 v3) h'.h0 agP) ?_
  simp only [Act.put, List.setIfInBounds_toArray, List.set_cons_zero, List.set_cons_succ]
  refine wpMix_held (.agg (core12 f op pl n)) rfl h6 (fun w' h' => exec_rowR 43 _ rfl (w.heap.size + 1) rfl 43 (core12 f op pl n) h'.h1 agK) ?_
  simp only [Act.put, List.setIfInBounds_toArray, List.set_cons_zero, List.set_cons_succ]
  refine wpMix_held (.int .i64 data) rfl h6 (fun w' h' => by go_simp) ?_
  simp only [Act.put, List.setIfInBounds_toArray, List.set_cons_zero, List.set_cons_succ]
  refine wpMix_call ?_
  go_wp2_with (go_at_call 16; refine (HT.out _ bi).mono ?_; rintro e vb ⟨rfl, hb⟩; have h6' := h6.below hb; have bi' := bi.trans (hb.mono bi.size))
  first | refine ⟨fun _ => h6', ?_⟩ | refine ⟨h6', ?_⟩
  clear h6 bi hb
  have h6 := h6'
  have bi := bi'
  clear h6' bi'
  refine wpMix_call ?_
  go_wp2_with (go_at_call 17; refine (HN.out _ bi).mono ?_; rintro e vc ⟨rfl, hb⟩; have h6' := h6.below hb; have bi' := bi.trans (hb.mono bi.size))
  first | refine ⟨fun h => (by cases h), ?_⟩ | skip
  clear h6 bi hb
  have h6 := h6'
  have bi := bi'
  clear h6' bi'
  (refine wpMix_still (fun K hK => ?_); go_simp; refine hK _ ?_; clear hK K)
  (refine wpMix_still (fun K hK => ?_); go_simp; refine hK _ ?_; clear hK K)
  (refine wpMix_still (fun K hK => ?_); go_simp; refine hK _ ?_; clear hK K)
  refine wpMix_nil ?_
  go_wp2_with fail
  go_ret
  exact ⟨rfl, bi⟩
end Go.Proofs.Ytnmemknmipengaa
