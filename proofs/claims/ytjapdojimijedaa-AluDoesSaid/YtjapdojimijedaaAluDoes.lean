/- The law AluDoes: Fit and Do against the reference. -/
import Derived.Test.YtjapdojimijedaaAluStep
import Derived.Test.YtjapdojimijedaaAluRegs
import Derived.Test.YtjapdojimijedaaAluEq
import Derived.Deep.MidRow
namespace Go.Proofs.Ytjapdojimijedaa
open Go.RowKit

/-- All of the registers are loaded, in whatever world holds them. -/
theorem exec_load9 {P : Program} {o : Oper} {a : Act} {w : World} (ty : TypeId) (x : Operand) (ho : o.op = .load ty x)
    (g : Nat) (hx : a.eval x = .pointer (some ⟨g, 0, none⟩)) (t : TypeId) (f : Nat → Int) (hg : regB w g t f) (h9 : is9 P ty) : (execOp a.eval o).run P w = .ok (.value (.agg (arr9 f))) w := by
  obtain ⟨⟨e, hu⟩, hi⟩ := h9
  unfold execOp
  simp only [ho, hx, Instr.loadAt, Instr.sureAddr, Sem.run_bind, Sem.run_pure, Result.andThen_ok, run_loadVar_row w g t ty (arr9 f) (0, 0) _ hg hu rfl hi]

theorem keepS {w w' : World} {g : Nat} {o : Obj} (h : w.heap[g]? = some o) (hb : Below w.heap.size w w') : w'.heap[g]? = some o := by
  rw [hb.block g (Array.getElem?_eq_some_iff.1 h).1]; exact h
set_option maxHeartbeats 4000000 in
theorem aluDoes_walk (d t0 u0 n : Int) (f : Nat → Int) (w : World) :
    Calls Try.prog 3 #[.agg #[.int .i64 d, .int .i64 t0, .int .i64 u0, .int .i64 n], .agg (arr9 f)] w fun e w' => e = .returned (.bool true) ∧ Below w.heap.size w w' := by
  have b0 := below_one w (.cells (stepC d t0 u0 n) 23)
  have hA : (w.alloc (.cells (stepC d t0 u0 n) 23)).heap[w.heap.size]? = some (.cells (stepC d t0 u0 n) 23 (0, 0)) := heap_alloc_last w _
  have b1 := below_one (w.alloc (.cells (stepC d t0 u0 n) 23)) (.cells (arr9 f) 25)
  have hS : ((w.alloc (.cells (stepC d t0 u0 n) 23)).alloc (.cells (arr9 f) 25)).heap[w.heap.size]? = some (.cells (stepC d t0 u0 n) 23 (0, 0)) := by
    rw [b1.block w.heap.size (by simp)]; exact hA
  have hR : regB ((w.alloc (.cells (stepC d t0 u0 n) 23)).alloc (.cells (arr9 f) 25)) (w.heap.size + 1) 25 f := regB_start2 w _ f _
  have bel := b0.trans (b1.mono b0.size)
  clear b0 hA b1
  have hft := fit_any f
  have hrf := fittedRef_any f
  have hd := do_any d t0 u0 n f
  have hs := stepped_any d t0 u0 n f
  generalize doF d (reg t0) (reg u0) n (fitR f) = G at *
  generalize endB d (reg u0) n (fitR f) = E at *
  generalize fitR f = F at *
  go_enter Try.func3, Try.ntmps3
  go_upto_region 1 with (fail)
  have hS : ((w.alloc (.cells #[.int .i64 d, .int .i64 t0, .int .i64 u0, .int .i64 n] 23)).alloc (.cells (arr9 f) 25)).heap[w.heap.size]? = some (.cells (stepC d t0 u0 n) 23 (0, 0)) := hS
  have hR : regB ((w.alloc (.cells #[.int .i64 d, .int .i64 t0, .int .i64 u0, .int .i64 n] 23)).alloc (.cells (arr9 f) 25)) (w.heap.size + 1) 25 f := hR
  have bel : Below w.heap.size w ((w.alloc (.cells #[.int .i64 d, .int .i64 t0, .int .i64 u0, .int .i64 n] 23)).alloc (.cells (arr9 f) 25)) := bel
  generalize (w.alloc (.cells #[.int .i64 d, .int .i64 t0, .int .i64 u0, .int .i64 n] 23)).alloc (.cells (arr9 f) 25) = w1 at *
  have hS1 := hS
  have hR1 := hR
  have bel1 := bel
  clear hS hR bel
  have he : ∀ (f : Nat → Int) w, (Op.equalIn 10000 25 (.agg (arr9 f)) (.agg (arr9 f))).run Try.prog w = .ok true w := fun f => equal9 9998 f
  have hg : Try.prog.eqGuardType Try.prog.depth 25 = false := by kernel_rfl
  refine wp_region_mix (fun w' => regB w' (w.heap.size + 1) 25 f) [(0, 2), (1, 0), (2, 0), (3, 0), (5, 1), (4, 3), (6, 2), (7, 0), (8, 0)] (by kernel_rfl) (by kernel_rfl) (fun _ _ _ _ _ h => h) ?_
  simp only [List.map_cons, List.map_nil, opOf, List.getD_cons_zero, List.getD_cons_succ]
  change wpMix _ _ _ _ _ _ w1.drew
  have hS1 : w1.drew.heap[w.heap.size]? = some (.cells (stepC d t0 u0 n) 23 (0, 0)) := hS1
  have hR1 : regB w1.drew (w.heap.size + 1) 25 f := hR1
  have bel1 := bel1.drew
  generalize w1.drew = w1 at *
  refine wpMix_call ?_
  go_wp2_with (go_at_call 8; refine (does_law _).mono ?_; rintro e w2 ⟨rfl, hb2⟩; have hS2 := keepS hS1 hb2; have hR2 := regB_below hR1 hb2 (regB_lt hR1); have bel2 := bel1.trans (hb2.mono bel1.size))
  refine ⟨fun h => (by cases h), ?_⟩
  obtain ⟨r0, r1, r2, r3, r4, r5, r6, r7, r8⟩ := regB_cells hR2
  (refine wpMix_still (fun K hK => ?_); go_simp; refine hK _ ?_; clear hK K)
  (refine wpMix_still (fun K hK => ?_); go_simp; refine hK _ ?_; clear hK K)
  (refine wpMix_still (fun K hK => ?_); go_simp; refine hK _ ?_; clear hK K)
  clear r0 r1 r2 r3 r4 r5 r6 r7 r8
  refine wpMix_held (.agg (arr9 f)) rfl hR2 (fun w' hw' => exec_load9 25 _ rfl (w.heap.size + 1) rfl 25 f hw' is9R) ?_
  simp only [Act.put, List.setIfInBounds_toArray, List.set_cons_zero, List.set_cons_succ]
  refine wpMix_call ?_
  go_wp2_with (go_at_call 9; refine (hft _).mono ?_; rintro e w3 ⟨rfl, hb3⟩; have hS3 := keepS hS2 hb3; have hR3 := regB_below hR2 hb3 (regB_lt hR2); have bel3 := bel2.trans (hb3.mono bel2.size))
  refine ⟨fun _ => hR3, ?_⟩
  refine wpMix_call ?_
  go_wp2_with (go_at_call 10; refine (hrf _).mono ?_; rintro e w4 ⟨rfl, hb4⟩; have hS4 := keepS hS3 hb4; have hR4 := regB_below hR3 hb4 (regB_lt hR3); have bel4 := bel3.trans (hb4.mono bel3.size))
  refine ⟨fun h => (by cases h), ?_⟩
  (refine wpMix_still (fun K hK => ?_); go_simp; refine hK _ ?_; clear hK K)
  (refine wpMix_still (fun K hK => ?_); go_simp; refine hK _ ?_; clear hK K)
  refine wpMix_nil ?_
  clear hft hrf hb2 hb3 hb4 hS1 hS2 hS3 hR1 hR2 hR3 bel1 bel2 bel3 hS hR bel
  have sc : ∀ w' : World, w'.heap[w.heap.size]? = some (.cells (stepC d t0 u0 n) 23 (0, 0)) → w'.cell? ⟨w.heap.size, 0, none⟩ = some (.int .i64 d) ∧ w'.cell? ⟨w.heap.size, 1, none⟩ = some (.int .i64 t0) ∧ w'.cell? ⟨w.heap.size, 2, none⟩ = some (.int .i64 u0) ∧ w'.cell? ⟨w.heap.size, 3, none⟩ = some (.int .i64 n) := fun w' h => by
    refine ⟨?_, ?_, ?_, ?_⟩ <;> (rw [cell_of_row w' _ _ _ _ _ h]; rfl)
  obtain ⟨s0, s1, s2, s3⟩ := sc _ hS4
  go_upto_region 4 with (first
    | (go_at_call 11; refine (hd _).mono ?_; rintro e w5 ⟨rfl, hb5⟩; have hS5 := keepS hS4 hb5; have hR5 := regB_below hR4 hb5 (regB_lt hR4); have bel5 := bel4.trans (hb5.mono bel4.size); have hz5 := regB_new w5 25 (fun _ => 0))
    | (refine wpList_load9 rfl 25 _ rfl (w.heap.size + 1) rfl 25 (f) ?_ is9R ?_; with_reducible exact hR4) | (refine wpList_store9 rfl 25 _ _ rfl (w5.heap.size) rfl (G) rfl 25 (fun _ => 0) ?_ is9R ?_; exact hz5))
  clear s0 s1 s2 s3 hS4 hR4 bel4 hb5 hd
  have lR := regB_lt hR5
  have hX := regB_row hz5 G
  have hS6 : ((w5.alloc (.cells (arr9 fun _ => 0) 25)).setRow w5.heap.size (arr9 G)).heap[w.heap.size]? = some (.cells (stepC d t0 u0 n) 23 (0, 0)) := by
    rw [setRow_other _ _ _ _ (by omega)]
    exact keepS hS5 (below_one w5 _)
  have hR6 := regB_row_other (regB_alloc hR5 (.cells (arr9 fun _ => 0) 25)) (arr9 G) (by omega : w5.heap.size ≠ w.heap.size + 1)
  have bel6 := below_rowR (bel5.alloc bel5.size (.cells (arr9 fun _ => 0) 25)) (arr9 G) bel5.size
  rw [zero9]
  clear hS5 hR5 bel5 hz5
  generalize (w5.alloc (.cells (arr9 fun _ => 0) 25)).setRow w5.heap.size (arr9 G) = w6 at *
  generalize w5.heap.size = x at *
  obtain ⟨s0, s1, s2, s3⟩ := sc _ hS6
  have lX := regB_lt hX
  go_upto_region 5 with (first
    | (go_at_call 12; refine (hs _).mono ?_; rintro e w7 ⟨rfl, hb7⟩; have hX7 := regB_below hX hb7 lX; have bel7 := bel6.trans (hb7.mono bel6.size); have lX7 := Nat.lt_of_lt_of_le lX hb7.size; have hz7 := regB_new w7 25 (fun _ => 0))
    | (refine wpList_load9 rfl 25 _ rfl (w.heap.size + 1) rfl 25 (f) ?_ is9R ?_; with_reducible exact hR6) | (refine wpList_store9 rfl 25 _ _ rfl (w7.heap.size) rfl (G) rfl 25 (fun _ => 0) ?_ is9R ?_; exact hz7))
  have hY := regB_row hz7 G
  have hX8 := regB_row_other (regB_alloc hX7 (.cells (arr9 fun _ => 0) 25)) (arr9 G) (by omega : w7.heap.size ≠ x)
  have bel8 := below_rowR (bel7.alloc bel7.size (.cells (arr9 fun _ => 0) 25)) (arr9 G) bel7.size
  rw [zero9]
  clear s0 s1 s2 s3 hS6 hR6 bel6 hX7 bel7 hz7 hX hb7 hs
  generalize (w7.alloc (.cells (arr9 fun _ => 0) 25)).setRow w7.heap.size (arr9 G) = w8 at *
  generalize w7.heap.size = y at *
  go_wp2_with (first | (refine wpList_load9 rfl 25 _ rfl (x) rfl 25 (G) ?_ is9R ?_; with_reducible exact hX8) | (refine wpList_load9 rfl 25 _ rfl (y) rfl 25 (G) ?_ is9R ?_; with_reducible exact hY))
  go_ret
  exact ⟨rfl, bel8⟩
end Go.Proofs.Ytjapdojimijedaa
