/- The law AluBytes: an address divided into bytes and put together again; a valid step leaves registers as large as they may be. -/
import Derived.Test.YtnmemknmipengaaAluBytesA
import Derived.Test.YtnmemknmipengaaAluKeep
import Derived.Test.YtnmemknmipengaaLinF
import Derived.Test.YtnmemknmipengaaRow
import Derived.Test.YtnmemknmipengaaAluEq
namespace Go.Proofs.Ytnmemknmipengaa
open Go.RowKit

theorem do_fits (d : Int) (t u : Nat) (n : Int) (f : Nat → Int) : fits (doF d t u n (fitR f)) := by
  have hF := fits_fit f
  unfold doF
  split
  · have b := flg_bd (fitR f 4) (fitR f t) (fits4 hF)
    exact fits_set hF 4 _ b.1 b.2
  · repeat' split
    all_goals first | exact fits_fit _ | exact hF
theorem byt.below {w0 w w' : World} {a b g : Nat} {f G : Nat → Int} (h : byt w0 w a b g f G) (hb : Below w.heap.size w w') : byt w0 w' a b g f G := by
  have hg := h.glt
  obtain ⟨hA, hB, n1, n2, l, h1, h2, h3, v, h4, h5⟩ := h
  refine ⟨regB_below hA hb (regB_lt hA), regB_below hB hb (regB_lt hB), n1, n2, l, h1, h2.trans (hb.mono h2.size), h3, v, ?_, h5⟩
  show w'.heap[g]? = _
  rw [hb.block g hg]; exact h4
theorem byt.row {w0 w : World} {a b g z : Nat} {f G : Nat → Int} (h : byt w0 w a b g f G) (c : Array Value) (ha : z ≠ a) (hb : z ≠ b) (hg : z ≠ g) (hz : w0.heap.size ≤ z) : byt w0 (w.setRow z c) a b g f G := by
  obtain ⟨hA, hB, n1, n2, l, h1, h2, h3, v, h4, h5⟩ := h
  exact ⟨regB_row_other hA c ha, regB_row_other hB c hb, n1, n2, l, h1, below_rowR h2 c hz, h3, v, rowB_row_other h4 c hg, h5⟩
theorem byt.bel {w0 w : World} {a b g : Nat} {f G : Nat → Int} (h : byt w0 w a b g f G) : Below w0.heap.size w0 w := by
  obtain ⟨l, h1, h2, _⟩ := h.st
  exact h2
/-- Registers that are loaded whole, in whatever world holds them. -/
theorem exec_regs {P : Program} {o : Oper} {a : Act} {w : World} (ty : TypeId) (x : Operand) (ho : o.op = .load ty x)
    (g : Nat) (hx : a.eval x = .pointer (some ⟨g, 0, none⟩)) (t : TypeId) (f : Nat → Int) (hg : regB w g t f) (h9 : is9 P ty) : (execOp a.eval o).run P w = .ok (.value (.agg (arr9 f))) w := by
  obtain ⟨⟨e, hu⟩, hi⟩ := h9
  unfold execOp
  simp only [ho, hx, Instr.loadAt, Instr.sureAddr, Sem.run_bind, Sem.run_pure, Result.andThen_ok, run_loadVar_row w g t ty (arr9 f) (0, 0) _ hg hu rfl hi]

def fiveC : Array Value := #[.int .i64 20, .int .i64 5, .int .i64 8, .int .i64 0, .int .i64 21, .int .i64 6, .int .i64 8, .int .i64 0, .int .i64 2, .int .i64 8, .int .i64 0, .int .i64 1234, .int .i64 18, .int .i64 8, .int .i64 5, .int .i64 0, .int .i64 19, .int .i64 8, .int .i64 6, .int .i64 0]
theorem seq_do {f : Nat → Int} (h : fits f) (k : Nat) (hk : k < 5) : ∃ d t u n : Int, (∀ (w : World) (c : Nat), rowB w c 27 fiveC → w.cell? ⟨c, k * 4, none⟩ = some (.int .i64 d) ∧ w.cell? ⟨c, k * 4 + 1, none⟩ = some (.int .i64 t) ∧ w.cell? ⟨c, k * 4 + 2, none⟩ = some (.int .i64 u) ∧ w.cell? ⟨c, k * 4 + 3, none⟩ = some (.int .i64 n)) ∧
    ∀ w, Calls Try.prog 7 #[.agg #[.int .i64 d, .int .i64 t, .int .i64 u, .int .i64 n], .agg (arr9 (seqF f k))] w fun e w' => e = .returned (.tuple #[.agg (arr9 (seqF f (k + 1))), .bool false]) ∧ Below w.heap.size w w' := by
  obtain ⟨s0, s1, s2, s3, s4⟩ := seq_step h
  rcases (by omega : k = 0 ∨ k = 1 ∨ k = 2 ∨ k = 3 ∨ k = 4) with rfl | rfl | rfl | rfl | rfl
  · exact ⟨20, 5, 8, 0, fun w c hc => ⟨rowB_cell hc 0 rfl, rowB_cell hc 1 rfl, rowB_cell hc 2 rfl, rowB_cell hc 3 rfl⟩, fun w => (do_any 20 5 8 0 (seqF f 0) w).mono fun e w' he => ⟨he.1.trans (by rw [show reg 5 = 5 from rfl, show reg 8 = 8 from rfl, s0]; rfl), he.2⟩⟩
  · exact ⟨21, 6, 8, 0, fun w c hc => ⟨rowB_cell hc 4 rfl, rowB_cell hc 5 rfl, rowB_cell hc 6 rfl, rowB_cell hc 7 rfl⟩, fun w => (do_any 21 6 8 0 (seqF f 1) w).mono fun e w' he => ⟨he.1.trans (by rw [show reg 6 = 6 from rfl, show reg 8 = 8 from rfl, s1]; rfl), he.2⟩⟩
  · exact ⟨2, 8, 0, 1234, fun w c hc => ⟨rowB_cell hc 8 rfl, rowB_cell hc 9 rfl, rowB_cell hc 10 rfl, rowB_cell hc 11 rfl⟩, fun w => (do_any 2 8 0 1234 (seqF f 2) w).mono fun e w' he => ⟨he.1.trans (by rw [show reg 8 = 8 from rfl, show reg 0 = 0 from rfl, s2]; rfl), he.2⟩⟩
  · exact ⟨18, 8, 5, 0, fun w c hc => ⟨rowB_cell hc 12 rfl, rowB_cell hc 13 rfl, rowB_cell hc 14 rfl, rowB_cell hc 15 rfl⟩, fun w => (do_any 18 8 5 0 (seqF f 3) w).mono fun e w' he => ⟨he.1.trans (by rw [show reg 8 = 8 from rfl, show reg 5 = 5 from rfl, s3]; rfl), he.2⟩⟩
  · exact ⟨19, 8, 6, 0, fun w c hc => ⟨rowB_cell hc 16 rfl, rowB_cell hc 17 rfl, rowB_cell hc 18 rfl, rowB_cell hc 19 rfl⟩, fun w => (do_any 19 8 6 0 (seqF f 4) w).mono fun e w' he => ⟨he.1.trans (by rw [show reg 8 = 8 from rfl, show reg 6 = 6 from rfl, s4]; rfl), he.2⟩⟩
theorem agS : isAg Try.prog 27 4 := ⟨⟨_, Try.underlying27, rfl⟩, by kernel_rfl⟩

set_option maxHeartbeats 4000000 in
theorem aluBytes_walk (v u : Value) (l m : List Int) (w : World) (h : isArg w v l) (hwf : ∀ x ∈ l, (Lit.int .i64 x).wf = true) (g : isArg w u m) (gwf : ∀ x ∈ m, (Lit.int .i64 x).wf = true) :
    Calls Try.prog 3 #[v, u] w fun e w' => e = .returned (.bool true) ∧ Below w.heap.size w w' := by
  obtain ⟨sa, sl, scap, rfl⟩ : ∃ a n c, v = .slice a n c := by
    rcases h with ⟨a, cap, rfl, _⟩ | ⟨b, off, cap, rfl, _⟩ <;> exact ⟨_, _, _, rfl⟩
  obtain ⟨ua, ul, uc, rfl⟩ : ∃ a n c, u = .slice a n c := by
    rcases g with ⟨a, cap, rfl, _⟩ | ⟨b, off, cap, rfl, _⟩ <;> exact ⟨_, _, _, rfl⟩
  go_enter Try.func3, Try.ntmps3
  go_upto_region 2 with (first
    | (go_at_call 6; refine (registers_any _ l _ h hwf).mono ?_; rintro e w1 ⟨f, rfl, hf, hb⟩; have hz := regB_new w1 24 (fun _ => 0))
    | (refine wpList_store9 rfl 24 _ _ rfl (w1.heap.size) rfl (f) rfl 24 (fun _ => 0) ?_ is9R ?_; exact hz))
  have hA := regB_row hz f
  have bA := below_rowR (hb.alloc hb.size (.cells (arr9 fun _ => 0) 24)) (arr9 f) hb.size
  rw [zero9]
  generalize (w1.alloc (.cells (arr9 fun _ => 0) 24)).setRow w1.heap.size (arr9 f) = wA at *
  have lA := regB_lt hA
  have la := hb.size
  generalize w1.heap.size = a at *
  clear hz hb
  go_upto_region 3 with (first | (refine wpList_load9 rfl 24 _ rfl (a) rfl 24 (f) ?_ is9R ?_; with_reducible exact hA) | (refine wpList_store9 rfl 24 _ _ rfl (wA.heap.size) rfl (f) rfl 24 (fun _ => 0) ?_ is9R ?_; exact (regB_new wA 24 (fun _ => 0))))
  have hB := regB_row (regB_new wA 24 (fun _ => 0)) f
  have bB := below_rowR (bA.alloc bA.size (.cells (arr9 fun _ => 0) 24)) (arr9 f) bA.size
  have hA2 := regB_row_other (regB_alloc hA (.cells (arr9 fun _ => 0) 24)) (arr9 f) (by omega : wA.heap.size ≠ a)
  rw [zero9]
  have lc := bA.size
  clear hA bA
  generalize (wA.alloc (.cells (arr9 fun _ => 0) 24)).setRow wA.heap.size (arr9 f) = wB at *
  generalize wA.heap.size = b at *
  have lB := regB_lt hB
  go_upto_region 4 with (fail)
  have hC : rowB (wB.alloc (.cells fiveC 27)) wB.heap.size 27 fiveC := rowB_new wB _ _
  have hA3 := regB_alloc hA2 (.cells fiveC 27)
  have hB3 := regB_alloc hB (.cells fiveC 27)
  have bC := bB.alloc bB.size (.cells fiveC 27)
  have lC := bB.size
  rw [show (#[.int .i64 20, .int .i64 5, .int .i64 8, .int .i64 0, .int .i64 21, .int .i64 6, .int .i64 8, .int .i64 0, .int .i64 2, .int .i64 8, .int .i64 0, .int .i64 1234, .int .i64 18, .int .i64 8, .int .i64 5, .int .i64 0, .int .i64 19, .int .i64 8, .int .i64 6, .int .i64 0] : Array Value) = fiveC from rfl]
  generalize wB.alloc (.cells fiveC 27) = wC at *
  generalize wB.heap.size = c at *
  clear hB hA2 bB
  go_loopw [22] (fun i wr => ∃ k : Nat, k ≤ 5 ∧ i = .int .i64 k ∧ regB wr b 24 (seqF f k) ∧ regB wr a 24 f ∧ rowB wr c 27 fiveC ∧ Below w.heap.size w wr) (fun i _ => 5 - (intOf i).toNat)
  case atStart => exact ⟨0, by decide, rfl, hB3, hA3, hC, bC⟩
  case round =>
    clear hB3 hA3 hC bC
    obtain ⟨k, hk, rfl, hB, hA, hC, bB⟩ := hrel
    by_cases hlt : k < 5
    · obtain ⟨d, t, u2, n, hcells, hd⟩ := seq_do hf k hlt
      obtain ⟨e0, e1, e2, e3⟩ := hcells _ _ hC
      have lC2 := rowB_lt hC
      have nB := regB_alloc hB (.cells #[.int .i64 d, .int .i64 t, .int .i64 u2, .int .i64 n] 27)
      have nA := regB_alloc hA (.cells #[.int .i64 d, .int .i64 t, .int .i64 u2, .int .i64 n] 27)
      have nC := rowB_alloc hC (.cells #[.int .i64 d, .int .i64 t, .int .i64 u2, .int .i64 n] 27)
      have nb := bB.alloc bB.size (.cells #[.int .i64 d, .int .i64 t, .int .i64 u2, .int .i64 n] 27)
      go_wp2_with (first
        | (go_at_call 7; refine (hd _).mono ?_; rintro e w2 ⟨rfl, hb2⟩; have hB2 := regB_below nB hb2 (regB_lt nB); have hA2 := regB_below nA hb2 (regB_lt nA); have hC2 := rowB_below nC hb2 (rowB_lt nC); have bB2 := nb.trans (hb2.mono nb.size))
        | (refine wpList_load9 rfl 24 _ rfl (b) rfl 24 (seqF f k) ?_ is9R ?_; with_reducible exact nB) | (refine wpList_store9 rfl 24 _ _ rfl (b) rfl (seqF f (k + 1)) rfl 24 (seqF f k) ?_ is9R ?_; exact hB2))
      go_roundw
      case measure => simp [intOf]; omega
      case rel => exact ⟨k + 1, by omega, by go_num, regB_row hB2 _, regB_row_other hA2 _ (by omega : b ≠ a), rowB_row_other hC2 _ (by omega : b ≠ c), below_rowR bB2 _ (by omega)⟩
    · obtain rfl : k = 5 := by omega
      have HS := seq_last f
      have hfs := seq_fits hf 5
      go_upto_region 9 with (fail)
      have HB0 : byt w (wr.alloc (.cells #[.slice ua ul uc] 33)) a b wr.heap.size f (seqF f 5) := ⟨regB_alloc hA _, regB_alloc hB _, by have := regB_lt hA; omega, by have := regB_lt hB; omega, m, bB.size, bB.alloc bB.size _, gwf, _, Boxed.new wr _ _, g⟩
      clear hA hB hC bB lA lc lB lC
      generalize wr.alloc (.cells #[.slice ua ul uc] 33) = v0 at *
      generalize wr.heap.size = gs at *
      go_cut [10] (fun p wx => ∃ (e : Nat) (G : Nat → Int), p = .pointer (some ⟨e, 0, none⟩) ∧ fits G ∧ regB wx e 24 G ∧ regB wx a 24 f ∧ regB wx b 24 (seqF f 5) ∧ Below w.heap.size w wx)
      case first =>
        refine wp_region_float (fun w' => byt w w' a b gs f (seqF f 5)) [(0, 1), (2, 1), (4, 1), (6, 1), (9, 1), (1, 3), (3, 3), (5, 3), (7, 3), (8, 1), (10, 3), (11, 1), (12, 1), (13, 1)] 14 [(15, 3), (16, 0)] (by kernel_rfl) (by kernel_rfl) (fun _ _ _ _ _ h => h) ?_
        simp only [List.map_cons, List.map_nil, opOf, List.getD_cons_zero, List.getD_cons_succ]
        change wpFloat _ _ _ _ _ _ _ _ v0.drew
        have HB : byt w v0.drew a b gs f (seqF f 5) := by obtain ⟨x1, x2, x3, x4, l, y1, y2, y3, v, y4, y5⟩ := HB0; exact ⟨x1, x2, x3, x4, l, y1, y2.drew, y3, v, y4, y5⟩
        clear HB0
        generalize v0.drew = v0 at *
        refine wpFloat_held (.pointer (some ⟨gs, 0, none⟩)) rfl HB (fun w' hw' => by go_simp) ?_
        simp only [Act.put, List.setIfInBounds_toArray, List.set_cons_zero, List.set_cons_succ]
        refine wpFloat_held (.pointer (some ⟨gs, 0, none⟩)) rfl HB (fun w' hw' => by go_simp) ?_
        simp only [Act.put, List.setIfInBounds_toArray, List.set_cons_zero, List.set_cons_succ]
        refine wpFloat_held (.pointer (some ⟨gs, 0, none⟩)) rfl HB (fun w' hw' => by go_simp) ?_
        simp only [Act.put, List.setIfInBounds_toArray, List.set_cons_zero, List.set_cons_succ]
        refine wpFloat_held (.pointer (some ⟨gs, 0, none⟩)) rfl HB (fun w' hw' => by go_simp) ?_
        simp only [Act.put, List.setIfInBounds_toArray, List.set_cons_zero, List.set_cons_succ]
        refine wpFloat_held (.agg (arr9 f)) rfl HB (fun w' hw' => exec_regs 24 _ rfl a rfl 24 f hw'.hA is9R) ?_
        simp only [Act.put, List.setIfInBounds_toArray, List.set_cons_zero, List.set_cons_succ]
        refine wpFloat_call ?_ ?_
        rotate_left
        · go_wp2_with fail
          have hzg : v0.heap.size ≠ gs := by have := byt.glt HB; omega
          have hza : v0.heap.size ≠ a := by have := regB_lt HB.hA; omega
          have hzb : v0.heap.size ≠ b := by have := regB_lt HB.hB; omega
          have hzw : w.heap.size ≤ v0.heap.size := HB.bel.size
          have hZ2 := regB_new v0 24 (fun _ => 0)
          have hS2 := byt.alloc HB (.cells (arr9 fun _ => 0) 24)
          rw [zero9]
          generalize v0.alloc (.cells (arr9 fun _ => 0) 24) = v2 at *
          generalize v0.heap.size = z at *
          refine ⟨hS2, ?_⟩
          refine wpMix_call ?_
          go_wp2_with (go_at_call_of 8 (Value.int .i64 25); refine (byt.next hS2 25 (by decide)).mono ?_; rintro e v3 ⟨r1, rfl, _, _, hS3, hz3, keep3⟩; have hZ3 := keep3 _ _ hzg hZ2)
          refine ⟨fun _ => hS3, ?_⟩
          clear hS2 hz3 keep3 hZ2
          refine wpMix_call ?_
          go_wp2_with (go_at_call_of 8 (Value.int .i64 9); refine (byt.next hS3 9 (by decide)).mono ?_; rintro e v4 ⟨r2, rfl, _, _, hS4, hz4, keep4⟩; have hZ4 := keep4 _ _ hzg hZ3)
          refine ⟨fun _ => hS4, ?_⟩
          clear hS3 hz4 keep4 hZ3
          refine wpMix_call ?_
          go_wp2_with (go_at_call_of 8 (Value.int .i64 9); refine (byt.next hS4 9 (by decide)).mono ?_; rintro e v5 ⟨r3, rfl, _, _, hS5, hz5, keep5⟩; have hZ5 := keep5 _ _ hzg hZ4)
          refine ⟨fun _ => hS5, ?_⟩
          clear hS4 hz5 keep5 hZ4
          refine wpMix_call ?_
          go_wp2_with (go_at_call_of 8 (Value.int .i64 256); refine (byt.next hS5 256 (by decide)).mono ?_; rintro e v6 ⟨r4, rfl, _, _, hS6, hz6, keep6⟩; have hZ6 := keep6 _ _ hzg hZ5)
          refine ⟨fun _ => hS6, ?_⟩
          clear hS5 hz6 keep6 hZ5
          refine wpMix_held (.agg #[.int .i64 r1, .int .i64 r2, .int .i64 r3, .int .i64 r4]) rfl hS6 (fun w' hw' => by go_simp) ?_
          simp only [Act.put, List.setIfInBounds_toArray, List.set_cons_zero, List.set_cons_succ]
          refine wpMix_call ?_
          go_wp2_with (go_at_call 7; refine (do_any r1 r2 r3 r4 f _).mono ?_; rintro e v7 ⟨rfl, hb7⟩; have hS7 := byt.below hS6 hb7; have hZ7 := regB_below hZ6 hb7 (regB_lt hZ6); have hG := do_fits r1 (reg r2) (reg r3) r4 f; generalize doF r1 (reg r2) (reg r3) r4 (fitR f) = G at *; generalize endB r1 (reg r3) r4 (fitR f) = E at *)
          refine ⟨fun _ => hS7, ?_⟩
          refine wpMix_held (.tuple #[.agg (arr9 G), .bool E]) rfl hS7 (fun w' hw' => by go_simp) ?_
          simp only [Act.put, List.setIfInBounds_toArray, List.set_cons_zero, List.set_cons_succ]
          refine wpMix_held (.agg (arr9 G)) rfl hS7 (fun w' hw' => by go_simp) ?_
          simp only [Act.put, List.setIfInBounds_toArray, List.set_cons_zero, List.set_cons_succ]
          refine wpMix_held (.bool E) rfl hS7 (fun w' hw' => by go_simp) ?_
          simp only [Act.put, List.setIfInBounds_toArray, List.set_cons_zero, List.set_cons_succ]
          refine wpMix_call ?_
          go_wp2_with (refine wpList_store9 rfl 24 _ _ rfl (z) rfl (G) rfl 24 (fun _ => 0) ?_ is9R ?_; with_reducible exact hZ7)
          refine ⟨fun _ => byt.row hS7 (arr9 G) hza hzb hzg hzw, ?_⟩
          (refine wpMix_still (fun K hK => ?_); go_simp; refine hK _ ?_; clear hK K)
          refine wpMix_nil ?_
          go_wp2_with fail
          go_meet
          case rel => exact ⟨z, G, rfl, hG, regB_row hZ7 G, regB_row_other hS7.hA _ hza, regB_row_other hS7.hB _ hzb, below_rowR hS7.bel _ hzw⟩
        go_wp2_with (go_at_call_of 8 (Value.int .i64 25); refine (byt.next HB 25 (by decide)).mono ?_; rintro e v1 ⟨r1, rfl, _, _, hS1, hz1, keep1⟩)
        refine ⟨fun _ => hS1, ?_⟩
        clear  hz1 keep1
        refine wpFloat_call ?_ ?_
        rotate_left
        · go_wp2_with fail
          have hzg : v1.heap.size ≠ gs := by have := byt.glt hS1; omega
          have hza : v1.heap.size ≠ a := by have := regB_lt hS1.hA; omega
          have hzb : v1.heap.size ≠ b := by have := regB_lt hS1.hB; omega
          have hzw : w.heap.size ≤ v1.heap.size := hS1.bel.size
          have hZ9 := regB_new v1 24 (fun _ => 0)
          have hS9 := byt.alloc hS1 (.cells (arr9 fun _ => 0) 24)
          rw [zero9]
          generalize v1.alloc (.cells (arr9 fun _ => 0) 24) = v9 at *
          generalize v1.heap.size = z at *
          refine ⟨hS9, ?_⟩
          refine wpMix_call ?_
          go_wp2_with (go_at_call_of 8 (Value.int .i64 9); refine (byt.next hS9 9 (by decide)).mono ?_; rintro e v10 ⟨r2, rfl, _, _, hS10, hz10, keep10⟩; have hZ10 := keep10 _ _ hzg hZ9)
          refine ⟨fun _ => hS10, ?_⟩
          clear hS9 hz10 keep10 hZ9
          refine wpMix_call ?_
          go_wp2_with (go_at_call_of 8 (Value.int .i64 9); refine (byt.next hS10 9 (by decide)).mono ?_; rintro e v11 ⟨r3, rfl, _, _, hS11, hz11, keep11⟩; have hZ11 := keep11 _ _ hzg hZ10)
          refine ⟨fun _ => hS11, ?_⟩
          clear hS10 hz11 keep11 hZ10
          refine wpMix_call ?_
          go_wp2_with (go_at_call_of 8 (Value.int .i64 256); refine (byt.next hS11 256 (by decide)).mono ?_; rintro e v12 ⟨r4, rfl, _, _, hS12, hz12, keep12⟩; have hZ12 := keep12 _ _ hzg hZ11)
          refine ⟨fun _ => hS12, ?_⟩
          clear hS11 hz12 keep12 hZ11
          refine wpMix_held (.agg #[.int .i64 r1, .int .i64 r2, .int .i64 r3, .int .i64 r4]) rfl hS12 (fun w' hw' => by go_simp) ?_
          simp only [Act.put, List.setIfInBounds_toArray, List.set_cons_zero, List.set_cons_succ]
          refine wpMix_call ?_
          go_wp2_with (go_at_call 7; refine (do_any r1 r2 r3 r4 f _).mono ?_; rintro e v13 ⟨rfl, hb13⟩; have hS13 := byt.below hS12 hb13; have hZ13 := regB_below hZ12 hb13 (regB_lt hZ12); have hG := do_fits r1 (reg r2) (reg r3) r4 f; generalize doF r1 (reg r2) (reg r3) r4 (fitR f) = G at *; generalize endB r1 (reg r3) r4 (fitR f) = E at *)
          refine ⟨fun _ => hS13, ?_⟩
          refine wpMix_held (.tuple #[.agg (arr9 G), .bool E]) rfl hS13 (fun w' hw' => by go_simp) ?_
          simp only [Act.put, List.setIfInBounds_toArray, List.set_cons_zero, List.set_cons_succ]
          refine wpMix_held (.agg (arr9 G)) rfl hS13 (fun w' hw' => by go_simp) ?_
          simp only [Act.put, List.setIfInBounds_toArray, List.set_cons_zero, List.set_cons_succ]
          refine wpMix_held (.bool E) rfl hS13 (fun w' hw' => by go_simp) ?_
          simp only [Act.put, List.setIfInBounds_toArray, List.set_cons_zero, List.set_cons_succ]
          refine wpMix_call ?_
          go_wp2_with (refine wpList_store9 rfl 24 _ _ rfl (z) rfl (G) rfl 24 (fun _ => 0) ?_ is9R ?_; with_reducible exact hZ13)
          refine ⟨fun _ => byt.row hS13 (arr9 G) hza hzb hzg hzw, ?_⟩
          (refine wpMix_still (fun K hK => ?_); go_simp; refine hK _ ?_; clear hK K)
          refine wpMix_nil ?_
          go_wp2_with fail
          go_meet
          case rel => exact ⟨z, G, rfl, hG, regB_row hZ13 G, regB_row_other hS13.hA _ hza, regB_row_other hS13.hB _ hzb, below_rowR hS13.bel _ hzw⟩
        go_wp2_with (go_at_call_of 8 (Value.int .i64 9); refine (byt.next hS1 9 (by decide)).mono ?_; rintro e v8 ⟨r2, rfl, _, _, hS8, hz8, keep8⟩)
        refine ⟨fun _ => hS8, ?_⟩
        clear hS1 hz8 keep8
        refine wpFloat_call ?_ ?_
        rotate_left
        · go_wp2_with fail
          have hzg : v8.heap.size ≠ gs := by have := byt.glt hS8; omega
          have hza : v8.heap.size ≠ a := by have := regB_lt hS8.hA; omega
          have hzb : v8.heap.size ≠ b := by have := regB_lt hS8.hB; omega
          have hzw : w.heap.size ≤ v8.heap.size := hS8.bel.size
          have hZ15 := regB_new v8 24 (fun _ => 0)
          have hS15 := byt.alloc hS8 (.cells (arr9 fun _ => 0) 24)
          rw [zero9]
          generalize v8.alloc (.cells (arr9 fun _ => 0) 24) = v15 at *
          generalize v8.heap.size = z at *
          refine ⟨hS15, ?_⟩
          refine wpMix_call ?_
          go_wp2_with (go_at_call_of 8 (Value.int .i64 9); refine (byt.next hS15 9 (by decide)).mono ?_; rintro e v16 ⟨r3, rfl, _, _, hS16, hz16, keep16⟩; have hZ16 := keep16 _ _ hzg hZ15)
          refine ⟨fun _ => hS16, ?_⟩
          clear hS15 hz16 keep16 hZ15
          refine wpMix_call ?_
          go_wp2_with (go_at_call_of 8 (Value.int .i64 256); refine (byt.next hS16 256 (by decide)).mono ?_; rintro e v17 ⟨r4, rfl, _, _, hS17, hz17, keep17⟩; have hZ17 := keep17 _ _ hzg hZ16)
          refine ⟨fun _ => hS17, ?_⟩
          clear hS16 hz17 keep17 hZ16
          refine wpMix_held (.agg #[.int .i64 r1, .int .i64 r2, .int .i64 r3, .int .i64 r4]) rfl hS17 (fun w' hw' => by go_simp) ?_
          simp only [Act.put, List.setIfInBounds_toArray, List.set_cons_zero, List.set_cons_succ]
          refine wpMix_call ?_
          go_wp2_with (go_at_call 7; refine (do_any r1 r2 r3 r4 f _).mono ?_; rintro e v18 ⟨rfl, hb18⟩; have hS18 := byt.below hS17 hb18; have hZ18 := regB_below hZ17 hb18 (regB_lt hZ17); have hG := do_fits r1 (reg r2) (reg r3) r4 f; generalize doF r1 (reg r2) (reg r3) r4 (fitR f) = G at *; generalize endB r1 (reg r3) r4 (fitR f) = E at *)
          refine ⟨fun _ => hS18, ?_⟩
          refine wpMix_held (.tuple #[.agg (arr9 G), .bool E]) rfl hS18 (fun w' hw' => by go_simp) ?_
          simp only [Act.put, List.setIfInBounds_toArray, List.set_cons_zero, List.set_cons_succ]
          refine wpMix_held (.agg (arr9 G)) rfl hS18 (fun w' hw' => by go_simp) ?_
          simp only [Act.put, List.setIfInBounds_toArray, List.set_cons_zero, List.set_cons_succ]
          refine wpMix_held (.bool E) rfl hS18 (fun w' hw' => by go_simp) ?_
          simp only [Act.put, List.setIfInBounds_toArray, List.set_cons_zero, List.set_cons_succ]
          refine wpMix_call ?_
          go_wp2_with (refine wpList_store9 rfl 24 _ _ rfl (z) rfl (G) rfl 24 (fun _ => 0) ?_ is9R ?_; with_reducible exact hZ18)
          refine ⟨fun _ => byt.row hS18 (arr9 G) hza hzb hzg hzw, ?_⟩
          (refine wpMix_still (fun K hK => ?_); go_simp; refine hK _ ?_; clear hK K)
          refine wpMix_nil ?_
          go_wp2_with fail
          go_meet
          case rel => exact ⟨z, G, rfl, hG, regB_row hZ18 G, regB_row_other hS18.hA _ hza, regB_row_other hS18.hB _ hzb, below_rowR hS18.bel _ hzw⟩
        go_wp2_with (go_at_call_of 8 (Value.int .i64 9); refine (byt.next hS8 9 (by decide)).mono ?_; rintro e v14 ⟨r3, rfl, _, _, hS14, hz14, keep14⟩)
        refine ⟨fun _ => hS14, ?_⟩
        clear hS8 hz14 keep14
        refine wpFloat_call ?_ ?_
        rotate_left
        · go_wp2_with fail
          have hzg : v14.heap.size ≠ gs := by have := byt.glt hS14; omega
          have hza : v14.heap.size ≠ a := by have := regB_lt hS14.hA; omega
          have hzb : v14.heap.size ≠ b := by have := regB_lt hS14.hB; omega
          have hzw : w.heap.size ≤ v14.heap.size := hS14.bel.size
          have hZ20 := regB_new v14 24 (fun _ => 0)
          have hS20 := byt.alloc hS14 (.cells (arr9 fun _ => 0) 24)
          rw [zero9]
          generalize v14.alloc (.cells (arr9 fun _ => 0) 24) = v20 at *
          generalize v14.heap.size = z at *
          refine ⟨hS20, ?_⟩
          refine wpMix_call ?_
          go_wp2_with (go_at_call_of 8 (Value.int .i64 256); refine (byt.next hS20 256 (by decide)).mono ?_; rintro e v21 ⟨r4, rfl, _, _, hS21, hz21, keep21⟩; have hZ21 := keep21 _ _ hzg hZ20)
          refine ⟨fun _ => hS21, ?_⟩
          clear hS20 hz21 keep21 hZ20
          refine wpMix_held (.agg #[.int .i64 r1, .int .i64 r2, .int .i64 r3, .int .i64 r4]) rfl hS21 (fun w' hw' => by go_simp) ?_
          simp only [Act.put, List.setIfInBounds_toArray, List.set_cons_zero, List.set_cons_succ]
          refine wpMix_call ?_
          go_wp2_with (go_at_call 7; refine (do_any r1 r2 r3 r4 f _).mono ?_; rintro e v22 ⟨rfl, hb22⟩; have hS22 := byt.below hS21 hb22; have hZ22 := regB_below hZ21 hb22 (regB_lt hZ21); have hG := do_fits r1 (reg r2) (reg r3) r4 f; generalize doF r1 (reg r2) (reg r3) r4 (fitR f) = G at *; generalize endB r1 (reg r3) r4 (fitR f) = E at *)
          refine ⟨fun _ => hS22, ?_⟩
          refine wpMix_held (.tuple #[.agg (arr9 G), .bool E]) rfl hS22 (fun w' hw' => by go_simp) ?_
          simp only [Act.put, List.setIfInBounds_toArray, List.set_cons_zero, List.set_cons_succ]
          refine wpMix_held (.agg (arr9 G)) rfl hS22 (fun w' hw' => by go_simp) ?_
          simp only [Act.put, List.setIfInBounds_toArray, List.set_cons_zero, List.set_cons_succ]
          refine wpMix_held (.bool E) rfl hS22 (fun w' hw' => by go_simp) ?_
          simp only [Act.put, List.setIfInBounds_toArray, List.set_cons_zero, List.set_cons_succ]
          refine wpMix_call ?_
          go_wp2_with (refine wpList_store9 rfl 24 _ _ rfl (z) rfl (G) rfl 24 (fun _ => 0) ?_ is9R ?_; with_reducible exact hZ22)
          refine ⟨fun _ => byt.row hS22 (arr9 G) hza hzb hzg hzw, ?_⟩
          (refine wpMix_still (fun K hK => ?_); go_simp; refine hK _ ?_; clear hK K)
          refine wpMix_nil ?_
          go_wp2_with fail
          go_meet
          case rel => exact ⟨z, G, rfl, hG, regB_row hZ22 G, regB_row_other hS22.hA _ hza, regB_row_other hS22.hB _ hzb, below_rowR hS22.bel _ hzw⟩
        go_wp2_with (go_at_call_of 8 (Value.int .i64 256); refine (byt.next hS14 256 (by decide)).mono ?_; rintro e v19 ⟨r4, rfl, _, _, hS19, hz19, keep19⟩)
        refine ⟨fun _ => hS19, ?_⟩
        clear hS14 hz19 keep19
        refine wpFloat_held (.agg #[.int .i64 r1, .int .i64 r2, .int .i64 r3, .int .i64 r4]) rfl hS19 (fun w' hw' => by go_simp) ?_
        simp only [Act.put, List.setIfInBounds_toArray, List.set_cons_zero, List.set_cons_succ]
        refine wpFloat_call ?_ ?_
        rotate_left
        · go_wp2_with fail
          have hzg : v19.heap.size ≠ gs := by have := byt.glt hS19; omega
          have hza : v19.heap.size ≠ a := by have := regB_lt hS19.hA; omega
          have hzb : v19.heap.size ≠ b := by have := regB_lt hS19.hB; omega
          have hzw : w.heap.size ≤ v19.heap.size := hS19.bel.size
          have hZ24 := regB_new v19 24 (fun _ => 0)
          have hS24 := byt.alloc hS19 (.cells (arr9 fun _ => 0) 24)
          rw [zero9]
          generalize v19.alloc (.cells (arr9 fun _ => 0) 24) = v24 at *
          generalize v19.heap.size = z at *
          refine ⟨hS24, ?_⟩
          refine wpMix_call ?_
          go_wp2_with (go_at_call 7; refine (do_any r1 r2 r3 r4 f _).mono ?_; rintro e v25 ⟨rfl, hb25⟩; have hS25 := byt.below hS24 hb25; have hZ25 := regB_below hZ24 hb25 (regB_lt hZ24); have hG := do_fits r1 (reg r2) (reg r3) r4 f; generalize doF r1 (reg r2) (reg r3) r4 (fitR f) = G at *; generalize endB r1 (reg r3) r4 (fitR f) = E at *)
          refine ⟨fun _ => hS25, ?_⟩
          refine wpMix_held (.tuple #[.agg (arr9 G), .bool E]) rfl hS25 (fun w' hw' => by go_simp) ?_
          simp only [Act.put, List.setIfInBounds_toArray, List.set_cons_zero, List.set_cons_succ]
          refine wpMix_held (.agg (arr9 G)) rfl hS25 (fun w' hw' => by go_simp) ?_
          simp only [Act.put, List.setIfInBounds_toArray, List.set_cons_zero, List.set_cons_succ]
          refine wpMix_held (.bool E) rfl hS25 (fun w' hw' => by go_simp) ?_
          simp only [Act.put, List.setIfInBounds_toArray, List.set_cons_zero, List.set_cons_succ]
          refine wpMix_call ?_
          go_wp2_with (refine wpList_store9 rfl 24 _ _ rfl (z) rfl (G) rfl 24 (fun _ => 0) ?_ is9R ?_; with_reducible exact hZ25)
          refine ⟨fun _ => byt.row hS25 (arr9 G) hza hzb hzg hzw, ?_⟩
          (refine wpMix_still (fun K hK => ?_); go_simp; refine hK _ ?_; clear hK K)
          refine wpMix_nil ?_
          go_wp2_with fail
          go_meet
          case rel => exact ⟨z, G, rfl, hG, regB_row hZ25 G, regB_row_other hS25.hA _ hza, regB_row_other hS25.hB _ hzb, below_rowR hS25.bel _ hzw⟩
        go_wp2_with (go_at_call 7; refine (do_any r1 r2 r3 r4 f _).mono ?_; rintro e v23 ⟨rfl, hb23⟩; have hS23 := byt.below hS19 hb23; have hG := do_fits r1 (reg r2) (reg r3) r4 f; generalize doF r1 (reg r2) (reg r3) r4 (fitR f) = G at *; generalize endB r1 (reg r3) r4 (fitR f) = E at *)
        refine ⟨fun _ => hS23, ?_⟩
        refine wpFloat_held (.tuple #[.agg (arr9 G), .bool E]) rfl hS23 (fun w' hw' => by go_simp) ?_
        simp only [Act.put, List.setIfInBounds_toArray, List.set_cons_zero, List.set_cons_succ]
        refine wpFloat_held (.agg (arr9 G)) rfl hS23 (fun w' hw' => by go_simp) ?_
        simp only [Act.put, List.setIfInBounds_toArray, List.set_cons_zero, List.set_cons_succ]
        refine wpFloat_held (.bool E) rfl hS23 (fun w' hw' => by go_simp) ?_
        simp only [Act.put, List.setIfInBounds_toArray, List.set_cons_zero, List.set_cons_succ]
        refine wpFloat_nil ?_
        go_wp2_with fail
        have hzg : v23.heap.size ≠ gs := by have := byt.glt hS23; omega
        have hza : v23.heap.size ≠ a := by have := regB_lt hS23.hA; omega
        have hzb : v23.heap.size ≠ b := by have := regB_lt hS23.hB; omega
        have hzw : w.heap.size ≤ v23.heap.size := hS23.bel.size
        have hZ26 := regB_new v23 24 (fun _ => 0)
        have hS26 := byt.alloc hS23 (.cells (arr9 fun _ => 0) 24)
        rw [zero9]
        generalize v23.alloc (.cells (arr9 fun _ => 0) 24) = v26 at *
        generalize v23.heap.size = z at *
        refine ⟨hS26, ?_⟩
        refine wpMix_call ?_
        go_wp2_with (refine wpList_store9 rfl 24 _ _ rfl (z) rfl (G) rfl 24 (fun _ => 0) ?_ is9R ?_; with_reducible exact hZ26)
        refine ⟨fun _ => byt.row hS26 (arr9 G) hza hzb hzg hzw, ?_⟩
        (refine wpMix_still (fun K hK => ?_); go_simp; refine hK _ ?_; clear hK K)
        refine wpMix_nil ?_
        go_wp2_with fail
        go_meet
        case rel => exact ⟨z, G, rfl, hG, regB_row hZ26 G, regB_row_other hS26.hA _ hza, regB_row_other hS26.hB _ hzb, below_rowR hS26.bel _ hzw⟩
      case rest =>
        obtain ⟨e, G, rfl, hG, hE, hA, hB, hb⟩ := hcut
        clear HB0
        have hg : Try.prog.eqGuardType Try.prog.depth 24 = false := by kernel_rfl
        have he : ∀ (f : Nat → Int) w, (Op.equalIn 10000 24 (.agg (arr9 f)) (.agg (arr9 f))).run Try.prog w = .ok true w := fun f => equal9 9998 f
        go_upto_region 10 with (fail)
        refine wp_region_mix (fun w' => regB w' e 24 G) [(0, 2), (1, 0), (2, 0), (3, 0), (4, 0), (5, 0), (6, 0), (7, 0), (8, 0), (9, 0), (11, 1), (10, 3), (12, 0), (13, 0), (14, 0)] (by kernel_rfl) (by kernel_rfl) (fun _ _ _ _ _ h => h) ?_
        simp only [List.map_cons, List.map_nil, opOf, List.getD_cons_zero, List.getD_cons_succ]
        change wpMix _ _ _ _ _ _ wc.drew
        have hE : regB wc.drew e 24 G := hE
        have hA : regB wc.drew a 24 f := hA
        have hB : regB wc.drew b 24 (seqF f 5) := hB
        have hb := hb.drew
        generalize wc.drew = wc at *
        refine wpMix_call ?_
        go_wp2_with (go_at_call 9; refine (does_keep _).mono ?_; rintro e w2 ⟨rfl, hb2⟩; have hE2 := regB_below hE hb2 (regB_lt hE); have hA2 := regB_below hA hb2 (regB_lt hA); have hB2 := regB_below hB hb2 (regB_lt hB); have bel2 := hb.trans (hb2.mono hb.size))
        refine ⟨fun h => (by cases h), ?_⟩
        have c8 := regB_cell hA2 8 (by decide)
        have d8 := regB_cell hB2 8 (by decide)
        rw [HS] at d8
        have hft := fit_any G
        rw [fit_fits hG] at hft
        (refine wpMix_still (fun K hK => ?_); go_simp; refine hK _ ?_; clear hK K)
        (refine wpMix_still (fun K hK => ?_); go_simp; refine hK _ ?_; clear hK K)
        (refine wpMix_still (fun K hK => ?_); go_simp; refine hK _ ?_; clear hK K)
        (refine wpMix_still (fun K hK => ?_); go_simp; refine hK _ ?_; clear hK K)
        (refine wpMix_still (fun K hK => ?_); go_simp; refine hK _ ?_; clear hK K)
        (refine wpMix_still (fun K hK => ?_); go_simp; refine hK _ ?_; clear hK K)
        (refine wpMix_still (fun K hK => ?_); go_simp; refine hK _ ?_; clear hK K)
        (refine wpMix_still (fun K hK => ?_); go_simp; refine hK _ ?_; clear hK K)
        obtain ⟨r0, r1, r2, r3, r4, r5, r6, r7, r8⟩ := regB_cells hE2
        (refine wpMix_still (fun K hK => ?_); go_simp; refine hK _ ?_; clear hK K)
        clear r0 r1 r2 r3 r4 r5 r6 r7 r8
        refine wpMix_held (.agg (arr9 G)) rfl hE2 (fun w' hw' => exec_regs 24 _ rfl e rfl 24 G hw' is9R) ?_
        simp only [Act.put, List.setIfInBounds_toArray, List.set_cons_zero, List.set_cons_succ]
        refine wpMix_call ?_
        go_wp2_with (go_at_call 10; refine (hft _).mono ?_; rintro e w3 ⟨rfl, hb3⟩; have hE3 := regB_below hE2 hb3 (regB_lt hE2); have bel3 := bel2.trans (hb3.mono bel2.size))
        refine ⟨fun _ => hE3, ?_⟩
        (refine wpMix_still (fun K hK => ?_); go_simp; refine hK _ ?_; clear hK K)
        (refine wpMix_still (fun K hK => ?_); go_simp; refine hK _ ?_; clear hK K)
        (refine wpMix_still (fun K hK => ?_); go_simp; refine hK _ ?_; clear hK K)
        refine wpMix_nil ?_
        go_wp2_with fail
        go_ret
        exact ⟨rfl, bel3⟩
end Go.Proofs.Ytnmemknmipengaa
