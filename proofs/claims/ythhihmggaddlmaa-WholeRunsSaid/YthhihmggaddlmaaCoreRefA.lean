/- Contracts of the reference's CyclesOf and Addressed. -/
import Derived.Test.YthhihmggaddlmaaAluDo
import Derived.Test.YthhihmggaddlmaaAluRef
import Derived.Test.YthhihmggaddlmaaChecked
import Derived.Test.YthhihmggaddlmaaCoreFind
import Derived.Below
import Derived.BigQuiet
import Derived.ChangeMaps5
import Derived.Deep.CutBlock
import Derived.Deep.DeepCutAuto
import Derived.Deep.Draws
import Derived.Deep.MidRow
import Derived.Deep.OwnRows
import Derived.Deep.QuietTactic
import Derived.Deep.RegionHeld3
import Derived.Deep.RegionLaw
import Derived.Deep.RegionWith
import Derived.Deep.Slices
import Derived.Deep.WholeRow
import Derived.Lib.Hide
import Derived.Lib.SmallJoins
import Derived.OpenShut
import Derived.OrdersHeld
import Derived.OwnWalk
import Derived.RowKit3
import Derived.SizedLaws
import Derived.StillTactics
import Derived.StillTail
import Derived.StillTailTactics
import Derived.WalkKit
namespace Go.Proofs.Ythhihmggaddlmaa
open Go.RowKit
set_option maxRecDepth 100000

theorem narrowA_any (r : Int) (w : World) :
    Calls Try.prog 53 #[.int .i64 r] w fun e w' => e = .returned (.bool (nar r)) ∧ w = w' := by
  go_enter Try.func53, Try.ntmps53
  go_wp2
  all_goals
    go_ret
    refine ⟨?_, rfl⟩
    simp_all [nar]
    try omega

set_option maxHeartbeats 2000000 in
theorem cyclesR_any (c : Cp) (v0 v1 v2 v3 : Value) (op : Int) (w0 w : World) (h : cpuArg w0 v0 v1 v2 v3 c) (hb0 : Below w0.heap.size w0 w) :
    Calls Try.prog 52 #[.agg (cpu5 c.name v0 v1 v2 v3), .int .i64 op] w fun e w' => ∃ u, e = .returned u ∧ isArr 4 cycleR w0 u (cyclesOf c op) ∧ Below w.heap.size w w' := by
  obtain ⟨k0, bW, sW⟩ := boxes1 w (.cells (cpu5 c.name v0 v1 v2 v3) 25)
  have k0 : rowB _ _ _ _ := k0
  have b01 := hb0.trans (bW.mono hb0.size)
  obtain ⟨h0, h1, h2, h3, _⟩ := h
  have H1 := Lib.hid h1
  have H2 := Lib.hid h2
  have H3 := Lib.hid h3
  obtain ⟨a0, p0, rfl, hlen, hform⟩ := ins_form h0
  obtain ⟨a1, p1, rfl, _, _⟩ := isArr_form h1
  obtain ⟨a2, p2, rfl, _, _⟩ := isArr_form h2
  obtain ⟨a3, p3, rfl, _, _⟩ := isArr_form h3
  have HF := Lib.hid hform
  have e1 := rowB_cell k0 1 (v := .slice a0 c.instrs.length p0) rfl
  have e2 := rowB_cell k0 2 (v := .slice a1 c.res.length p1) rfl
  have e3 := rowB_cell k0 3 (v := .slice a2 c.irq.length p2) rfl
  have e4 := rowB_cell k0 4 (v := .slice a3 c.nmi.length p3) rfl
  clear h0 h1 h2 h3 hb0 hform k0
  go_enter Try.func52, Try.ntmps52
  go_upto_region 1 with (fail)
  generalize w.alloc (.cells (cpu5 c.name (.slice a0 c.instrs.length p0) (.slice a1 c.res.length p1) (.slice a2 c.irq.length p2) (.slice a3 c.nmi.length p3)) 25) = w1 at *
  by_cases q6 : op = 256
  · have HC := Lib.hid (show cyclesOf c op = c.irq by unfold cyclesOf; rw [if_pos q6])
    have q6b : (op == 256) = true := by simpa using q6
    go_wp2_with fail
    go_ret
    exact ⟨_, rfl, by rw [HC.out]; exact H2.out, bW⟩
  have q6b : (op == 256) = false := by simpa using q6
  by_cases q7 : op = 257
  · have HC := Lib.hid (show cyclesOf c op = c.nmi by unfold cyclesOf; rw [if_neg q6, if_pos q7])
    have q7b : (op == 257) = true := by simpa using q7
    go_wp2_with fail
    go_ret
    exact ⟨_, rfl, by rw [HC.out]; exact H3.out, bW⟩
  have q7b : (op == 257) = false := by simpa using q7
  by_cases q8 : op = 258
  · have HC := Lib.hid (show cyclesOf c op = c.res by unfold cyclesOf; rw [if_neg q6, if_neg q7, if_pos q8])
    have q8b : (op == 258) = true := by simpa using q8
    go_wp2_with fail
    go_ret
    exact ⟨_, rfl, by rw [HC.out]; exact H1.out, bW⟩
  have q8b : (op == 258) = false := by simpa using q8
  obtain ⟨R, hR⟩ : ∃ R, R = (decide (0 ≤ op) && decide (op ≤ 255)) := ⟨_, rfl⟩
  have HC := Lib.hid (show cyclesOf c op = if R = true then cycIn op c.instrs else [] by
    unfold cyclesOf
    rw [if_neg q6, if_neg q7, if_neg q8, lo8_eq]
    by_cases hr : 0 ≤ op ∧ op ≤ 255
    · rw [if_pos (by omega), if_pos (by rw [hR]; simpa using hr)]
    · rw [if_neg (by omega), if_neg (by rw [hR]; simp; omega)])
  go_upto_region 8 with (fail)
  go_wp2_with fail
  go_loopw [22] (fun i wr => ∃ k : Nat, k ≤ c.instrs.length ∧ i = .int .i64 k ∧ wr = w1 ∧ ∀ (j : Nat) (y : In), j < k → c.instrs[j]? = some y → R = true → y.op ≠ op) (fun i _ => c.instrs.length - (intOf i).toNat)
  case atStart => exact ⟨0, Nat.zero_le _, rfl, rfl, fun j y hj => (by cases hj)⟩
  case round =>
    obtain ⟨k, hk, rfl, rfl, hno⟩ := hrel
    have HN := Lib.hid hno
    clear hno
    by_cases hlt : k < c.instrs.length
    · obtain ⟨x, hx, _⟩ := drop_at hlt
      obtain ⟨b, off, rfl, u, hcell, hu⟩ := HF.out k x hx
      obtain ⟨d0, d3⟩ := hcell wr b01
      clear hcell
      have Hu := Lib.hid hu
      obtain ⟨ua, ucap, rfl, _, _⟩ := isArr_form hu
      clear hu
      by_cases hop : x.op = op ∧ R = true
      · have ho : opIn op c.instrs = some x := opIn_at hx hop.1 (fun j y hj hy => HN.out j y hj hy hop.2)
        have hc : cycIn op c.instrs = x.cycles := by unfold cycIn; rw [ho]
        have HO := Lib.hid (HC.out.trans ((if_pos hop.2).trans hc))
        have hop2 : (x.op == op) = true := by simpa using hop.1
        have hr := hop.2
        rw [hR] at hr
        have hr1 : 0 ≤ op ∧ op ≤ 255 := by simpa using hr
        have hr2 : decide (0 ≤ op) = true := by simpa using hr1.1
        have hr3 : decide (op ≤ 255) = true := by simpa using hr1.2
        clear ho hc hx hop hr hr1 hR HC
        go_wp2_with fail
        go_ret
        exact ⟨_, rfl, by rw [HO.out]; exact Hu.out, bW⟩
      · have HX := Lib.hid hx
        have hthree : (x.op == op) = false ∨ ((x.op == op) = true ∧ decide (0 ≤ op) = false) ∨ ((x.op == op) = true ∧ decide (0 ≤ op) = true ∧ decide (op ≤ 255) = false) := by
          cases h1 : (x.op == op)
          · exact .inl rfl
          · cases h2 : decide (0 ≤ op)
            · exact .inr (.inl ⟨rfl, rfl⟩)
            · cases h3 : decide (op ≤ 255)
              · exact .inr (.inr ⟨rfl, rfl, rfl⟩)
              · exact absurd ⟨by simpa using h1, by rw [hR, h2, h3]; rfl⟩ hop
        have HOP := Lib.hid hop
        clear hx hop hR
        rcases hthree with g1 | ⟨g1, g2⟩ | ⟨g1, g2, g3⟩
        all_goals
          go_wp2_with fail
          go_roundw
          case measure => simp [intOf]; omega
          case rel =>
            refine ⟨k + 1, by omega, by go_num, (by first | rfl | trivial), fun j y hj hy hr => ?_⟩
            by_cases hjk : j = k
            · subst hjk
              have := HX.out
              rw [this] at hy
              injection hy with hy
              subst hy
              exact fun e => HOP.out ⟨e, hr⟩
            · exact HN.out j y (by omega) hy hr
    · have hc : (if R = true then cycIn op c.instrs else []) = [] := by
        cases hr : R
        · rfl
        · have ho : opIn op c.instrs = none := opIn_none fun j y hy => HN.out j y (by have := (List.getElem?_eq_some_iff.1 hy).1; omega) hy hr
          show cycIn op c.instrs = []
          unfold cycIn
          rw [ho]
      have HO := Lib.hid (HC.out.trans hc)
      clear hc HC hR
      obtain rfl : k = c.instrs.length := by omega
      go_wp2_with fail
      go_ret
      exact ⟨_, rfl, by rw [HO.out]; exact .inl ⟨_, _, rfl, rfl⟩, bW⟩

theorem fitR_set {f : Nat → Int} (h : fits f) (k : Nat) (x : Int) : fitR (setR f k x) = setR f k (lo x (bitsN k)) := by
  funext j
  by_cases e : j = k
  · subst e
    show lo (setR f j x j) (bitsN j) = _
    rw [setR_same, setR_same]
  · show lo (setR f k x j) (bitsN j) = _
    rw [setR_other _ _ _ _ e, setR_other _ _ _ _ e]
    exact congrFun (fit_fits h) j

set_option maxHeartbeats 8000000 in
theorem addressR_any (p : Int) (f : Nat → Int) (hf : fits f) (w : World) :
    Calls Try.prog 55 #[.int .i64 p, .agg (arr9 f)] w fun e w' => e = .returned (.tuple #[.int .i64 (placeA p f), .agg (arr9 (placeR p f))]) ∧ Below w.heap.size w w' := by
  have f7 := hf 7
  have f8 := hf 8
  have f3 : 0 ≤ f 3 ∧ f 3 < 256 := ⟨(hf 3).1, (hf 3).2.2 (by decide) (by decide)⟩
  have l3 := lo8_bd (f 3 + 1)
  obtain ⟨k0, k1, bW, sW⟩ := boxes2 w (.cells (arr9 f) 27) (.cells (arr9 fun _ => 0) 27)
  have k0 : regB _ _ _ _ := k0
  have k1 : regB _ _ _ _ := k1
  rcases (by omega : p = 0 ∨ p = 4 ∨ p = 5 ∨ p = 1 ∨ p = 2 ∨ p = 3 ∨ p = 6 ∨ p = 7 ∨ p = 8 ∨ p = 9 ∨ p = 10 ∨ p = 11 ∨ (p ≠ 0 ∧ p ≠ 4 ∧ p ≠ 5 ∧ p ≠ 1 ∧ p ≠ 2 ∧ p ≠ 3 ∧ p ≠ 6 ∧ p ≠ 7 ∧ p ≠ 8 ∧ p ≠ 9 ∧ p ≠ 10 ∧ p ≠ 11)) with rfl | rfl | rfl | rfl | rfl | rfl | rfl | rfl | rfl | rfl | rfl | rfl | hp
  · have hft := fittedRef_any (setR f 7 (f 7 + 1))
    rw [fitR_set hf 7, show bitsN 7 = 16 from rfl] at hft
    have hw0 : IntKind.i64.wrap (f 7) = f 7 := IntWalk.i64_in _ (by omega)
    rw [show placeA 0 f = f 7 from rfl, show placeR 0 f = setR f 7 (lo (f 7 + 1) 16) from rfl]
    go_enter Try.func55, Try.ntmps55
    go_upto_region 1 with (fail)
    rw [zero9]
    generalize (w.alloc (.cells (arr9 f) 27)).alloc (.cells (arr9 fun _ => 0) 27) = w1 at *
    have c7 := regB_cell k0 7 (by decide)
    have z7 := regB_free k0 7
    go_upto_region 4 with (fail)
    have hA := regB_set k0 7 (f 7 + 1) (by decide)
    have hB := regB_other k1 ⟨w.heap.size, 7, none⟩ (.int .i64 (f 7 + 1)) (by simp)
    have bB := bW.setCell (p := ⟨w.heap.size, 7, none⟩) (Nat.le_refl _) (.int .i64 (f 7 + 1))
    clear k0 k1 bW c7 z7
    generalize w1.setCell ⟨w.heap.size, 7, none⟩ (.int .i64 (f 7 + 1)) = w2 at *
    refine wp_region_mix (fun w' => regB w' w.heap.size 27 (setR f 7 (f 7 + 1))) [(0, 1), (1, 1), (2, 1), (3, 0), (4, 3), (5, 0), (6, 2)] (by kernel_rfl) (by kernel_rfl) (fun _ _ _ _ _ h => h) ?_
    simp only [List.map_cons, List.map_nil, opOf, List.getD_cons_zero, List.getD_cons_succ]
    change wpMix _ _ _ _ _ _ w2.drew
    have hZ : regB w2.drew (w.heap.size + 1) 27 (fun _ => 0) := hB
    have hA : regB w2.drew w.heap.size 27 (setR f 7 (f 7 + 1)) := hA
    have bB := bB.drew
    generalize w2.drew = w3 at *
    refine wpMix_held (.pointer (some ⟨w.heap.size, 7, none⟩)) rfl hA (fun w' hw' => by go_simp) ?_
    simp only [Act.put, List.setIfInBounds_toArray, List.set_cons_zero, List.set_cons_succ]
    refine wpMix_held (.int .i64 (f 7 + 1)) rfl hA (fun w' hw' => by have hc := regB_cell hw' 7 (by decide); rw [setR_same] at hc; go_simp) ?_
    simp only [Act.put, List.setIfInBounds_toArray, List.set_cons_zero, List.set_cons_succ]
    refine wpMix_held (.int .i64 (f 7)) rfl hA (fun w' hw' => by go_simp) ?_
    simp only [Act.put, List.setIfInBounds_toArray, List.set_cons_zero, List.set_cons_succ]
    obtain ⟨r0, r1, r2, r3, r4, r5, r6, r7, r8⟩ := regB_cells hA
    (refine wpMix_still (fun K hK => ?_); go_simp; refine hK _ ?_; clear hK K)
    clear r0 r1 r2 r3 r4 r5 r6 r7 r8
    refine wpMix_call ?_
    go_wp2_with (go_at_call 51; refine (hft _).mono ?_; rintro e w4 ⟨rfl, hb4⟩; have hA4 := regB_below hA hb4 (regB_lt hA); have hZ4 := regB_below hZ hb4 (regB_lt hZ); have bB4 := bB.trans (hb4.mono bB.size))
    refine ⟨fun _ => hA4, ?_⟩
    (refine wpMix_still (fun K hK => ?_); go_simp; refine hK _ ?_; clear hK K)
    refine wpMix_call ?_
    go_wp2_with (refine wpList_store9 rfl 27 _ _ rfl (w.heap.size + 1) rfl (setR f 7 (lo (f 7 + 1) 16)) rfl 27 (fun _ => 0) ?_ is9R ?_; exact hZ4)
    refine ⟨fun h => (by cases h), ?_⟩
    refine wpMix_nil ?_
    go_wp2_with fail
    exact bodyPost_ret (results9c rfl is9R (w.heap.size + 1) _ rfl (regB_row hZ4 (setR f 7 (lo (f 7 + 1) 16))) _ rfl) rfl ⟨rfl, below_rowR bB4 _ (by omega)⟩
  · have hft := fittedRef_any (setR f 3 (f 3 - 1))
    rw [fitR_set hf 3, show bitsN 3 = 8 from rfl] at hft
    have hw4 : IntKind.i64.wrap (257 + (f 3 - 1)) = 256 + f 3 := by rw [IntWalk.i64_in _ (by omega)]; omega
    rw [show placeA 4 f = 256 + f 3 from rfl, show placeR 4 f = setR f 3 (lo (f 3 - 1) 8) from rfl]
    go_enter Try.func55, Try.ntmps55
    go_upto_region 1 with (fail)
    rw [zero9]
    generalize (w.alloc (.cells (arr9 f) 27)).alloc (.cells (arr9 fun _ => 0) 27) = w1 at *
    have c3 := regB_cell k0 3 (by decide)
    have z3 := regB_free k0 3
    go_upto_region 13 with (fail)
    have hA := regB_set k0 3 (f 3 - 1) (by decide)
    have hB := regB_other k1 ⟨w.heap.size, 3, none⟩ (.int .i64 (f 3 - 1)) (by simp)
    have bB := bW.setCell (p := ⟨w.heap.size, 3, none⟩) (Nat.le_refl _) (.int .i64 (f 3 - 1))
    clear k0 k1 bW c3 z3
    generalize w1.setCell ⟨w.heap.size, 3, none⟩ (.int .i64 (f 3 - 1)) = w2 at *
    refine wp_region_mix (fun w' => regB w' w.heap.size 27 (setR f 3 (f 3 - 1))) [(0, 1), (1, 1), (2, 1), (3, 0), (4, 3), (5, 0), (6, 2)] (by kernel_rfl) (by kernel_rfl) (fun _ _ _ _ _ h => h) ?_
    simp only [List.map_cons, List.map_nil, opOf, List.getD_cons_zero, List.getD_cons_succ]
    change wpMix _ _ _ _ _ _ w2.drew
    have hZ : regB w2.drew (w.heap.size + 1) 27 (fun _ => 0) := hB
    have hA : regB w2.drew w.heap.size 27 (setR f 3 (f 3 - 1)) := hA
    have bB := bB.drew
    generalize w2.drew = w3 at *
    refine wpMix_held (.pointer (some ⟨w.heap.size, 3, none⟩)) rfl hA (fun w' hw' => by go_simp) ?_
    simp only [Act.put, List.setIfInBounds_toArray, List.set_cons_zero, List.set_cons_succ]
    refine wpMix_held (.int .i64 (f 3 - 1)) rfl hA (fun w' hw' => by have hc := regB_cell hw' 3 (by decide); rw [setR_same] at hc; go_simp) ?_
    simp only [Act.put, List.setIfInBounds_toArray, List.set_cons_zero, List.set_cons_succ]
    refine wpMix_held (.int .i64 (256 + f 3)) rfl hA (fun w' hw' => by go_simp) ?_
    simp only [Act.put, List.setIfInBounds_toArray, List.set_cons_zero, List.set_cons_succ]
    obtain ⟨r0, r1, r2, r3, r4, r5, r6, r7, r8⟩ := regB_cells hA
    (refine wpMix_still (fun K hK => ?_); go_simp; refine hK _ ?_; clear hK K)
    clear r0 r1 r2 r3 r4 r5 r6 r7 r8
    refine wpMix_call ?_
    go_wp2_with (go_at_call 51; refine (hft _).mono ?_; rintro e w4 ⟨rfl, hb4⟩; have hA4 := regB_below hA hb4 (regB_lt hA); have hZ4 := regB_below hZ hb4 (regB_lt hZ); have bB4 := bB.trans (hb4.mono bB.size))
    refine ⟨fun _ => hA4, ?_⟩
    (refine wpMix_still (fun K hK => ?_); go_simp; refine hK _ ?_; clear hK K)
    refine wpMix_call ?_
    go_wp2_with (refine wpList_store9 rfl 27 _ _ rfl (w.heap.size + 1) rfl (setR f 3 (lo (f 3 - 1) 8)) rfl 27 (fun _ => 0) ?_ is9R ?_; exact hZ4)
    refine ⟨fun h => (by cases h), ?_⟩
    refine wpMix_nil ?_
    go_wp2_with fail
    exact bodyPost_ret (results9c rfl is9R (w.heap.size + 1) _ rfl (regB_row hZ4 (setR f 3 (lo (f 3 - 1) 8))) _ rfl) rfl ⟨rfl, below_rowR bB4 _ (by omega)⟩
  · have hft := fittedRef_any (setR f 3 (f 3 + 1))
    rw [fitR_set hf 3, show bitsN 3 = 8 from rfl] at hft
    have hw5 : IntKind.i64.wrap (256 + lo (f 3 + 1) 8) = 256 + lo (f 3 + 1) 8 := IntWalk.i64_in _ (by omega)
    rw [show placeA 5 f = 256 + lo (f 3 + 1) 8 from rfl, show placeR 5 f = setR f 3 (lo (f 3 + 1) 8) from rfl]
    go_enter Try.func55, Try.ntmps55
    go_upto_region 1 with (fail)
    rw [zero9]
    generalize (w.alloc (.cells (arr9 f) 27)).alloc (.cells (arr9 fun _ => 0) 27) = w1 at *
    have c3 := regB_cell k0 3 (by decide)
    have z3 := regB_free k0 3
    go_upto_region 16 with (fail)
    have hA := regB_set k0 3 (f 3 + 1) (by decide)
    have hB := regB_other k1 ⟨w.heap.size, 3, none⟩ (.int .i64 (f 3 + 1)) (by simp)
    have bB := bW.setCell (p := ⟨w.heap.size, 3, none⟩) (Nat.le_refl _) (.int .i64 (f 3 + 1))
    clear k0 k1 bW c3 z3
    generalize w1.setCell ⟨w.heap.size, 3, none⟩ (.int .i64 (f 3 + 1)) = w2 at *
    go_upto_region 17 with (first | (refine wpList_load9 rfl 27 _ rfl (w.heap.size) rfl 27 (setR f 3 (f 3 + 1)) ?_ is9R ?_; with_reducible exact hA) | (go_at_call 51; refine (hft _).mono ?_; rintro e w4 ⟨rfl, hb4⟩; have hA4 := regB_below hA hb4 (regB_lt hA); have hZ4 := regB_below hB hb4 (regB_lt hB); have bB4 := bB.trans (hb4.mono bB.size)) | (refine wpList_store9 rfl 27 _ _ rfl (w.heap.size) rfl (setR f 3 (lo (f 3 + 1) 8)) rfl 27 (setR f 3 (f 3 + 1)) ?_ is9R ?_; with_reducible exact hA4))
    have hA5 := regB_row hA4 (setR f 3 (lo (f 3 + 1) 8))
    have hB5 := regB_row_other hZ4 (arr9 (setR f 3 (lo (f 3 + 1) 8))) (show w.heap.size ≠ w.heap.size + 1 by omega)
    have bB5 := below_rowR bB4 (arr9 (setR f 3 (lo (f 3 + 1) 8))) (Nat.le_refl _)
    clear hA hB bB hA4 hZ4 bB4 hb4 hft
    have hA := hA5
    have hB := hB5
    have bB := bB5
    clear hA5 hB5 bB5
    generalize w4.setRow w.heap.size (arr9 (setR f 3 (lo (f 3 + 1) 8))) = w5 at *
    generalize hw52 : w5 = w2 at *
    clear hw52
    obtain ⟨r0, r1, r2, r3, r4, r5, r6, r7, r8⟩ := regB_cells hA; rw [setR_same] at r3
    refine wp_region_mix (fun _ => True) [(0, 0), (1, 0), (2, 0), (3, 0), (4, 0), (5, 2)] (by kernel_rfl) (by kernel_rfl) (fun _ _ _ _ _ h => h) ?_
    simp only [List.map_cons, List.map_nil, opOf, List.getD_cons_zero, List.getD_cons_succ]
    change wpMix _ _ _ _ _ _ w2.drew
    have hZ : regB w2.drew (w.heap.size + 1) 27 (fun _ => 0) := hB
    have hA : regB w2.drew w.heap.size 27 (setR f 3 (lo (f 3 + 1) 8)) := hA
    have bB := bB.drew
    generalize w2.drew = w3 at *
    clear r0 r1 r2 r3 r4 r5 r6 r7 r8
    obtain ⟨r0, r1, r2, r3, r4, r5, r6, r7, r8⟩ := regB_cells hA; rw [setR_same] at r3
    (refine wpMix_still (fun K hK => ?_); go_simp; refine hK _ ?_; clear hK K)
    (refine wpMix_still (fun K hK => ?_); go_simp; refine hK _ ?_; clear hK K)
    (refine wpMix_still (fun K hK => ?_); go_simp; refine hK _ ?_; clear hK K)
    (refine wpMix_still (fun K hK => ?_); go_simp; refine hK _ ?_; clear hK K)
    (refine wpMix_still (fun K hK => ?_); go_simp; refine hK _ ?_; clear hK K)
    refine wpMix_call ?_
    go_wp2_with (refine wpList_store9 rfl 27 _ _ rfl (w.heap.size + 1) rfl (setR f 3 (lo (f 3 + 1) 8)) rfl 27 (fun _ => 0) ?_ is9R ?_; exact hZ)
    refine ⟨fun h => (by cases h), ?_⟩
    refine wpMix_nil ?_
    go_wp2_with fail
    exact bodyPost_ret (results9c rfl is9R (w.heap.size + 1) _ rfl (regB_row hZ (setR f 3 (lo (f 3 + 1) 8))) _ rfl) rfl ⟨rfl, below_rowR bB _ (by omega)⟩
  · rw [show placeA 1 f = f 7 from rfl, show placeR 1 f = f from rfl]
    go_enter Try.func55, Try.ntmps55
    go_upto_region 1 with (fail)
    rw [zero9]
    generalize (w.alloc (.cells (arr9 f) 27)).alloc (.cells (arr9 fun _ => 0) 27) = w1 at *
    have hA := k0
    have hB := k1
    have bB := bW
    clear k0 k1 bW
    generalize hw12 : w1 = w2 at *
    clear hw12
    go_upto_region 6 with (fail)
    obtain ⟨r0, r1, r2, r3, r4, r5, r6, r7, r8⟩ := regB_cells hA
    refine wp_region_mix (fun _ => True) [(0, 0), (1, 0), (2, 0), (3, 0), (4, 2)] (by kernel_rfl) (by kernel_rfl) (fun _ _ _ _ _ h => h) ?_
    simp only [List.map_cons, List.map_nil, opOf, List.getD_cons_zero, List.getD_cons_succ]
    change wpMix _ _ _ _ _ _ w2.drew
    have hZ : regB w2.drew (w.heap.size + 1) 27 (fun _ => 0) := hB
    have hA : regB w2.drew w.heap.size 27 (f) := hA
    have bB := bB.drew
    generalize w2.drew = w3 at *
    clear r0 r1 r2 r3 r4 r5 r6 r7 r8
    obtain ⟨r0, r1, r2, r3, r4, r5, r6, r7, r8⟩ := regB_cells hA
    (refine wpMix_still (fun K hK => ?_); go_simp; refine hK _ ?_; clear hK K)
    (refine wpMix_still (fun K hK => ?_); go_simp; refine hK _ ?_; clear hK K)
    (refine wpMix_still (fun K hK => ?_); go_simp; refine hK _ ?_; clear hK K)
    (refine wpMix_still (fun K hK => ?_); go_simp; refine hK _ ?_; clear hK K)
    refine wpMix_call ?_
    go_wp2_with (refine wpList_store9 rfl 27 _ _ rfl (w.heap.size + 1) rfl (f) rfl 27 (fun _ => 0) ?_ is9R ?_; exact hZ)
    refine ⟨fun h => (by cases h), ?_⟩
    refine wpMix_nil ?_
    go_wp2_with fail
    exact bodyPost_ret (results9c rfl is9R (w.heap.size + 1) _ rfl (regB_row hZ (f)) _ rfl) rfl ⟨rfl, below_rowR bB _ (by omega)⟩
  · rw [show placeA 2 f = f 8 from rfl, show placeR 2 f = f from rfl]
    go_enter Try.func55, Try.ntmps55
    go_upto_region 1 with (fail)
    rw [zero9]
    generalize (w.alloc (.cells (arr9 f) 27)).alloc (.cells (arr9 fun _ => 0) 27) = w1 at *
    have hA := k0
    have hB := k1
    have bB := bW
    clear k0 k1 bW
    generalize hw12 : w1 = w2 at *
    clear hw12
    go_upto_region 8 with (fail)
    obtain ⟨r0, r1, r2, r3, r4, r5, r6, r7, r8⟩ := regB_cells hA
    refine wp_region_mix (fun _ => True) [(0, 0), (1, 0), (2, 0), (3, 0), (4, 2)] (by kernel_rfl) (by kernel_rfl) (fun _ _ _ _ _ h => h) ?_
    simp only [List.map_cons, List.map_nil, opOf, List.getD_cons_zero, List.getD_cons_succ]
    change wpMix _ _ _ _ _ _ w2.drew
    have hZ : regB w2.drew (w.heap.size + 1) 27 (fun _ => 0) := hB
    have hA : regB w2.drew w.heap.size 27 (f) := hA
    have bB := bB.drew
    generalize w2.drew = w3 at *
    clear r0 r1 r2 r3 r4 r5 r6 r7 r8
    obtain ⟨r0, r1, r2, r3, r4, r5, r6, r7, r8⟩ := regB_cells hA
    (refine wpMix_still (fun K hK => ?_); go_simp; refine hK _ ?_; clear hK K)
    (refine wpMix_still (fun K hK => ?_); go_simp; refine hK _ ?_; clear hK K)
    (refine wpMix_still (fun K hK => ?_); go_simp; refine hK _ ?_; clear hK K)
    (refine wpMix_still (fun K hK => ?_); go_simp; refine hK _ ?_; clear hK K)
    refine wpMix_call ?_
    go_wp2_with (refine wpList_store9 rfl 27 _ _ rfl (w.heap.size + 1) rfl (f) rfl 27 (fun _ => 0) ?_ is9R ?_; exact hZ)
    refine ⟨fun h => (by cases h), ?_⟩
    refine wpMix_nil ?_
    go_wp2_with fail
    exact bodyPost_ret (results9c rfl is9R (w.heap.size + 1) _ rfl (regB_row hZ (f)) _ rfl) rfl ⟨rfl, below_rowR bB _ (by omega)⟩
  · have hw3 : IntKind.i64.wrap (f 8 + 1) = f 8 + 1 := IntWalk.i64_in _ (by omega)
    have hm3 : Int.tmod (f 8 + 1) 65536 = lo (f 8 + 1) 16 := by rw [lo16_eq, Int.tmod_eq_emod_of_nonneg (by omega)]
    rw [show placeA 3 f = lo (f 8 + 1) 16 from rfl, show placeR 3 f = f from rfl]
    go_enter Try.func55, Try.ntmps55
    go_upto_region 1 with (fail)
    rw [zero9]
    generalize (w.alloc (.cells (arr9 f) 27)).alloc (.cells (arr9 fun _ => 0) 27) = w1 at *
    have hA := k0
    have hB := k1
    have bB := bW
    clear k0 k1 bW
    generalize hw12 : w1 = w2 at *
    clear hw12
    go_upto_region 10 with (fail)
    obtain ⟨r0, r1, r2, r3, r4, r5, r6, r7, r8⟩ := regB_cells hA
    refine wp_region_mix (fun _ => True) [(0, 0), (1, 0), (2, 0), (3, 0), (4, 0), (5, 0), (6, 2)] (by kernel_rfl) (by kernel_rfl) (fun _ _ _ _ _ h => h) ?_
    simp only [List.map_cons, List.map_nil, opOf, List.getD_cons_zero, List.getD_cons_succ]
    change wpMix _ _ _ _ _ _ w2.drew
    have hZ : regB w2.drew (w.heap.size + 1) 27 (fun _ => 0) := hB
    have hA : regB w2.drew w.heap.size 27 (f) := hA
    have bB := bB.drew
    generalize w2.drew = w3 at *
    clear r0 r1 r2 r3 r4 r5 r6 r7 r8
    obtain ⟨r0, r1, r2, r3, r4, r5, r6, r7, r8⟩ := regB_cells hA
    (refine wpMix_still (fun K hK => ?_); go_simp; refine hK _ ?_; clear hK K)
    (refine wpMix_still (fun K hK => ?_); go_simp; refine hK _ ?_; clear hK K)
    (refine wpMix_still (fun K hK => ?_); go_simp; refine hK _ ?_; clear hK K)
    (refine wpMix_still (fun K hK => ?_); go_simp; refine hK _ ?_; clear hK K)
    (refine wpMix_still (fun K hK => ?_); go_simp; refine hK _ ?_; clear hK K)
    (refine wpMix_still (fun K hK => ?_); go_simp; refine hK _ ?_; clear hK K)
    refine wpMix_call ?_
    go_wp2_with (refine wpList_store9 rfl 27 _ _ rfl (w.heap.size + 1) rfl (f) rfl 27 (fun _ => 0) ?_ is9R ?_; exact hZ)
    refine ⟨fun h => (by cases h), ?_⟩
    refine wpMix_nil ?_
    go_wp2_with fail
    exact bodyPost_ret (results9c rfl is9R (w.heap.size + 1) _ rfl (regB_row hZ (f)) _ rfl) rfl ⟨rfl, below_rowR bB _ (by omega)⟩
  · rw [show placeA 6 f = 65534 from rfl, show placeR 6 f = f from rfl]
    go_enter Try.func55, Try.ntmps55
    go_upto_region 1 with (fail)
    rw [zero9]
    generalize (w.alloc (.cells (arr9 f) 27)).alloc (.cells (arr9 fun _ => 0) 27) = w1 at *
    have hA := k0
    have hB := k1
    have bB := bW
    clear k0 k1 bW
    generalize hw12 : w1 = w2 at *
    clear hw12
    go_upto_region 20 with (fail)
    obtain ⟨r0, r1, r2, r3, r4, r5, r6, r7, r8⟩ := regB_cells hA
    refine wp_region_mix (fun _ => True) [(0, 0), (1, 0), (2, 0), (3, 0), (4, 0), (5, 2)] (by kernel_rfl) (by kernel_rfl) (fun _ _ _ _ _ h => h) ?_
    simp only [List.map_cons, List.map_nil, opOf, List.getD_cons_zero, List.getD_cons_succ]
    change wpMix _ _ _ _ _ _ w2.drew
    have hZ : regB w2.drew (w.heap.size + 1) 27 (fun _ => 0) := hB
    have hA : regB w2.drew w.heap.size 27 (f) := hA
    have bB := bB.drew
    generalize w2.drew = w3 at *
    clear r0 r1 r2 r3 r4 r5 r6 r7 r8
    obtain ⟨r0, r1, r2, r3, r4, r5, r6, r7, r8⟩ := regB_cells hA
    (refine wpMix_still (fun K hK => ?_); go_simp; refine hK _ ?_; clear hK K)
    (refine wpMix_still (fun K hK => ?_); go_simp; refine hK _ ?_; clear hK K)
    (refine wpMix_still (fun K hK => ?_); go_simp; refine hK _ ?_; clear hK K)
    (refine wpMix_still (fun K hK => ?_); go_simp; refine hK _ ?_; clear hK K)
    (refine wpMix_still (fun K hK => ?_); go_simp; refine hK _ ?_; clear hK K)
    refine wpMix_call ?_
    go_wp2_with (refine wpList_store9 rfl 27 _ _ rfl (w.heap.size + 1) rfl (f) rfl 27 (fun _ => 0) ?_ is9R ?_; exact hZ)
    refine ⟨fun h => (by cases h), ?_⟩
    refine wpMix_nil ?_
    go_wp2_with fail
    exact bodyPost_ret (results9c rfl is9R (w.heap.size + 1) _ rfl (regB_row hZ (f)) _ rfl) rfl ⟨rfl, below_rowR bB _ (by omega)⟩
  · rw [show placeA 7 f = 65535 from rfl, show placeR 7 f = f from rfl]
    go_enter Try.func55, Try.ntmps55
    go_upto_region 1 with (fail)
    rw [zero9]
    generalize (w.alloc (.cells (arr9 f) 27)).alloc (.cells (arr9 fun _ => 0) 27) = w1 at *
    have hA := k0
    have hB := k1
    have bB := bW
    clear k0 k1 bW
    generalize hw12 : w1 = w2 at *
    clear hw12
    go_upto_region 20 with (fail)
    obtain ⟨r0, r1, r2, r3, r4, r5, r6, r7, r8⟩ := regB_cells hA
    refine wp_region_mix (fun _ => True) [(0, 0), (1, 0), (2, 0), (3, 0), (4, 0), (5, 2)] (by kernel_rfl) (by kernel_rfl) (fun _ _ _ _ _ h => h) ?_
    simp only [List.map_cons, List.map_nil, opOf, List.getD_cons_zero, List.getD_cons_succ]
    change wpMix _ _ _ _ _ _ w2.drew
    have hZ : regB w2.drew (w.heap.size + 1) 27 (fun _ => 0) := hB
    have hA : regB w2.drew w.heap.size 27 (f) := hA
    have bB := bB.drew
    generalize w2.drew = w3 at *
    clear r0 r1 r2 r3 r4 r5 r6 r7 r8
    obtain ⟨r0, r1, r2, r3, r4, r5, r6, r7, r8⟩ := regB_cells hA
    (refine wpMix_still (fun K hK => ?_); go_simp; refine hK _ ?_; clear hK K)
    (refine wpMix_still (fun K hK => ?_); go_simp; refine hK _ ?_; clear hK K)
    (refine wpMix_still (fun K hK => ?_); go_simp; refine hK _ ?_; clear hK K)
    (refine wpMix_still (fun K hK => ?_); go_simp; refine hK _ ?_; clear hK K)
    (refine wpMix_still (fun K hK => ?_); go_simp; refine hK _ ?_; clear hK K)
    refine wpMix_call ?_
    go_wp2_with (refine wpList_store9 rfl 27 _ _ rfl (w.heap.size + 1) rfl (f) rfl 27 (fun _ => 0) ?_ is9R ?_; exact hZ)
    refine ⟨fun h => (by cases h), ?_⟩
    refine wpMix_nil ?_
    go_wp2_with fail
    exact bodyPost_ret (results9c rfl is9R (w.heap.size + 1) _ rfl (regB_row hZ (f)) _ rfl) rfl ⟨rfl, below_rowR bB _ (by omega)⟩
  · rw [show placeA 8 f = 65530 from rfl, show placeR 8 f = f from rfl]
    go_enter Try.func55, Try.ntmps55
    go_upto_region 1 with (fail)
    rw [zero9]
    generalize (w.alloc (.cells (arr9 f) 27)).alloc (.cells (arr9 fun _ => 0) 27) = w1 at *
    have hA := k0
    have hB := k1
    have bB := bW
    clear k0 k1 bW
    generalize hw12 : w1 = w2 at *
    clear hw12
    go_upto_region 23 with (fail)
    obtain ⟨r0, r1, r2, r3, r4, r5, r6, r7, r8⟩ := regB_cells hA
    refine wp_region_mix (fun _ => True) [(0, 0), (1, 0), (2, 0), (3, 0), (4, 0), (5, 2)] (by kernel_rfl) (by kernel_rfl) (fun _ _ _ _ _ h => h) ?_
    simp only [List.map_cons, List.map_nil, opOf, List.getD_cons_zero, List.getD_cons_succ]
    change wpMix _ _ _ _ _ _ w2.drew
    have hZ : regB w2.drew (w.heap.size + 1) 27 (fun _ => 0) := hB
    have hA : regB w2.drew w.heap.size 27 (f) := hA
    have bB := bB.drew
    generalize w2.drew = w3 at *
    clear r0 r1 r2 r3 r4 r5 r6 r7 r8
    obtain ⟨r0, r1, r2, r3, r4, r5, r6, r7, r8⟩ := regB_cells hA
    (refine wpMix_still (fun K hK => ?_); go_simp; refine hK _ ?_; clear hK K)
    (refine wpMix_still (fun K hK => ?_); go_simp; refine hK _ ?_; clear hK K)
    (refine wpMix_still (fun K hK => ?_); go_simp; refine hK _ ?_; clear hK K)
    (refine wpMix_still (fun K hK => ?_); go_simp; refine hK _ ?_; clear hK K)
    (refine wpMix_still (fun K hK => ?_); go_simp; refine hK _ ?_; clear hK K)
    refine wpMix_call ?_
    go_wp2_with (refine wpList_store9 rfl 27 _ _ rfl (w.heap.size + 1) rfl (f) rfl 27 (fun _ => 0) ?_ is9R ?_; exact hZ)
    refine ⟨fun h => (by cases h), ?_⟩
    refine wpMix_nil ?_
    go_wp2_with fail
    exact bodyPost_ret (results9c rfl is9R (w.heap.size + 1) _ rfl (regB_row hZ (f)) _ rfl) rfl ⟨rfl, below_rowR bB _ (by omega)⟩
  · rw [show placeA 9 f = 65531 from rfl, show placeR 9 f = f from rfl]
    go_enter Try.func55, Try.ntmps55
    go_upto_region 1 with (fail)
    rw [zero9]
    generalize (w.alloc (.cells (arr9 f) 27)).alloc (.cells (arr9 fun _ => 0) 27) = w1 at *
    have hA := k0
    have hB := k1
    have bB := bW
    clear k0 k1 bW
    generalize hw12 : w1 = w2 at *
    clear hw12
    go_upto_region 23 with (fail)
    obtain ⟨r0, r1, r2, r3, r4, r5, r6, r7, r8⟩ := regB_cells hA
    refine wp_region_mix (fun _ => True) [(0, 0), (1, 0), (2, 0), (3, 0), (4, 0), (5, 2)] (by kernel_rfl) (by kernel_rfl) (fun _ _ _ _ _ h => h) ?_
    simp only [List.map_cons, List.map_nil, opOf, List.getD_cons_zero, List.getD_cons_succ]
    change wpMix _ _ _ _ _ _ w2.drew
    have hZ : regB w2.drew (w.heap.size + 1) 27 (fun _ => 0) := hB
    have hA : regB w2.drew w.heap.size 27 (f) := hA
    have bB := bB.drew
    generalize w2.drew = w3 at *
    clear r0 r1 r2 r3 r4 r5 r6 r7 r8
    obtain ⟨r0, r1, r2, r3, r4, r5, r6, r7, r8⟩ := regB_cells hA
    (refine wpMix_still (fun K hK => ?_); go_simp; refine hK _ ?_; clear hK K)
    (refine wpMix_still (fun K hK => ?_); go_simp; refine hK _ ?_; clear hK K)
    (refine wpMix_still (fun K hK => ?_); go_simp; refine hK _ ?_; clear hK K)
    (refine wpMix_still (fun K hK => ?_); go_simp; refine hK _ ?_; clear hK K)
    (refine wpMix_still (fun K hK => ?_); go_simp; refine hK _ ?_; clear hK K)
    refine wpMix_call ?_
    go_wp2_with (refine wpList_store9 rfl 27 _ _ rfl (w.heap.size + 1) rfl (f) rfl 27 (fun _ => 0) ?_ is9R ?_; exact hZ)
    refine ⟨fun h => (by cases h), ?_⟩
    refine wpMix_nil ?_
    go_wp2_with fail
    exact bodyPost_ret (results9c rfl is9R (w.heap.size + 1) _ rfl (regB_row hZ (f)) _ rfl) rfl ⟨rfl, below_rowR bB _ (by omega)⟩
  · rw [show placeA 10 f = 65532 from rfl, show placeR 10 f = f from rfl]
    go_enter Try.func55, Try.ntmps55
    go_upto_region 1 with (fail)
    rw [zero9]
    generalize (w.alloc (.cells (arr9 f) 27)).alloc (.cells (arr9 fun _ => 0) 27) = w1 at *
    have hA := k0
    have hB := k1
    have bB := bW
    clear k0 k1 bW
    generalize hw12 : w1 = w2 at *
    clear hw12
    go_upto_region 26 with (fail)
    obtain ⟨r0, r1, r2, r3, r4, r5, r6, r7, r8⟩ := regB_cells hA
    refine wp_region_mix (fun _ => True) [(0, 0), (1, 0), (2, 0), (3, 0), (4, 0), (5, 2)] (by kernel_rfl) (by kernel_rfl) (fun _ _ _ _ _ h => h) ?_
    simp only [List.map_cons, List.map_nil, opOf, List.getD_cons_zero, List.getD_cons_succ]
    change wpMix _ _ _ _ _ _ w2.drew
    have hZ : regB w2.drew (w.heap.size + 1) 27 (fun _ => 0) := hB
    have hA : regB w2.drew w.heap.size 27 (f) := hA
    have bB := bB.drew
    generalize w2.drew = w3 at *
    clear r0 r1 r2 r3 r4 r5 r6 r7 r8
    obtain ⟨r0, r1, r2, r3, r4, r5, r6, r7, r8⟩ := regB_cells hA
    (refine wpMix_still (fun K hK => ?_); go_simp; refine hK _ ?_; clear hK K)
    (refine wpMix_still (fun K hK => ?_); go_simp; refine hK _ ?_; clear hK K)
    (refine wpMix_still (fun K hK => ?_); go_simp; refine hK _ ?_; clear hK K)
    (refine wpMix_still (fun K hK => ?_); go_simp; refine hK _ ?_; clear hK K)
    (refine wpMix_still (fun K hK => ?_); go_simp; refine hK _ ?_; clear hK K)
    refine wpMix_call ?_
    go_wp2_with (refine wpList_store9 rfl 27 _ _ rfl (w.heap.size + 1) rfl (f) rfl 27 (fun _ => 0) ?_ is9R ?_; exact hZ)
    refine ⟨fun h => (by cases h), ?_⟩
    refine wpMix_nil ?_
    go_wp2_with fail
    exact bodyPost_ret (results9c rfl is9R (w.heap.size + 1) _ rfl (regB_row hZ (f)) _ rfl) rfl ⟨rfl, below_rowR bB _ (by omega)⟩
  · rw [show placeA 11 f = 65533 from rfl, show placeR 11 f = f from rfl]
    go_enter Try.func55, Try.ntmps55
    go_upto_region 1 with (fail)
    rw [zero9]
    generalize (w.alloc (.cells (arr9 f) 27)).alloc (.cells (arr9 fun _ => 0) 27) = w1 at *
    have hA := k0
    have hB := k1
    have bB := bW
    clear k0 k1 bW
    generalize hw12 : w1 = w2 at *
    clear hw12
    go_upto_region 26 with (fail)
    obtain ⟨r0, r1, r2, r3, r4, r5, r6, r7, r8⟩ := regB_cells hA
    refine wp_region_mix (fun _ => True) [(0, 0), (1, 0), (2, 0), (3, 0), (4, 0), (5, 2)] (by kernel_rfl) (by kernel_rfl) (fun _ _ _ _ _ h => h) ?_
    simp only [List.map_cons, List.map_nil, opOf, List.getD_cons_zero, List.getD_cons_succ]
    change wpMix _ _ _ _ _ _ w2.drew
    have hZ : regB w2.drew (w.heap.size + 1) 27 (fun _ => 0) := hB
    have hA : regB w2.drew w.heap.size 27 (f) := hA
    have bB := bB.drew
    generalize w2.drew = w3 at *
    clear r0 r1 r2 r3 r4 r5 r6 r7 r8
    obtain ⟨r0, r1, r2, r3, r4, r5, r6, r7, r8⟩ := regB_cells hA
    (refine wpMix_still (fun K hK => ?_); go_simp; refine hK _ ?_; clear hK K)
    (refine wpMix_still (fun K hK => ?_); go_simp; refine hK _ ?_; clear hK K)
    (refine wpMix_still (fun K hK => ?_); go_simp; refine hK _ ?_; clear hK K)
    (refine wpMix_still (fun K hK => ?_); go_simp; refine hK _ ?_; clear hK K)
    (refine wpMix_still (fun K hK => ?_); go_simp; refine hK _ ?_; clear hK K)
    refine wpMix_call ?_
    go_wp2_with (refine wpList_store9 rfl 27 _ _ rfl (w.heap.size + 1) rfl (f) rfl 27 (fun _ => 0) ?_ is9R ?_; exact hZ)
    refine ⟨fun h => (by cases h), ?_⟩
    refine wpMix_nil ?_
    go_wp2_with fail
    exact bodyPost_ret (results9c rfl is9R (w.heap.size + 1) _ rfl (regB_row hZ (f)) _ rfl) rfl ⟨rfl, below_rowR bB _ (by omega)⟩
  · obtain ⟨h0, h4, h5, h1, h2, h3, h6, h7, h8, h9, h10, h11⟩ := hp
    have q0 : (p == 0) = false := by simpa using h0
    have q4 : (p == 4) = false := by simpa using h4
    have q5 : (p == 5) = false := by simpa using h5
    have q1 : (p == 1) = false := by simpa using h1
    have q2 : (p == 2) = false := by simpa using h2
    have q3 : (p == 3) = false := by simpa using h3
    have q6 : (p == 6) = false := by simpa using h6
    have q7 : (p == 7) = false := by simpa using h7
    have q8 : (p == 8) = false := by simpa using h8
    have q9 : (p == 9) = false := by simpa using h9
    have q10 : (p == 10) = false := by simpa using h10
    have q11 : (p == 11) = false := by simpa using h11
    rw [show placeA p f = 0 from (by unfold placeA fixedAt; rw [if_neg h0, if_neg h4, if_neg h5, if_neg h1, if_neg h2, if_neg h3, if_neg h6, if_neg h7, if_neg h8, if_neg h9, if_neg h10, if_neg h11]), show placeR p f = f from (by unfold placeR; rw [if_neg h0, if_neg h4, if_neg h5])]
    go_enter Try.func55, Try.ntmps55
    go_upto_region 1 with (fail)
    rw [zero9]
    generalize (w.alloc (.cells (arr9 f) 27)).alloc (.cells (arr9 fun _ => 0) 27) = w1 at *
    have hA := k0
    have hB := k1
    have bB := bW
    clear k0 k1 bW
    generalize hw12 : w1 = w2 at *
    clear hw12
    clear h0 h1 h2 h3 h4 h5 h6 h7 h8 h9 h10 h11
    go_upto_region 27 with (fail)
    obtain ⟨r0, r1, r2, r3, r4, r5, r6, r7, r8⟩ := regB_cells hA
    refine wp_region_mix (fun _ => True) [(0, 0), (1, 0), (2, 2)] (by kernel_rfl) (by kernel_rfl) (fun _ _ _ _ _ h => h) ?_
    simp only [List.map_cons, List.map_nil, opOf, List.getD_cons_zero, List.getD_cons_succ]
    change wpMix _ _ _ _ _ _ w2.drew
    have hZ : regB w2.drew (w.heap.size + 1) 27 (fun _ => 0) := hB
    have hA : regB w2.drew w.heap.size 27 (f) := hA
    have bB := bB.drew
    generalize w2.drew = w3 at *
    clear r0 r1 r2 r3 r4 r5 r6 r7 r8
    obtain ⟨r0, r1, r2, r3, r4, r5, r6, r7, r8⟩ := regB_cells hA
    (refine wpMix_still (fun K hK => ?_); go_simp; refine hK _ ?_; clear hK K)
    (refine wpMix_still (fun K hK => ?_); go_simp; refine hK _ ?_; clear hK K)
    refine wpMix_call ?_
    go_wp2_with (refine wpList_store9 rfl 27 _ _ rfl (w.heap.size + 1) rfl (f) rfl 27 (fun _ => 0) ?_ is9R ?_; exact hZ)
    refine ⟨fun h => (by cases h), ?_⟩
    refine wpMix_nil ?_
    go_wp2_with fail
    exact bodyPost_ret (results9c rfl is9R (w.heap.size + 1) _ rfl (regB_row hZ (f)) _ rfl) rfl ⟨rfl, below_rowR bB _ (by omega)⟩
end Go.Proofs.Ythhihmggaddlmaa
