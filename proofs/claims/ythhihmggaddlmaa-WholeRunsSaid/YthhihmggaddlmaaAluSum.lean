/- Contracts of package alu's functions moved, sum, count and shift. -/
import Derived.Test.YthhihmggaddlmaaAluFlags
import Derived.Test.YthhihmggaddlmaaBitWalksB
import Derived.Test.YthhihmggaddlmaaChecked
import Derived.Below
import Derived.BigQuiet
import Derived.Deep.DeepCutAuto
import Derived.Deep.Draws
import Derived.Deep.OwnRows
import Derived.Deep.QuietTactic
import Derived.Deep.RegionHeld3
import Derived.Deep.RegionWith
import Derived.Deep.WholeRow
import Derived.Lib.Hide
import Derived.OwnWalk
import Derived.RowKit3
import Derived.WalkKit
namespace Go.Proofs.Ythhihmggaddlmaa
open Go.RowKit
set_option maxRecDepth 100000

/-- What a step puts into a register that leaves the flags alone. -/
def movedV (d n a b : Int) : Int :=
  if d = 2 then n else if d = 18 then putN a 0 8 b else if d = 19 then putN a 8 8 b else if d = 20 then lo b 8 else if d = 21 then lo (b / 256) 8
  else if d = 22 then wrap64 (a + lo b 8) else if d = 23 then wrap64 (a + sg b 8) else b
theorem below_one (w : World) (o : Obj) : Below w.heap.size w (w.alloc o) := (Below.refl _ _).alloc (Nat.le_refl _) _
theorem moved_any (d t u n a b : Int) (w : World) :
    Calls Try.prog 108 #[.agg #[.int .i64 d, .int .i64 t, .int .i64 u, .int .i64 n], .int .i64 a, .int .i64 b] w fun e w' => e = .returned (.int .i64 (movedV d n a b)) ∧ Below w.heap.size w w' := by
  have hb := below_one w (.cells #[.int .i64 d, .int .i64 t, .int .i64 u, .int .i64 n] 100)
  have p0 := put_any a 0 8 b
  have p8 := put_any a 8 8 b
  have sg8 := signed_any b 8
  have z0 : wd 0 = 0 := rfl
  have z8 : wd 8 = 8 := rfl
  have y0 : fz 0 8 = 8 := rfl
  have y8 : fz 8 8 = 8 := rfl
  rw [z0, y0] at p0
  rw [z8, y8] at p8
  rw [z8] at sg8
  clear z0 z8 y0 y8
  go_enter Try.func108, Try.ntmps108
  go_wp2_with (first
    | (go_at_call_of 70 (Value.int .i64 0); refine (p0 _).mono ?_; rintro e w' ⟨rfl, rfl⟩)
    | (go_at_call 70; refine (p8 _).mono ?_; rintro e w' ⟨rfl, rfl⟩)
    | (go_at_call 111; refine (low8_any _ _).mono ?_; rintro e w' ⟨rfl, rfl⟩)
    | (go_at_call 114; refine (second_any _ _).mono ?_; rintro e w' ⟨rfl, rfl⟩)
    | (go_at_call 115; refine (sg8 _).mono ?_; rintro e w' ⟨rfl, rfl⟩))
  all_goals
    go_ret
    refine ⟨ret_int ?_, hb⟩
    unfold movedV
    simp_all
/-! ### blocks: a step, registers and a result, of the call's own -/
def stepC (d t u n : Int) : Array Value := #[.int .i64 d, .int .i64 t, .int .i64 u, .int .i64 n]
structure aluW (w0 w : World) (d t u n : Int) (f : Nat → Int) : Prop where
  bel : Below w0.heap.size w0 w
  hs : w.heap[w0.heap.size]? = some (.cells (stepC d t u n) 100 (0, 0))
  hr : regB w (w0.heap.size + 1) 27 f
  hz : regB w (w0.heap.size + 2) 27 (fun _ => 0)
section
variable {w0 w : World} {d t u n : Int} {f : Nat → Int}
theorem aluW.start (w : World) (d t u n : Int) (f : Nat → Int) : aluW w (((w.alloc (.cells (stepC d t u n) 100)).alloc (.cells (arr9 f) 27)).alloc (.cells (arr9 fun _ => 0) 27)) d t u n f := by
  refine ⟨(((Below.refl _ _).alloc (Nat.le_refl _) _).alloc (by simp) _).alloc (by simp; omega) _, ?_, regB_alloc ?_ _, ?_⟩
  · have hA := heap_alloc_last w (.cells (stepC d t u n) 100)
    have b1 := below_one (w.alloc (.cells (stepC d t u n) 100)) (.cells (arr9 f) 27)
    have b2 := below_one ((w.alloc (.cells (stepC d t u n) 100)).alloc (.cells (arr9 f) 27)) (.cells (arr9 fun _ => 0) 27)
    rw [b2.block w.heap.size (by simp; omega), b1.block w.heap.size (by simp)]
    exact hA
  · have := regB_new (w.alloc (.cells (stepC d t u n) 100)) 27 f
    simpa using this
  · have := regB_new ((w.alloc (.cells (stepC d t u n) 100)).alloc (.cells (arr9 f) 27)) 27 (fun _ => 0)
    simpa using this
theorem aluW.call {w' : World} (h : aluW w0 w d t u n f) (hb : Below w.heap.size w w') : aluW w0 w' d t u n f := by
  have l1 := regB_lt h.hz
  refine ⟨h.bel.trans (hb.mono h.bel.size), ?_, regB_below h.hr hb (by omega), regB_below h.hz hb l1⟩
  rw [← h.hs]; exact hb.block _ (by omega)
theorem aluW.drewN (h : aluW w0 w d t u n f) (m : Nat) : aluW w0 (w.drewN m) d t u n f := h.call (below_drewN w m _)
theorem aluW.row (h : aluW w0 w d t u n f) (f' : Nat → Int) : aluW w0 (w.setRow (w0.heap.size + 1) (arr9 f')) d t u n f' := by
  refine ⟨below_rowR h.bel _ (by omega), ?_, regB_row h.hr f', regB_row_other h.hz _ (by omega)⟩
  rw [← h.hs]
  simp only [World.setRow, Array.getElem?_modify]
  rw [if_neg (by omega)]
theorem aluW.set (h : aluW w0 w d t u n f) (k : Nat) (x : Int) (hk : k < 9) : aluW w0 (w.setCell ⟨w0.heap.size + 1, k, none⟩ (.int .i64 x)) d t u n (setR f k x) := by
  refine ⟨h.bel.setCell (p := ⟨w0.heap.size + 1, k, none⟩) (by simp) _, ?_, regB_set h.hr k x hk, regB_other h.hz _ _ (by simp)⟩
  rw [heap_setCell_other w _ _ _ (by simp)]
  exact h.hs
theorem aluW.steps (h : aluW w0 w d t u n f) : w.cell? ⟨w0.heap.size, 0, none⟩ = some (.int .i64 d) ∧ w.cell? ⟨w0.heap.size, 1, none⟩ = some (.int .i64 t) ∧ w.cell? ⟨w0.heap.size, 2, none⟩ = some (.int .i64 u) ∧ w.cell? ⟨w0.heap.size, 3, none⟩ = some (.int .i64 n) := by
  refine ⟨?_, ?_, ?_, ?_⟩ <;> (rw [cell_of_row w _ _ _ _ _ h.hs]; rfl)
end

def sumN (d a b c : Int) : Int := if d = 4 then lo (addS a b c 8) 8 else if d = 5 then lo (subS a b (1 - c) 8) 8 else lo (subS a b 0 8) 8
def sumC (d a b c : Int) : Int := if d = 4 then addS a b c 8 / 256 else if d = 5 then 1 - subC a b (1 - c) 8 else 1 - subC a b 0 8
theorem subC_bd (a b c : Int) (k : Nat) : subC a b c k = 0 ∨ subC a b c k = 1 := by unfold subC; split <;> simp
theorem sumC_bd (d a b c : Int) : sumC d a b c = 0 ∨ sumC d a b c = 1 := by
  unfold sumC
  split
  · unfold addS
    have := lo8_bd a; have := lo8_bd b
    omega
  · split
    · rcases subC_bd a b (1 - c) 8 with h | h <;> rw [h] <;> simp
    · rcases subC_bd a b 0 8 with h | h <;> rw [h] <;> simp
/-- The registers behind an addition, a subtraction or a comparison. -/
def sumF (d : Int) (t u : Nat) (f : Nat → Int) : Nat → Int :=
  let g := setR f 4 (flg (car (f 4) (sumC d (f t) (f u) (f 4 % 2))) (sumN d (f t) (f u) (f 4 % 2)))
  if d = 6 then g else setR g t (sumN d (f t) (f u) (f 4 % 2))

set_option maxHeartbeats 2000000 in
theorem sum4_any (t u : Nat) (n : Int) (f : Nat → Int) (ht : t < 9) (hu : u < 9) (h : fits f) (w : World) :
    Calls Try.prog 109 #[.agg #[.int .i64 4, .int .i64 t, .int .i64 u, .int .i64 n], .agg (arr9 f)] w fun e w' => e = .returned (.agg (arr9 (sumF 4 t u f))) ∧ Below w.heap.size w w' := by
  have hA := aluW.start w 4 t u n f
  have e1 := and_one (f 4)
  have h4 : 0 ≤ f 4 ∧ f 4 < 256 := ⟨(h 4).1, (h 4).2.2 (by decide) (by decide)⟩
  have e8 : wd 8 = 8 := rfl
  have ha := add_any (f t) (f u) (f 4 % 2) 8
  rw [e8, (by decide : (2 : Int) ^ 8 = 256)] at ha
  have hcb := sumC_bd 4 (f t) (f u) (f 4 % 2)
  have hp := car_bd (f 4) (sumC 4 (f t) (f u) (f 4 % 2)) h4 hcb
  have hF : sumF 4 t u f = setR (setR f 4 (flg (car (f 4) (sumC 4 (f t) (f u) (f 4 % 2))) (sumN 4 (f t) (f u) (f 4 % 2)))) t (sumN 4 (f t) (f u) (f 4 % 2)) := rfl
  have hn : sumN 4 (f t) (f u) (f 4 % 2) = lo (addS (f t) (f u) (f 4 % 2) 8) 8 := rfl
  have hc : sumC 4 (f t) (f u) (f 4 % 2) = addS (f t) (f u) (f 4 % 2) 8 / 256 := rfl
  rw [hF]
  clear hF
  generalize sumC 4 (f t) (f u) (f 4 % 2) = C at *
  generalize sumN 4 (f t) (f u) (f 4 % 2) = N at *
  have hc1 := carried_any f C h4 hcb
  have hc2 := flagged_any (setR f 4 (car (f 4) C)) N (by rw [setR_same]; exact hp)
  rw [setR_same, setR_setR] at hc2
  have HN := Lib.hid hn
  have HC := Lib.hid hc
  clear hn hc
  go_enter Try.func109, Try.ntmps109
  go_upto_region 1 with (fail)
  rw [zero9]
  have hA : aluW w (((w.alloc (.cells #[.int .i64 4, .int .i64 t, .int .i64 u, .int .i64 n] 100)).alloc (.cells (arr9 f) 27)).alloc (.cells (arr9 fun _ => 0) 27)) 4 t u n f := hA
  generalize ((w.alloc (.cells #[.int .i64 4, .int .i64 t, .int .i64 u, .int .i64 n] 100)).alloc (.cells (arr9 f) 27)).alloc (.cells (arr9 fun _ => 0) 27) = w1 at *
  obtain ⟨s0, s1, s2, s3⟩ := hA.steps
  have c4 := regB_cell hA.hr 4 (by decide)
  have ct := regB_cell hA.hr t ht
  have cu := regB_cell hA.hr u hu
  go_quiet (fail)
  have hA2 := hA.drewN nq
  go_upto_region 9 with (first
    | (go_at_call 116; refine (ha _).mono ?_; rintro e w2 ⟨rfl, hq⟩; have hA2 := hA2.call (hq.below _); clear hq)
    | (go_at_call 117; refine (subtract_any _ _ _ _).mono ?_; rintro e w2 ⟨rfl, rfl⟩))
  simp only [← HN.out, ← HC.out]
  go_upto_region 10 with (first
    | (go_at_call 118; with_reducible refine (hc1 _).mono ?_; rintro e w3 ⟨rfl, hb⟩; have hA3 := hA2.call hb; clear hb)
    | (go_at_call 107; with_reducible refine (hc2 _).mono ?_; rintro e w4 ⟨rfl, hb⟩; have hA4 := hA3.call hb; clear hb)
    | (refine wpList_load9 rfl 27 _ rfl (w.heap.size + 1) rfl 27 (f) ?_ is9R ?_; with_reducible exact hA2.hr)
    | (refine wpList_store9 rfl 27 _ _ rfl (w.heap.size + 1) rfl (setR f 4 (flg (car (f 4) C) N)) rfl 27 (f) ?_ is9R ?_; with_reducible exact hA4.hr))
  have hA5 := hA4.row (setR f 4 (flg (car (f 4) C) N))
  generalize w4.setRow (w.heap.size + 1) (arr9 (setR f 4 (flg (car (f 4) C) N))) = w5 at *
  clear s0 s1 s2 s3 c4 ct cu hA hA2 hA3 hA4 hc1 hc2
  generalize hG : setR f 4 (flg (car (f 4) C) N) = G at *
  obtain ⟨s0, s1, s2, s3⟩ := hA5.steps
  have ft := regB_free hA5.hr t
  have ct := regB_cell hA5.hr t ht
  have hA6 := hA5.set t N ht
  go_wp2_with (first | (refine wpList_load9 rfl 27 _ rfl (w.heap.size + 1) rfl 27 (setR G t N) ?_ is9R ?_; with_reducible exact hA6.hr) | (refine wpList_store9 rfl 27 _ _ rfl (w.heap.size + 2) rfl (setR G t N) rfl 27 (fun _ => 0) ?_ is9R ?_; with_reducible exact hA6.hz))
  exact bodyPost_ret (results9 rfl is9R (w.heap.size + 2) _ rfl (regB_row hA6.hz _)) rfl ⟨by rw [hG], below_rowR hA6.bel _ (by omega)⟩

set_option maxHeartbeats 2000000 in
theorem sum5_any (t u : Nat) (n : Int) (f : Nat → Int) (ht : t < 9) (hu : u < 9) (h : fits f) (w : World) :
    Calls Try.prog 109 #[.agg #[.int .i64 5, .int .i64 t, .int .i64 u, .int .i64 n], .agg (arr9 f)] w fun e w' => e = .returned (.agg (arr9 (sumF 5 t u f))) ∧ Below w.heap.size w w' := by
  have hA := aluW.start w 5 t u n f
  have e1 := and_one (f 4)
  have h4 : 0 ≤ f 4 ∧ f 4 < 256 := ⟨(h 4).1, (h 4).2.2 (by decide) (by decide)⟩
  have e8 : wd 8 = 8 := rfl
  have ha := add_any (f t) (f u) (f 4 % 2) 8
  rw [e8, (by decide : (2 : Int) ^ 8 = 256)] at ha
  have hcb := sumC_bd 5 (f t) (f u) (f 4 % 2)
  have hp := car_bd (f 4) (sumC 5 (f t) (f u) (f 4 % 2)) h4 hcb
  have hF : sumF 5 t u f = setR (setR f 4 (flg (car (f 4) (sumC 5 (f t) (f u) (f 4 % 2))) (sumN 5 (f t) (f u) (f 4 % 2)))) t (sumN 5 (f t) (f u) (f 4 % 2)) := rfl
  have hn : sumN 5 (f t) (f u) (f 4 % 2) = lo (subS (f t) (f u) (1 - f 4 % 2) 8) 8 := rfl
  have hc : sumC 5 (f t) (f u) (f 4 % 2) = 1 - subC (f t) (f u) (1 - f 4 % 2) 8 := rfl
  rw [hF]
  clear hF
  generalize sumC 5 (f t) (f u) (f 4 % 2) = C at *
  generalize sumN 5 (f t) (f u) (f 4 % 2) = N at *
  have hc1 := carried_any f C h4 hcb
  have hc2 := flagged_any (setR f 4 (car (f 4) C)) N (by rw [setR_same]; exact hp)
  rw [setR_same, setR_setR] at hc2
  have HN := Lib.hid hn
  have HC := Lib.hid hc
  clear hn hc
  go_enter Try.func109, Try.ntmps109
  go_upto_region 1 with (fail)
  rw [zero9]
  have hA : aluW w (((w.alloc (.cells #[.int .i64 5, .int .i64 t, .int .i64 u, .int .i64 n] 100)).alloc (.cells (arr9 f) 27)).alloc (.cells (arr9 fun _ => 0) 27)) 5 t u n f := hA
  generalize ((w.alloc (.cells #[.int .i64 5, .int .i64 t, .int .i64 u, .int .i64 n] 100)).alloc (.cells (arr9 f) 27)).alloc (.cells (arr9 fun _ => 0) 27) = w1 at *
  obtain ⟨s0, s1, s2, s3⟩ := hA.steps
  have c4 := regB_cell hA.hr 4 (by decide)
  have ct := regB_cell hA.hr t ht
  have cu := regB_cell hA.hr u hu
  go_quiet (fail)
  have hA2 := hA.drewN nq
  go_upto_region 9 with (first
    | (go_at_call 116; refine (ha _).mono ?_; rintro e w2 ⟨rfl, hq⟩; have hA2 := hA2.call (hq.below _); clear hq)
    | (go_at_call 117; refine (subtract_any _ _ _ _).mono ?_; rintro e w2 ⟨rfl, rfl⟩))
  simp only [← HN.out, ← HC.out]
  go_upto_region 10 with (first
    | (go_at_call 118; with_reducible refine (hc1 _).mono ?_; rintro e w3 ⟨rfl, hb⟩; have hA3 := hA2.call hb; clear hb)
    | (go_at_call 107; with_reducible refine (hc2 _).mono ?_; rintro e w4 ⟨rfl, hb⟩; have hA4 := hA3.call hb; clear hb)
    | (refine wpList_load9 rfl 27 _ rfl (w.heap.size + 1) rfl 27 (f) ?_ is9R ?_; with_reducible exact hA2.hr)
    | (refine wpList_store9 rfl 27 _ _ rfl (w.heap.size + 1) rfl (setR f 4 (flg (car (f 4) C) N)) rfl 27 (f) ?_ is9R ?_; with_reducible exact hA4.hr))
  have hA5 := hA4.row (setR f 4 (flg (car (f 4) C) N))
  generalize w4.setRow (w.heap.size + 1) (arr9 (setR f 4 (flg (car (f 4) C) N))) = w5 at *
  clear s0 s1 s2 s3 c4 ct cu hA hA2 hA3 hA4 hc1 hc2
  generalize hG : setR f 4 (flg (car (f 4) C) N) = G at *
  obtain ⟨s0, s1, s2, s3⟩ := hA5.steps
  have ft := regB_free hA5.hr t
  have ct := regB_cell hA5.hr t ht
  have hA6 := hA5.set t N ht
  go_wp2_with (first | (refine wpList_load9 rfl 27 _ rfl (w.heap.size + 1) rfl 27 (setR G t N) ?_ is9R ?_; with_reducible exact hA6.hr) | (refine wpList_store9 rfl 27 _ _ rfl (w.heap.size + 2) rfl (setR G t N) rfl 27 (fun _ => 0) ?_ is9R ?_; with_reducible exact hA6.hz))
  exact bodyPost_ret (results9 rfl is9R (w.heap.size + 2) _ rfl (regB_row hA6.hz _)) rfl ⟨by rw [hG], below_rowR hA6.bel _ (by omega)⟩

set_option maxHeartbeats 2000000 in
theorem sum6_any (t u : Nat) (n : Int) (f : Nat → Int) (ht : t < 9) (hu : u < 9) (h : fits f) (w : World) :
    Calls Try.prog 109 #[.agg #[.int .i64 6, .int .i64 t, .int .i64 u, .int .i64 n], .agg (arr9 f)] w fun e w' => e = .returned (.agg (arr9 (sumF 6 t u f))) ∧ Below w.heap.size w w' := by
  have hA := aluW.start w 6 t u n f
  have e1 := and_one (f 4)
  have h4 : 0 ≤ f 4 ∧ f 4 < 256 := ⟨(h 4).1, (h 4).2.2 (by decide) (by decide)⟩
  have e8 : wd 8 = 8 := rfl
  have ha := add_any (f t) (f u) (f 4 % 2) 8
  rw [e8, (by decide : (2 : Int) ^ 8 = 256)] at ha
  have hcb := sumC_bd 6 (f t) (f u) (f 4 % 2)
  have hp := car_bd (f 4) (sumC 6 (f t) (f u) (f 4 % 2)) h4 hcb
  have hF : sumF 6 t u f = setR f 4 (flg (car (f 4) (sumC 6 (f t) (f u) (f 4 % 2))) (sumN 6 (f t) (f u) (f 4 % 2))) := rfl
  have hn : sumN 6 (f t) (f u) (f 4 % 2) = lo (subS (f t) (f u) 0 8) 8 := rfl
  have hc : sumC 6 (f t) (f u) (f 4 % 2) = 1 - subC (f t) (f u) 0 8 := rfl
  rw [hF]
  clear hF
  generalize sumC 6 (f t) (f u) (f 4 % 2) = C at *
  generalize sumN 6 (f t) (f u) (f 4 % 2) = N at *
  have hc1 := carried_any f C h4 hcb
  have hc2 := flagged_any (setR f 4 (car (f 4) C)) N (by rw [setR_same]; exact hp)
  rw [setR_same, setR_setR] at hc2
  have HN := Lib.hid hn
  have HC := Lib.hid hc
  clear hn hc
  go_enter Try.func109, Try.ntmps109
  go_upto_region 1 with (fail)
  rw [zero9]
  have hA : aluW w (((w.alloc (.cells #[.int .i64 6, .int .i64 t, .int .i64 u, .int .i64 n] 100)).alloc (.cells (arr9 f) 27)).alloc (.cells (arr9 fun _ => 0) 27)) 6 t u n f := hA
  generalize ((w.alloc (.cells #[.int .i64 6, .int .i64 t, .int .i64 u, .int .i64 n] 100)).alloc (.cells (arr9 f) 27)).alloc (.cells (arr9 fun _ => 0) 27) = w1 at *
  obtain ⟨s0, s1, s2, s3⟩ := hA.steps
  have c4 := regB_cell hA.hr 4 (by decide)
  have ct := regB_cell hA.hr t ht
  have cu := regB_cell hA.hr u hu
  go_quiet (fail)
  have hA2 := hA.drewN nq
  go_upto_region 9 with (first
    | (go_at_call 116; refine (ha _).mono ?_; rintro e w2 ⟨rfl, hq⟩; have hA2 := hA2.call (hq.below _); clear hq)
    | (go_at_call 117; refine (subtract_any _ _ _ _).mono ?_; rintro e w2 ⟨rfl, rfl⟩))
  simp only [← HN.out, ← HC.out]
  go_upto_region 10 with (first
    | (go_at_call 118; with_reducible refine (hc1 _).mono ?_; rintro e w3 ⟨rfl, hb⟩; have hA3 := hA2.call hb; clear hb)
    | (go_at_call 107; with_reducible refine (hc2 _).mono ?_; rintro e w4 ⟨rfl, hb⟩; have hA4 := hA3.call hb; clear hb)
    | (refine wpList_load9 rfl 27 _ rfl (w.heap.size + 1) rfl 27 (f) ?_ is9R ?_; with_reducible exact hA2.hr)
    | (refine wpList_store9 rfl 27 _ _ rfl (w.heap.size + 1) rfl (setR f 4 (flg (car (f 4) C) N)) rfl 27 (f) ?_ is9R ?_; with_reducible exact hA4.hr))
  have hA5 := hA4.row (setR f 4 (flg (car (f 4) C) N))
  generalize w4.setRow (w.heap.size + 1) (arr9 (setR f 4 (flg (car (f 4) C) N))) = w5 at *
  clear s0 s1 s2 s3 c4 ct cu hA hA2 hA3 hA4 hc1 hc2
  generalize hG : setR f 4 (flg (car (f 4) C) N) = G at *
  obtain ⟨s0, s1, s2, s3⟩ := hA5.steps
  have ft := regB_free hA5.hr t
  have ct := regB_cell hA5.hr t ht
  go_wp2_with (first | (refine wpList_load9 rfl 27 _ rfl (w.heap.size + 1) rfl 27 (G) ?_ is9R ?_; with_reducible exact hA5.hr) | (refine wpList_store9 rfl 27 _ _ rfl (w.heap.size + 2) rfl (G) rfl 27 (fun _ => 0) ?_ is9R ?_; with_reducible exact hA5.hz))
  exact bodyPost_ret (results9 rfl is9R (w.heap.size + 2) _ rfl (regB_row hA5.hz _)) rfl ⟨by rw [hG], below_rowR hA5.bel _ (by omega)⟩
end Go.Proofs.Ythhihmggaddlmaa
