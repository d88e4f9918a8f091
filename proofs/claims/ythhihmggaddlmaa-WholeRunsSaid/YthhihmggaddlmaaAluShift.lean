/- Contracts of package alu's functions count and shift. -/
import Derived.Test.YthhihmggaddlmaaAluSum
import Derived.Test.YthhihmggaddlmaaChecked
import Derived.Below
import Derived.BigQuiet
import Derived.Deep.DeepCutAuto
import Derived.Deep.Draws
import Derived.Deep.OwnRows
import Derived.Deep.QuietTactic
import Derived.Deep.RegionHeld3
import Derived.Deep.RegionWith
import Derived.Deep.WholeRow
import Derived.Lib.Hide
import Derived.OwnWalk
import Derived.RowKit3
import Derived.WalkKit
namespace Go.Proofs.Ythhihmggaddlmaa
set_option maxRecDepth 100000
open Go.RowKit

/-- The registers behind a step up or down. -/
def countF (t : Nat) (b : Int) (f : Nat → Int) : Nat → Int :=
  if t = 7 ∨ t = 8 then setR f t (lo (f t + b) 16) else setR (setR f 4 (flg (f 4) (lo (f t + b) 8))) t (lo (f t + b) 8)

set_option maxHeartbeats 2000000 in
theorem countR_any (t : Nat) (b : Int) (f : Nat → Int) (ht : t < 9) (hb : b = 1 ∨ b = -1) (h : fits f) (w : World) :
    Calls Try.prog 112 #[.int .i64 t, .agg (arr9 f), .int .i64 b] w fun e w' => e = .returned (.agg (arr9 (countF t b f))) ∧ Below w.heap.size w w' := by
  have hbel : Below w.heap.size w ((w.alloc (.cells (arr9 f) 27)).alloc (.cells (arr9 fun _ => 0) 27)) := ((Below.refl _ _).alloc (Nat.le_refl _) _).alloc (by simp) _
  have h0 := regB_start w 27 f (.cells (arr9 fun _ => 0) 27)
  have h1 := regB_start2 w 27 (fun _ => 0) (.cells (arr9 f) 27)
  have hft := h t
  have h4 : 0 ≤ f 4 ∧ f 4 < 256 := ⟨(h 4).1, (h 4).2.2 (by decide) (by decide)⟩
  have hz : wrap64 (f t + b) = f t + b := IntWalk.wrap64_in _ (by omega)
  have hw := wd_of (bitsN t) (bitsN_le t)
  by_cases h7 : t = 7 ∨ t = 8
  · have hB : bitsN t = 16 := by unfold bitsN; rw [if_pos h7]
    have hF : countF t b f = setR f t (lo (f t + b) 16) := by unfold countF; rw [if_pos h7]
    have hW : wideB (t : Int) = true := by unfold wideB; rcases h7 with rfl | rfl <;> rfl
    rw [hF]
    have w16 : wd 16 = 16 := rfl
    clear hw
    generalize hNN : lo (f t + b) 16 = N at *
    go_enter Try.func112, Try.ntmps112
    go_upto_region 1 with (fail)
    rw [zero9]
    generalize (w.alloc (.cells (arr9 f) 27)).alloc (.cells (arr9 fun _ => 0) 27) = w0 at *
    have ct := regB_cell h0 t ht
    have fr := regB_free h0 t
    go_quiet (first | (go_at_call 101; exact quiet_left (bits_reg _ _)) | (go_at_call 61; exact quiet_left (low_any _ _ _)))
    rw [hB]
    simp only [w16, hNN]
    have h0 := regB_drewN h0 nq
    have h1 := regB_drewN h1 nq
    have hbel := hbel.trans ((below_drewN w0 nq _).mono hbel.size)
    have fr := regB_free h0 t
    have ct := regB_cell h0 t ht
    generalize w0.drewN nq = w1 at *
    have k0 := regB_set h0 t N ht
    have k1 := regB_other h1 ⟨w.heap.size, t, none⟩ (.int .i64 N) (by simp)
    have k2 := hbel.setCell (p := ⟨w.heap.size, t, none⟩) (Nat.le_refl _) (.int .i64 N)
    go_wp2_with (first | (go_at_call 105; refine (wideTab_any _ _).mono ?_; rintro e w' ⟨rfl, rfl⟩) | (refine wpList_load9 rfl 27 _ rfl w.heap.size rfl 27 (setR f t N) ?_ is9R ?_; with_reducible exact k0) | (refine wpList_store9 rfl 27 _ _ rfl (w.heap.size + 1) rfl (setR f t N) rfl 27 (fun _ => 0) ?_ is9R ?_; with_reducible exact k1))
    exact bodyPost_ret (results9 rfl is9R (w.heap.size + 1) _ rfl (regB_row k1 _)) rfl ⟨rfl, below_rowR k2 _ (by omega)⟩
  · have hB : bitsN t = 8 := by unfold bitsN; rw [if_neg h7]
    have hF : countF t b f = setR (setR f 4 (flg (f 4) (lo (f t + b) 8))) t (lo (f t + b) 8) := by unfold countF; rw [if_neg h7]
    have hW : wideB (t : Int) = false := by unfold wideB; simp; omega
    rw [hF]
    have w8 : wd 8 = 8 := rfl
    clear hw
    generalize hNN : lo (f t + b) 8 = N at *
    have hfl := flagged_any f N h4
    generalize hG : setR f 4 (flg (f 4) N) = G at *
    go_enter Try.func112, Try.ntmps112
    go_upto_region 1 with (fail)
    rw [zero9]
    generalize (w.alloc (.cells (arr9 f) 27)).alloc (.cells (arr9 fun _ => 0) 27) = w0 at *
    have ct := regB_cell h0 t ht
    have fr := regB_free h0 t
    go_quiet (first | (go_at_call 101; exact quiet_left (bits_reg _ _)) | (go_at_call 61; exact quiet_left (low_any _ _ _)))
    rw [hB]
    simp only [w8, hNN]
    have h0 := regB_drewN h0 nq
    have h1 := regB_drewN h1 nq
    have hbel := hbel.trans ((below_drewN w0 nq _).mono hbel.size)
    generalize w0.drewN nq = w1 at *
    go_upto_region 4 with (first
      | (go_at_call 105; refine (wideTab_any _ _).mono ?_; rintro e w' ⟨rfl, rfl⟩)
      | (go_at_call 107; with_reducible refine (hfl _).mono ?_; rintro e w2 ⟨rfl, hb2⟩; have l1 := regB_lt h1; have h2 := regB_below h0 hb2 (by omega); have h3 := regB_below h1 hb2 l1; have hbel2 := hbel.trans (hb2.mono hbel.size); clear l1)
      | (refine wpList_load9 rfl 27 _ rfl w.heap.size rfl 27 (f) ?_ is9R ?_; with_reducible exact h0) | (refine wpList_store9 rfl 27 _ _ rfl w.heap.size rfl (G) (by rw [← hG]; rfl) 27 (f) ?_ is9R ?_; with_reducible exact h2))
    have h4' := regB_row h2 G
    have h5 := regB_row_other h3 (arr9 G) (by simp : w.heap.size ≠ w.heap.size + 1)
    have hbel3 := below_rowR hbel2 (arr9 G) (Nat.le_refl w.heap.size)
    clear h0 h1 h2 h3 hbel hbel2 ct fr hfl
    generalize w2.setRow w.heap.size (arr9 G) = w3 at *
    have fr := regB_free h4' t
    have ct := regB_cell h4' t ht
    have k0 := regB_set h4' t N ht
    have k1 := regB_other h5 ⟨w.heap.size, t, none⟩ (.int .i64 N) (by simp)
    have k2 := hbel3.setCell (p := ⟨w.heap.size, t, none⟩) (Nat.le_refl _) (.int .i64 N)
    go_wp2_with (first | (refine wpList_load9 rfl 27 _ rfl w.heap.size rfl 27 (setR G t N) ?_ is9R ?_; with_reducible exact k0) | (refine wpList_store9 rfl 27 _ _ rfl (w.heap.size + 1) rfl (setR G t N) rfl 27 (fun _ => 0) ?_ is9R ?_; with_reducible exact k1))
    exact bodyPost_ret (results9 rfl is9R (w.heap.size + 1) _ rfl (regB_row k1 _)) rfl ⟨rfl, below_rowR k2 _ (by omega)⟩

def shiftN (d a c : Int) : Int := if d = 12 then lo (rolS a 0 8) 8 else if d = 14 then lo (rolS a c 8) 8 else if d = 13 then rorS a 0 8 / 2 else rorS a c 8 / 2
def shiftC (d a c : Int) : Int := if d = 12 then rolS a 0 8 / 256 else if d = 14 then rolS a c 8 / 256 else if d = 13 then rorS a 0 8 % 2 else rorS a c 8 % 2
theorem shiftC_bd (d a c : Int) : shiftC d a c = 0 ∨ shiftC d a c = 1 := by
  have h := lo8_bd a
  unfold shiftC rolS rorS
  split
  · omega
  · split
    · omega
    · split <;> omega
/-- The registers behind a shift. -/
def shiftF (d : Int) (t : Nat) (f : Nat → Int) : Nat → Int :=
  setR (setR f 4 (flg (car (f 4) (shiftC d (f t) (f 4 % 2))) (shiftN d (f t) (f 4 % 2)))) t (shiftN d (f t) (f 4 % 2))

set_option maxHeartbeats 2000000 in
theorem shift12_any (t : Nat) (u n : Int) (f : Nat → Int) (ht : t < 9) (h : fits f) (w : World) :
    Calls Try.prog 113 #[.agg #[.int .i64 12, .int .i64 t, .int .i64 u, .int .i64 n], .agg (arr9 f)] w fun e w' => e = .returned (.agg (arr9 (shiftF 12 t f))) ∧ Below w.heap.size w w' := by
  have hA := aluW.start w 12 t u n f
  have e1 := and_one (f 4)
  have h4 : 0 ≤ f 4 ∧ f 4 < 256 := ⟨(h 4).1, (h 4).2.2 (by decide) (by decide)⟩
  have e8 : wd 8 = 8 := rfl
  have ha := rol_any (f t) 0 8
  rw [e8, (by decide : (2 : Int) ^ 8 = 256)] at ha
  have hcb := shiftC_bd 12 (f t) (f 4 % 2)
  have hp := car_bd (f 4) (shiftC 12 (f t) (f 4 % 2)) h4 hcb
  have hF : shiftF 12 t f = setR (setR f 4 (flg (car (f 4) (shiftC 12 (f t) (f 4 % 2))) (shiftN 12 (f t) (f 4 % 2)))) t (shiftN 12 (f t) (f 4 % 2)) := rfl
  have hn : shiftN 12 (f t) (f 4 % 2) = lo (rolS (f t) 0 8) 8 := rfl
  have hc : shiftC 12 (f t) (f 4 % 2) = rolS (f t) 0 8 / 256 := rfl
  rw [hF]
  clear hF
  generalize shiftC 12 (f t) (f 4 % 2) = C at *
  generalize shiftN 12 (f t) (f 4 % 2) = N at *
  have hc1 := carried_any f C h4 hcb
  have hc2 := flagged_any (setR f 4 (car (f 4) C)) N (by rw [setR_same]; exact hp)
  rw [setR_same, setR_setR] at hc2
  have HN := Lib.hid hn
  have HC := Lib.hid hc
  clear hn hc
  go_enter Try.func113, Try.ntmps113
  go_upto_region 1 with (fail)
  rw [zero9]
  have hA : aluW w (((w.alloc (.cells #[.int .i64 12, .int .i64 t, .int .i64 u, .int .i64 n] 100)).alloc (.cells (arr9 f) 27)).alloc (.cells (arr9 fun _ => 0) 27)) 12 t u n f := hA
  generalize ((w.alloc (.cells #[.int .i64 12, .int .i64 t, .int .i64 u, .int .i64 n] 100)).alloc (.cells (arr9 f) 27)).alloc (.cells (arr9 fun _ => 0) 27) = w1 at *
  obtain ⟨s0, s1, s2, s3⟩ := hA.steps
  have c4 := regB_cell hA.hr 4 (by decide)
  have ct := regB_cell hA.hr t ht
  have hA2 := hA
  go_upto_region 8 with (go_at_call 119; refine (ha _).mono ?_; rintro e w2 ⟨rfl, hq⟩; have hA2 := hA.call (hq.below _); clear hq)
  simp only [← HN.out, ← HC.out]
  go_upto_region 9 with (first
    | (go_at_call 118; with_reducible refine (hc1 _).mono ?_; rintro e w3 ⟨rfl, hb⟩; have hA3 := hA2.call hb; clear hb)
    | (go_at_call 107; with_reducible refine (hc2 _).mono ?_; rintro e w4 ⟨rfl, hb⟩; have hA4 := hA3.call hb; clear hb)
    | (refine wpList_load9 rfl 27 _ rfl (w.heap.size + 1) rfl 27 (f) ?_ is9R ?_; with_reducible exact hA2.hr)
    | (refine wpList_store9 rfl 27 _ _ rfl (w.heap.size + 1) rfl (setR f 4 (flg (car (f 4) C) N)) rfl 27 (f) ?_ is9R ?_; with_reducible exact hA4.hr))
  have hA5 := hA4.row (setR f 4 (flg (car (f 4) C) N))
  generalize w4.setRow (w.heap.size + 1) (arr9 (setR f 4 (flg (car (f 4) C) N))) = w5 at *
  clear s0 s1 s2 s3 c4 ct hA hA2 hA3 hA4 hc1 hc2
  generalize hG : setR f 4 (flg (car (f 4) C) N) = G at *
  obtain ⟨s0, s1, s2, s3⟩ := hA5.steps
  have ft := regB_free hA5.hr t
  have ct := regB_cell hA5.hr t ht
  have hA6 := hA5.set t N ht
  go_wp2_with (first | (refine wpList_load9 rfl 27 _ rfl (w.heap.size + 1) rfl 27 (setR G t N) ?_ is9R ?_; with_reducible exact hA6.hr) | (refine wpList_store9 rfl 27 _ _ rfl (w.heap.size + 2) rfl (setR G t N) rfl 27 (fun _ => 0) ?_ is9R ?_; with_reducible exact hA6.hz))
  exact bodyPost_ret (results9 rfl is9R (w.heap.size + 2) _ rfl (regB_row hA6.hz _)) rfl ⟨by rw [hG], below_rowR hA6.bel _ (by omega)⟩

set_option maxHeartbeats 2000000 in
theorem shift13_any (t : Nat) (u n : Int) (f : Nat → Int) (ht : t < 9) (h : fits f) (w : World) :
    Calls Try.prog 113 #[.agg #[.int .i64 13, .int .i64 t, .int .i64 u, .int .i64 n], .agg (arr9 f)] w fun e w' => e = .returned (.agg (arr9 (shiftF 13 t f))) ∧ Below w.heap.size w w' := by
  have hA := aluW.start w 13 t u n f
  have e1 := and_one (f 4)
  have h4 : 0 ≤ f 4 ∧ f 4 < 256 := ⟨(h 4).1, (h 4).2.2 (by decide) (by decide)⟩
  have e8 : wd 8 = 8 := rfl
  have ha := ror_any (f t) 0 8
  rw [e8] at ha
  have hcb := shiftC_bd 13 (f t) (f 4 % 2)
  have hp := car_bd (f 4) (shiftC 13 (f t) (f 4 % 2)) h4 hcb
  have hF : shiftF 13 t f = setR (setR f 4 (flg (car (f 4) (shiftC 13 (f t) (f 4 % 2))) (shiftN 13 (f t) (f 4 % 2)))) t (shiftN 13 (f t) (f 4 % 2)) := rfl
  have hn : shiftN 13 (f t) (f 4 % 2) = rorS (f t) 0 8 / 2 := rfl
  have hc : shiftC 13 (f t) (f 4 % 2) = rorS (f t) 0 8 % 2 := rfl
  rw [hF]
  clear hF
  generalize shiftC 13 (f t) (f 4 % 2) = C at *
  generalize shiftN 13 (f t) (f 4 % 2) = N at *
  have hc1 := carried_any f C h4 hcb
  have hc2 := flagged_any (setR f 4 (car (f 4) C)) N (by rw [setR_same]; exact hp)
  rw [setR_same, setR_setR] at hc2
  have HN := Lib.hid hn
  have HC := Lib.hid hc
  clear hn hc
  go_enter Try.func113, Try.ntmps113
  go_upto_region 1 with (fail)
  rw [zero9]
  have hA : aluW w (((w.alloc (.cells #[.int .i64 13, .int .i64 t, .int .i64 u, .int .i64 n] 100)).alloc (.cells (arr9 f) 27)).alloc (.cells (arr9 fun _ => 0) 27)) 13 t u n f := hA
  generalize ((w.alloc (.cells #[.int .i64 13, .int .i64 t, .int .i64 u, .int .i64 n] 100)).alloc (.cells (arr9 f) 27)).alloc (.cells (arr9 fun _ => 0) 27) = w1 at *
  obtain ⟨s0, s1, s2, s3⟩ := hA.steps
  have c4 := regB_cell hA.hr 4 (by decide)
  have ct := regB_cell hA.hr t ht
  have hA2 := hA
  go_upto_region 8 with (go_at_call 120; refine (ha _).mono ?_; rintro e w2 ⟨rfl, rfl⟩)
  simp only [← HN.out, ← HC.out]
  go_upto_region 9 with (first
    | (go_at_call 118; with_reducible refine (hc1 _).mono ?_; rintro e w3 ⟨rfl, hb⟩; have hA3 := hA2.call hb; clear hb)
    | (go_at_call 107; with_reducible refine (hc2 _).mono ?_; rintro e w4 ⟨rfl, hb⟩; have hA4 := hA3.call hb; clear hb)
    | (refine wpList_load9 rfl 27 _ rfl (w.heap.size + 1) rfl 27 (f) ?_ is9R ?_; with_reducible exact hA2.hr)
    | (refine wpList_store9 rfl 27 _ _ rfl (w.heap.size + 1) rfl (setR f 4 (flg (car (f 4) C) N)) rfl 27 (f) ?_ is9R ?_; with_reducible exact hA4.hr))
  have hA5 := hA4.row (setR f 4 (flg (car (f 4) C) N))
  generalize w4.setRow (w.heap.size + 1) (arr9 (setR f 4 (flg (car (f 4) C) N))) = w5 at *
  clear s0 s1 s2 s3 c4 ct hA hA2 hA3 hA4 hc1 hc2
  generalize hG : setR f 4 (flg (car (f 4) C) N) = G at *
  obtain ⟨s0, s1, s2, s3⟩ := hA5.steps
  have ft := regB_free hA5.hr t
  have ct := regB_cell hA5.hr t ht
  have hA6 := hA5.set t N ht
  go_wp2_with (first | (refine wpList_load9 rfl 27 _ rfl (w.heap.size + 1) rfl 27 (setR G t N) ?_ is9R ?_; with_reducible exact hA6.hr) | (refine wpList_store9 rfl 27 _ _ rfl (w.heap.size + 2) rfl (setR G t N) rfl 27 (fun _ => 0) ?_ is9R ?_; with_reducible exact hA6.hz))
  exact bodyPost_ret (results9 rfl is9R (w.heap.size + 2) _ rfl (regB_row hA6.hz _)) rfl ⟨by rw [hG], below_rowR hA6.bel _ (by omega)⟩

set_option maxHeartbeats 2000000 in
theorem shift14_any (t : Nat) (u n : Int) (f : Nat → Int) (ht : t < 9) (h : fits f) (w : World) :
    Calls Try.prog 113 #[.agg #[.int .i64 14, .int .i64 t, .int .i64 u, .int .i64 n], .agg (arr9 f)] w fun e w' => e = .returned (.agg (arr9 (shiftF 14 t f))) ∧ Below w.heap.size w w' := by
  have hA := aluW.start w 14 t u n f
  have e1 := and_one (f 4)
  have h4 : 0 ≤ f 4 ∧ f 4 < 256 := ⟨(h 4).1, (h 4).2.2 (by decide) (by decide)⟩
  have e8 : wd 8 = 8 := rfl
  have ha := rol_any (f t) (f 4 % 2) 8
  rw [e8, (by decide : (2 : Int) ^ 8 = 256)] at ha
  have hcb := shiftC_bd 14 (f t) (f 4 % 2)
  have hp := car_bd (f 4) (shiftC 14 (f t) (f 4 % 2)) h4 hcb
  have hF : shiftF 14 t f = setR (setR f 4 (flg (car (f 4) (shiftC 14 (f t) (f 4 % 2))) (shiftN 14 (f t) (f 4 % 2)))) t (shiftN 14 (f t) (f 4 % 2)) := rfl
  have hn : shiftN 14 (f t) (f 4 % 2) = lo (rolS (f t) (f 4 % 2) 8) 8 := rfl
  have hc : shiftC 14 (f t) (f 4 % 2) = rolS (f t) (f 4 % 2) 8 / 256 := rfl
  rw [hF]
  clear hF
  generalize shiftC 14 (f t) (f 4 % 2) = C at *
  generalize shiftN 14 (f t) (f 4 % 2) = N at *
  have hc1 := carried_any f C h4 hcb
  have hc2 := flagged_any (setR f 4 (car (f 4) C)) N (by rw [setR_same]; exact hp)
  rw [setR_same, setR_setR] at hc2
  have HN := Lib.hid hn
  have HC := Lib.hid hc
  clear hn hc
  go_enter Try.func113, Try.ntmps113
  go_upto_region 1 with (fail)
  rw [zero9]
  have hA : aluW w (((w.alloc (.cells #[.int .i64 14, .int .i64 t, .int .i64 u, .int .i64 n] 100)).alloc (.cells (arr9 f) 27)).alloc (.cells (arr9 fun _ => 0) 27)) 14 t u n f := hA
  generalize ((w.alloc (.cells #[.int .i64 14, .int .i64 t, .int .i64 u, .int .i64 n] 100)).alloc (.cells (arr9 f) 27)).alloc (.cells (arr9 fun _ => 0) 27) = w1 at *
  obtain ⟨s0, s1, s2, s3⟩ := hA.steps
  have c4 := regB_cell hA.hr 4 (by decide)
  have ct := regB_cell hA.hr t ht
  have hA2 := hA
  go_upto_region 8 with (go_at_call 119; refine (ha _).mono ?_; rintro e w2 ⟨rfl, hq⟩; have hA2 := hA.call (hq.below _); clear hq)
  simp only [← HN.out, ← HC.out]
  go_upto_region 9 with (first
    | (go_at_call 118; with_reducible refine (hc1 _).mono ?_; rintro e w3 ⟨rfl, hb⟩; have hA3 := hA2.call hb; clear hb)
    | (go_at_call 107; with_reducible refine (hc2 _).mono ?_; rintro e w4 ⟨rfl, hb⟩; have hA4 := hA3.call hb; clear hb)
    | (refine wpList_load9 rfl 27 _ rfl (w.heap.size + 1) rfl 27 (f) ?_ is9R ?_; with_reducible exact hA2.hr)
    | (refine wpList_store9 rfl 27 _ _ rfl (w.heap.size + 1) rfl (setR f 4 (flg (car (f 4) C) N)) rfl 27 (f) ?_ is9R ?_; with_reducible exact hA4.hr))
  have hA5 := hA4.row (setR f 4 (flg (car (f 4) C) N))
  generalize w4.setRow (w.heap.size + 1) (arr9 (setR f 4 (flg (car (f 4) C) N))) = w5 at *
  clear s0 s1 s2 s3 c4 ct hA hA2 hA3 hA4 hc1 hc2
  generalize hG : setR f 4 (flg (car (f 4) C) N) = G at *
  obtain ⟨s0, s1, s2, s3⟩ := hA5.steps
  have ft := regB_free hA5.hr t
  have ct := regB_cell hA5.hr t ht
  have hA6 := hA5.set t N ht
  go_wp2_with (first | (refine wpList_load9 rfl 27 _ rfl (w.heap.size + 1) rfl 27 (setR G t N) ?_ is9R ?_; with_reducible exact hA6.hr) | (refine wpList_store9 rfl 27 _ _ rfl (w.heap.size + 2) rfl (setR G t N) rfl 27 (fun _ => 0) ?_ is9R ?_; with_reducible exact hA6.hz))
  exact bodyPost_ret (results9 rfl is9R (w.heap.size + 2) _ rfl (regB_row hA6.hz _)) rfl ⟨by rw [hG], below_rowR hA6.bel _ (by omega)⟩

set_option maxHeartbeats 2000000 in
theorem shift15_any (t : Nat) (u n : Int) (f : Nat → Int) (ht : t < 9) (h : fits f) (w : World) :
    Calls Try.prog 113 #[.agg #[.int .i64 15, .int .i64 t, .int .i64 u, .int .i64 n], .agg (arr9 f)] w fun e w' => e = .returned (.agg (arr9 (shiftF 15 t f))) ∧ Below w.heap.size w w' := by
  have hA := aluW.start w 15 t u n f
  have e1 := and_one (f 4)
  have h4 : 0 ≤ f 4 ∧ f 4 < 256 := ⟨(h 4).1, (h 4).2.2 (by decide) (by decide)⟩
  have e8 : wd 8 = 8 := rfl
  have ha := ror_any (f t) (f 4 % 2) 8
  rw [e8] at ha
  have hcb := shiftC_bd 15 (f t) (f 4 % 2)
  have hp := car_bd (f 4) (shiftC 15 (f t) (f 4 % 2)) h4 hcb
  have hF : shiftF 15 t f = setR (setR f 4 (flg (car (f 4) (shiftC 15 (f t) (f 4 % 2))) (shiftN 15 (f t) (f 4 % 2)))) t (shiftN 15 (f t) (f 4 % 2)) := rfl
  have hn : shiftN 15 (f t) (f 4 % 2) = rorS (f t) (f 4 % 2) 8 / 2 := rfl
  have hc : shiftC 15 (f t) (f 4 % 2) = rorS (f t) (f 4 % 2) 8 % 2 := rfl
  rw [hF]
  clear hF
  generalize shiftC 15 (f t) (f 4 % 2) = C at *
  generalize shiftN 15 (f t) (f 4 % 2) = N at *
  have hc1 := carried_any f C h4 hcb
  have hc2 := flagged_any (setR f 4 (car (f 4) C)) N (by rw [setR_same]; exact hp)
  rw [setR_same, setR_setR] at hc2
  have HN := Lib.hid hn
  have HC := Lib.hid hc
  clear hn hc
  go_enter Try.func113, Try.ntmps113
  go_upto_region 1 with (fail)
  rw [zero9]
  have hA : aluW w (((w.alloc (.cells #[.int .i64 15, .int .i64 t, .int .i64 u, .int .i64 n] 100)).alloc (.cells (arr9 f) 27)).alloc (.cells (arr9 fun _ => 0) 27)) 15 t u n f := hA
  generalize ((w.alloc (.cells #[.int .i64 15, .int .i64 t, .int .i64 u, .int .i64 n] 100)).alloc (.cells (arr9 f) 27)).alloc (.cells (arr9 fun _ => 0) 27) = w1 at *
  obtain ⟨s0, s1, s2, s3⟩ := hA.steps
  have c4 := regB_cell hA.hr 4 (by decide)
  have ct := regB_cell hA.hr t ht
  have hA2 := hA
  go_upto_region 8 with (go_at_call 120; refine (ha _).mono ?_; rintro e w2 ⟨rfl, rfl⟩)
  simp only [← HN.out, ← HC.out]
  go_upto_region 9 with (first
    | (go_at_call 118; with_reducible refine (hc1 _).mono ?_; rintro e w3 ⟨rfl, hb⟩; have hA3 := hA2.call hb; clear hb)
    | (go_at_call 107; with_reducible refine (hc2 _).mono ?_; rintro e w4 ⟨rfl, hb⟩; have hA4 := hA3.call hb; clear hb)
    | (refine wpList_load9 rfl 27 _ rfl (w.heap.size + 1) rfl 27 (f) ?_ is9R ?_; with_reducible exact hA2.hr)
    | (refine wpList_store9 rfl 27 _ _ rfl (w.heap.size + 1) rfl (setR f 4 (flg (car (f 4) C) N)) rfl 27 (f) ?_ is9R ?_; with_reducible exact hA4.hr))
  have hA5 := hA4.row (setR f 4 (flg (car (f 4) C) N))
  generalize w4.setRow (w.heap.size + 1) (arr9 (setR f 4 (flg (car (f 4) C) N))) = w5 at *
  clear s0 s1 s2 s3 c4 ct hA hA2 hA3 hA4 hc1 hc2
  generalize hG : setR f 4 (flg (car (f 4) C) N) = G at *
  obtain ⟨s0, s1, s2, s3⟩ := hA5.steps
  have ft := regB_free hA5.hr t
  have ct := regB_cell hA5.hr t ht
  have hA6 := hA5.set t N ht
  go_wp2_with (first | (refine wpList_load9 rfl 27 _ rfl (w.heap.size + 1) rfl 27 (setR G t N) ?_ is9R ?_; with_reducible exact hA6.hr) | (refine wpList_store9 rfl 27 _ _ rfl (w.heap.size + 2) rfl (setR G t N) rfl 27 (fun _ => 0) ?_ is9R ?_; with_reducible exact hA6.hz))
  exact bodyPost_ret (results9 rfl is9R (w.heap.size + 2) _ rfl (regB_row hA6.hz _)) rfl ⟨by rw [hG], below_rowR hA6.bel _ (by omega)⟩
end Go.Proofs.Ythhihmggaddlmaa
