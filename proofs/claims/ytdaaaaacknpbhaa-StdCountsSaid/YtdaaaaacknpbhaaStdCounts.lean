/- The law StdCounts: a loop that counts down ends after as many rounds as it has counted. -/
import Derived.Test.YtdaaaaacknpbhaaStdOp
import Derived.Test.YtdaaaaacknpbhaaStdCouM
import Derived.Great.BuildSlice
namespace Go.Proofs.Ytdaaaaacknpbhaa
open Go.RowKit
set_option maxRecDepth 100000
set_option maxHeartbeats 2000000 in
theorem stdCounts_walk (vr : Value) (lr : List Int) (n : Int) (w : World) (h2 : isArg w vr lr) (hwf2 : ∀ x ∈ lr, (Lit.int .i64 x).wf = true) (hin : -9223372036854775808 ≤ n ∧ n ≤ 9223372036854775807) :
    Calls Try.prog 8 #[vr, .int .i64 n] w fun e w' => e = .returned (.bool true) ∧ Below w.heap.size w w' := by
  obtain ⟨t1, t2, t3, rfl⟩ : ∃ a n c, vr = .slice a n c := by
    rcases h2 with ⟨a, cap, rfl, _⟩ | ⟨b, off, cap, rfl, _⟩ <;> exact ⟨_, _, _, rfl⟩
  obtain ⟨X, hX⟩ : ∃ X : Nat, n % 40 = (X : Int) := ⟨(n % 40).toNat, by omega⟩
  have hbn := fun w => below_any n 40 hin (by decide) w
  rw [hX] at hbn
  have HBN := Lib.hid hbn
  have bX : X < 40 := by omega
  clear hbn hX hin
  have hready : ∀ wc, Below w.heap.size w wc → Calls Try.prog 35 #[.slice t1 t2 t3, .slice (some ⟨wc.heap.size, 0, none⟩) 9 9] (wc.alloc (.cells #[.int .u8 8, .int .u8 ((X : Int) + 1), .int .u8 11, .int .u8 0, .int .u8 71, .int .u8 72, .int .u8 88, .int .u8 252, .int .u8 78] 5)) (readyEnd (wc.alloc (.cells #[.int .u8 8, .int .u8 ((X : Int) + 1), .int .u8 11, .int .u8 0, .int .u8 71, .int .u8 72, .int .u8 88, .int .u8 252, .int .u8 78] 5)) (countsP ((X : Int) + 1))) := fun wc hb => by
    have b2 := hb.alloc hb.size (.cells #[.int .u8 8, .int .u8 ((X : Int) + 1), .int .u8 11, .int .u8 0, .int .u8 71, .int .u8 72, .int .u8 88, .int .u8 252, .int .u8 78] 5)
    refine ready_any (.slice t1 t2 t3) lr _ (countsP ((X : Int) + 1)) _ (isArg_below h2 b2 (Nat.le_refl _)) hwf2 (bytes_lit wc (countsP ((X : Int) + 1)) _ (by simp [countsP]) ?_ 9 rfl) (by simp [countsP])
    intro y hy
    simp only [countsP, List.mem_cons, List.not_mem_nil, or_false] at hy
    rcases hy with rfl | rfl | rfl | rfl | rfl | rfl | rfl | rfl | rfl <;> omega
  have HREADY := Lib.hid hready
  have hx1 : IntKind.u8.wrap ((X : Int) + 1) = (X : Int) + 1 := by show ((X : Int) + 1) % 256 = _; omega
  have hx2 : (1 : Int) + (X : Int) = (X : Int) + 1 := by omega
  clear hready h2 hwf2
  have hbc : Below w.heap.size w w := Below.refl _ _
  go_enter Try.func8, Try.ntmps8
  go_upto_region 2 with (first
    | (go_at_call 29; refine (HBN.out _).mono ?_; rintro e w' ⟨rfl, rfl⟩))
  try rw [hx2]
  go_upto_region 3 with (first
    | (go_at_call_of 36 (Value.string ⟨#[108, 100, 120]⟩); refine (oc_ldx1 _).mono ?_; rintro e wq ⟨rfl, hbq⟩; replace hbc := hbc.trans (hbq.mono hbc.size); clear hbq)
    | (go_at_call_of 36 (Value.string ⟨#[108, 100, 121]⟩); refine (oc_ldy1 _).mono ?_; rintro e wq ⟨rfl, hbq⟩; replace hbc := hbc.trans (hbq.mono hbc.size); clear hbq)
    | (go_at_call_of 36 (Value.string ⟨#[105, 110, 121]⟩); refine (oc_iny _).mono ?_; rintro e wq ⟨rfl, hbq⟩; replace hbc := hbc.trans (hbq.mono hbc.size); clear hbq)
    | (go_at_call_of 36 (Value.string ⟨#[100, 101, 120]⟩); refine (oc_dex _).mono ?_; rintro e wq ⟨rfl, hbq⟩; replace hbc := hbc.trans (hbq.mono hbc.size); clear hbq)
    | (go_at_call_of 36 (Value.string ⟨#[98, 110, 101]⟩); refine (oc_bne _).mono ?_; rintro e wq ⟨rfl, hbq⟩; replace hbc := hbc.trans (hbq.mono hbc.size); clear hbq)
    | (go_at_call_of 36 (Value.string ⟨#[110, 111, 112]⟩); refine (oc_nop _).mono ?_; rintro e wq ⟨rfl, hbq⟩; replace hbc := hbc.trans (hbq.mono hbc.size); clear hbq)
    | (go_at_call 35; refine (HREADY.out _ hbc).mono ?_; rintro e w2 ⟨f, g, b, rfl, hf, h7, hm, lg, lb, hb⟩; have H7 := Lib.hid h7; clear h7; have nz := rowB_new w2 29 (core12 (fun _ => 0) 0 0 false); replace hbc := hbc.alloc hbc.size (.cells #[.int .u8 8, .int .u8 ((X : Int) + 1), .int .u8 11, .int .u8 0, .int .u8 71, .int .u8 72, .int .u8 88, .int .u8 252, .int .u8 78] 5))
    | (refine wpList_storeR rfl 29 _ _ rfl (w2.heap.size) rfl (core12 f (-1) 0 false) rfl (core12_one _ _ _ _) 29 (core12 (fun _ => 0) 0 0 false) rfl ?_ agK ?_; exact nz))
  have hW := rdyW.start hbc hm lg lb hb (core12 f (-1) 0 false)
  change Code.wp _ _ _ _ ((w2.alloc (.cells (core12 (fun _ => 0) 0 0 false) 29)).setRow w2.heap.size (core12 f (-1) 0 false))
  generalize (w2.alloc (.cells (core12 (fun _ => 0) 0 0 false) 29)).setRow w2.heap.size (core12 f (-1) 0 false) = w3 at *
  generalize w2.heap.size = q at *
  clear hbc hm lg lb hb nz HREADY hx1 hx2
  obtain ⟨f2, hR, hxx, hy, hpc⟩ := counts_pure X bX f hf H7.out
  have hruns := runs_any g b ⟨f, -1, 0, false⟩ (loadP (countsP ((X : Int) + 1))) (2 + 3 * (X + 1)) (by omega) w3 hW.mem
  rw [hR, show ((2 + 3 * (X + 1) : Nat) : Int) = 2 + 3 * ((X : Int) + 1) by omega] at hruns
  have HRUNS := Lib.hid hruns
  clear hruns hR
  have K1 := Lib.hid hxx
  have K2 := Lib.hid hy
  have K7 := Lib.hid hpc
  clear hxx hy hpc
  have hX0 : (0 : Int) ≤ (X : Int) := by omega
  have hX1 : (X : Int) < 40 := by omega
  go_upto_region 4 with (first
      | (refine wpList_loadR rfl 29 _ rfl q rfl 29 (core12 f (-1) 0 false) ?_ agK ?_; with_reducible exact hW.hk)
      | (go_at_call 37; refine HRUNS.out.mono ?_; rintro e w4 ⟨rfl, hi, ho⟩; have hW2 := hW.ran ho hi)
      | (refine wpList_storeR rfl 29 _ _ rfl q rfl (core12 f2 (-1) 0 false) rfl (core12_one _ _ _ _) 29 (core12 f (-1) 0 false) rfl ?_ agK ?_; with_reducible exact hW2.hk))
  have hW3 := hW2.state (core12 f2 (-1) 0 false)
  generalize w4.setRow q (core12 f2 (-1) 0 false) = w5 at *
  clear hW hW2 HRUNS ho hi
  go_wp2_with (first
    | (go_at_call 38; refine (wholes_keep _).mono ?_; rintro e w6 ⟨rfl, hb6⟩; have hW4 := hW3.call hb6; have c1 := coreB_reg hW4.hk 1 (by decide); have c2 := coreB_reg hW4.hk 2 (by decide); have c7 := coreB_reg hW4.hk 7 (by decide); rw [K1.out] at c1; rw [K2.out] at c2; rw [K7.out] at c7; have hbel := hW4.bel; clear hW3 hb6))
  go_ret
  exact ⟨rfl, hbel⟩
end Go.Proofs.Ytdaaaaacknpbhaa
