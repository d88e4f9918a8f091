/- The law StdStores: what is stored is loaded again. -/
import Derived.Test.YtdaaaaacknpbhaaStdOp
import Derived.Test.YtdaaaaacknpbhaaStdStoM
import Derived.Great.BuildSlice
namespace Go.Proofs.Ytdaaaaacknpbhaa
open Go.RowKit
set_option maxRecDepth 100000
set_option maxHeartbeats 8000000 in
theorem stdStores_walk (vr : Value) (lr : List Int) (n a x : Int) (w : World) (h2 : isArg w vr lr) (hwf2 : ∀ x ∈ lr, (Lit.int .i64 x).wf = true) (hin : -9223372036854775808 ≤ n ∧ n ≤ 9223372036854775807) (hia : -9223372036854775808 ≤ a ∧ a ≤ 9223372036854775807) (hix : -9223372036854775808 ≤ x ∧ x ≤ 9223372036854775807) :
    Calls Try.prog 6 #[vr, .int .i64 n, .int .i64 a, .int .i64 x] w fun e w' => e = .returned (.bool true) ∧ Below w.heap.size w w' := by
  obtain ⟨t1, t2, t3, rfl⟩ : ∃ a n c, vr = .slice a n c := by
    rcases h2 with ⟨a, cap, rfl, _⟩ | ⟨b, off, cap, rfl, _⟩ <;> exact ⟨_, _, _, rfl⟩
  obtain ⟨N, hN⟩ : ∃ N, N = n % 256 := ⟨_, rfl⟩
  obtain ⟨A, hA⟩ : ∃ A, A = a % 200 := ⟨_, rfl⟩
  obtain ⟨X, hX⟩ : ∃ X, X = x % 50 := ⟨_, rfl⟩
  have hbn := fun w => below_any n 256 hin (by decide) w
  have hba := fun w => below_any a 200 hia (by decide) w
  have hbx := fun w => below_any x 50 hix (by decide) w
  rw [← hN] at hbn
  rw [← hA] at hba
  rw [← hX] at hbx
  have HBN := Lib.hid hbn
  have HBA := Lib.hid hba
  have HBX := Lib.hid hbx
  have bn : 0 ≤ N ∧ N < 256 := by omega
  have ba : 0 ≤ A ∧ A < 200 := by omega
  have bx : 0 ≤ X ∧ X < 50 := by omega
  clear hbn hba hbx hN hA hX hin hia hix
  obtain ⟨N1, hN1⟩ : ∃ N1, N1 = (N + 1) % 256 := ⟨_, rfl⟩
  have b1 : 0 ≤ N1 ∧ N1 < 256 := by omega
  have hready : ∀ wc, Below w.heap.size w wc → Calls Try.prog 35 #[.slice t1 t2 t3, .slice (some ⟨wc.heap.size, 0, none⟩) 13 13] (wc.alloc (.cells #[.int .u8 8, .int .u8 X, .int .u8 1, .int .u8 N, .int .u8 15, .int .u8 A, .int .u8 1, .int .u8 N1, .int .u8 2, .int .u8 (A + X), .int .u8 13, .int .u8 (A + X), .int .u8 0] 5)) (readyEnd (wc.alloc (.cells #[.int .u8 8, .int .u8 X, .int .u8 1, .int .u8 N, .int .u8 15, .int .u8 A, .int .u8 1, .int .u8 N1, .int .u8 2, .int .u8 (A + X), .int .u8 13, .int .u8 (A + X), .int .u8 0] 5)) (storesP N A X)) := fun wc hb => by
    have b2 := hb.alloc hb.size (.cells #[.int .u8 8, .int .u8 X, .int .u8 1, .int .u8 N, .int .u8 15, .int .u8 A, .int .u8 1, .int .u8 N1, .int .u8 2, .int .u8 (A + X), .int .u8 13, .int .u8 (A + X), .int .u8 0] 5)
    refine ready_any (.slice t1 t2 t3) lr _ (storesP N A X) _ (isArg_below h2 b2 (Nat.le_refl _)) hwf2 (bytes_lit wc (storesP N A X) _ (by simp [storesP, hN1]) ?_ 13 rfl) (by simp [storesP])
    intro y hy
    simp only [storesP, List.mem_cons, List.not_mem_nil, or_false] at hy
    rcases hy with rfl | rfl | rfl | rfl | rfl | rfl | rfl | rfl | rfl | rfl | rfl | rfl | rfl <;> omega
  have HREADY := Lib.hid hready
  have hx1 : IntKind.u8.wrap X = X := by show X % 256 = X; omega
  have hx2 : IntKind.u8.wrap N = N := by show N % 256 = N; omega
  have hx3 : IntKind.u8.wrap A = A := by show A % 256 = A; omega
  have hx4 : IntKind.u8.wrap (N + 1) = N1 := by show (N + 1) % 256 = N1; exact hN1.symm
  have hx5 : IntKind.u8.wrap (A + X) = A + X := by show (A + X) % 256 = A + X; omega
  clear hready h2 hwf2 hN1
  have hbc : Below w.heap.size w w := Below.refl _ _
  go_enter Try.func6, Try.ntmps6
  go_upto_region 2 with (first
    | (go_at_call_of 29 (Value.int .i64 n); refine (HBN.out _).mono ?_; rintro e w' ⟨rfl, rfl⟩)
    | (go_at_call_of 29 (Value.int .i64 a); refine (HBA.out _).mono ?_; rintro e w' ⟨rfl, rfl⟩)
    | (go_at_call_of 29 (Value.int .i64 x); refine (HBX.out _).mono ?_; rintro e w' ⟨rfl, rfl⟩))
  go_upto_region 3 with (first
    | (go_at_call_of 36 (Value.string ⟨#[108, 100, 120]⟩); refine (oc_ldx1 _).mono ?_; rintro e wq ⟨rfl, hbq⟩; replace hbc := hbc.trans (hbq.mono hbc.size); clear hbq)
    | (go_at_call_of 36 (Value.string ⟨#[108, 100, 97]⟩); refine (oc_lda _ (by decide) _).mono ?_; rintro e wq ⟨rfl, hbq⟩; replace hbc := hbc.trans (hbq.mono hbc.size); clear hbq)
    | (go_at_call_of 36 (Value.string ⟨#[115, 116, 97]⟩); refine (oc_sta3 _).mono ?_; rintro e wq ⟨rfl, hbq⟩; replace hbc := hbc.trans (hbq.mono hbc.size); clear hbq)
    | (go_at_call_of 36 (Value.string ⟨#[108, 100, 121]⟩); refine (oc_ldy4 _).mono ?_; rintro e wq ⟨rfl, hbq⟩; replace hbc := hbc.trans (hbq.mono hbc.size); clear hbq)
    | (go_at_call 35; refine (HREADY.out _ hbc).mono ?_; rintro e w2 ⟨f, g, b, rfl, hf, h7, hm, lg, lb, hb⟩; have H7 := Lib.hid h7; clear h7; have nz := rowB_new w2 29 (core12 (fun _ => 0) 0 0 false); replace hbc := hbc.alloc hbc.size (.cells #[.int .u8 8, .int .u8 X, .int .u8 1, .int .u8 N, .int .u8 15, .int .u8 A, .int .u8 1, .int .u8 N1, .int .u8 2, .int .u8 (A + X), .int .u8 13, .int .u8 (A + X), .int .u8 0] 5))
    | (refine wpList_storeR rfl 29 _ _ rfl (w2.heap.size) rfl (core12 f (-1) 0 false) rfl (core12_one _ _ _ _) 29 (core12 (fun _ => 0) 0 0 false) rfl ?_ agK ?_; exact nz))
  have hW := rdyW.start hbc hm lg lb hb (core12 f (-1) 0 false)
  change Code.wp _ _ _ _ ((w2.alloc (.cells (core12 (fun _ => 0) 0 0 false) 29)).setRow w2.heap.size (core12 f (-1) 0 false))
  generalize (w2.alloc (.cells (core12 (fun _ => 0) 0 0 false) 29)).setRow w2.heap.size (core12 f (-1) 0 false) = w3 at *
  generalize w2.heap.size = q at *
  clear hbc hm lg lb hb nz HREADY hx1 hx2 hx3 hx4 hx5
  obtain ⟨f2, m2, hR, h0, hy, hxx, hpc, hz⟩ := stores_pure N A X bn ba bx f hf H7.out
  have hruns := runs_any g b ⟨f, -1, 0, false⟩ (loadP (storesP N A X)) 6 (by decide) w3 hW.mem
  rw [hR] at hruns
  have HRUNS := Lib.hid hruns
  clear hruns hR
  have K0 := Lib.hid h0
  have K1 := Lib.hid hxx
  have K2 := Lib.hid hy
  have K7 := Lib.hid hpc
  have K4 := Lib.hid hz
  clear h0 hy hxx hpc hz
  go_upto_region 4 with (first
      | (refine wpList_loadR rfl 29 _ rfl q rfl 29 (core12 f (-1) 0 false) ?_ agK ?_; with_reducible exact hW.hk)
      | (go_at_call 37; refine HRUNS.out.mono ?_; rintro e w4 ⟨rfl, hi, ho⟩; have hW2 := hW.ran ho hi)
      | (refine wpList_storeR rfl 29 _ _ rfl q rfl (core12 f2 (-1) 0 false) rfl (core12_one _ _ _ _) 29 (core12 f (-1) 0 false) rfl ?_ agK ?_; with_reducible exact hW2.hk))
  have hW3 := hW2.state (core12 f2 (-1) 0 false)
  generalize w4.setRow q (core12 f2 (-1) 0 false) = w5 at *
  clear hW hW2 HRUNS ho hi
  obtain ⟨F4, hF4⟩ : ∃ F4, F4 = f2 4 := ⟨_, rfl⟩
  have hz := K4.out
  rw [← hF4] at hz
  have HF4 := Lib.hid hF4
  clear hF4 K4
  by_cases hN0 : N = 0
  · subst hN0
    rw [if_pos rfl] at hz
    go_wp2_with (first
      | (go_at_call 38; refine (wholes_keep _).mono ?_; rintro e w6 ⟨rfl, hb6⟩; have hW4 := hW3.call hb6; have c0 := coreB_reg hW4.hk 0 (by decide); have c1 := coreB_reg hW4.hk 1 (by decide); have c2 := coreB_reg hW4.hk 2 (by decide); have c4 := coreB_reg hW4.hk 4 (by decide); have c7 := coreB_reg hW4.hk 7 (by decide); rw [K0.out] at c0; rw [K1.out] at c1; rw [K2.out] at c2; rw [← HF4.out] at c4; rw [K7.out] at c7; have hbel := hW4.bel; clear hW3 hb6))
    go_ret
    exact ⟨rfl, hbel⟩
  · rw [if_neg hN0] at hz
    have tN : (N == 0) = false := by simpa using hN0
    go_wp2_with (first
      | (go_at_call 38; refine (wholes_keep _).mono ?_; rintro e w6 ⟨rfl, hb6⟩; have hW4 := hW3.call hb6; have c0 := coreB_reg hW4.hk 0 (by decide); have c1 := coreB_reg hW4.hk 1 (by decide); have c2 := coreB_reg hW4.hk 2 (by decide); have c4 := coreB_reg hW4.hk 4 (by decide); have c7 := coreB_reg hW4.hk 7 (by decide); rw [K0.out] at c0; rw [K1.out] at c1; rw [K2.out] at c2; rw [← HF4.out] at c4; rw [K7.out] at c7; have hbel := hW4.bel; clear hW3 hb6))
    go_ret
    exact ⟨rfl, hbel⟩
end Go.Proofs.Ytdaaaaacknpbhaa
