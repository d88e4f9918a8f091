/- Contracts of package sound: Out, Next. -/
import Derived.Test.YtbpjkdigihpohaaChecked
import Derived.Test.YtbpjkdigihpohaaSndCa
import Derived.Below
import Derived.BigQuiet
import Derived.ChangeMaps5
import Derived.Deep.AppendSrc
import Derived.Deep.DeepCutAuto
import Derived.Deep.Draws
import Derived.Deep.MidRow
import Derived.Deep.OwnRows
import Derived.Deep.QuietTactic
import Derived.Deep.RegionHeld3
import Derived.Deep.RegionWith
import Derived.Deep.Slices
import Derived.Deep.WholeRow
import Derived.Lib.Hide
import Derived.Lib.SmallJoins
import Derived.OpenShut
import Derived.OrdersHeld
import Derived.OwnWalk
import Derived.RowKit3
import Derived.StillTactics
import Derived.StillTail
import Derived.StillTailTactics
import Derived.WalkKit
namespace Go.Proofs.Ytbpjkdigihpohaa
open Go.RowKit
set_option maxRecDepth 100000

attribute [local go_sem ↓] run_indexA run_indexB
theorem phase_volume (f v : Int) (hf : 0 ≤ f ∧ f < 2) (hv : 0 ≤ v ∧ v < 16) : 0 ≤ f * v ∧ f * v < 16 := by
  rcases (by omega : f = 0 ∨ f = 1) with rfl | rfl
  · rw [Int.zero_mul]; omega
  · rw [Int.one_mul]; exact hv
theorem rate_volume (r v : Int) (h1 : 0 ≤ r) (h2 : 0 ≤ v) : 0 < v * r ↔ (0 < r ∧ 0 < v) := by
  constructor
  · intro h
    refine ⟨?_, ?_⟩
    · rcases (by omega : r = 0 ∨ 0 < r) with rfl | q
      · rw [Int.mul_zero] at h; omega
      · exact q
    · rcases (by omega : v = 0 ∨ 0 < v) with rfl | q
      · rw [Int.zero_mul] at h; omega
      · exact q
  · intro h
    exact Int.mul_pos h.2 h.1
set_option maxHeartbeats 2000000 in
theorem sndOut_any (v vm : Value) (l : List Int) (w : World) (h : isArg w v l) :
    Calls Try.prog 15 #[.agg #[v, vm]] w fun e w' => e = .returned (.int .i64 (Sn.of l).out) ∧ Below w.heap.size w w' := by
  obtain ⟨k0, bW, sW⟩ := boxes1 w (.cells #[v, vm] 25)
  have k0 : rowB _ _ _ _ := k0
  have h2 := isArg_below h bW (Nat.le_refl _)
  have hload := sndLoad_any v vm l _ h2
  have hfit := Sn.of_fit l
  generalize Sn.of l = s at *
  obtain ⟨⟨pa, va, ra, ca, fa, ga⟩, ⟨pb, vb, rb, cb, fb, gb⟩⟩ := s
  dsimp only [Sn.cs] at *
  have hva : 0 ≤ va ∧ va < 16 := hfit.a.v
  have hfa : 0 ≤ fa ∧ fa < 2 := hfit.a.f
  have hvb : 0 ≤ vb ∧ vb < 16 := hfit.b.v
  have hfb : 0 ≤ fb ∧ fb < 2 := hfit.b.f
  have hA := phase_volume fa va hfa hva
  have hB := phase_volume fb vb hfb hvb
  have e : (⟨⟨pa, va, ra, ca, fa, ga⟩, ⟨pb, vb, rb, cb, fb, gb⟩⟩ : Sn).out = fa * va + fb * vb := rfl
  rw [e]
  clear e
  obtain ⟨A, hAe⟩ : ∃ A, fa * va = A := ⟨_, rfl⟩
  obtain ⟨B, hBe⟩ : ∃ B, fb * vb = B := ⟨_, rfl⟩
  have wA : wrap64 (fa * va) = A := (IntWalk.wrap64_in _ (by omega)).trans hAe
  have wB : wrap64 (fb * vb) = B := (IntWalk.wrap64_in _ (by omega)).trans hBe
  rw [hAe] at hA
  rw [hBe] at hB
  have wA1 : wrap64 A = A := IntWalk.wrap64_in _ (by omega)
  have wA2 : wrap64 (0 + A) = A := by rw [Int.zero_add]; exact wA1
  have wB2 : wrap64 (A + B) = A + B := IntWalk.wrap64_in _ (by omega)
  rw [hAe, hBe]
  go_enter Try.func15, Try.ntmps15
  go_upto_region 3 with (go_at_call 28; refine hload.mono ?_; rintro e w1 ⟨rfl, hb⟩; have bX := bW.trans (hb.mono bW.size); have hs := hb.size; rw [sW] at hs; clear hb hload)
  go_loopw [3, 8] (fun o i wr => ∃ k : Nat, k ≤ 2 ∧ i = .int .i64 k ∧ o = .int .i64 (if k = 0 then 0 else if k = 1 then A else A + B) ∧ Below w.heap.size w wr) (fun _ i _ => 2 - (intOf i).toNat)
  case atStart => exact ⟨0, by decide, rfl, rfl, bX⟩
  case round =>
    obtain ⟨k, hk2, rfl, rfl, hB⟩ := hrel
    rcases (by omega : k = 0 ∨ k = 1 ∨ k = 2) with rfl | rfl | rfl
    · have hO : (if (0 : Nat) = 0 then (0 : Int) else if (0 : Nat) = 1 then A else A + B) = 0 := rfl
      rw [hO]
      have nB := rowB_new wr 50 #[.int .i64 pa, .int .i64 va, .int .i64 ra, .int .i64 ca, .int .i64 fa, .int .i64 ga]
      replace hB := hB.alloc hB.size (.cells #[.int .i64 pa, .int .i64 va, .int .i64 ra, .int .i64 ca, .int .i64 fa, .int .i64 ga] 50)
      go_upto_region 5 with (fail)
      change Code.wp _ _ _ _ (wr.alloc (.cells #[.int .i64 pa, .int .i64 va, .int .i64 ra, .int .i64 ca, .int .i64 fa, .int .i64 ga] 50))
      generalize wr.alloc (.cells #[.int .i64 pa, .int .i64 va, .int .i64 ra, .int .i64 ca, .int .i64 fa, .int .i64 ga] 50) = wA' at *
      obtain ⟨e0, e1, e2, e3, e4, e5, z0, z1, z2, z3, z4, z5⟩ := vcCells nB
      go_wp2_with fail
      go_roundw
      case rel => exact ⟨1, by omega, rfl, rfl, hB⟩
      case measure => simp [intOf]
    · have hO : (if (1 : Nat) = 0 then (0 : Int) else if (1 : Nat) = 1 then A else A + B) = A := rfl
      rw [hO]
      have nB := rowB_new wr 50 #[.int .i64 pb, .int .i64 vb, .int .i64 rb, .int .i64 cb, .int .i64 fb, .int .i64 gb]
      replace hB := hB.alloc hB.size (.cells #[.int .i64 pb, .int .i64 vb, .int .i64 rb, .int .i64 cb, .int .i64 fb, .int .i64 gb] 50)
      go_upto_region 5 with (fail)
      change Code.wp _ _ _ _ (wr.alloc (.cells #[.int .i64 pb, .int .i64 vb, .int .i64 rb, .int .i64 cb, .int .i64 fb, .int .i64 gb] 50))
      generalize wr.alloc (.cells #[.int .i64 pb, .int .i64 vb, .int .i64 rb, .int .i64 cb, .int .i64 fb, .int .i64 gb] 50) = wA' at *
      obtain ⟨e0, e1, e2, e3, e4, e5, z0, z1, z2, z3, z4, z5⟩ := vcCells nB
      go_wp2_with fail
      go_roundw
      case rel => exact ⟨2, by omega, rfl, rfl, hB⟩
      case measure => simp [intOf]
    · have hO : (if (2 : Nat) = 0 then (0 : Int) else if (2 : Nat) = 1 then A else A + B) = A + B := rfl
      rw [hO]
      go_wp2_with fail
      go_ret
      exact ⟨rfl, hB⟩
set_option maxHeartbeats 2000000 in
theorem sndNext_any (v vm : Value) (l : List Int) (w : World) (h : isArg w v l) :
    Calls Try.prog 17 #[.agg #[v, vm]] w fun e w' => e = .returned (.int .i64 (Sn.of l).next) ∧ Below w.heap.size w w' := by
  obtain ⟨k0, bW, sW⟩ := boxes1 w (.cells #[v, vm] 25)
  have k0 : rowB _ _ _ _ := k0
  have h2 := isArg_below h bW (Nat.le_refl _)
  have hload := sndLoad_any v vm l _ h2
  have hfit := Sn.of_fit l
  generalize Sn.of l = s at *
  obtain ⟨⟨pa, va, ra, ca, fa, ga⟩, ⟨pb, vb, rb, cb, fb, gb⟩⟩ := s
  dsimp only [Sn.cs] at *
  have hpa : 0 ≤ pa ∧ pa < 4096 := hfit.a.p
  have hva : 0 ≤ va ∧ va < 16 := hfit.a.v
  have hra : 0 ≤ ra ∧ ra < 256 := hfit.a.r
  have hca : 0 ≤ ca ∧ ca < 4096 := hfit.a.c
  have hga : 0 ≤ ga ∧ ga < 16384 := hfit.a.g
  have hpb : 0 ≤ pb ∧ pb < 4096 := hfit.b.p
  have hvb : 0 ≤ vb ∧ vb < 16 := hfit.b.v
  have hrb : 0 ≤ rb ∧ rb < 256 := hfit.b.r
  have hcb : 0 ≤ cb ∧ cb < 4096 := hfit.b.c
  have hgb : 0 ≤ gb ∧ gb < 16384 := hfit.b.g
  obtain ⟨O1, hO1⟩ : ∃ O1, Vc.rest ⟨pa, va, ra, ca, fa, ga⟩ 100000 = O1 := ⟨_, rfl⟩
  obtain ⟨O2, hO2⟩ : ∃ O2, Vc.rest ⟨pb, vb, rb, cb, fb, gb⟩ O1 = O2 := ⟨_, rfl⟩
  have hT : (⟨⟨pa, va, ra, ca, fa, ga⟩, ⟨pb, vb, rb, cb, fb, gb⟩⟩ : Sn).next = O2 := by unfold Sn.next; dsimp only; rw [hO1, hO2]
  rw [hT]
  clear hT
  have HO1 := Lib.hid hO1
  have HO2 := Lib.hid hO2
  clear hO1 hO2
  go_enter Try.func17, Try.ntmps17
  go_upto_region 3 with (go_at_call 28; refine hload.mono ?_; rintro e w1 ⟨rfl, hb⟩; have bX := bW.trans (hb.mono bW.size); have hs := hb.size; rw [sW] at hs; clear hb hload)
  go_loopw [3, 8] (fun o i wr => ∃ k : Nat, k ≤ 2 ∧ i = .int .i64 k ∧ o = .int .i64 (if k = 0 then 100000 else if k = 1 then O1 else O2) ∧ Below w.heap.size w wr) (fun _ i _ => 2 - (intOf i).toNat)
  case atStart => exact ⟨0, by decide, rfl, rfl, bX⟩
  case round =>
    clear bX hs
    obtain ⟨k, hk2, rfl, rfl, hB⟩ := hrel
    rcases (by omega : k = 0 ∨ k = 1 ∨ k = 2) with rfl | rfl | rfl
    · have hO : (if (0 : Nat) = 0 then (100000 : Int) else if (0 : Nat) = 1 then O1 else O2) = 100000 := rfl
      rw [hO]
      have nB := rowB_new wr 50 #[.int .i64 pa, .int .i64 va, .int .i64 ra, .int .i64 ca, .int .i64 fa, .int .i64 ga]
      replace hB := hB.alloc hB.size (.cells #[.int .i64 pa, .int .i64 va, .int .i64 ra, .int .i64 ca, .int .i64 fa, .int .i64 ga] 50)
      have hy := hB.size
      have hSw := fun w => vcSwings_any ⟨pa, va, ra, ca, fa, ga⟩ w
      have hFa := fun w => vcFades_any ⟨pa, va, ra, ca, fa, ga⟩ w
      have hSp := fun w => vcSpan_any ⟨pa, va, ra, ca, fa, ga⟩ hra w
      have hRV := rate_volume ra va hra.1 hva.1
      dsimp only [Vc.cs] at hSw hFa hSp
      obtain ⟨M, hM⟩ : ∃ M, max 1 (pa - ca) = M := ⟨_, rfl⟩
      obtain ⟨M2, hM2⟩ : ∃ M2, max 1 (64 * ra - ga) = M2 := ⟨_, rfl⟩
      have wM : wrap64 (M - 1) = M - 1 := IntWalk.wrap64_in _ (by omega)
      have wM3 : IntKind.i64.wrap (M2 - 1) = M2 - 1 := IntWalk.i64_in _ (by omega)
      by_cases h1 : 0 < pa
      · by_cases h2 : 0 < ra ∧ 0 < va
        · have hV : min (min 100000 (M - 1)) (M2 - 1) = O1 := by
            rw [← HO1.out]
            unfold Vc.rest
            dsimp only
            rw [if_pos h1, if_pos (hRV.2 h2)]
            omega
          have hd1 : decide (0 < pa) = true := decide_eq_true h1
          have hd2 : decide (0 < ra ∧ 0 < va) = true := decide_eq_true h2
          simp only [hd1] at hSw
          simp only [hd2] at hFa
          have HV := Lib.hid hV
          clear hRV hV
          go_upto_region 5 with (fail)
          change Code.wp _ _ _ _ (wr.alloc (.cells #[.int .i64 pa, .int .i64 va, .int .i64 ra, .int .i64 ca, .int .i64 fa, .int .i64 ga] 50))
          generalize wr.alloc (.cells #[.int .i64 pa, .int .i64 va, .int .i64 ra, .int .i64 ca, .int .i64 fa, .int .i64 ga] 50) = wA at *
          generalize wr.heap.size = y at *
          go_upto_region 6 with (first
              | (refine wpList_loadR rfl 50 _ rfl y rfl 50 #[.int .i64 pa, .int .i64 va, .int .i64 ra, .int .i64 ca, .int .i64 fa, .int .i64 ga] ?_ agVc ?_; with_reducible exact nB)
              | (go_at_call 38; refine (hSw _).mono ?_; rintro e w4 ⟨rfl, hb⟩; replace nB := rowB_below nB hb (rowB_lt nB); replace hB := hB.trans (hb.mono hB.size); clear hb)
        )
          obtain ⟨e0, e1, e2, e3, e4, e5, z0, z1, z2, z3, z4, z5⟩ := vcCells nB
          go_upto_region 7 with (first
              | (go_at_call 39; refine (sndLeft_any _ _ (by omega) (by omega) _).mono ?_; rintro e w' ⟨rfl, rfl⟩; rw [hM])
              | (refine wpList_min2 rfl _ _ _ rfl .i64 (100000) (M - 1) rfl rfl ?_)
        )
          clear e0 z0 e1 z1 e2 z2 e3 z3 e4 z4 e5 z5
          go_upto_region 8 with (first
              | (refine wpList_loadR rfl 50 _ rfl y rfl 50 #[.int .i64 pa, .int .i64 va, .int .i64 ra, .int .i64 ca, .int .i64 fa, .int .i64 ga] ?_ agVc ?_; with_reducible exact nB)
              | (go_at_call 40; refine (hFa _).mono ?_; rintro e w5 ⟨rfl, hb⟩; replace nB := rowB_below nB hb (rowB_lt nB); replace hB := hB.trans (hb.mono hB.size); clear hb)
        )
          have hS : Below w5.heap.size w5 w5.drew := (Below.refl _ _).drew
          refine wp_region_mix (fun w' => Below w5.heap.size w5 w') [(0, 1), (1, 1), (2, 1), (3, 1), (4, 3), (5, 3), (6, 0), (7, 2), (8, 0)] (by kernel_rfl) (by kernel_rfl) (fun _ _ _ _ _ h => h) ?_
          simp only [List.map_cons, List.map_nil, opOf, List.getD_cons_zero, List.getD_cons_succ]
          change wpMix _ _ _ _ _ _ w5.drew
          refine wpMix_held (.int .i64 (min 100000 (M - 1))) rfl hS (fun w' hw' => by go_simp) ?_
          simp only [Act.put, List.setIfInBounds_toArray, List.set_cons_zero, List.set_cons_succ]
          refine wpMix_held (.pointer (some ⟨y, 5, none⟩)) rfl hS (fun w' hw' => by go_simp) ?_
          simp only [Act.put, List.setIfInBounds_toArray, List.set_cons_zero, List.set_cons_succ]
          refine wpMix_held (.int .i64 ga) rfl hS (fun w' hw' => by have c5 := rowB_cell (rowB_below nB hw' (rowB_lt nB)) 5 (v := .int .i64 ga) rfl; go_simp) ?_
          simp only [Act.put, List.setIfInBounds_toArray, List.set_cons_zero, List.set_cons_succ]
          refine wpMix_held ((.agg #[.int .i64 pa, .int .i64 va, .int .i64 ra, .int .i64 ca, .int .i64 fa, .int .i64 ga])) rfl hS (fun w' hw' => exec_rowR 50 _ rfl y rfl 50 #[.int .i64 pa, .int .i64 va, .int .i64 ra, .int .i64 ca, .int .i64 fa, .int .i64 ga] (rowB_below nB hw' (rowB_lt nB)) agVc) ?_
          simp only [Act.put, List.setIfInBounds_toArray, List.set_cons_zero, List.set_cons_succ]
          refine wpMix_call ?_
          go_wp2_with (go_at_call 41; refine (hSp _).mono ?_; rintro e w6 ⟨rfl, hb⟩; replace hS := hS.trans (hb.mono hS.size); clear hb)
          first | refine ⟨fun _ => hS, ?_⟩ | refine ⟨hS, ?_⟩ | refine And.intro (fun _ => hS) ?_
          refine wpMix_call ?_
          go_wp2_with (go_at_call 39; refine (sndLeft_any _ _ (by omega) (by omega) _).mono ?_; rintro e w' ⟨rfl, rfl⟩; rw [hM2])
          first | refine ⟨fun _ => hS, ?_⟩ | refine ⟨hS, ?_⟩ | refine And.intro (fun _ => hS) ?_
          (refine wpMix_still (fun K hK => ?_); go_simp; refine hK _ ?_; clear hK K)
          refine wpMix_call ?_
          go_wp2_with (refine wpList_min2 rfl _ _ _ rfl .i64 (min 100000 (M - 1)) (M2 - 1) rfl rfl ?_)
          try refine ⟨fun h => (by cases h), ?_⟩
          (refine wpMix_still (fun K hK => ?_); go_simp; refine hK _ ?_; clear hK K)
          refine wpMix_nil ?_
          replace hB := hB.trans (hS.mono hB.size)
          go_wp2_with fail
          go_roundw
          case rel => exact ⟨1, by omega, rfl, congrArg (Value.int .i64) (show _ = O1 by have := HV.out; omega), hB⟩
          case measure => simp [intOf]
        · have hV : min 100000 (M - 1) = O1 := by
            rw [← HO1.out]
            unfold Vc.rest
            dsimp only
            rw [if_pos h1, if_neg (fun q => h2 (hRV.1 q))]
            omega
          have hd1 : decide (0 < pa) = true := decide_eq_true h1
          have hd2 : decide (0 < ra ∧ 0 < va) = false := decide_eq_false h2
          simp only [hd1] at hSw
          simp only [hd2] at hFa
          have HV := Lib.hid hV
          clear hRV hV
          go_upto_region 5 with (fail)
          change Code.wp _ _ _ _ (wr.alloc (.cells #[.int .i64 pa, .int .i64 va, .int .i64 ra, .int .i64 ca, .int .i64 fa, .int .i64 ga] 50))
          generalize wr.alloc (.cells #[.int .i64 pa, .int .i64 va, .int .i64 ra, .int .i64 ca, .int .i64 fa, .int .i64 ga] 50) = wA at *
          generalize wr.heap.size = y at *
          go_upto_region 6 with (first
              | (refine wpList_loadR rfl 50 _ rfl y rfl 50 #[.int .i64 pa, .int .i64 va, .int .i64 ra, .int .i64 ca, .int .i64 fa, .int .i64 ga] ?_ agVc ?_; with_reducible exact nB)
              | (go_at_call 38; refine (hSw _).mono ?_; rintro e w4 ⟨rfl, hb⟩; replace nB := rowB_below nB hb (rowB_lt nB); replace hB := hB.trans (hb.mono hB.size); clear hb)
        )
          obtain ⟨e0, e1, e2, e3, e4, e5, z0, z1, z2, z3, z4, z5⟩ := vcCells nB
          go_upto_region 7 with (first
              | (go_at_call 39; refine (sndLeft_any _ _ (by omega) (by omega) _).mono ?_; rintro e w' ⟨rfl, rfl⟩; rw [hM])
              | (refine wpList_min2 rfl _ _ _ rfl .i64 (100000) (M - 1) rfl rfl ?_)
        )
          clear e0 z0 e1 z1 e2 z2 e3 z3 e4 z4 e5 z5
          go_wp2_with (first
              | (refine wpList_loadR rfl 50 _ rfl y rfl 50 #[.int .i64 pa, .int .i64 va, .int .i64 ra, .int .i64 ca, .int .i64 fa, .int .i64 ga] ?_ agVc ?_; with_reducible exact nB)
              | (go_at_call 40; refine (hFa _).mono ?_; rintro e w5 ⟨rfl, hb⟩; replace nB := rowB_below nB hb (rowB_lt nB); replace hB := hB.trans (hb.mono hB.size); clear hb)
        )
          go_roundw
          case rel => exact ⟨1, by omega, rfl, congrArg (Value.int .i64) (show _ = O1 by have := HV.out; omega), hB⟩
          case measure => simp [intOf]
      · by_cases h2 : 0 < ra ∧ 0 < va
        · have hV : min (100000) (M2 - 1) = O1 := by
            rw [← HO1.out]
            unfold Vc.rest
            dsimp only
            rw [if_neg h1, if_pos (hRV.2 h2)]
            omega
          have hd1 : decide (0 < pa) = false := decide_eq_false h1
          have hd2 : decide (0 < ra ∧ 0 < va) = true := decide_eq_true h2
          simp only [hd1] at hSw
          simp only [hd2] at hFa
          have HV := Lib.hid hV
          clear hRV hV
          go_upto_region 5 with (fail)
          change Code.wp _ _ _ _ (wr.alloc (.cells #[.int .i64 pa, .int .i64 va, .int .i64 ra, .int .i64 ca, .int .i64 fa, .int .i64 ga] 50))
          generalize wr.alloc (.cells #[.int .i64 pa, .int .i64 va, .int .i64 ra, .int .i64 ca, .int .i64 fa, .int .i64 ga] 50) = wA at *
          generalize wr.heap.size = y at *
          go_upto_region 7 with (first
              | (refine wpList_loadR rfl 50 _ rfl y rfl 50 #[.int .i64 pa, .int .i64 va, .int .i64 ra, .int .i64 ca, .int .i64 fa, .int .i64 ga] ?_ agVc ?_; with_reducible exact nB)
              | (go_at_call 38; refine (hSw _).mono ?_; rintro e w4 ⟨rfl, hb⟩; replace nB := rowB_below nB hb (rowB_lt nB); replace hB := hB.trans (hb.mono hB.size); clear hb)
        )
          go_upto_region 8 with (first
              | (refine wpList_loadR rfl 50 _ rfl y rfl 50 #[.int .i64 pa, .int .i64 va, .int .i64 ra, .int .i64 ca, .int .i64 fa, .int .i64 ga] ?_ agVc ?_; with_reducible exact nB)
              | (go_at_call 40; refine (hFa _).mono ?_; rintro e w5 ⟨rfl, hb⟩; replace nB := rowB_below nB hb (rowB_lt nB); replace hB := hB.trans (hb.mono hB.size); clear hb)
        )
          have hS : Below w5.heap.size w5 w5.drew := (Below.refl _ _).drew
          refine wp_region_mix (fun w' => Below w5.heap.size w5 w') [(0, 1), (1, 1), (2, 1), (3, 1), (4, 3), (5, 3), (6, 0), (7, 2), (8, 0)] (by kernel_rfl) (by kernel_rfl) (fun _ _ _ _ _ h => h) ?_
          simp only [List.map_cons, List.map_nil, opOf, List.getD_cons_zero, List.getD_cons_succ]
          change wpMix _ _ _ _ _ _ w5.drew
          refine wpMix_held (.int .i64 (100000)) rfl hS (fun w' hw' => by go_simp) ?_
          simp only [Act.put, List.setIfInBounds_toArray, List.set_cons_zero, List.set_cons_succ]
          refine wpMix_held (.pointer (some ⟨y, 5, none⟩)) rfl hS (fun w' hw' => by go_simp) ?_
          simp only [Act.put, List.setIfInBounds_toArray, List.set_cons_zero, List.set_cons_succ]
          refine wpMix_held (.int .i64 ga) rfl hS (fun w' hw' => by have c5 := rowB_cell (rowB_below nB hw' (rowB_lt nB)) 5 (v := .int .i64 ga) rfl; go_simp) ?_
          simp only [Act.put, List.setIfInBounds_toArray, List.set_cons_zero, List.set_cons_succ]
          refine wpMix_held ((.agg #[.int .i64 pa, .int .i64 va, .int .i64 ra, .int .i64 ca, .int .i64 fa, .int .i64 ga])) rfl hS (fun w' hw' => exec_rowR 50 _ rfl y rfl 50 #[.int .i64 pa, .int .i64 va, .int .i64 ra, .int .i64 ca, .int .i64 fa, .int .i64 ga] (rowB_below nB hw' (rowB_lt nB)) agVc) ?_
          simp only [Act.put, List.setIfInBounds_toArray, List.set_cons_zero, List.set_cons_succ]
          refine wpMix_call ?_
          go_wp2_with (go_at_call 41; refine (hSp _).mono ?_; rintro e w6 ⟨rfl, hb⟩; replace hS := hS.trans (hb.mono hS.size); clear hb)
          first | refine ⟨fun _ => hS, ?_⟩ | refine ⟨hS, ?_⟩ | refine And.intro (fun _ => hS) ?_
          refine wpMix_call ?_
          go_wp2_with (go_at_call 39; refine (sndLeft_any _ _ (by omega) (by omega) _).mono ?_; rintro e w' ⟨rfl, rfl⟩; rw [hM2])
          first | refine ⟨fun _ => hS, ?_⟩ | refine ⟨hS, ?_⟩ | refine And.intro (fun _ => hS) ?_
          (refine wpMix_still (fun K hK => ?_); go_simp; refine hK _ ?_; clear hK K)
          refine wpMix_call ?_
          go_wp2_with (refine wpList_min2 rfl _ _ _ rfl .i64 (100000) (M2 - 1) rfl rfl ?_)
          try refine ⟨fun h => (by cases h), ?_⟩
          (refine wpMix_still (fun K hK => ?_); go_simp; refine hK _ ?_; clear hK K)
          refine wpMix_nil ?_
          replace hB := hB.trans (hS.mono hB.size)
          go_wp2_with fail
          go_roundw
          case rel => exact ⟨1, by omega, rfl, congrArg (Value.int .i64) (show _ = O1 by have := HV.out; omega), hB⟩
          case measure => simp [intOf]
        · have hV : 100000 = O1 := by
            rw [← HO1.out]
            unfold Vc.rest
            dsimp only
            rw [if_neg h1, if_neg (fun q => h2 (hRV.1 q))]
          have hd1 : decide (0 < pa) = false := decide_eq_false h1
          have hd2 : decide (0 < ra ∧ 0 < va) = false := decide_eq_false h2
          simp only [hd1] at hSw
          simp only [hd2] at hFa
          have HV := Lib.hid hV
          clear hRV hV
          go_upto_region 5 with (fail)
          change Code.wp _ _ _ _ (wr.alloc (.cells #[.int .i64 pa, .int .i64 va, .int .i64 ra, .int .i64 ca, .int .i64 fa, .int .i64 ga] 50))
          generalize wr.alloc (.cells #[.int .i64 pa, .int .i64 va, .int .i64 ra, .int .i64 ca, .int .i64 fa, .int .i64 ga] 50) = wA at *
          generalize wr.heap.size = y at *
          go_upto_region 7 with (first
              | (refine wpList_loadR rfl 50 _ rfl y rfl 50 #[.int .i64 pa, .int .i64 va, .int .i64 ra, .int .i64 ca, .int .i64 fa, .int .i64 ga] ?_ agVc ?_; with_reducible exact nB)
              | (go_at_call 38; refine (hSw _).mono ?_; rintro e w4 ⟨rfl, hb⟩; replace nB := rowB_below nB hb (rowB_lt nB); replace hB := hB.trans (hb.mono hB.size); clear hb)
        )
          go_wp2_with (first
              | (refine wpList_loadR rfl 50 _ rfl y rfl 50 #[.int .i64 pa, .int .i64 va, .int .i64 ra, .int .i64 ca, .int .i64 fa, .int .i64 ga] ?_ agVc ?_; with_reducible exact nB)
              | (go_at_call 40; refine (hFa _).mono ?_; rintro e w5 ⟨rfl, hb⟩; replace nB := rowB_below nB hb (rowB_lt nB); replace hB := hB.trans (hb.mono hB.size); clear hb)
        )
          go_roundw
          case rel => exact ⟨1, by omega, rfl, congrArg (Value.int .i64) (show _ = O1 by have := HV.out; omega), hB⟩
          case measure => simp [intOf]
    · have hO : (if (1 : Nat) = 0 then (100000 : Int) else if (1 : Nat) = 1 then O1 else O2) = O1 := rfl
      rw [hO]
      have nB := rowB_new wr 50 #[.int .i64 pb, .int .i64 vb, .int .i64 rb, .int .i64 cb, .int .i64 fb, .int .i64 gb]
      replace hB := hB.alloc hB.size (.cells #[.int .i64 pb, .int .i64 vb, .int .i64 rb, .int .i64 cb, .int .i64 fb, .int .i64 gb] 50)
      have hy := hB.size
      have hSw := fun w => vcSwings_any ⟨pb, vb, rb, cb, fb, gb⟩ w
      have hFa := fun w => vcFades_any ⟨pb, vb, rb, cb, fb, gb⟩ w
      have hSp := fun w => vcSpan_any ⟨pb, vb, rb, cb, fb, gb⟩ hrb w
      have hRV := rate_volume rb vb hrb.1 hvb.1
      dsimp only [Vc.cs] at hSw hFa hSp
      obtain ⟨M, hM⟩ : ∃ M, max 1 (pb - cb) = M := ⟨_, rfl⟩
      obtain ⟨M2, hM2⟩ : ∃ M2, max 1 (64 * rb - gb) = M2 := ⟨_, rfl⟩
      have wM : wrap64 (M - 1) = M - 1 := IntWalk.wrap64_in _ (by omega)
      have wM3 : IntKind.i64.wrap (M2 - 1) = M2 - 1 := IntWalk.i64_in _ (by omega)
      by_cases h1 : 0 < pb
      · by_cases h2 : 0 < rb ∧ 0 < vb
        · have hV : min (min O1 (M - 1)) (M2 - 1) = O2 := by
            rw [← HO2.out]
            unfold Vc.rest
            dsimp only
            rw [if_pos h1, if_pos (hRV.2 h2)]
            omega
          have hd1 : decide (0 < pb) = true := decide_eq_true h1
          have hd2 : decide (0 < rb ∧ 0 < vb) = true := decide_eq_true h2
          simp only [hd1] at hSw
          simp only [hd2] at hFa
          have HV := Lib.hid hV
          clear hRV hV
          go_upto_region 5 with (fail)
          change Code.wp _ _ _ _ (wr.alloc (.cells #[.int .i64 pb, .int .i64 vb, .int .i64 rb, .int .i64 cb, .int .i64 fb, .int .i64 gb] 50))
          generalize wr.alloc (.cells #[.int .i64 pb, .int .i64 vb, .int .i64 rb, .int .i64 cb, .int .i64 fb, .int .i64 gb] 50) = wA at *
          generalize wr.heap.size = y at *
          go_upto_region 6 with (first
              | (refine wpList_loadR rfl 50 _ rfl y rfl 50 #[.int .i64 pb, .int .i64 vb, .int .i64 rb, .int .i64 cb, .int .i64 fb, .int .i64 gb] ?_ agVc ?_; with_reducible exact nB)
              | (go_at_call 38; refine (hSw _).mono ?_; rintro e w4 ⟨rfl, hb⟩; replace nB := rowB_below nB hb (rowB_lt nB); replace hB := hB.trans (hb.mono hB.size); clear hb)
        )
          obtain ⟨e0, e1, e2, e3, e4, e5, z0, z1, z2, z3, z4, z5⟩ := vcCells nB
          go_upto_region 7 with (first
              | (go_at_call 39; refine (sndLeft_any _ _ (by omega) (by omega) _).mono ?_; rintro e w' ⟨rfl, rfl⟩; rw [hM])
              | (refine wpList_min2 rfl _ _ _ rfl .i64 (O1) (M - 1) rfl rfl ?_)
        )
          clear e0 z0 e1 z1 e2 z2 e3 z3 e4 z4 e5 z5
          go_upto_region 8 with (first
              | (refine wpList_loadR rfl 50 _ rfl y rfl 50 #[.int .i64 pb, .int .i64 vb, .int .i64 rb, .int .i64 cb, .int .i64 fb, .int .i64 gb] ?_ agVc ?_; with_reducible exact nB)
              | (go_at_call 40; refine (hFa _).mono ?_; rintro e w5 ⟨rfl, hb⟩; replace nB := rowB_below nB hb (rowB_lt nB); replace hB := hB.trans (hb.mono hB.size); clear hb)
        )
          have hS : Below w5.heap.size w5 w5.drew := (Below.refl _ _).drew
          refine wp_region_mix (fun w' => Below w5.heap.size w5 w') [(0, 1), (1, 1), (2, 1), (3, 1), (4, 3), (5, 3), (6, 0), (7, 2), (8, 0)] (by kernel_rfl) (by kernel_rfl) (fun _ _ _ _ _ h => h) ?_
          simp only [List.map_cons, List.map_nil, opOf, List.getD_cons_zero, List.getD_cons_succ]
          change wpMix _ _ _ _ _ _ w5.drew
          refine wpMix_held (.int .i64 (min O1 (M - 1))) rfl hS (fun w' hw' => by go_simp) ?_
          simp only [Act.put, List.setIfInBounds_toArray, List.set_cons_zero, List.set_cons_succ]
          refine wpMix_held (.pointer (some ⟨y, 5, none⟩)) rfl hS (fun w' hw' => by go_simp) ?_
          simp only [Act.put, List.setIfInBounds_toArray, List.set_cons_zero, List.set_cons_succ]
          refine wpMix_held (.int .i64 gb) rfl hS (fun w' hw' => by have c5 := rowB_cell (rowB_below nB hw' (rowB_lt nB)) 5 (v := .int .i64 gb) rfl; go_simp) ?_
          simp only [Act.put, List.setIfInBounds_toArray, List.set_cons_zero, List.set_cons_succ]
          refine wpMix_held ((.agg #[.int .i64 pb, .int .i64 vb, .int .i64 rb, .int .i64 cb, .int .i64 fb, .int .i64 gb])) rfl hS (fun w' hw' => exec_rowR 50 _ rfl y rfl 50 #[.int .i64 pb, .int .i64 vb, .int .i64 rb, .int .i64 cb, .int .i64 fb, .int .i64 gb] (rowB_below nB hw' (rowB_lt nB)) agVc) ?_
          simp only [Act.put, List.setIfInBounds_toArray, List.set_cons_zero, List.set_cons_succ]
          refine wpMix_call ?_
          go_wp2_with (go_at_call 41; refine (hSp _).mono ?_; rintro e w6 ⟨rfl, hb⟩; replace hS := hS.trans (hb.mono hS.size); clear hb)
          first | refine ⟨fun _ => hS, ?_⟩ | refine ⟨hS, ?_⟩ | refine And.intro (fun _ => hS) ?_
          refine wpMix_call ?_
          go_wp2_with (go_at_call 39; refine (sndLeft_any _ _ (by omega) (by omega) _).mono ?_; rintro e w' ⟨rfl, rfl⟩; rw [hM2])
          first | refine ⟨fun _ => hS, ?_⟩ | refine ⟨hS, ?_⟩ | refine And.intro (fun _ => hS) ?_
          (refine wpMix_still (fun K hK => ?_); go_simp; refine hK _ ?_; clear hK K)
          refine wpMix_call ?_
          go_wp2_with (refine wpList_min2 rfl _ _ _ rfl .i64 (min O1 (M - 1)) (M2 - 1) rfl rfl ?_)
          try refine ⟨fun h => (by cases h), ?_⟩
          (refine wpMix_still (fun K hK => ?_); go_simp; refine hK _ ?_; clear hK K)
          refine wpMix_nil ?_
          replace hB := hB.trans (hS.mono hB.size)
          go_wp2_with fail
          go_roundw
          case rel => exact ⟨2, by omega, rfl, congrArg (Value.int .i64) (show _ = O2 by have := HV.out; omega), hB⟩
          case measure => simp [intOf]
        · have hV : min O1 (M - 1) = O2 := by
            rw [← HO2.out]
            unfold Vc.rest
            dsimp only
            rw [if_pos h1, if_neg (fun q => h2 (hRV.1 q))]
            omega
          have hd1 : decide (0 < pb) = true := decide_eq_true h1
          have hd2 : decide (0 < rb ∧ 0 < vb) = false := decide_eq_false h2
          simp only [hd1] at hSw
          simp only [hd2] at hFa
          have HV := Lib.hid hV
          clear hRV hV
          go_upto_region 5 with (fail)
          change Code.wp _ _ _ _ (wr.alloc (.cells #[.int .i64 pb, .int .i64 vb, .int .i64 rb, .int .i64 cb, .int .i64 fb, .int .i64 gb] 50))
          generalize wr.alloc (.cells #[.int .i64 pb, .int .i64 vb, .int .i64 rb, .int .i64 cb, .int .i64 fb, .int .i64 gb] 50) = wA at *
          generalize wr.heap.size = y at *
          go_upto_region 6 with (first
              | (refine wpList_loadR rfl 50 _ rfl y rfl 50 #[.int .i64 pb, .int .i64 vb, .int .i64 rb, .int .i64 cb, .int .i64 fb, .int .i64 gb] ?_ agVc ?_; with_reducible exact nB)
              | (go_at_call 38; refine (hSw _).mono ?_; rintro e w4 ⟨rfl, hb⟩; replace nB := rowB_below nB hb (rowB_lt nB); replace hB := hB.trans (hb.mono hB.size); clear hb)
        )
          obtain ⟨e0, e1, e2, e3, e4, e5, z0, z1, z2, z3, z4, z5⟩ := vcCells nB
          go_upto_region 7 with (first
              | (go_at_call 39; refine (sndLeft_any _ _ (by omega) (by omega) _).mono ?_; rintro e w' ⟨rfl, rfl⟩; rw [hM])
              | (refine wpList_min2 rfl _ _ _ rfl .i64 (O1) (M - 1) rfl rfl ?_)
        )
          clear e0 z0 e1 z1 e2 z2 e3 z3 e4 z4 e5 z5
          go_wp2_with (first
              | (refine wpList_loadR rfl 50 _ rfl y rfl 50 #[.int .i64 pb, .int .i64 vb, .int .i64 rb, .int .i64 cb, .int .i64 fb, .int .i64 gb] ?_ agVc ?_; with_reducible exact nB)
              | (go_at_call 40; refine (hFa _).mono ?_; rintro e w5 ⟨rfl, hb⟩; replace nB := rowB_below nB hb (rowB_lt nB); replace hB := hB.trans (hb.mono hB.size); clear hb)
        )
          go_roundw
          case rel => exact ⟨2, by omega, rfl, congrArg (Value.int .i64) (show _ = O2 by have := HV.out; omega), hB⟩
          case measure => simp [intOf]
      · by_cases h2 : 0 < rb ∧ 0 < vb
        · have hV : min (O1) (M2 - 1) = O2 := by
            rw [← HO2.out]
            unfold Vc.rest
            dsimp only
            rw [if_neg h1, if_pos (hRV.2 h2)]
            omega
          have hd1 : decide (0 < pb) = false := decide_eq_false h1
          have hd2 : decide (0 < rb ∧ 0 < vb) = true := decide_eq_true h2
          simp only [hd1] at hSw
          simp only [hd2] at hFa
          have HV := Lib.hid hV
          clear hRV hV
          go_upto_region 5 with (fail)
          change Code.wp _ _ _ _ (wr.alloc (.cells #[.int .i64 pb, .int .i64 vb, .int .i64 rb, .int .i64 cb, .int .i64 fb, .int .i64 gb] 50))
          generalize wr.alloc (.cells #[.int .i64 pb, .int .i64 vb, .int .i64 rb, .int .i64 cb, .int .i64 fb, .int .i64 gb] 50) = wA at *
          generalize wr.heap.size = y at *
          go_upto_region 7 with (first
              | (refine wpList_loadR rfl 50 _ rfl y rfl 50 #[.int .i64 pb, .int .i64 vb, .int .i64 rb, .int .i64 cb, .int .i64 fb, .int .i64 gb] ?_ agVc ?_; with_reducible exact nB)
              | (go_at_call 38; refine (hSw _).mono ?_; rintro e w4 ⟨rfl, hb⟩; replace nB := rowB_below nB hb (rowB_lt nB); replace hB := hB.trans (hb.mono hB.size); clear hb)
        )
          go_upto_region 8 with (first
              | (refine wpList_loadR rfl 50 _ rfl y rfl 50 #[.int .i64 pb, .int .i64 vb, .int .i64 rb, .int .i64 cb, .int .i64 fb, .int .i64 gb] ?_ agVc ?_; with_reducible exact nB)
              | (go_at_call 40; refine (hFa _).mono ?_; rintro e w5 ⟨rfl, hb⟩; replace nB := rowB_below nB hb (rowB_lt nB); replace hB := hB.trans (hb.mono hB.size); clear hb)
        )
          have hS : Below w5.heap.size w5 w5.drew := (Below.refl _ _).drew
          refine wp_region_mix (fun w' => Below w5.heap.size w5 w') [(0, 1), (1, 1), (2, 1), (3, 1), (4, 3), (5, 3), (6, 0), (7, 2), (8, 0)] (by kernel_rfl) (by kernel_rfl) (fun _ _ _ _ _ h => h) ?_
          simp only [List.map_cons, List.map_nil, opOf, List.getD_cons_zero, List.getD_cons_succ]
          change wpMix _ _ _ _ _ _ w5.drew
          refine wpMix_held (.int .i64 (O1)) rfl hS (fun w' hw' => by go_simp) ?_
          simp only [Act.put, List.setIfInBounds_toArray, List.set_cons_zero, List.set_cons_succ]
          refine wpMix_held (.pointer (some ⟨y, 5, none⟩)) rfl hS (fun w' hw' => by go_simp) ?_
          simp only [Act.put, List.setIfInBounds_toArray, List.set_cons_zero, List.set_cons_succ]
          refine wpMix_held (.int .i64 gb) rfl hS (fun w' hw' => by have c5 := rowB_cell (rowB_below nB hw' (rowB_lt nB)) 5 (v := .int .i64 gb) rfl; go_simp) ?_
          simp only [Act.put, List.setIfInBounds_toArray, List.set_cons_zero, List.set_cons_succ]
          refine wpMix_held ((.agg #[.int .i64 pb, .int .i64 vb, .int .i64 rb, .int .i64 cb, .int .i64 fb, .int .i64 gb])) rfl hS (fun w' hw' => exec_rowR 50 _ rfl y rfl 50 #[.int .i64 pb, .int .i64 vb, .int .i64 rb, .int .i64 cb, .int .i64 fb, .int .i64 gb] (rowB_below nB hw' (rowB_lt nB)) agVc) ?_
          simp only [Act.put, List.setIfInBounds_toArray, List.set_cons_zero, List.set_cons_succ]
          refine wpMix_call ?_
          go_wp2_with (go_at_call 41; refine (hSp _).mono ?_; rintro e w6 ⟨rfl, hb⟩; replace hS := hS.trans (hb.mono hS.size); clear hb)
          first | refine ⟨fun _ => hS, ?_⟩ | refine ⟨hS, ?_⟩ | refine And.intro (fun _ => hS) ?_
          refine wpMix_call ?_
          go_wp2_with (go_at_call 39; refine (sndLeft_any _ _ (by omega) (by omega) _).mono ?_; rintro e w' ⟨rfl, rfl⟩; rw [hM2])
          first | refine ⟨fun _ => hS, ?_⟩ | refine ⟨hS, ?_⟩ | refine And.intro (fun _ => hS) ?_
          (refine wpMix_still (fun K hK => ?_); go_simp; refine hK _ ?_; clear hK K)
          refine wpMix_call ?_
          go_wp2_with (refine wpList_min2 rfl _ _ _ rfl .i64 (O1) (M2 - 1) rfl rfl ?_)
          try refine ⟨fun h => (by cases h), ?_⟩
          (refine wpMix_still (fun K hK => ?_); go_simp; refine hK _ ?_; clear hK K)
          refine wpMix_nil ?_
          replace hB := hB.trans (hS.mono hB.size)
          go_wp2_with fail
          go_roundw
          case rel => exact ⟨2, by omega, rfl, congrArg (Value.int .i64) (show _ = O2 by have := HV.out; omega), hB⟩
          case measure => simp [intOf]
        · have hV : O1 = O2 := by
            rw [← HO2.out]
            unfold Vc.rest
            dsimp only
            rw [if_neg h1, if_neg (fun q => h2 (hRV.1 q))]
          have hd1 : decide (0 < pb) = false := decide_eq_false h1
          have hd2 : decide (0 < rb ∧ 0 < vb) = false := decide_eq_false h2
          simp only [hd1] at hSw
          simp only [hd2] at hFa
          have HV := Lib.hid hV
          clear hRV hV
          go_upto_region 5 with (fail)
          change Code.wp _ _ _ _ (wr.alloc (.cells #[.int .i64 pb, .int .i64 vb, .int .i64 rb, .int .i64 cb, .int .i64 fb, .int .i64 gb] 50))
          generalize wr.alloc (.cells #[.int .i64 pb, .int .i64 vb, .int .i64 rb, .int .i64 cb, .int .i64 fb, .int .i64 gb] 50) = wA at *
          generalize wr.heap.size = y at *
          go_upto_region 7 with (first
              | (refine wpList_loadR rfl 50 _ rfl y rfl 50 #[.int .i64 pb, .int .i64 vb, .int .i64 rb, .int .i64 cb, .int .i64 fb, .int .i64 gb] ?_ agVc ?_; with_reducible exact nB)
              | (go_at_call 38; refine (hSw _).mono ?_; rintro e w4 ⟨rfl, hb⟩; replace nB := rowB_below nB hb (rowB_lt nB); replace hB := hB.trans (hb.mono hB.size); clear hb)
        )
          go_wp2_with (first
              | (refine wpList_loadR rfl 50 _ rfl y rfl 50 #[.int .i64 pb, .int .i64 vb, .int .i64 rb, .int .i64 cb, .int .i64 fb, .int .i64 gb] ?_ agVc ?_; with_reducible exact nB)
              | (go_at_call 40; refine (hFa _).mono ?_; rintro e w5 ⟨rfl, hb⟩; replace nB := rowB_below nB hb (rowB_lt nB); replace hB := hB.trans (hb.mono hB.size); clear hb)
        )
          go_roundw
          case rel => exact ⟨2, by omega, rfl, congrArg (Value.int .i64) (show _ = O2 by have := HV.out; omega), hB⟩
          case measure => simp [intOf]
    · have hO : (if (2 : Nat) = 0 then (100000 : Int) else if (2 : Nat) = 1 then O1 else O2) = O2 := rfl
      rw [hO]
      go_wp2_with fail
      go_ret
      exact ⟨rfl, hB⟩
end Go.Proofs.Ytbpjkdigihpohaa
