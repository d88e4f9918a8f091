/- The walk of the law VideoKeeps. -/
import Derived.Test.YtambggbmkeemnaaChecked
import Derived.Test.YtambggbmkeemnaaVidScr
import Derived.Below
import Derived.BigQuiet
import Derived.ChangeMaps5
import Derived.Deep.CutBlock
import Derived.Deep.DeepAppendWide
import Derived.Deep.DeepCutAuto
import Derived.Deep.Draws
import Derived.Deep.MidRow
import Derived.Deep.OwnRows
import Derived.Deep.QuietTactic
import Derived.Deep.RegionHeld3
import Derived.Deep.RegionLaw
import Derived.Deep.RegionWith
import Derived.Deep.Slices
import Derived.Deep.WholeRow
import Derived.Great.BuildSlice
import Derived.Laws.CopyOwn
import Derived.Laws.OwnMore
import Derived.Lib.Hide
import Derived.Lib.SmallJoins
import Derived.OpenShut
import Derived.OrdersHeld
import Derived.OwnWalk
import Derived.RangeFuncBox
import Derived.RowKit3
import Derived.Shelf.Abstract
import Derived.SizedLaws
import Derived.StillTactics
import Derived.StillTail
import Derived.StillTailTactics
import Derived.WalkKit
namespace Go.Proofs.Ytambggbmkeemnaa
open Go.RowKit
set_option maxRecDepth 100000

theorem Vd.kept {s : Vd} (hs : s.fit) (a d : Int) (ha : 0 ≤ a ∧ a < 32) : (s.write a d).p = s.p ∧ (((a = 5 ∨ a = 6 ∨ a = 7) ∧ (s.write a d).reg a = s.reg a) ∨ ((a ≠ 5 ∧ a ≠ 6 ∧ a ≠ 7) ∧ (s.write a d).reg a = lo d 8)) := by
  by_cases h : a = 5 ∨ a = 6 ∨ a = 7
  · have e : s.write a d = s := by unfold Vd.write; rw [if_neg (by omega)]
    rw [e]
    exact ⟨rfl, .inl ⟨h, rfl⟩⟩
  · have e : s.write a d = ⟨s.p, s.h, s.m.set a.toNat (d % 256)⟩ := by unfold Vd.write; rw [if_pos (by omega)]
    rw [e]
    refine ⟨rfl, .inr ⟨by omega, ?_⟩⟩
    unfold Vd.reg
    rw [if_neg (by omega), if_neg (by omega), if_neg (by omega), if_pos ha]
    show vreg (s.m.set a.toNat (d % 256)) a.toNat = d % 256
    unfold vreg
    have := hs.m
    rw [List.getD_eq_getElem?_getD, List.getElem?_set_self (by omega)]
    rfl
set_option maxHeartbeats 8000000 in
theorem videoKeeps_walk (v : Value) (l : List Int) (a d k : Int) (w : World) (h : isArg w v l) (hwf : ∀ x ∈ l, (Lit.int .i64 x).wf = true) (ha : -9223372036854775808 ≤ a ∧ a ≤ 9223372036854775807) (hk : -9223372036854775808 ≤ k ∧ k ≤ 9223372036854775807) :
    Calls Try.prog 7 #[v, .int .i64 a, .int .i64 d, .int .i64 k] w fun e w' => e = .returned (.bool true) ∧ Below w.heap.size w w' := by
  have hba := fun w => below_any a 32 ha (by decide) w
  have hbk := fun w => below_any k 6000 hk (by decide) w
  obtain ⟨A, hA⟩ : ∃ A, a % 32 = A := ⟨_, rfl⟩
  obtain ⟨K, hK⟩ : ∃ K, k % 6000 = K := ⟨_, rfl⟩
  rw [hA] at hba
  rw [hK] at hbk
  have hA0 : 0 ≤ A ∧ A < 32 := by omega
  have hK0 : 0 ≤ K ∧ K < 6000 := by omega
  have hKb : -9223372036854775808 ≤ K ∧ K ≤ 9223372036854775807 := by omega
  clear hA hK ha hk
  have hSc := screen_any v l w h hwf
  have hLo := low_any d 8
  rw [show wd 8 = 8 from rfl] at hLo
  clear h hwf
  go_enter Try.func7, Try.ntmps7
  go_upto_region 3 with (first
    | (go_at_call_of 25 (Value.int .i64 a); refine (hba _).mono ?_; rintro e wx ⟨rfl, rfl⟩)
    | (go_at_call_of 25 (Value.int .i64 k); refine (hbk _).mono ?_; rintro e wx ⟨rfl, rfl⟩)
    | (go_at_call 24; refine hSc.mono ?_; rintro e w1 ⟨u1, m, rfl, hd1, hf1, hb1⟩)
    | (go_at_call 23; refine (vidSkip_at hf1 K hKb rfl hd1).mono ?_; rintro e w2 ⟨u2, rfl, ⟨g, q, rfl, hg, hq, hgq, hr, hrq⟩, hb2⟩))
  change Code.wp _ _ _ _ (w2.alloc (.cells #[.slice (some ⟨g, 0, none⟩) 2 2, .slice (some ⟨q, 0, none⟩) 32 32] 25))
  have bX := hb1.trans (hb2.mono hb1.size)
  replace bX := bX.alloc bX.size (.cells #[.slice (some ⟨g, 0, none⟩) 2 2, .slice (some ⟨q, 0, none⟩) 32 32] 25)
  have rB := rowB_new w2 25 #[.slice (some ⟨g, 0, none⟩) 2 2, .slice (some ⟨q, 0, none⟩) 32 32]
  have xD : devV 0 (w2.alloc (.cells #[.slice (some ⟨g, 0, none⟩) 2 2, .slice (some ⟨q, 0, none⟩) 32 32] 25)) (.agg #[.slice (some ⟨g, 0, none⟩) 2 2, .slice (some ⟨q, 0, none⟩) 32 32]) ((⟨2559, 0, m⟩ : Vd).ticks K.toNat) := ⟨g, q, rfl, Nat.zero_le _, Nat.zero_le _, hgq, rowB_alloc hr _, rowB_alloc hrq _⟩
  have hfD := Vd.ticks_fit hf1 K.toNat
  have hpD := Vd.ticks_p hf1 K.toNat
  rw [Int.toNat_of_nonneg hK0.1] at hpD
  generalize (⟨2559, 0, m⟩ : Vd).ticks K.toNat = D at *
  generalize w2.alloc (.cells #[.slice (some ⟨g, 0, none⟩) 2 2, .slice (some ⟨q, 0, none⟩) 32 32] 25) = w3 at *
  generalize w2.heap.size = B at *
  clear hSc hba hbk hd1 hf1 hb1 hb2 hr hrq hg hq
  have hkp := Vd.kept hfD A d hA0
  have hfE := Vd.write_fit hfD A d
  obtain ⟨E, hE⟩ : ∃ E, D.write A d = E := ⟨_, rfl⟩
  rw [hE] at hkp hfE
  obtain ⟨n, hn⟩ : ∃ n, E.reg A = n := ⟨_, rfl⟩
  obtain ⟨o, ho⟩ : ∃ o, D.reg A = o := ⟨_, rfl⟩
  obtain ⟨L, hL⟩ : ∃ L, lo d 8 = L := ⟨_, rfl⟩
  rw [hn, ho, hL] at hkp
  simp only [hL] at hLo
  obtain ⟨T, hT⟩ : ∃ T, E.reg 5 = T := ⟨_, rfl⟩
  obtain ⟨U, hU⟩ : ∃ U, E.reg 6 = U := ⟨_, rfl⟩
  have hpE := hfE.p
  have hTU : 0 ≤ T ∧ T < 40 ∧ 0 ≤ U ∧ U < 64 ∧ T * 64 + U = (K + 2560 - 1) % 2560 := by
    have e1 : T = E.p / 64 := hT.symm
    have e2 : U = E.p % 64 := hU.symm
    have e3 := hkp.1
    rw [hpD] at e3
    dsimp only at e3
    omega
  obtain ⟨_, hkp⟩ := hkp
  clear hpE hpD hL
  obtain ⟨d0, d1, _, _⟩ := dcells2 rB
  go_upto_region 4 with (go_at_call 14; refine (vidWrite_at hfD A d hE xD).mono ?_; rintro e w4 ⟨u, rfl, ⟨ge, qe, rfl, hg, hq, hgq, hr, hrq⟩, hb⟩)
  change Code.wp _ _ _ _ (w4.alloc (.cells #[.slice (some ⟨ge, 0, none⟩) 2 2, .slice (some ⟨qe, 0, none⟩) 32 32] 25))
  replace rB := rowB_alloc (rowB_below rB hb (rowB_lt rB)) (.cells #[.slice (some ⟨ge, 0, none⟩) 2 2, .slice (some ⟨qe, 0, none⟩) 32 32] 25)
  replace xD := (xD.below hb).below ((Below.refl _ _).alloc (Nat.le_refl _) (.cells #[.slice (some ⟨ge, 0, none⟩) 2 2, .slice (some ⟨qe, 0, none⟩) 32 32] 25))
  replace bX := (bX.trans (hb.mono bX.size)).alloc (Nat.le_trans bX.size hb.size) (.cells #[.slice (some ⟨ge, 0, none⟩) 2 2, .slice (some ⟨qe, 0, none⟩) 32 32] 25)
  have rE := rowB_new w4 25 #[.slice (some ⟨ge, 0, none⟩) 2 2, .slice (some ⟨qe, 0, none⟩) 32 32]
  have xE : devV 0 (w4.alloc (.cells #[.slice (some ⟨ge, 0, none⟩) 2 2, .slice (some ⟨qe, 0, none⟩) 32 32] 25)) (.agg #[.slice (some ⟨ge, 0, none⟩) 2 2, .slice (some ⟨qe, 0, none⟩) 32 32]) E := ⟨ge, qe, rfl, Nat.zero_le _, Nat.zero_le _, hgq, rowB_alloc hr _, rowB_alloc hrq _⟩
  generalize w4.alloc (.cells #[.slice (some ⟨ge, 0, none⟩) 2 2, .slice (some ⟨qe, 0, none⟩) 32 32] 25) = w4a at *
  generalize w4.heap.size = Y at *
  clear hb hr hrq hg hq d0 d1
  obtain ⟨hgqe, hgq⟩ : ge ≠ qe ∧ True := ⟨hgq, trivial⟩
  obtain ⟨d0, d1, _, _⟩ := dcells2 rE
  go_upto_region 5 with (go_at_call 12; refine (vidRead_at hfE A n rfl hn xE).mono ?_; rintro e w5 ⟨u, rfl, ⟨g5, q5, rfl, hg, hq, hgq, hr, hrq⟩, hb⟩)
  change Code.wp _ _ _ _ (w5.alloc (.cells #[.slice (some ⟨g5, 0, none⟩) 2 2, .slice (some ⟨q5, 0, none⟩) 32 32] 25))
  replace rB := rowB_alloc (rowB_below rB hb (rowB_lt rB)) (.cells #[.slice (some ⟨g5, 0, none⟩) 2 2, .slice (some ⟨q5, 0, none⟩) 32 32] 25)
  replace rE := rowB_alloc (rowB_below rE hb (rowB_lt rE)) (.cells #[.slice (some ⟨g5, 0, none⟩) 2 2, .slice (some ⟨q5, 0, none⟩) 32 32] 25)
  replace xD := (xD.below hb).below ((Below.refl _ _).alloc (Nat.le_refl _) (.cells #[.slice (some ⟨g5, 0, none⟩) 2 2, .slice (some ⟨q5, 0, none⟩) 32 32] 25))
  replace xE := (xE.below hb).below ((Below.refl _ _).alloc (Nat.le_refl _) (.cells #[.slice (some ⟨g5, 0, none⟩) 2 2, .slice (some ⟨q5, 0, none⟩) 32 32] 25))
  replace bX := (bX.trans (hb.mono bX.size)).alloc (Nat.le_trans bX.size hb.size) (.cells #[.slice (some ⟨g5, 0, none⟩) 2 2, .slice (some ⟨q5, 0, none⟩) 32 32] 25)
  generalize w5.alloc (.cells #[.slice (some ⟨g5, 0, none⟩) 2 2, .slice (some ⟨q5, 0, none⟩) 32 32] 25) = w5a at *
  clear hb hr hrq hg hq d0 d1
  obtain ⟨d0, d1, _, _⟩ := dcells2 rB
  go_upto_region 6 with (go_at_call 12; refine (vidRead_at hfD A o rfl ho xD).mono ?_; rintro e w6 ⟨u, rfl, ⟨g6, q6, rfl, hg, hq, hgq, hr, hrq⟩, hb⟩)
  change Code.wp _ _ _ _ (w6.alloc (.cells #[.slice (some ⟨g6, 0, none⟩) 2 2, .slice (some ⟨q6, 0, none⟩) 32 32] 25))
  replace rE := rowB_alloc (rowB_below rE hb (rowB_lt rE)) (.cells #[.slice (some ⟨g6, 0, none⟩) 2 2, .slice (some ⟨q6, 0, none⟩) 32 32] 25)
  replace xE := (xE.below hb).below ((Below.refl _ _).alloc (Nat.le_refl _) (.cells #[.slice (some ⟨g6, 0, none⟩) 2 2, .slice (some ⟨q6, 0, none⟩) 32 32] 25))
  replace bX := (bX.trans (hb.mono bX.size)).alloc (Nat.le_trans bX.size hb.size) (.cells #[.slice (some ⟨g6, 0, none⟩) 2 2, .slice (some ⟨q6, 0, none⟩) 32 32] 25)
  generalize w6.alloc (.cells #[.slice (some ⟨g6, 0, none⟩) 2 2, .slice (some ⟨q6, 0, none⟩) 32 32] 25) = w6a at *
  clear hb hr hrq hg hq d0 d1
  obtain ⟨d0, d1, _, _⟩ := dcells2 rE
  go_upto_region 7 with (go_at_call 12; refine (vidRead_at hfE 5 T rfl hT xE).mono ?_; rintro e w7 ⟨u, rfl, ⟨g7, q7, rfl, hg, hq, hgq, hr, hrq⟩, hb⟩)
  change Code.wp _ _ _ _ (w7.alloc (.cells #[.slice (some ⟨g7, 0, none⟩) 2 2, .slice (some ⟨q7, 0, none⟩) 32 32] 25))
  replace rE := rowB_alloc (rowB_below rE hb (rowB_lt rE)) (.cells #[.slice (some ⟨g7, 0, none⟩) 2 2, .slice (some ⟨q7, 0, none⟩) 32 32] 25)
  replace xE := (xE.below hb).below ((Below.refl _ _).alloc (Nat.le_refl _) (.cells #[.slice (some ⟨g7, 0, none⟩) 2 2, .slice (some ⟨q7, 0, none⟩) 32 32] 25))
  replace bX := (bX.trans (hb.mono bX.size)).alloc (Nat.le_trans bX.size hb.size) (.cells #[.slice (some ⟨g7, 0, none⟩) 2 2, .slice (some ⟨q7, 0, none⟩) 32 32] 25)
  generalize w7.alloc (.cells #[.slice (some ⟨g7, 0, none⟩) 2 2, .slice (some ⟨q7, 0, none⟩) 32 32] 25) = w7a at *
  clear hb hr hrq hg hq d0 d1
  obtain ⟨d0, d1, _, _⟩ := dcells2 rE
  go_upto_region 8 with (go_at_call 12; refine (vidRead_at hfE 6 U rfl hU xE).mono ?_; rintro e w8 ⟨u, rfl, ⟨g8, q8, rfl, hg, hq, hgq, hr, hrq⟩, hb⟩)
  change Code.wp _ _ _ _ (w8.alloc (.cells #[.slice (some ⟨g8, 0, none⟩) 2 2, .slice (some ⟨q8, 0, none⟩) 32 32] 25))
  replace bX := (bX.trans (hb.mono bX.size)).alloc (Nat.le_trans bX.size hb.size) (.cells #[.slice (some ⟨g8, 0, none⟩) 2 2, .slice (some ⟨q8, 0, none⟩) 32 32] 25)
  generalize w8.alloc (.cells #[.slice (some ⟨g8, 0, none⟩) 2 2, .slice (some ⟨q8, 0, none⟩) 32 32] 25) = w8a at *
  clear hb hr hrq hg hq d0 d1
  have k1 : wrap64 (K + 2560) = K + 2560 := IntWalk.wrap64_in _ (by omega)
  have k2 : wrap64 (K + 2560 - 1) = K + 2560 - 1 := IntWalk.wrap64_in _ (by omega)
  obtain ⟨Z, hZ⟩ : ∃ Z, (K + 2560 - 1) % 2560 = Z := ⟨_, rfl⟩
  have k3 : (K + 2560 - 1).tmod 2560 = Z := (Int.tmod_eq_emod_of_nonneg (by omega)).trans hZ
  have k4 : wrap64 (T * 64) = T * 64 := IntWalk.wrap64_in _ (by omega)
  have k5 : wrap64 Z = Z := IntWalk.wrap64_in _ (by omega)
  have k6 : T * 64 + U = Z := hTU.2.2.2.2.trans hZ
  clear hZ hTU
  rcases hkp with ⟨h567, rfl⟩ | ⟨⟨n5, n6, n7⟩, rfl⟩
  · rcases h567 with rfl | rfl | rfl
    all_goals
      go_wp2_with (first
        | (go_at_call 27; refine (hLo _).mono ?_; rintro e wx ⟨rfl, rfl⟩)
        | (go_at_call 26; refine (videosK_any _).mono ?_; rintro e wz ⟨rfl, hbz⟩))
      go_ret
      exact ⟨rfl, bX.trans (hbz.mono bX.size)⟩
  · have d5 : (A == 5) = false := by simpa using n5
    have d6 : (A == 6) = false := by simpa using n6
    have d7 : (A == 7) = false := by simpa using n7
    go_wp2_with (first
      | (go_at_call 27; refine (hLo _).mono ?_; rintro e wx ⟨rfl, rfl⟩)
      | (go_at_call 26; refine (videosK_any _).mono ?_; rintro e wz ⟨rfl, hbz⟩))
    go_ret
    exact ⟨rfl, bX.trans (hbz.mono bX.size)⟩
end Go.Proofs.Ytambggbmkeemnaa
