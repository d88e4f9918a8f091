/- The walk of the law SerialSends. -/
import Derived.Test.YtofodkilbigbdaaBitWalksB
import Derived.Test.YtofodkilbigbdaaChecked
import Derived.Test.YtofodkilbigbdaaSerKeep
import Derived.Below
import Derived.BigQuiet
import Derived.ChangeMaps5
import Derived.Deep.DeepCutAuto
import Derived.Deep.Draws
import Derived.Deep.MidRow
import Derived.Deep.OwnRows
import Derived.Deep.QuietTactic
import Derived.Deep.RegionHeld3
import Derived.Deep.RegionWith
import Derived.Deep.Slices
import Derived.Deep.WholeRow
import Derived.Lib.Hide
import Derived.Lib.SmallJoins
import Derived.OpenShut
import Derived.OrdersHeld
import Derived.OwnWalk
import Derived.RowKit3
import Derived.StillTactics
import Derived.StillTail
import Derived.StillTailTactics
import Derived.WalkKit
namespace Go.Proofs.Ytofodkilbigbdaa
open Go.RowKit
set_option maxRecDepth 100000

set_option maxHeartbeats 1000000 in
theorem serialSends_walk (a b k0 : Int) (w : World) (hn : -9223372036854775808 ≤ k0 ∧ k0 ≤ 9223372036854775807) :
    Calls Try.prog 5 #[.int .i64 a, .int .i64 b, .int .i64 k0] w fun e w' => e = .returned (.bool true) ∧ Below w.heap.size w w' := by
  have hbl := fun w => below_any k0 40 hn (by decide) w
  obtain ⟨j, hJ⟩ : ∃ j, k0 % 40 = j := ⟨_, rfl⟩
  rw [hJ] at hbl
  have j0 : 0 ≤ j := by omega
  have j1 : j < 40 := by omega
  clear hJ hn
  have hA0 : lo a (wd 8) = lo a 8 := rfl
  have hB0 : lo b (wd 8) = lo b 8 := rfl
  have fA : 0 ≤ lo a 8 ∧ lo a 8 < 256 := ⟨lo_nonneg _ _, lo_lt _ _⟩
  have fB : 0 ≤ lo b 8 ∧ lo b 8 < 256 := ⟨lo_nonneg _ _, lo_lt _ _⟩
  have q1 : (Sr.mk 0 0 0 0 0 0 0 0).write 0 a = ⟨lo a 8, 40, 0, 0, 0, 0, 0, 0⟩ := rfl
  have q5 : (Sr.mk (lo a 8) 0 0 0 0 0 1 (lo a 8)).write 0 b = ⟨lo b 8, 40, 0, 0, 0, 0, 1, lo a 8⟩ := rfl
  generalize lo a 8 = A at *
  generalize lo b 8 = D at *
  have f1 : (Sr.mk A 40 0 0 0 0 0 0).fit := ⟨fA, srForty, sr_zero.r, srZero, srZero, sr_zero.k, sr_zero.n, sr_zero.z⟩
  have q2 : (Sr.mk A 40 0 0 0 0 0 0).skip j = ⟨A, 40 - j, 0, 0, 0, 0, 0, 0⟩ := Sr.skip_down j0 j1
  have f2 : (Sr.mk A (40 - j) 0 0 0 0 0 0).fit := by rw [← q2]; exact Sr.skip_fit f1 j
  have q3 : (Sr.mk A (40 - j) 0 0 0 0 0 0).write 0 b = ⟨A, 40 - j, 0, 0, 0, 0, 0, 0⟩ := (if_pos rfl).trans (if_pos (by show 0 < 40 - j; omega))
  have q4 : (Sr.mk A (40 - j) 0 0 0 0 0 0).skip (39 - j) = ⟨A, 1, 0, 0, 0, 0, 0, 0⟩ := (Sr.skip_down (by omega) (by show 39 - j < 40 - j; omega)).trans (congrArg (fun x => Sr.mk A x 0 0 0 0 0 0) (by show 40 - j - (39 - j) = 1; omega))
  have q6 : (Sr.mk A (40 - j) 0 0 0 0 0 0).skip (40 - j) = ⟨A, 0, 0, 0, 0, 0, 1, A⟩ := Sr.skip_sent (by show 0 < 40 - j; omega) (by show 40 - j ≤ 40 - j; omega)
  have q7 : (Sr.mk D 40 0 0 0 0 1 A).skip 40 = ⟨D, 0, 0, 0, 0, 0, 2, D⟩ := Sr.skip_sent (by show (0 : Int) < 40; decide) (by show (40 : Int) ≤ 40; decide)
  have f4 : (Sr.mk A 1 0 0 0 0 0 0).fit := by rw [← q4]; exact Sr.skip_fit f2 _
  have f6 : (Sr.mk A 0 0 0 0 0 1 A).fit := by rw [← q6]; exact Sr.skip_fit f2 _
  have f5 : (Sr.mk D 40 0 0 0 0 1 A).fit := ⟨fB, srForty, sr_zero.r, srZero, srZero, sr_zero.k, ⟨show (0 : Int) ≤ 1 by decide, show (1 : Int) < 1048576 by decide⟩, fA⟩
  have f7 : (Sr.mk D 0 0 0 0 0 2 D).fit := by rw [← q7]; exact Sr.skip_fit f5 _
  have o6 : (Sr.mk A 0 0 0 0 0 1 A).out = 256 + A := rfl
  have o7 : (Sr.mk D 0 0 0 0 0 2 D).out = 512 + D := rfl
  have u1 : wrap64 (39 - j) = 39 - j := IntWalk.wrap64_in _ (by omega)
  have u2 : wrap64 (40 - j) = 40 - j := IntWalk.wrap64_in _ (by omega)
  have u3 : wrap64 (256 + A) = 256 + A := IntWalk.wrap64_in _ (by omega)
  have u4 : wrap64 (512 + D) = 512 + D := IntWalk.wrap64_in _ (by omega)
  have b1 : -9223372036854775808 ≤ j ∧ j ≤ 9223372036854775807 := by omega
  have b2 : -9223372036854775808 ≤ 39 - j ∧ 39 - j ≤ 9223372036854775807 := by omega
  have b3 : -9223372036854775808 ≤ 40 - j ∧ 40 - j ≤ 9223372036854775807 := by omega
  clear fA fB
  go_enter Try.func5, Try.ntmps5
  go_upto_region 3 with (first
    | (go_at_call 27; refine (srSkip_at f1 j b1 q2 hr2).mono ?_; rintro e w3 ⟨g3, rfl, hkg3, hr, hb3⟩)
    | (go_at_call 14; refine (srWrite_at sr_zero 0 a q1 hr1).mono ?_; rintro e w2 ⟨g2, rfl, hkg2, hr2, hb2⟩)
    | (go_at_call 10; refine (srNew_at _).mono ?_; rintro e w1 ⟨g1, rfl, hkg1, hr1, hb1⟩)
    | (go_at_call 28; refine (hbl _).mono ?_; rintro e wx ⟨rfl, rfl⟩)
  )
  have bX := ((hb1.trans (hb2.mono hb1.size)).trans (hb3.mono (by have := hb1.size; have := hb2.size; omega)))
  clear hb1 hb2 hb3 hr1 hr2 hkg1 hkg2 hkg3
  change Code.wp _ _ _ _ (w3.alloc (.cells #[.slice (some ⟨g3, 0, none⟩) 8 8, .slice none 0 0] 25))
  have hle := bX.size
  replace bX := bX.alloc hle (.cells #[.slice (some ⟨g3, 0, none⟩) 8 8, .slice none 0 0] 25)
  have rB := rowB_new w3 25 #[.slice (some ⟨g3, 0, none⟩) 8 8, .slice none 0 0]
  replace hr := rowB_alloc hr (.cells #[.slice (some ⟨g3, 0, none⟩) 8 8, .slice none 0 0] 25)
  generalize w3.alloc (.cells #[.slice (some ⟨g3, 0, none⟩) 8 8, .slice none 0 0] 25) = wA at *
  generalize w3.heap.size = B at *
  have lB := rowB_lt rB
  obtain ⟨c0, c1, _, _⟩ := dcells2 rB
  go_upto_region 4 with (first
    | (go_at_call 14; refine (srWrite_at f2 0 b q3 hr).mono ?_; rintro e wN ⟨k, rfl, hkk, hrN, hb⟩; replace rB := rowB_below rB hb (rowB_lt rB))
    | (refine wpList_storeR rfl 25 _ _ rfl B rfl #[.slice (some ⟨k, 0, none⟩) 8 8, .slice none 0 0] rfl (dev2_one _ _ _ _ _ _) 25 #[.slice (some ⟨g3, 0, none⟩) 8 8, .slice none 0 0] rfl ?_ agDv ?_; with_reducible exact rB)
  )
  replace hr := rowB_row_other hrN #[.slice (some ⟨k, 0, none⟩) 8 8, .slice none 0 0] (show B ≠ k by omega)
  replace rB := rowB_row rB #[.slice (some ⟨k, 0, none⟩) 8 8, .slice none 0 0]
  replace bX := below_rowR (bX.trans (hb.mono bX.size)) #[.slice (some ⟨k, 0, none⟩) 8 8, .slice none 0 0] hle
  change Code.wp _ _ _ _ (wN.setRow B #[.slice (some ⟨k, 0, none⟩) 8 8, .slice none 0 0])
  replace lB : B < (wN.setRow B #[.slice (some ⟨k, 0, none⟩) 8 8, .slice none 0 0]).heap.size := rowB_lt rB
  generalize wN.setRow B #[.slice (some ⟨k, 0, none⟩) 8 8, .slice none 0 0] = wA4 at *
  obtain ⟨g4, rfl⟩ : ∃ x, x = k := ⟨_, rfl⟩
  clear hb hrN hkk c0 c1
  obtain ⟨c0, c1, _, _⟩ := dcells2 rB
  go_upto_region 6 with (first
    | (go_at_call 20; refine (srOut_at f4 (n := 0) rfl hr5).mono ?_; rintro e wO2 ⟨rfl, hbO2⟩)
    | (go_at_call 27; refine (srSkip_at f2 (39 - j) b2 q4 hr).mono ?_; rintro e wO1 ⟨g5, rfl, hkg5, hr5, hbO1⟩)
    | (go_at_call 20; refine (srOut_at f2 (n := 0) rfl hr).mono ?_; rintro e wO ⟨rfl, hbO⟩; replace hr := rowB_below hr hbO (rowB_lt hr); replace rB := rowB_below rB hbO (rowB_lt rB); obtain ⟨c0, c1, _, _⟩ := dcells2 rB)
  )
  have hq := hbO1.trans (hbO2.mono hbO1.size)
  replace hr := rowB_below hr hq (rowB_lt hr)
  replace rB := rowB_below rB hq (rowB_lt rB)
  replace bX := (bX.trans (hbO.mono bX.size)).trans (hq.mono (Nat.le_trans bX.size hbO.size))
  replace lB := rowB_lt rB
  clear hbO hbO1 hbO2 hq c0 c1 hr5 hkg5
  obtain ⟨c0, c1, _, _⟩ := dcells2 rB
  go_upto_region 7 with (first
    | (go_at_call 27; refine (srSkip_at f2 (40 - j) b3 q6 hr).mono ?_; rintro e wN ⟨k, rfl, hkk, hrN, hb⟩; replace rB := rowB_below rB hb (rowB_lt rB))
    | (refine wpList_storeR rfl 25 _ _ rfl B rfl #[.slice (some ⟨k, 0, none⟩) 8 8, .slice none 0 0] rfl (dev2_one _ _ _ _ _ _) 25 #[.slice (some ⟨g4, 0, none⟩) 8 8, .slice none 0 0] rfl ?_ agDv ?_; with_reducible exact rB)
  )
  replace hr := rowB_row_other hrN #[.slice (some ⟨k, 0, none⟩) 8 8, .slice none 0 0] (show B ≠ k by omega)
  replace rB := rowB_row rB #[.slice (some ⟨k, 0, none⟩) 8 8, .slice none 0 0]
  replace bX := below_rowR (bX.trans (hb.mono bX.size)) #[.slice (some ⟨k, 0, none⟩) 8 8, .slice none 0 0] hle
  change Code.wp _ _ _ _ (wN.setRow B #[.slice (some ⟨k, 0, none⟩) 8 8, .slice none 0 0])
  replace lB : B < (wN.setRow B #[.slice (some ⟨k, 0, none⟩) 8 8, .slice none 0 0]).heap.size := rowB_lt rB
  generalize wN.setRow B #[.slice (some ⟨k, 0, none⟩) 8 8, .slice none 0 0] = wA7 at *
  obtain ⟨g7, rfl⟩ : ∃ x, x = k := ⟨_, rfl⟩
  clear hb hrN hkk c0 c1
  obtain ⟨c0, c1, _, _⟩ := dcells2 rB
  go_wp2_with (first
    | (go_at_call_of 30 (Value.int .i64 a); refine (low_any _ _ _).mono ?_; rintro e w' ⟨rfl, rfl⟩; rw [hA0])
    | (go_at_call_of 30 (Value.int .i64 b); refine (low_any _ _ _).mono ?_; rintro e w' ⟨rfl, rfl⟩; rw [hB0])
    | (go_at_call 20; refine (srOut_at f7 o7 hr9).mono ?_; rintro e wV ⟨rfl, hbV⟩; replace bX := bX.trans (hbV.mono bX.size))
    | (go_at_call 27; refine (srSkip_at f5 40 (by decide) q7 hr8).mono ?_; rintro e wU ⟨g9, rfl, hkg9, hr9, hbU⟩; replace bX := bX.trans (hbU.mono bX.size))
    | (go_at_call 14; refine (srWrite_at f6 0 b q5 hr).mono ?_; rintro e wT ⟨g8, rfl, hkg8, hr8, hbT⟩; replace bX := bX.trans (hbT.mono bX.size))
    | (go_at_call 20; refine (srOut_at f6 o6 hr).mono ?_; rintro e wS ⟨rfl, hb⟩; replace hr := rowB_below hr hb (rowB_lt hr); replace rB := rowB_below rB hb (rowB_lt rB); replace bX := bX.trans (hb.mono bX.size); clear hb c0 c1; obtain ⟨c0, c1, _, _⟩ := dcells2 rB)
    | (go_at_call 29; refine (serialsK_any _).mono ?_; rintro e wR ⟨rfl, hb⟩; replace hr := rowB_below hr hb (rowB_lt hr); replace rB := rowB_below rB hb (rowB_lt rB); replace bX := bX.trans (hb.mono bX.size); clear hb c0 c1; obtain ⟨c0, c1, _, _⟩ := dcells2 rB)
  )
  go_ret
  exact ⟨rfl, bX⟩
end Go.Proofs.Ytofodkilbigbdaa
