/- The walk of the law SerialAsks. -/
import Derived.Test.YtofodkilbigbdaaBitWalksB
import Derived.Test.YtofodkilbigbdaaChecked
import Derived.Test.YtofodkilbigbdaaSerKeep
import Derived.Below
import Derived.BigQuiet
import Derived.ChangeMaps5
import Derived.Deep.DeepCutAuto
import Derived.Deep.Draws
import Derived.Deep.MidRow
import Derived.Deep.OwnRows
import Derived.Deep.QuietTactic
import Derived.Deep.RegionHeld3
import Derived.Deep.RegionWith
import Derived.Deep.Slices
import Derived.Deep.WholeRow
import Derived.Lib.Hide
import Derived.Lib.SmallJoins
import Derived.OpenShut
import Derived.OrdersHeld
import Derived.OwnWalk
import Derived.RowKit3
import Derived.StillTactics
import Derived.StillTail
import Derived.StillTailTactics
import Derived.WalkKit
namespace Go.Proofs.Ytofodkilbigbdaa
open Go.RowKit
set_option maxRecDepth 100000

set_option maxHeartbeats 1000000 in
theorem serialAsks_walk (a k0 : Int) (w : World) (hn : -9223372036854775808 ≤ k0 ∧ k0 ≤ 9223372036854775807) :
    Calls Try.prog 7 #[.int .i64 a, .int .i64 k0] w fun e w' => e = .returned (.bool true) ∧ Below w.heap.size w w' := by
  have hbl := fun w => below_any k0 80 hn (by decide) w
  obtain ⟨j, hJ⟩ : ∃ j, k0 % 80 = j := ⟨_, rfl⟩
  rw [hJ] at hbl
  have j0 : 0 ≤ j := by omega
  have j1 : j < 80 := by omega
  clear hJ hn
  have q1 : (Sr.mk 0 0 0 0 0 0 0 0).write 2 1 = ⟨0, 0, 0, 0, 0, 1, 0, 0⟩ := by decide
  have q2 : (Sr.mk 0 0 0 0 0 1 0 0).inp a = ⟨0, 0, lo a 8, 1, 0, 1, 0, 0⟩ := rfl
  have f1 : (Sr.mk 0 0 0 0 0 1 0 0).fit := by rw [← q1]; exact Sr.write_fit sr_zero _ _
  have f2 : (Sr.mk 0 0 (lo a 8) 1 0 1 0 0).fit := by rw [← q2]; exact Sr.inp_fit f1 a
  have q3 : (Sr.mk 0 0 (lo a 8) 1 0 1 0 0).read 0 = ⟨0, 0, lo a 8, 0, 0, 1, 0, 0⟩ := rfl
  have f3 : (Sr.mk 0 0 (lo a 8) 0 0 1 0 0).fit := by rw [← q3]; exact Sr.read_fit f2 0
  have q4 : (Sr.mk 0 0 0 0 0 0 0 0).write 2 2 = ⟨0, 0, 0, 0, 0, 2, 0, 0⟩ := by decide
  have f4 : (Sr.mk 0 0 0 0 0 2 0 0).fit := by rw [← q4]; exact Sr.write_fit sr_zero _ _
  have q5 : (Sr.mk 0 0 0 0 0 2 0 0).write 0 a = ⟨lo a 8, 40, 0, 0, 0, 2, 0, 0⟩ := rfl
  have f5 : (Sr.mk (lo a 8) 40 0 0 0 2 0 0).fit := by rw [← q5]; exact Sr.write_fit f4 _ _
  generalize lo a 8 = A at *
  obtain ⟨E, hE⟩ : ∃ E, (Sr.mk A 40 0 0 0 2 0 0).skip j = E := ⟨_, rfl⟩
  have fE : E.fit := by rw [← hE]; exact Sr.skip_fit f5 j
  have oE : E.irq = decide (40 ≤ j) := by
    rw [← hE]
    by_cases h : 40 ≤ j
    · rw [Sr.skip_sent (s := ⟨A, 40, 0, 0, 0, 2, 0, 0⟩) (by show (0 : Int) < 40; decide) h, decide_eq_true h]
      rfl
    · rw [Sr.skip_down (s := ⟨A, 40, 0, 0, 0, 2, 0, 0⟩) j0 (by show j < 40; omega), decide_eq_false h]
      show (false && false || true && decide (40 - j = 0)) = false
      rw [decide_eq_false (by omega)]
      rfl
  have i1 : (Sr.mk 0 0 0 0 0 1 0 0).irq = false := by decide
  have i2 : (Sr.mk 0 0 A 1 0 1 0 0).irq = true := rfl
  have i3 : (Sr.mk 0 0 A 0 0 1 0 0).irq = false := rfl
  have b1 : -9223372036854775808 ≤ j ∧ j ≤ 9223372036854775807 := by omega
  obtain ⟨Q, hQ⟩ : ∃ Q, decide (40 ≤ j) = Q := ⟨_, rfl⟩
  rw [hQ] at oE
  clear q3
  obtain ⟨E0, E1, E2, E3, E4, E5, E6, E7⟩ := E
  have hr := True.intro
  go_enter Try.func7, Try.ntmps7
  go_upto_region 2 with (first
    | (go_at_call 14; refine (srWrite_at sr_zero 2 1 q1 hr1).mono ?_; rintro e w2 ⟨g2, rfl, hkg2, hr2, hb2⟩)
    | (go_at_call 10; refine (srNew_at _).mono ?_; rintro e w1 ⟨g1, rfl, hkg1, hr1, hb1⟩)
  )
  have bX := hb1.trans (hb2.mono hb1.size)
  clear hb1 hb2 hr1 hkg1 hkg2 hr
  change Code.wp _ _ _ _ (w2.alloc (.cells #[.slice (some ⟨g2, 0, none⟩) 8 8, .slice none 0 0] 25))
  replace bX := bX.alloc bX.size (.cells #[.slice (some ⟨g2, 0, none⟩) 8 8, .slice none 0 0] 25)
  have n1 := rowB_new w2 25 #[.slice (some ⟨g2, 0, none⟩) 8 8, .slice none 0 0]
  replace hr2 := rowB_alloc hr2 (.cells #[.slice (some ⟨g2, 0, none⟩) 8 8, .slice none 0 0] 25)
  generalize w2.alloc (.cells #[.slice (some ⟨g2, 0, none⟩) 8 8, .slice none 0 0] 25) = wA1 at *
  generalize w2.heap.size = B1 at *
  obtain ⟨c0, c1, _, _⟩ := dcells2 n1
  go_upto_region 3 with (first
    | (go_at_call 16; refine (srIn_at f1 a q2 hr2).mono ?_; rintro e w3 ⟨g3, rfl, hkg3, hr3, hb3⟩)
  )
  replace bX := bX.trans (hb3.mono bX.size)
  replace n1 := rowB_below n1 hb3 (rowB_lt n1)
  replace hr2 := rowB_below hr2 hb3 (rowB_lt hr2)
  clear hb3 hkg3 c0 c1
  change Code.wp _ _ _ _ (w3.alloc (.cells #[.slice (some ⟨g3, 0, none⟩) 8 8, .slice none 0 0] 25))
  replace bX := bX.alloc bX.size (.cells #[.slice (some ⟨g3, 0, none⟩) 8 8, .slice none 0 0] 25)
  have n2 := rowB_new w3 25 #[.slice (some ⟨g3, 0, none⟩) 8 8, .slice none 0 0]
  replace hr3 := rowB_alloc hr3 (.cells #[.slice (some ⟨g3, 0, none⟩) 8 8, .slice none 0 0] 25)
  replace n1 := rowB_alloc n1 (.cells #[.slice (some ⟨g3, 0, none⟩) 8 8, .slice none 0 0] 25)
  replace hr2 := rowB_alloc hr2 (.cells #[.slice (some ⟨g3, 0, none⟩) 8 8, .slice none 0 0] 25)
  generalize w3.alloc (.cells #[.slice (some ⟨g3, 0, none⟩) 8 8, .slice none 0 0] 25) = wA2 at *
  generalize w3.heap.size = B2 at *
  obtain ⟨c0, c1, _, _⟩ := dcells2 n2
  go_upto_region 4 with (first
    | (go_at_call 12; refine (srRead_at f2 0 (t := ⟨0, 0, A, 0, 0, 1, 0, 0⟩) rfl (n := A) rfl hr3).mono ?_; rintro e w4 ⟨g4, rfl, hkg4, hr4, hb4⟩)
  )
  replace bX := bX.trans (hb4.mono bX.size)
  replace n1 := rowB_below n1 hb4 (rowB_lt n1)
  replace n2 := rowB_below n2 hb4 (rowB_lt n2)
  replace hr2 := rowB_below hr2 hb4 (rowB_lt hr2)
  replace hr3 := rowB_below hr3 hb4 (rowB_lt hr3)
  clear hb4 hkg4 c0 c1
  change Code.wp _ _ _ _ (w4.alloc (.cells #[.slice (some ⟨g4, 0, none⟩) 8 8, .slice none 0 0] 25))
  replace bX := bX.alloc bX.size (.cells #[.slice (some ⟨g4, 0, none⟩) 8 8, .slice none 0 0] 25)
  have n3 := rowB_new w4 25 #[.slice (some ⟨g4, 0, none⟩) 8 8, .slice none 0 0]
  replace hr4 := rowB_alloc hr4 (.cells #[.slice (some ⟨g4, 0, none⟩) 8 8, .slice none 0 0] 25)
  replace n1 := rowB_alloc n1 (.cells #[.slice (some ⟨g4, 0, none⟩) 8 8, .slice none 0 0] 25)
  replace n2 := rowB_alloc n2 (.cells #[.slice (some ⟨g4, 0, none⟩) 8 8, .slice none 0 0] 25)
  replace hr2 := rowB_alloc hr2 (.cells #[.slice (some ⟨g4, 0, none⟩) 8 8, .slice none 0 0] 25)
  replace hr3 := rowB_alloc hr3 (.cells #[.slice (some ⟨g4, 0, none⟩) 8 8, .slice none 0 0] 25)
  generalize w4.alloc (.cells #[.slice (some ⟨g4, 0, none⟩) 8 8, .slice none 0 0] 25) = wA3 at *
  generalize w4.heap.size = B3 at *
  obtain ⟨c0, c1, _, _⟩ := dcells2 n1
  obtain ⟨d0, d1, _, _⟩ := dcells2 n2
  obtain ⟨e0, e1, _, _⟩ := dcells2 n3
  go_upto_region 6 with (first
    | (go_at_call_of 18 (Value.agg #[.slice (some ⟨g2, 0, none⟩) 8 8, .slice none 0 0]); refine (srIrq_at f1 i1 hr2).mono ?_; rintro e wI0 ⟨rfl, hb⟩; replace n1 := rowB_below n1 hb (rowB_lt n1); replace n2 := rowB_below n2 hb (rowB_lt n2); replace n3 := rowB_below n3 hb (rowB_lt n3); replace hr2 := rowB_below hr2 hb (rowB_lt hr2); replace hr3 := rowB_below hr3 hb (rowB_lt hr3); replace hr4 := rowB_below hr4 hb (rowB_lt hr4); replace bX := bX.trans (hb.mono bX.size); clear hb c0 c1 d0 d1 e0 e1; obtain ⟨c0, c1, _, _⟩ := dcells2 n1; obtain ⟨d0, d1, _, _⟩ := dcells2 n2; obtain ⟨e0, e1, _, _⟩ := dcells2 n3)
    | (go_at_call_of 18 (Value.agg #[.slice (some ⟨g3, 0, none⟩) 8 8, .slice none 0 0]); refine (srIrq_at f2 i2 hr3).mono ?_; rintro e wI1 ⟨rfl, hb⟩; replace n1 := rowB_below n1 hb (rowB_lt n1); replace n2 := rowB_below n2 hb (rowB_lt n2); replace n3 := rowB_below n3 hb (rowB_lt n3); replace hr2 := rowB_below hr2 hb (rowB_lt hr2); replace hr3 := rowB_below hr3 hb (rowB_lt hr3); replace hr4 := rowB_below hr4 hb (rowB_lt hr4); replace bX := bX.trans (hb.mono bX.size); clear hb c0 c1 d0 d1 e0 e1; obtain ⟨c0, c1, _, _⟩ := dcells2 n1; obtain ⟨d0, d1, _, _⟩ := dcells2 n2; obtain ⟨e0, e1, _, _⟩ := dcells2 n3)
    | (go_at_call_of 18 (Value.agg #[.slice (some ⟨g4, 0, none⟩) 8 8, .slice none 0 0]); refine (srIrq_at f3 i3 hr4).mono ?_; rintro e wI2 ⟨rfl, hb⟩; replace n1 := rowB_below n1 hb (rowB_lt n1); replace n2 := rowB_below n2 hb (rowB_lt n2); replace n3 := rowB_below n3 hb (rowB_lt n3); replace hr2 := rowB_below hr2 hb (rowB_lt hr2); replace hr3 := rowB_below hr3 hb (rowB_lt hr3); replace hr4 := rowB_below hr4 hb (rowB_lt hr4); replace bX := bX.trans (hb.mono bX.size); clear hb c0 c1 d0 d1 e0 e1; obtain ⟨c0, c1, _, _⟩ := dcells2 n1; obtain ⟨d0, d1, _, _⟩ := dcells2 n2; obtain ⟨e0, e1, _, _⟩ := dcells2 n3)
  )
  clear c0 c1 d0 d1 e0 e1 n1 n2 n3 hr2 hr3 hr4 i1 i2 i3
  go_upto_region 8 with (first
    | (go_at_call 27; refine (srSkip_at f5 j b1 hE hr7).mono ?_; rintro e w8 ⟨g8, rfl, hkg8, hr8, hb8⟩)
    | (go_at_call 14; refine (srWrite_at f4 0 a q5 hr6).mono ?_; rintro e w7 ⟨g7, rfl, hkg7, hr7, hb7⟩)
    | (go_at_call 14; refine (srWrite_at sr_zero 2 2 q4 hr1).mono ?_; rintro e w6 ⟨g6, rfl, hkg6, hr6, hb6⟩)
    | (go_at_call 10; refine (srNew_at _).mono ?_; rintro e w5 ⟨g1, rfl, hkg1, hr1, hb1⟩)
    | (go_at_call 28; refine (hbl _).mono ?_; rintro e wx ⟨rfl, rfl⟩)
  )
  replace bX := (((bX.trans (hb1.mono bX.size)).trans (hb6.mono (Nat.le_trans bX.size hb1.size))).trans (hb7.mono (Nat.le_trans bX.size (Nat.le_trans hb1.size hb6.size)))).trans (hb8.mono (Nat.le_trans bX.size (Nat.le_trans hb1.size (Nat.le_trans hb6.size hb7.size))))
  clear hb1 hb6 hb7 hb8 hr1 hr6 hr7 hkg1 hkg6 hkg7 hkg8 hE
  change Code.wp _ _ _ _ (w8.alloc (.cells #[.slice (some ⟨g8, 0, none⟩) 8 8, .slice none 0 0] 25))
  replace bX := bX.alloc bX.size (.cells #[.slice (some ⟨g8, 0, none⟩) 8 8, .slice none 0 0] 25)
  have n4 := rowB_new w8 25 #[.slice (some ⟨g8, 0, none⟩) 8 8, .slice none 0 0]
  replace hr8 := rowB_alloc hr8 (.cells #[.slice (some ⟨g8, 0, none⟩) 8 8, .slice none 0 0] 25)
  generalize w8.alloc (.cells #[.slice (some ⟨g8, 0, none⟩) 8 8, .slice none 0 0] 25) = wA4 at *
  generalize w8.heap.size = B4 at *
  obtain ⟨c0, c1, _, _⟩ := dcells2 n4
  go_wp2_with (first
    | (go_at_call 18; refine (srIrq_at fE oE hr8).mono ?_; rintro e wS ⟨rfl, hb⟩; replace n4 := rowB_below n4 hb (rowB_lt n4); replace hr8 := rowB_below hr8 hb (rowB_lt hr8); replace bX := bX.trans (hb.mono bX.size); clear hb c0 c1; obtain ⟨c0, c1, _, _⟩ := dcells2 n4)
    | (go_at_call 29; refine (serialsK_any _).mono ?_; rintro e wR ⟨rfl, hb⟩; replace n4 := rowB_below n4 hb (rowB_lt n4); replace hr8 := rowB_below hr8 hb (rowB_lt hr8); replace bX := bX.trans (hb.mono bX.size); clear hb c0 c1; obtain ⟨c0, c1, _, _⟩ := dcells2 n4)
  )
  go_ret
  exact ⟨rfl, bX⟩
end Go.Proofs.Ytofodkilbigbdaa
