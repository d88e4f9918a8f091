/- The walk of the law SerialHears. -/
import Derived.Test.YtofodkilbigbdaaChecked
import Derived.Test.YtofodkilbigbdaaSerKeep
import Derived.Below
import Derived.BigQuiet
import Derived.ChangeMaps5
import Derived.Deep.DeepCutAuto
import Derived.Deep.Draws
import Derived.Deep.MidRow
import Derived.Deep.OwnRows
import Derived.Deep.QuietTactic
import Derived.Deep.RegionHeld3
import Derived.Deep.RegionWith
import Derived.Deep.Slices
import Derived.Deep.WholeRow
import Derived.Lib.Hide
import Derived.Lib.SmallJoins
import Derived.OpenShut
import Derived.OrdersHeld
import Derived.OwnWalk
import Derived.RowKit3
import Derived.StillTactics
import Derived.StillTail
import Derived.StillTailTactics
import Derived.WalkKit
namespace Go.Proofs.Ytofodkilbigbdaa
open Go.RowKit
set_option maxRecDepth 100000

theorem serialHears_walk (a b : Int) (w : World) :
    Calls Try.prog 6 #[.int .i64 a, .int .i64 b] w fun e w' => e = .returned (.bool true) ∧ Below w.heap.size w w' := by
  have hA0 : lo a (wd 8) = lo a 8 := rfl
  obtain ⟨A, hA⟩ : ∃ A, lo a 8 = A := ⟨_, rfl⟩
  have f1 : (Sr.mk 0 0 A 1 0 0 0 0).fit := by rw [← hA]; exact Sr.inp_fit sr_zero a
  have f2 : (Sr.mk 0 0 A 1 1 0 0 0).fit := Sr.inp_fit f1 b
  have f3 : (Sr.mk 0 0 A 0 0 0 0 0).fit := Sr.read_fit f1 0
  have i1 : (Sr.mk 0 0 0 0 0 0 0 0).inp a = ⟨0, 0, A, 1, 0, 0, 0, 0⟩ := by rw [← hA]; rfl
  rw [hA] at hA0
  clear hA
  go_enter Try.func6, Try.ntmps6
  go_upto_region 2 with (first
    | (go_at_call 16; refine (srIn_at f1 b (t := ⟨0, 0, A, 1, 1, 0, 0, 0⟩) rfl hr2).mono ?_; rintro e w3 ⟨g3, rfl, hkg3, hr3, hb3⟩)
    | (go_at_call 16; refine (srIn_at sr_zero a i1 hr1).mono ?_; rintro e w2 ⟨g2, rfl, hkg2, hr2, hb2⟩)
    | (go_at_call 10; refine (srNew_at _).mono ?_; rintro e w1 ⟨g1, rfl, hkg1, hr1, hb1⟩)
  )
  change Code.wp _ _ _ _ (w3.alloc (.cells #[.slice (some ⟨g3, 0, none⟩) 8 8, .slice none 0 0] 25))
  have bX := ((hb1.trans (hb2.mono hb1.size)).trans (hb3.mono (by have := hb1.size; have := hb2.size; omega)))
  have hle := bX.size
  replace bX := bX.alloc hle (.cells #[.slice (some ⟨g3, 0, none⟩) 8 8, .slice none 0 0] 25)
  have rB := rowB_new w3 25 #[.slice (some ⟨g3, 0, none⟩) 8 8, .slice none 0 0]
  have hr := rowB_alloc hr3 (.cells #[.slice (some ⟨g3, 0, none⟩) 8 8, .slice none 0 0] 25)
  generalize w3.alloc (.cells #[.slice (some ⟨g3, 0, none⟩) 8 8, .slice none 0 0] 25) = wA at *
  generalize w3.heap.size = B at *
  clear hb1 hb2 hb3 hr1 hr2 hr3 hkg1 hkg2 hkg3
  have lB := rowB_lt rB
  obtain ⟨c0, c1, _, _⟩ := dcells2 rB
  go_upto_region 3 with (first
    | (go_at_call 12; refine (srRead_at f2 1 (t := ⟨0, 0, A, 1, 0, 0, 0, 0⟩) rfl (n := 5) rfl hr).mono ?_; rintro e wN ⟨k, rfl, hkk, hrN, hb⟩; replace rB := rowB_below rB hb (rowB_lt rB))
    | (refine wpList_storeR rfl 25 _ _ rfl B rfl #[.slice (some ⟨k, 0, none⟩) 8 8, .slice none 0 0] rfl (dev2_one _ _ _ _ _ _) 25 #[.slice (some ⟨g3, 0, none⟩) 8 8, .slice none 0 0] rfl ?_ agDv ?_; with_reducible exact rB)
  )
  replace hr := rowB_row_other hrN #[.slice (some ⟨k, 0, none⟩) 8 8, .slice none 0 0] (show B ≠ k by omega)
  replace rB := rowB_row rB #[.slice (some ⟨k, 0, none⟩) 8 8, .slice none 0 0]
  replace bX := below_rowR (bX.trans (hb.mono bX.size)) #[.slice (some ⟨k, 0, none⟩) 8 8, .slice none 0 0] hle
  replace lB := Nat.lt_of_lt_of_le lB hb.size
  change Code.wp _ _ _ _ (wN.setRow B #[.slice (some ⟨k, 0, none⟩) 8 8, .slice none 0 0])
  replace lB : B < (wN.setRow B #[.slice (some ⟨k, 0, none⟩) 8 8, .slice none 0 0]).heap.size := rowB_lt rB
  generalize wN.setRow B #[.slice (some ⟨k, 0, none⟩) 8 8, .slice none 0 0] = wA3 at *
  clear hb hrN hkk c0 c1
  obtain ⟨x3, rfl⟩ : ∃ x, x = k := ⟨_, rfl⟩
  obtain ⟨c0, c1, _, _⟩ := dcells2 rB
  go_upto_region 4 with (first
    | (go_at_call 12; refine (srRead_at f1 1 (t := ⟨0, 0, A, 1, 0, 0, 0, 0⟩) rfl (n := 1) rfl hr).mono ?_; rintro e wN ⟨k, rfl, hkk, hrN, hb⟩; replace rB := rowB_below rB hb (rowB_lt rB))
    | (refine wpList_storeR rfl 25 _ _ rfl B rfl #[.slice (some ⟨k, 0, none⟩) 8 8, .slice none 0 0] rfl (dev2_one _ _ _ _ _ _) 25 #[.slice (some ⟨x3, 0, none⟩) 8 8, .slice none 0 0] rfl ?_ agDv ?_; with_reducible exact rB)
  )
  replace hr := rowB_row_other hrN #[.slice (some ⟨k, 0, none⟩) 8 8, .slice none 0 0] (show B ≠ k by omega)
  replace rB := rowB_row rB #[.slice (some ⟨k, 0, none⟩) 8 8, .slice none 0 0]
  replace bX := below_rowR (bX.trans (hb.mono bX.size)) #[.slice (some ⟨k, 0, none⟩) 8 8, .slice none 0 0] hle
  replace lB := Nat.lt_of_lt_of_le lB hb.size
  change Code.wp _ _ _ _ (wN.setRow B #[.slice (some ⟨k, 0, none⟩) 8 8, .slice none 0 0])
  replace lB : B < (wN.setRow B #[.slice (some ⟨k, 0, none⟩) 8 8, .slice none 0 0]).heap.size := rowB_lt rB
  generalize wN.setRow B #[.slice (some ⟨k, 0, none⟩) 8 8, .slice none 0 0] = wA4 at *
  clear hb hrN hkk c0 c1
  obtain ⟨x4, rfl⟩ : ∃ x, x = k := ⟨_, rfl⟩
  obtain ⟨c0, c1, _, _⟩ := dcells2 rB
  go_upto_region 5 with (first
    | (go_at_call 12; refine (srRead_at f1 0 (t := ⟨0, 0, A, 0, 0, 0, 0, 0⟩) rfl (n := A) rfl hr).mono ?_; rintro e wN ⟨k, rfl, hkk, hrN, hb⟩; replace rB := rowB_below rB hb (rowB_lt rB))
    | (refine wpList_storeR rfl 25 _ _ rfl B rfl #[.slice (some ⟨k, 0, none⟩) 8 8, .slice none 0 0] rfl (dev2_one _ _ _ _ _ _) 25 #[.slice (some ⟨x4, 0, none⟩) 8 8, .slice none 0 0] rfl ?_ agDv ?_; with_reducible exact rB)
  )
  replace hr := rowB_row_other hrN #[.slice (some ⟨k, 0, none⟩) 8 8, .slice none 0 0] (show B ≠ k by omega)
  replace rB := rowB_row rB #[.slice (some ⟨k, 0, none⟩) 8 8, .slice none 0 0]
  replace bX := below_rowR (bX.trans (hb.mono bX.size)) #[.slice (some ⟨k, 0, none⟩) 8 8, .slice none 0 0] hle
  replace lB := Nat.lt_of_lt_of_le lB hb.size
  change Code.wp _ _ _ _ (wN.setRow B #[.slice (some ⟨k, 0, none⟩) 8 8, .slice none 0 0])
  replace lB : B < (wN.setRow B #[.slice (some ⟨k, 0, none⟩) 8 8, .slice none 0 0]).heap.size := rowB_lt rB
  generalize wN.setRow B #[.slice (some ⟨k, 0, none⟩) 8 8, .slice none 0 0] = wA5 at *
  clear hb hrN hkk c0 c1
  obtain ⟨x5, rfl⟩ : ∃ x, x = k := ⟨_, rfl⟩
  obtain ⟨c0, c1, _, _⟩ := dcells2 rB
  go_upto_region 6 with (first
    | (go_at_call 12; refine (srRead_at f3 1 (t := ⟨0, 0, A, 0, 0, 0, 0, 0⟩) rfl (n := 0) rfl hr).mono ?_; rintro e wN ⟨k, rfl, hkk, hrN, hb⟩)
  )
  replace bX := (bX.trans (hb.mono bX.size)).alloc (Nat.le_trans bX.size hb.size) (.cells #[.slice (some ⟨k, 0, none⟩) 8 8, .slice none 0 0] 25)
  change Code.wp _ _ _ _ (wN.alloc (.cells #[.slice (some ⟨k, 0, none⟩) 8 8, .slice none 0 0] 25))
  generalize wN.alloc (.cells #[.slice (some ⟨k, 0, none⟩) 8 8, .slice none 0 0] 25) = wZ at *
  go_wp2_with (first
    | (go_at_call 30; refine (low_any _ _ _).mono ?_; rintro e w' ⟨rfl, rfl⟩; rw [hA0])
    | (go_at_call 29; refine (serialsK_any _).mono ?_; rintro e wY ⟨rfl, hbY⟩))
  go_ret
  exact ⟨rfl, bX.trans (hbY.mono bX.size)⟩
end Go.Proofs.Ytofodkilbigbdaa
