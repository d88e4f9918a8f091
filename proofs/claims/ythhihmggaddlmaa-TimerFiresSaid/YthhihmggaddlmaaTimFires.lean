/- The walk of the law TimerFires. -/
import Derived.Test.YthhihmggaddlmaaBitWalksB
import Derived.Test.YthhihmggaddlmaaChecked
import Derived.Test.YthhihmggaddlmaaTimKeep
import Derived.Below
import Derived.BigQuiet
import Derived.ChangeMaps5
import Derived.Deep.DeepCutAuto
import Derived.Deep.Draws
import Derived.Deep.MidRow
import Derived.Deep.OwnRows
import Derived.Deep.QuietTactic
import Derived.Deep.RegionHeld3
import Derived.Deep.RegionWith
import Derived.Deep.Slices
import Derived.Deep.WholeRow
import Derived.Lib.Hide
import Derived.Lib.SmallJoins
import Derived.OpenShut
import Derived.OrdersHeld
import Derived.OwnWalk
import Derived.RowKit3
import Derived.StillTactics
import Derived.StillTail
import Derived.StillTailTactics
import Derived.WalkKit
namespace Go.Proofs.Ythhihmggaddlmaa
open Go.RowKit
set_option maxRecDepth 100000
set_option maxHeartbeats 4000000 in
theorem timerFires_walk (n0 : Int) (rep : Bool) (w : World) (hn : -9223372036854775808 ≤ n0 ∧ n0 ≤ 9223372036854775807) :
    Calls Try.prog 6 #[.int .i64 n0, .bool rep] w fun e w' => e = .returned (.bool true) ∧ Below w.heap.size w w' := by
  have hbl := fun w => below_any n0 500 hn (by decide) w
  obtain ⟨n, hN⟩ : ∃ n, n0 % 500 = n := ⟨_, rfl⟩
  rw [hN] at hbl
  have f0 : 0 ≤ n := by omega
  have f1 : n < 500 := by omega
  clear hN hn
  have hlow := fire_low n f0 f1
  obtain ⟨s1, e1⟩ : ∃ s, (⟨0, 0, 0, 0⟩ : Tm).write 0 n = s := ⟨_, rfl⟩
  rw [e1] at hlow
  obtain ⟨s2, e2⟩ : ∃ s, s1.write 1 (n / 256) = s := ⟨_, rfl⟩
  rw [e2] at hlow
  have fit1 : s1.fit := by rw [← e1]; exact Tm.write_fit ⟨by decide, by decide, by decide, by decide⟩ _ _
  have fit2 : s2.fit := by rw [← e2]; exact Tm.write_fit fit1 _ _
  have hW0 := fun v w h => tmWrite_any v (.slice none 0 0) [0, 0, 0, 0] 0 n w h
  rw [show (Tm.of [0, 0, 0, 0]).write 0 n = s1 from e1] at hW0
  have hW1 := fun v w h => tmWrite_any v (.slice none 0 0) s1.ns 1 (n / 256) w h
  rw [Tm.of_ns fit1, e2] at hW1
  have hW2 := fun v w h => tmWrite_any v (.slice none 0 0) s2.ns 2 129 w h
  rw [Tm.of_ns fit2, hlow] at hW2
  have hW3 := fun v w h => tmWrite_any v (.slice none 0 0) (Tm.mk n n 1 0).ns 2 7 w h
  rw [Tm.of_ns (s := ⟨n, n, 1, 0⟩) ⟨by dsimp only; omega, by dsimp only; omega, by dsimp only; omega, by dsimp only; omega⟩, show (Tm.mk n n 1 0).write 2 7 = ⟨n, n, 7, 0⟩ from rfl] at hW3
  have hN := tmNew_any w
  obtain ⟨p0, p1, p2, p3⟩ := s1
  obtain ⟨q0, q1, q2, q3⟩ := s2
  dsimp only [Tm.ns] at hW0 hW1 hW2 hW3
  clear e1 e2 fit1 fit2 hlow
  go_enter Try.func6, Try.ntmps6
  go_upto_region 3 with (first
    | (go_at_call 37; refine (hbl _).mono ?_; rintro e wx ⟨rfl, rfl⟩)
    | (go_at_call 23; refine hN.mono ?_; rintro e w1 ⟨u, rfl, ⟨g1, rfl, hg1, hr1⟩, hb1⟩; have x1 := numB_arg hr1 (by simp))
    | (go_at_call_of 27 (Value.int .i64 0); refine (hW0 _ _ x1).mono ?_; rintro e w2 ⟨u, rfl, ⟨g2, rfl, hg2, hr2⟩, hb2⟩; have x2 := numB_arg hr2 (by simp); replace hb2 := hb1.trans (hb2.mono hb1.size))
    | (go_at_call_of 27 (Value.int .i64 1); refine (hW1 _ _ x2).mono ?_; rintro e w3 ⟨u, rfl, ⟨g3, rfl, hg3, hr3⟩, hb3⟩; replace hb3 := hb2.trans (hb3.mono hb2.size)))
  have x3 := numB_arg (rowB_alloc hr3 (.cells #[.slice (some ⟨g3, 0, none⟩) 4 4, .slice none 0 0] 51)) (by simp)
  have r3 := rowB_new w3 51 #[.slice (some ⟨g3, 0, none⟩) 4 4, .slice none 0 0]
  have s3 := World.size_alloc w3 (.cells #[.slice (some ⟨g3, 0, none⟩) 4 4, .slice none 0 0] 51)
  have bA := hb3.alloc hb3.size (.cells #[.slice (some ⟨g3, 0, none⟩) 4 4, .slice none 0 0] 51)
  have lb := hb3.size
  go_upto_region 4 with (first
    | (go_at_call 27; refine (hW2 _ _ x3).mono ?_; rintro e w4 ⟨u, rfl, ⟨g4, rfl, hg4, hr4⟩, hb4⟩; have r4 := rowB_below r3 hb4 (rowB_lt r3))
    | (refine wpList_storeR rfl 51 _ _ rfl w3.heap.size rfl #[.slice (some ⟨g4, 0, none⟩) 4 4, .slice none 0 0] rfl (dev2_one _ _ _ _ _ _) 51 #[.slice (some ⟨g3, 0, none⟩) 4 4, .slice none 0 0] rfl ?_ agDv ?_; with_reducible exact r4))
  rw [s3] at hg4
  have q4 := rowB_row r4 #[.slice (some ⟨g4, 0, none⟩) 4 4, .slice none 0 0]
  replace hr4 := rowB_row_other hr4 #[.slice (some ⟨g4, 0, none⟩) 4 4, .slice none 0 0] (show w3.heap.size ≠ g4 by omega)
  have bX := below_rowR (bA.trans (hb4.mono bA.size)) #[.slice (some ⟨g4, 0, none⟩) 4 4, .slice none 0 0] lb
  have hgb : g4 ≠ w3.heap.size := by omega
  generalize w4.setRow w3.heap.size #[.slice (some ⟨g4, 0, none⟩) 4 4, .slice none 0 0] = wd at *
  generalize w3.heap.size = b at *
  clear x1 x2 x3 r3 r4 s3 bA hb1 hb2 hb3 hb4 hr1 hr2 hr3 hW0 hW1 hW2 hN hbl hg1 hg2 hg3 hg4
  obtain ⟨c0, c1, _, _⟩ := dcells2 q4
  cases rep
  · go_wp2_with fail
    go_loopw [24] (fun i wr => ∃ r g : Nat, r ≤ 3 ∧ i = .int .i64 r ∧ rowB wr b 51 #[.slice (some ⟨g, 0, none⟩) 4 4, .slice none 0 0] ∧ rowB wr g 3 ((fireS false n r).ns.map (Value.int .i64)).toArray ∧ g ≠ b ∧ Below w.heap.size w wr) (fun i _ => 3 - (intOf i).toNat)
    case atStart => exact ⟨0, g4, Nat.zero_le _, rfl, q4, hr4, hgb, bX⟩
    case round =>
      clear q4 hr4 hgb bX c0 c1
      obtain ⟨r, g, hr3, rfl, rd, hr, hgb, hb⟩ := hrel
      obtain ⟨d0, d1, y0, y1⟩ := dcells2 rd
      by_cases hlt : r < 3
      · have hd : decide ((r : Int) < 3) = true := decide_eq_true (by omega)
        have fit := fireS_fit false n r f0 f1
        have hstep := fireS_step false n r f0 f1
        have hS := tmSkip_any _ (.slice none 0 0) (fireS false n r).ns n (by omega) wr (numB_arg hr (by show (4 : Nat) ≤ _; decide))
        rw [Tm.of_ns fit] at hS
        have fitE := Tm.skip_fit fit n
        generalize hE : (fireS false n r).skip n = E at *
        have hRd := fun v w h => tmRead_any v (.slice none 0 0) E.ns 3 w h
        rw [Tm.of_ns fitE] at hRd
        have hTk := fun v w h => tmTick_any v (.slice none 0 0) E.ns w h
        rw [Tm.of_ns fitE] at hTk
        have fitT := Tm.skip_fit fitE 1
        generalize hT : E.skip 1 = T at *
        have hRt := fun v w h => tmRead_any v (.slice none 0 0) T.ns 3 w h
        rw [Tm.of_ns fitT, hstep.2.2] at hRt
        have o1 : E.reg 3 = 0 := hstep.1
        have o2 : T.reg 3 = (if false = true ∨ r = 0 then 1 else 0) := hstep.2.1
        rw [o1] at hRd
        clear hstep hE hT o1
        obtain ⟨E0, E1, E2, E3⟩ := E
        obtain ⟨T0, T1, T2, T3⟩ := T
        obtain ⟨N, hNe⟩ : ∃ N, fireS false n (r + 1) = N := ⟨_, rfl⟩
        rw [hNe] at hRt
        obtain ⟨N0, N1, N2, N3⟩ := N
        dsimp only [Tm.ns] at hS hRd hTk hRt
        obtain ⟨F, hF, hq⟩ : ∃ F : Int, (if false = true ∨ r = 0 then 1 else 0) = F ∧ (F = 1 ∧ (false = true ∨ ((r : Int) == 0) = true) ∨ F = 0 ∧ false = false ∧ ((r : Int) == 0) = false) := by
          by_cases hx : false = true ∨ r = 0
          · exact ⟨1, if_pos hx, .inl ⟨rfl, hx.imp id (fun h => by simp [h])⟩⟩
          · exact ⟨0, if_neg hx, .inr ⟨rfl, Bool.eq_false_iff.2 (fun h => hx (.inl h)), beq_eq_false_iff_ne.2 (fun h => hx (.inr (by omega)))⟩⟩
        rw [hF] at o2
        rw [o2] at hRt
        clear o2 hF fit fitE fitT
        go_upto_region 12 with (first
          | (go_at_call 36; refine hS.mono ?_; rintro e wE ⟨u, rfl, ⟨ge, rfl, hge, hre⟩, hbE⟩; have rdE := rowB_below rd hbE (rowB_lt rd); have lE := rowB_lt rd; have nE := rowB_new wE 51 #[.slice (some ⟨ge, 0, none⟩) 4 4, .slice none 0 0]; have reE := rowB_alloc hre (.cells #[.slice (some ⟨ge, 0, none⟩) 4 4, .slice none 0 0] 51); have xe := numB_arg reE (by simp); have bE := (hb.trans (hbE.mono hb.size)).alloc (Nat.le_trans hb.size hbE.size) (.cells #[.slice (some ⟨ge, 0, none⟩) 4 4, .slice none 0 0] 51); have sE := hbE.size)
          | (go_at_call 25; refine (hRd _ _ xe).mono ?_; rintro e wF ⟨u, rfl, ⟨gf, rfl, hgf, hrf⟩, hbF⟩))
        have nF := rowB_alloc (rowB_below nE hbF (rowB_lt nE)) (.cells #[.slice (some ⟨gf, 0, none⟩) 4 4, .slice none 0 0] 51)
        have reF := rowB_alloc (rowB_below reE hbF (rowB_lt reE)) (.cells #[.slice (some ⟨gf, 0, none⟩) 4 4, .slice none 0 0] 51)
        have rdF := rowB_alloc (rowB_below (rowB_alloc rdE (.cells #[.slice (some ⟨ge, 0, none⟩) 4 4, .slice none 0 0] 51)) hbF (rowB_lt (rowB_alloc rdE _))) (.cells #[.slice (some ⟨gf, 0, none⟩) 4 4, .slice none 0 0] 51)
        have bF := (bE.trans (hbF.mono bE.size)).alloc (Nat.le_trans bE.size hbF.size) (.cells #[.slice (some ⟨gf, 0, none⟩) 4 4, .slice none 0 0] 51)
        change Code.wp _ _ _ _ (wF.alloc (.cells #[.slice (some ⟨gf, 0, none⟩) 4 4, .slice none 0 0] 51))
        generalize wF.alloc (.cells #[.slice (some ⟨gf, 0, none⟩) 4 4, .slice none 0 0] 51) = wG at *
        clear d0 d1 y0 y1 hS hRd xe hrf hbF nE reE rdE bE hre hbE rd hr hge hgf
        have xe := numB_arg reF (by simp)
        obtain ⟨d0, d1, _, _⟩ := dcells2 nF
        rcases hq with ⟨rfl, hq⟩ | ⟨rfl, hq1, hq⟩
        try any_goals (cases hq1; done)
        all_goals
          try simp only [Bool.false_eq_true, false_or] at hq
          go_wp2_with (first
            | (go_at_call 35; refine (hTk _ _ xe).mono ?_; rintro e wH ⟨u, rfl, ⟨gh, rfl, hgh, hrh⟩, hbH⟩; have rdH := rowB_below rdF hbH (rowB_lt rdF); have xh := numB_arg hrh (by simp); have bH := bF.trans (hbH.mono bF.size); have lG := rowB_lt rdF)
            | (go_at_call 25; refine (hRt _ _ xh).mono ?_; rintro e wI ⟨u, rfl, ⟨gi, rfl, hgi, hri⟩, hbI⟩; have rdI := rowB_below rdH hbI (rowB_lt rdH); have lH := rowB_lt rdH)
            | (refine wpList_storeR rfl 51 _ _ rfl b rfl #[.slice (some ⟨gi, 0, none⟩) 4 4, .slice none 0 0] rfl (dev2_one _ _ _ _ _ _) 51 #[.slice (some ⟨g, 0, none⟩) 4 4, .slice none 0 0] rfl ?_ agDv ?_; with_reducible exact rdI))
          go_roundw
          case rel => exact ⟨r + 1, gi, by omega, by go_num, rowB_row rdI _, by rw [hNe]; exact rowB_row_other hri _ (by omega), by omega, below_rowR (bH.trans (hbI.mono bH.size)) _ lb⟩
          case measure => simp [intOf]; omega
      · obtain rfl : r = 3 := by omega
        go_wp2_with (go_at_call 38; refine (timersK_any _).mono ?_; rintro e wz ⟨rfl, hbz⟩)
        go_ret
        exact ⟨rfl, hb.trans (hbz.mono hb.size)⟩
  · have x4 := numB_arg hr4 (by simp)
    go_upto_region 6 with (first
      | (go_at_call 27; refine (hW3 _ _ x4).mono ?_; rintro e w5 ⟨u, rfl, ⟨g5, rfl, hg5, hr5⟩, hb5⟩; have r5 := rowB_below q4 hb5 (rowB_lt q4); have lw := rowB_lt q4)
      | (refine wpList_storeR rfl 51 _ _ rfl b rfl #[.slice (some ⟨g5, 0, none⟩) 4 4, .slice none 0 0] rfl (dev2_one _ _ _ _ _ _) 51 #[.slice (some ⟨g4, 0, none⟩) 4 4, .slice none 0 0] rfl ?_ agDv ?_; with_reducible exact r5))
    have q5 := rowB_row r5 #[.slice (some ⟨g5, 0, none⟩) 4 4, .slice none 0 0]
    have hgb5 : g5 ≠ b := by omega
    replace hr5 := rowB_row_other hr5 #[.slice (some ⟨g5, 0, none⟩) 4 4, .slice none 0 0] (show b ≠ g5 by omega)
    have bY := below_rowR (bX.trans (hb5.mono bX.size)) #[.slice (some ⟨g5, 0, none⟩) 4 4, .slice none 0 0] lb
    generalize w5.setRow b #[.slice (some ⟨g5, 0, none⟩) 4 4, .slice none 0 0] = we at *
    clear x4 r5 hb5 hg5 lw q4 hr4 bX hgb
    go_wp2_with fail
    go_loopw [24] (fun i wr => ∃ r g : Nat, r ≤ 3 ∧ i = .int .i64 r ∧ rowB wr b 51 #[.slice (some ⟨g, 0, none⟩) 4 4, .slice none 0 0] ∧ rowB wr g 3 ((fireS true n r).ns.map (Value.int .i64)).toArray ∧ g ≠ b ∧ Below w.heap.size w wr) (fun i _ => 3 - (intOf i).toNat)
    case atStart => exact ⟨0, g5, Nat.zero_le _, rfl, q5, hr5, hgb5, bY⟩
    case round =>
      clear q5 hr5 hgb5 bY c0 c1
      obtain ⟨r, g, hr3, rfl, rd, hr, hgb, hb⟩ := hrel
      obtain ⟨d0, d1, y0, y1⟩ := dcells2 rd
      by_cases hlt : r < 3
      · have hd : decide ((r : Int) < 3) = true := decide_eq_true (by omega)
        have fit := fireS_fit true n r f0 f1
        have hstep := fireS_step true n r f0 f1
        have hS := tmSkip_any _ (.slice none 0 0) (fireS true n r).ns n (by omega) wr (numB_arg hr (by show (4 : Nat) ≤ _; decide))
        rw [Tm.of_ns fit] at hS
        have fitE := Tm.skip_fit fit n
        generalize hE : (fireS true n r).skip n = E at *
        have hRd := fun v w h => tmRead_any v (.slice none 0 0) E.ns 3 w h
        rw [Tm.of_ns fitE] at hRd
        have hTk := fun v w h => tmTick_any v (.slice none 0 0) E.ns w h
        rw [Tm.of_ns fitE] at hTk
        have fitT := Tm.skip_fit fitE 1
        generalize hT : E.skip 1 = T at *
        have hRt := fun v w h => tmRead_any v (.slice none 0 0) T.ns 3 w h
        rw [Tm.of_ns fitT, hstep.2.2] at hRt
        have o1 : E.reg 3 = 0 := hstep.1
        have o2 : T.reg 3 = (if true = true ∨ r = 0 then 1 else 0) := hstep.2.1
        rw [o1] at hRd
        clear hstep hE hT o1
        obtain ⟨E0, E1, E2, E3⟩ := E
        obtain ⟨T0, T1, T2, T3⟩ := T
        obtain ⟨N, hNe⟩ : ∃ N, fireS true n (r + 1) = N := ⟨_, rfl⟩
        rw [hNe] at hRt
        obtain ⟨N0, N1, N2, N3⟩ := N
        dsimp only [Tm.ns] at hS hRd hTk hRt
        obtain ⟨F, hF, hq⟩ : ∃ F : Int, (if true = true ∨ r = 0 then 1 else 0) = F ∧ (F = 1 ∧ (true = true ∨ ((r : Int) == 0) = true) ∨ F = 0 ∧ true = false ∧ ((r : Int) == 0) = false) := by
          by_cases hx : true = true ∨ r = 0
          · exact ⟨1, if_pos hx, .inl ⟨rfl, hx.imp id (fun h => by simp [h])⟩⟩
          · exact ⟨0, if_neg hx, .inr ⟨rfl, Bool.eq_false_iff.2 (fun h => hx (.inl h)), beq_eq_false_iff_ne.2 (fun h => hx (.inr (by omega)))⟩⟩
        rw [hF] at o2
        rw [o2] at hRt
        clear o2 hF fit fitE fitT
        go_upto_region 12 with (first
          | (go_at_call 36; refine hS.mono ?_; rintro e wE ⟨u, rfl, ⟨ge, rfl, hge, hre⟩, hbE⟩; have rdE := rowB_below rd hbE (rowB_lt rd); have lE := rowB_lt rd; have nE := rowB_new wE 51 #[.slice (some ⟨ge, 0, none⟩) 4 4, .slice none 0 0]; have reE := rowB_alloc hre (.cells #[.slice (some ⟨ge, 0, none⟩) 4 4, .slice none 0 0] 51); have xe := numB_arg reE (by simp); have bE := (hb.trans (hbE.mono hb.size)).alloc (Nat.le_trans hb.size hbE.size) (.cells #[.slice (some ⟨ge, 0, none⟩) 4 4, .slice none 0 0] 51); have sE := hbE.size)
          | (go_at_call 25; refine (hRd _ _ xe).mono ?_; rintro e wF ⟨u, rfl, ⟨gf, rfl, hgf, hrf⟩, hbF⟩))
        have nF := rowB_alloc (rowB_below nE hbF (rowB_lt nE)) (.cells #[.slice (some ⟨gf, 0, none⟩) 4 4, .slice none 0 0] 51)
        have reF := rowB_alloc (rowB_below reE hbF (rowB_lt reE)) (.cells #[.slice (some ⟨gf, 0, none⟩) 4 4, .slice none 0 0] 51)
        have rdF := rowB_alloc (rowB_below (rowB_alloc rdE (.cells #[.slice (some ⟨ge, 0, none⟩) 4 4, .slice none 0 0] 51)) hbF (rowB_lt (rowB_alloc rdE _))) (.cells #[.slice (some ⟨gf, 0, none⟩) 4 4, .slice none 0 0] 51)
        have bF := (bE.trans (hbF.mono bE.size)).alloc (Nat.le_trans bE.size hbF.size) (.cells #[.slice (some ⟨gf, 0, none⟩) 4 4, .slice none 0 0] 51)
        change Code.wp _ _ _ _ (wF.alloc (.cells #[.slice (some ⟨gf, 0, none⟩) 4 4, .slice none 0 0] 51))
        generalize wF.alloc (.cells #[.slice (some ⟨gf, 0, none⟩) 4 4, .slice none 0 0] 51) = wG at *
        clear d0 d1 y0 y1 hS hRd xe hrf hbF nE reE rdE bE hre hbE rd hr hge hgf
        have xe := numB_arg reF (by simp)
        obtain ⟨d0, d1, _, _⟩ := dcells2 nF
        rcases hq with ⟨rfl, hq⟩ | ⟨rfl, hq1, hq⟩
        try any_goals (cases hq1; done)
        all_goals
          try simp only [Bool.false_eq_true, false_or] at hq
          go_wp2_with (first
            | (go_at_call 35; refine (hTk _ _ xe).mono ?_; rintro e wH ⟨u, rfl, ⟨gh, rfl, hgh, hrh⟩, hbH⟩; have rdH := rowB_below rdF hbH (rowB_lt rdF); have xh := numB_arg hrh (by simp); have bH := bF.trans (hbH.mono bF.size); have lG := rowB_lt rdF)
            | (go_at_call 25; refine (hRt _ _ xh).mono ?_; rintro e wI ⟨u, rfl, ⟨gi, rfl, hgi, hri⟩, hbI⟩; have rdI := rowB_below rdH hbI (rowB_lt rdH); have lH := rowB_lt rdH)
            | (refine wpList_storeR rfl 51 _ _ rfl b rfl #[.slice (some ⟨gi, 0, none⟩) 4 4, .slice none 0 0] rfl (dev2_one _ _ _ _ _ _) 51 #[.slice (some ⟨g, 0, none⟩) 4 4, .slice none 0 0] rfl ?_ agDv ?_; with_reducible exact rdI))
          go_roundw
          case rel => exact ⟨r + 1, gi, by omega, by go_num, rowB_row rdI _, by rw [hNe]; exact rowB_row_other hri _ (by omega), by omega, below_rowR (bH.trans (hbI.mono bH.size)) _ lb⟩
          case measure => simp [intOf]; omega
      · obtain rfl : r = 3 := by omega
        go_wp2_with (go_at_call 38; refine (timersK_any _).mono ?_; rintro e wz ⟨rfl, hbz⟩)
        go_ret
        exact ⟨rfl, hb.trans (hbz.mono hb.size)⟩
end Go.Proofs.Ythhihmggaddlmaa
