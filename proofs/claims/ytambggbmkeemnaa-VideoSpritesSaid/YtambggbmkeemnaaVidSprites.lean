/- The walk of the law VideoSprites. -/
import Derived.Test.YtambggbmkeemnaaBitWalksB
import Derived.Test.YtambggbmkeemnaaChecked
import Derived.Test.YtambggbmkeemnaaVidKeep
import Derived.Test.YtambggbmkeemnaaVidSpr
import Derived.Below
import Derived.BigQuiet
import Derived.ChangeMaps5
import Derived.Deep.DeepCutAuto
import Derived.Deep.Draws
import Derived.Deep.MidRow
import Derived.Deep.OwnRows
import Derived.Deep.QuietTactic
import Derived.Deep.RegionHeld3
import Derived.Deep.RegionWith
import Derived.Deep.Slices
import Derived.Deep.WholeRow
import Derived.Laws.CopyOwn
import Derived.Lib.Hide
import Derived.Lib.SmallJoins
import Derived.OpenShut
import Derived.OrdersHeld
import Derived.OwnWalk
import Derived.RowKit3
import Derived.Shelf.Abstract
import Derived.StillTactics
import Derived.StillTail
import Derived.StillTailTactics
import Derived.WalkKit
namespace Go.Proofs.Ytambggbmkeemnaa
open Go.RowKit
set_option maxRecDepth 100000

set_option maxHeartbeats 8000000 in
theorem videoSprites_walk (x0 y0 c0 : Int) (w : World) (hx : -9223372036854775808 ≤ x0 ∧ x0 ≤ 9223372036854775807) (hy : -9223372036854775808 ≤ y0 ∧ y0 ≤ 9223372036854775807) (hc : -9223372036854775808 ≤ c0 ∧ c0 ≤ 9223372036854775807) :
    Calls Try.prog 6 #[.int .i64 x0, .int .i64 y0, .int .i64 c0] w fun e w' => e = .returned (.bool true) ∧ Below w.heap.size w w' := by
  have hbx := fun w => below_any x0 60 hx (by decide) w
  have hby := fun w => below_any y0 40 hy (by decide) w
  have hbc := fun w => below_any c0 2 hc (by decide) w
  obtain ⟨x, hX⟩ : ∃ x, x0 % 60 = x := ⟨_, rfl⟩
  obtain ⟨y, hY⟩ : ∃ y, y0 % 40 = y := ⟨_, rfl⟩
  obtain ⟨c, hC⟩ : ∃ c, c0 % 2 = c := ⟨_, rfl⟩
  rw [hX] at hbx
  rw [hY] at hby
  rw [hC] at hbc
  have bx : 0 ≤ x ∧ x < 60 := by omega
  have by' : 0 ≤ y ∧ y < 40 := by omega
  have bc : 0 ≤ c ∧ c < 2 := by omega
  clear hX hY hC hx hy hc
  have hN := vidNew_any w
  go_enter Try.func6, Try.ntmps6
  go_upto_region 3 with (first
    | (go_at_call_of 25 (Value.int .i64 x0); refine (hbx _).mono ?_; rintro e wx ⟨rfl, rfl⟩)
    | (go_at_call_of 25 (Value.int .i64 y0); refine (hby _).mono ?_; rintro e wx ⟨rfl, rfl⟩)
    | (go_at_call_of 25 (Value.int .i64 c0); refine (hbc _).mono ?_; rintro e wx ⟨rfl, rfl⟩)
    | (go_at_call 10; refine hN.mono ?_; rintro e w1 ⟨u, rfl, ⟨g0, q0, rfl, hg, hq, hgq, hr, hrq⟩, hb⟩))
  change Code.wp _ _ _ _ (w1.alloc (.cells #[.slice (some ⟨g0, 0, none⟩) 2 2, .slice (some ⟨q0, 0, none⟩) 32 32] 25))
  have bX := hb.alloc hb.size (.cells #[.slice (some ⟨g0, 0, none⟩) 2 2, .slice (some ⟨q0, 0, none⟩) 32 32] 25)
  have lB := hb.size
  have rB := rowB_new w1 25 #[.slice (some ⟨g0, 0, none⟩) 2 2, .slice (some ⟨q0, 0, none⟩) 32 32]
  have lg := rowB_lt hr
  have lq := rowB_lt hrq
  replace hr := rowB_alloc hr (.cells #[.slice (some ⟨g0, 0, none⟩) 2 2, .slice (some ⟨q0, 0, none⟩) 32 32] 25)
  replace hrq := rowB_alloc hrq (.cells #[.slice (some ⟨g0, 0, none⟩) 2 2, .slice (some ⟨q0, 0, none⟩) 32 32] 25)
  have sB := World.size_alloc w1 (.cells #[.slice (some ⟨g0, 0, none⟩) 2 2, .slice (some ⟨q0, 0, none⟩) 32 32] 25)
  clear hN hbx hby hbc hb hg hq
  generalize w1.alloc (.cells #[.slice (some ⟨g0, 0, none⟩) 2 2, .slice (some ⟨q0, 0, none⟩) 32 32] 25) = w2 at *
  generalize w1.heap.size = B at *
  go_upto_region 4 with fail
  change Code.wp _ _ _ _ (w2.alloc (.cells #[.int .i64 0, .int .i64 x, .int .i64 y, .int .i64 9, .int .i64 255] 3))
  have rV := rowB_new w2 3 #[.int .i64 0, .int .i64 x, .int .i64 y, .int .i64 9, .int .i64 255]
  replace rB := rowB_alloc rB (.cells #[.int .i64 0, .int .i64 x, .int .i64 y, .int .i64 9, .int .i64 255] 3)
  replace hr := rowB_alloc hr (.cells #[.int .i64 0, .int .i64 x, .int .i64 y, .int .i64 9, .int .i64 255] 3)
  replace hrq := rowB_alloc hrq (.cells #[.int .i64 0, .int .i64 x, .int .i64 y, .int .i64 9, .int .i64 255] 3)
  replace bX := bX.alloc bX.size (.cells #[.int .i64 0, .int .i64 x, .int .i64 y, .int .i64 9, .int .i64 255] 3)
  generalize w2.alloc (.cells #[.int .i64 0, .int .i64 x, .int .i64 y, .int .i64 9, .int .i64 255] 3) = w3 at *
  rw [sB] at rV
  have lV : B < w3.heap.size := rowB_lt rB
  clear sB
  have hV : ∀ k : Nat, k < 5 → (#[.int .i64 0, .int .i64 x, .int .i64 y, .int .i64 9, .int .i64 255] : Array Value)[k]? = some (.int .i64 (spV x y k)) := fun k hk => by
    rcases (by omega : k = 0 ∨ k = 1 ∨ k = 2 ∨ k = 3 ∨ k = 4) with rfl | rfl | rfl | rfl | rfl <;> rfl
  generalize (#[.int .i64 0, .int .i64 x, .int .i64 y, .int .i64 9, .int .i64 255] : Array Value) = VS at *
  have HV := Lib.hid hV
  clear hV
  go_loopw [27] (fun i wr => ∃ (n g q : Nat), n ≤ 5 ∧ i = .int .i64 n ∧ rowB wr B 25 #[.slice (some ⟨g, 0, none⟩) 2 2, .slice (some ⟨q, 0, none⟩) 32 32] ∧ rowB wr g 3 #[.int .i64 (sp5 x y n).p, .int .i64 (sp5 x y n).h] ∧ rowB wr q 5 (byts (sp5 x y n).m) ∧ (g ≠ B ∧ q ≠ B ∧ g ≠ q) ∧ rowB wr (B + 1) 3 VS ∧ Below B w3 wr) (fun i _ => 5 - (intOf i).toNat)
  case atStart => exact ⟨0, g0, q0, Nat.zero_le _, rfl, rB, hr, hrq, ⟨by omega, by omega, hgq⟩, rV, Below.refl _ _⟩
  case round =>
    clear rB hr hrq rV hgq lg lq
    obtain ⟨n, g, q, hn, rfl, rB, rg, rq, ⟨hgB, hqB, hgq⟩, rV, hS⟩ := hrel
    obtain ⟨d0, d1, _, _⟩ := dcells2 rB
    have lS := hS.size
    by_cases hlt : n < 5
    · have hd : decide ((n : Int) < 5) = true := decide_eq_true (by omega)
      have cV := rowB_cell rV n (HV.out n hlt)
      have hfit := sp5_fit x y n
      have hW := vidWrite_at (lo := 0) hfit (n : Int) (spV x y n) (t := sp5 x y (n + 1)) rfl (v := .agg #[.slice (some ⟨g, 0, none⟩) 2 2, .slice (some ⟨q, 0, none⟩) 32 32]) (w := wr) ⟨g, q, rfl, Nat.zero_le _, Nat.zero_le _, hgq, rg, rq⟩
      obtain ⟨val, hval⟩ : ∃ val, spV x y n = val := ⟨_, rfl⟩
      rw [hval] at cV hW
      clear hval
      go_wp2_with (first
        | (go_at_call 14; refine hW.mono ?_; rintro e w4 ⟨u, rfl, ⟨g2, q2, rfl, hg2, hq2, hgq2, hr2, hrq2⟩, hb3⟩; have r3 := rowB_below rB hb3 (rowB_lt rB); have r4 := rowB_below rV hb3 (rowB_lt rV); have l3 := rowB_lt rB)
        | (refine wpList_storeR rfl 25 _ _ rfl B rfl #[.slice (some ⟨g2, 0, none⟩) 2 2, .slice (some ⟨q2, 0, none⟩) 32 32] rfl (dev2_one _ _ _ _ _ _) 25 #[.slice (some ⟨g, 0, none⟩) 2 2, .slice (some ⟨q, 0, none⟩) 32 32] rfl ?_ agDv ?_; with_reducible exact r3))
      go_roundw
      case rel => exact ⟨n + 1, g2, q2, by omega, by go_num, rowB_row r3 _, rowB_row_other hr2 _ (by omega), rowB_row_other hrq2 _ (by omega), ⟨by omega, by omega, hgq2⟩, rowB_row_other r4 _ (by omega), below_rowR (hS.trans (hb3.mono (by omega))) _ (Nat.le_refl _)⟩
      case measure => simp [intOf] <;> omega
    · have hd : decide ((n : Int) < 5) = false := decide_eq_false (by omega)
      obtain rfl : n = 5 := by omega
      replace bX := bX.trans (hS.mono (by omega))
      replace lV : B < wr.heap.size := by omega
      clear hS d0 d1 lS HV
      have hf5 := sp5_fit x y 5
      obtain ⟨g0, rfl⟩ : ∃ z, z = g := ⟨_, rfl⟩
      obtain ⟨q0, rfl⟩ : ∃ z, z = q := ⟨_, rfl⟩
      obtain ⟨wa, rfl⟩ : ∃ z, z = wr := ⟨_, rfl⟩
      have q24 : sp24 (sp5 x y 5) c 0 = sp5 x y 5 := rfl
      rw [← q24] at rg rq
      go_wp2_with fail
      go_loopw [37] (fun i wr => ∃ (n g q : Nat), n ≤ 24 ∧ i = .int .i64 n ∧ rowB wr B 25 #[.slice (some ⟨g, 0, none⟩) 2 2, .slice (some ⟨q, 0, none⟩) 32 32] ∧ rowB wr g 3 #[.int .i64 (sp24 (sp5 x y 5) c n).p, .int .i64 (sp24 (sp5 x y 5) c n).h] ∧ rowB wr q 5 (byts (sp24 (sp5 x y 5) c n).m) ∧ (g ≠ B ∧ q ≠ B ∧ g ≠ q) ∧ Below B wa wr) (fun i _ => 24 - (intOf i).toNat)
      case atStart => exact ⟨0, g0, q0, Nat.zero_le _, rfl, rB, rg, rq, ⟨hgB, hqB, hgq⟩, Below.refl _ _⟩
      case round =>
        clear rB rg rq rV hgq hgB hqB
        obtain ⟨n, g, q, hn, rfl, rB, rg, rq, ⟨hgB, hqB, hgq⟩, hS⟩ := hrel
        obtain ⟨d0, d1, _, _⟩ := dcells2 rB
        have lS := hS.size
        by_cases hlt : n < 24
        · have hd : decide ((n : Int) < 24) = true := decide_eq_true (by omega)
          have w8 : wrap64 (8 + (n : Int)) = 8 + (n : Int) := IntWalk.wrap64_in _ (by omega)
          have hfit := sp24_fit hf5 c n
          have hW := vidWrite_at (lo := 0) hfit (8 + (n : Int)) c (t := sp24 (sp5 x y 5) c (n + 1)) rfl (v := .agg #[.slice (some ⟨g, 0, none⟩) 2 2, .slice (some ⟨q, 0, none⟩) 32 32]) (w := wr) ⟨g, q, rfl, Nat.zero_le _, Nat.zero_le _, hgq, rg, rq⟩
          go_wp2_with (first
            | (go_at_call 14; refine hW.mono ?_; rintro e w4 ⟨u, rfl, ⟨g2, q2, rfl, hg2, hq2, hgq2, hr2, hrq2⟩, hb3⟩; have r3 := rowB_below rB hb3 (rowB_lt rB); have l3 := rowB_lt rB)
            | (refine wpList_storeR rfl 25 _ _ rfl B rfl #[.slice (some ⟨g2, 0, none⟩) 2 2, .slice (some ⟨q2, 0, none⟩) 32 32] rfl (dev2_one _ _ _ _ _ _) 25 #[.slice (some ⟨g, 0, none⟩) 2 2, .slice (some ⟨q, 0, none⟩) 32 32] rfl ?_ agDv ?_; with_reducible exact r3))
          go_roundw
          case rel => refine ⟨_, _, _, _, _, _, _, _, _, _, ?_, rfl⟩; exact ⟨n + 1, g2, q2, by omega, by go_num, rowB_row r3 _, rowB_row_other hr2 _ (by omega), rowB_row_other hrq2 _ (by omega), ⟨by omega, by omega, hgq2⟩, below_rowR (hS.trans (hb3.mono (by omega))) _ (Nat.le_refl _)⟩
          case measure => simp [intOf] <;> omega
        · have hd : decide ((n : Int) < 24) = false := decide_eq_false (by omega)
          obtain rfl : n = 24 := by omega
          replace bX := bX.trans (hS.mono (by omega))
          replace lV : B < wr.heap.size := by omega
          clear hS d0 d1 lS
          have hfS := sp24_fit hf5 c 24
          have hok := spOk_made bx by' bc
          have hph := sp24_ph (sp5 x y 5) c 24
          have hph5 := sp5_ph x y 5
          rw [hph5.1, hph5.2] at hph
          obtain ⟨hp0, hh0⟩ := hph
          generalize sp24 (sp5 x y 5) c 24 = T at *
          obtain ⟨g1, rfl⟩ : ∃ z, z = g := ⟨_, rfl⟩
          obtain ⟨q1, rfl⟩ : ∃ z, z = q := ⟨_, rfl⟩
          obtain ⟨wb, rfl⟩ : ∃ z, z = wr := ⟨_, rfl⟩
          clear q24 hph5 hf5
          have q25 : T.ticks 0 = T := rfl
          rw [← q25] at rg rq
          have HOK := Lib.hid hok
          clear hok q25
          go_wp2_with fail
          go_loopw [11, 46] (fun dd i wr => ∃ (n g q : Nat), n ≤ 2560 ∧ dd = .int .i64 (spN x y n) ∧ i = .int .i64 n ∧ rowB wr B 25 #[.slice (some ⟨g, 0, none⟩) 2 2, .slice (some ⟨q, 0, none⟩) 32 32] ∧ rowB wr g 3 #[.int .i64 (T.ticks n).p, .int .i64 (T.ticks n).h] ∧ rowB wr q 5 (byts (T.ticks n).m) ∧ (g ≠ B ∧ q ≠ B ∧ g ≠ q) ∧ Below B wb wr) (fun _ i _ => 2560 - (intOf i).toNat)
          case atStart => exact ⟨0, g1, q1, Nat.zero_le _, rfl, rfl, rB, rg, rq, ⟨hgB, hqB, hgq⟩, Below.refl _ _⟩
          case round =>
            clear rB rg rq hgq hgB hqB
            obtain ⟨n, g, q, hn, rfl, rfl, rB, rg, rq, ⟨hgB, hqB, hgq⟩, hS⟩ := hrel
            obtain ⟨d0, d1, _, _⟩ := dcells2 rB
            have lS := hS.size
            have hbd := spN_bd x y n
            have hfT := Vd.ticks_fit hfS n
            by_cases hlt : n < 2560
            · have hd : decide ((n : Int) < 2560) = true := decide_eq_true (by omega)
              have hW := vidTick_at (lo := 0) hfT (t := T.ticks (n + 1)) rfl (v := .agg #[.slice (some ⟨g, 0, none⟩) 2 2, .slice (some ⟨q, 0, none⟩) 32 32]) (w := wr) ⟨g, q, rfl, Nat.zero_le _, Nat.zero_le _, hgq, rg, rq⟩
              have hfT1 := Vd.ticks_fit hfS (n + 1)
              have hcol := sp_out hfS HOK.out hp0 bx by' bc n hlt
              have hcnt : spN x y (n + 1) = spN x y n + (if spOn x y n = true then 1 else 0) := rfl
              have hO := fun (w' : World) v' (h' : devV 0 w' v' (T.ticks (n + 1))) => vidOut_at (n := (T.ticks (n + 1)).out) hfT1 rfl h'
              obtain ⟨O, hOe⟩ : ∃ O, (T.ticks (n + 1)).out = O := ⟨_, rfl⟩
              rw [hOe] at hcol
              simp only [hOe] at hO
              have HO := Lib.hid hO
              clear hO hOe
              obtain ⟨C, hCe⟩ : ∃ C, spN x y n = C := ⟨_, rfl⟩
              rw [hCe] at hcnt hbd
              rw [hCe]
              clear hCe
              have wC : wrap64 (C + 1) = C + 1 := IntWalk.wrap64_in _ (by omega)
              cases hon : spOn x y n with
              | true =>
                rw [hon, if_pos rfl] at hcnt
                rw [hon] at hcol
                have HC := Lib.hid hcnt
                clear hcnt hon
                go_wp2_with (first
                  | (go_at_call 22; refine hW.mono ?_; rintro e w4 ⟨u, rfl, ⟨g2, q2, rfl, hg2, hq2, hgq2, hr2, hrq2⟩, hb3⟩; have r3 := rowB_below rB hb3 (rowB_lt rB); have l3 := rowB_lt rB)
                  | (refine wpList_storeR rfl 25 _ _ rfl B rfl #[.slice (some ⟨g2, 0, none⟩) 2 2, .slice (some ⟨q2, 0, none⟩) 32 32] rfl (dev2_one _ _ _ _ _ _) 25 #[.slice (some ⟨g, 0, none⟩) 2 2, .slice (some ⟨q, 0, none⟩) 32 32] rfl ?_ agDv ?_; with_reducible exact r3)
                  | (refine wpList_loadR rfl 25 _ rfl B rfl 25 #[.slice (some ⟨g2, 0, none⟩) 2 2, .slice (some ⟨q2, 0, none⟩) 32 32] ?_ agDv ?_; exact rowB_row r3 _)
                  | (go_at_call 16; refine (HO.out _ _ ⟨g2, q2, rfl, Nat.zero_le _, Nat.zero_le _, hgq2, rowB_row_other hr2 #[.slice (some ⟨g2, 0, none⟩) 2 2, .slice (some ⟨q2, 0, none⟩) 32 32] (show B ≠ g2 by omega), rowB_row_other hrq2 #[.slice (some ⟨g2, 0, none⟩) 2 2, .slice (some ⟨q2, 0, none⟩) 32 32] (show B ≠ q2 by omega)⟩).mono ?_; rintro e w6 ⟨rfl, hb6⟩))
                go_roundw
                case rel => refine ⟨_, _, _, _, _, _, _, _, _, _, _, ?_, rfl⟩; exact ⟨n + 1, g2, q2, by omega, by rw [HC.out], by go_num, rowB_below (rowB_row r3 _) hb6 (rowB_lt (rowB_row r3 _)), rowB_below (rowB_row_other hr2 _ (show B ≠ g2 by omega)) hb6 (rowB_lt (rowB_row_other hr2 _ (show B ≠ g2 by omega))), rowB_below (rowB_row_other hrq2 _ (show B ≠ q2 by omega)) hb6 (rowB_lt (rowB_row_other hrq2 _ (show B ≠ q2 by omega))), ⟨by omega, by omega, hgq2⟩, (below_rowR (hS.trans (hb3.mono (by omega))) _ (Nat.le_refl _)).trans (hb6.mono (by rw [size_row]; have := hb3.size; omega))⟩
                case measure => simp [intOf] <;> omega
              | false =>
                rw [hon, if_neg (by decide), Int.add_zero] at hcnt
                rw [hon] at hcol
                have HC := Lib.hid hcnt
                clear hcnt hon
                go_wp2_with (first
                  | (go_at_call 22; refine hW.mono ?_; rintro e w4 ⟨u, rfl, ⟨g2, q2, rfl, hg2, hq2, hgq2, hr2, hrq2⟩, hb3⟩; have r3 := rowB_below rB hb3 (rowB_lt rB); have l3 := rowB_lt rB)
                  | (refine wpList_storeR rfl 25 _ _ rfl B rfl #[.slice (some ⟨g2, 0, none⟩) 2 2, .slice (some ⟨q2, 0, none⟩) 32 32] rfl (dev2_one _ _ _ _ _ _) 25 #[.slice (some ⟨g, 0, none⟩) 2 2, .slice (some ⟨q, 0, none⟩) 32 32] rfl ?_ agDv ?_; with_reducible exact r3)
                  | (refine wpList_loadR rfl 25 _ rfl B rfl 25 #[.slice (some ⟨g2, 0, none⟩) 2 2, .slice (some ⟨q2, 0, none⟩) 32 32] ?_ agDv ?_; exact rowB_row r3 _)
                  | (go_at_call 16; refine (HO.out _ _ ⟨g2, q2, rfl, Nat.zero_le _, Nat.zero_le _, hgq2, rowB_row_other hr2 #[.slice (some ⟨g2, 0, none⟩) 2 2, .slice (some ⟨q2, 0, none⟩) 32 32] (show B ≠ g2 by omega), rowB_row_other hrq2 #[.slice (some ⟨g2, 0, none⟩) 2 2, .slice (some ⟨q2, 0, none⟩) 32 32] (show B ≠ q2 by omega)⟩).mono ?_; rintro e w6 ⟨rfl, hb6⟩))
                go_roundw
                case rel => refine ⟨_, _, _, _, _, _, _, _, _, _, _, ?_, rfl⟩; exact ⟨n + 1, g2, q2, by omega, by rw [HC.out], by go_num, rowB_below (rowB_row r3 _) hb6 (rowB_lt (rowB_row r3 _)), rowB_below (rowB_row_other hr2 _ (show B ≠ g2 by omega)) hb6 (rowB_lt (rowB_row_other hr2 _ (show B ≠ g2 by omega))), rowB_below (rowB_row_other hrq2 _ (show B ≠ q2 by omega)) hb6 (rowB_lt (rowB_row_other hrq2 _ (show B ≠ q2 by omega))), ⟨by omega, by omega, hgq2⟩, (below_rowR (hS.trans (hb3.mono (by omega))) _ (Nat.le_refl _)).trans (hb6.mono (by rw [size_row]; have := hb3.size; omega))⟩
                case measure => simp [intOf] <;> omega
            · have hd : decide ((n : Int) < 2560) = false := decide_eq_false (by omega)
              obtain rfl : n = 2560 := by omega
              have hall := spN_all bx by'
              have hht := sp_ticks hfS HOK.out hp0 hh0 bx by' bc 2560 (Nat.le_refl _)
              have hreg : (T.ticks 2560).reg 7 = (T.ticks 2560).h := rfl
              rw [hht] at hreg
              obtain ⟨N, hN⟩ : ∃ N, spN x y 2560 = N := ⟨_, rfl⟩
              rw [hN] at hall hreg hbd
              rw [hN]
              obtain ⟨F, hF⟩ : ∃ F : Int, (if 0 < c ∧ 0 < N then 1 else 0) = F := ⟨_, rfl⟩
              rw [hF] at hreg
              have hRd := vidRead_at (lo := 0) hfT 7 F rfl hreg (v := .agg #[.slice (some ⟨g, 0, none⟩) 2 2, .slice (some ⟨q, 0, none⟩) 32 32]) (w := wr) ⟨g, q, rfl, Nat.zero_le _, Nat.zero_le _, hgq, rg, rq⟩
              have HALL := Lib.hid hall
              clear hht hreg hN rg rq hfT hall
              replace bX := bX.trans (hS.mono (by omega))
              go_upto_region 21 with (go_at_call 12; refine hRd.mono ?_; rintro e w7 ⟨u, rfl, ⟨g7, q7, rfl, hg7, hq7, hgq7, hr7, hrq7⟩, hb7⟩)
              replace bX := (bX.trans (hb7.mono bX.size)).alloc (Nat.le_trans bX.size hb7.size) (.cells #[.slice (some ⟨g7, 0, none⟩) 2 2, .slice (some ⟨q7, 0, none⟩) 32 32] 25)
              change Code.wp _ _ _ _ (w7.alloc (.cells #[.slice (some ⟨g7, 0, none⟩) 2 2, .slice (some ⟨q7, 0, none⟩) 32 32] 25))
              generalize w7.alloc (.cells #[.slice (some ⟨g7, 0, none⟩) 2 2, .slice (some ⟨q7, 0, none⟩) 32 32] 25) = w8 at *
              go_upto_region 22 with fail
              have eW : (if 0 < if 48 - x < 8 then 48 - x else 8 then if 48 - x < 8 then 48 - x else 8 else 0) = spW x := by
                unfold spW
                split <;> split <;> (try split) <;> (try split) <;> omega
              have eH : (if 0 < if 32 - y < 8 then 32 - y else 8 then if 32 - y < 8 then 32 - y else 8 else 0) = spH y := by
                unfold spH
                split <;> split <;> (try split) <;> (try split) <;> omega
              rw [eW, eH]
              have wN : wrap64 (spW x * spH y) = N := by rw [← HALL.out]; exact IntWalk.wrap64_in _ (by omega)
              generalize spW x = W at *
              generalize spH y = H at *
              clear eW eH HALL
              generalize (if 48 - x < 8 then 48 - x else 8) = mW
              generalize (if 32 - y < 8 then 32 - y else 8) = mH
              rcases (by omega : c = 0 ∨ c = 1) with rfl | rfl
              · rw [if_neg (by omega)] at hF
                subst hF
                by_cases h0 : 0 < N
                · have hd0 : decide (0 < N) = true := decide_eq_true h0
                  go_wp2_with (go_at_call 26; refine (videosK_any _).mono ?_; rintro e wz ⟨rfl, hbz⟩)
                  go_ret
                  exact ⟨rfl, bX.trans (hbz.mono bX.size)⟩
                · have hd0 : decide (0 < N) = false := decide_eq_false h0
                  go_wp2_with (go_at_call 26; refine (videosK_any _).mono ?_; rintro e wz ⟨rfl, hbz⟩)
                  go_ret
                  exact ⟨rfl, bX.trans (hbz.mono bX.size)⟩
              · by_cases h0 : 0 < N
                · have hd0 : decide (0 < N) = true := decide_eq_true h0
                  rw [if_pos ⟨by decide, h0⟩] at hF
                  subst hF
                  go_wp2_with (go_at_call 26; refine (videosK_any _).mono ?_; rintro e wz ⟨rfl, hbz⟩)
                  go_ret
                  exact ⟨rfl, bX.trans (hbz.mono bX.size)⟩
                · have hd0 : decide (0 < N) = false := decide_eq_false h0
                  rw [if_neg (fun h => h0 h.2)] at hF
                  subst hF
                  go_wp2_with (go_at_call 26; refine (videosK_any _).mono ?_; rintro e wz ⟨rfl, hbz⟩)
                  go_ret
                  exact ⟨rfl, bX.trans (hbz.mono bX.size)⟩
end Go.Proofs.Ytambggbmkeemnaa
