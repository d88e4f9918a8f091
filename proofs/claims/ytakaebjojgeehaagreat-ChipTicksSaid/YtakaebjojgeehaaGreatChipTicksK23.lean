/- A part of the proof of ChipTicks: VidC. -/
import Derived.Test.YtakaebjojgeehaaGreatChipTicksK01
import Derived.Test.YtakaebjojgeehaaGreatChipTicksK02
import Derived.Test.YtakaebjojgeehaaGreatChipTicksK04
import Derived.Test.YtakaebjojgeehaaGreatChipTicksK05
import Derived.Below
import Derived.BigQuiet
import Derived.ChangeMaps5
import Derived.Deep.DeepCutAuto
import Derived.Deep.Draws
import Derived.Deep.MidRow
import Derived.Deep.OwnRows
import Derived.Deep.QuietTactic
import Derived.Deep.RegionHeld3
import Derived.Deep.RegionWith
import Derived.Deep.Slices
import Derived.Deep.WholeRow
import Derived.Laws.CopyOwn
import Derived.Lib.Hide
import Derived.Lib.SmallJoins
import Derived.OpenShut
import Derived.OrdersHeld
import Derived.OwnWalk
import Derived.RowKit3
import Derived.StillTactics
import Derived.StillTail
import Derived.StillTailTactics
import Derived.Test.YtakaebjojgeehaaGreatChecked
import Derived.WalkKit
namespace Go.Proofs.YtakaebjojgeehaaGreat
open Go.RowKit
set_option maxRecDepth 100000
/-- The cells of a state. -/
def Vd.cs (s : Vd) : Array Value := (Value.int .i64 s.p :: Value.int .i64 s.h :: s.m.map (Value.int .u8)).toArray
theorem Vd.cs_reg {s : Vd} (hl : s.m.length = 32) (i : Nat) (hi : i < 32) : s.cs[2 + i]? = some (.int .u8 (vreg s.m i)) := by
  unfold Vd.cs vreg
  rw [List.getElem?_toArray, Nat.add_comm 2 i, List.getElem?_cons_succ, List.getElem?_cons_succ, List.getElem?_map, List.getElem?_eq_getElem (by omega), List.getD_eq_getElem?_getD, List.getElem?_eq_getElem (by omega)]
  rfl
theorem vidReg_any (s : Vd) (g : Nat) (i : Int) (w : World) (h : rowB w g 91 s.cs) (hs : s.fit) (hi : 0 ≤ i ∧ i < 32) :
    Calls Tryz.prog 115 #[.pointer (some ⟨g, 0, none⟩), .int .i64 i] w fun e w' => e = .returned (.int .i64 (vreg s.m i.toNat)) ∧ w = w' := by
  have c := rowB_cell h (2 + i.toNat) (Vd.cs_reg hs.m i.toNat (by omega))
  have hb := hs.b i.toNat
  have hg := rowB_lt h
  generalize vreg s.m i.toNat = x at *
  obtain ⟨n, rfl⟩ : ∃ n : Nat, i = n := ⟨i.toNat, by omega⟩
  rw [Int.toNat_natCast] at c
  have hn : n < 32 := by omega
  have wx : wrap64 x = x := IntWalk.wrap64_in _ (by omega)
  go_enter Tryz.func115, Tryz.ntmps115
  go_wp2_with fail
  go_ret
  exact ⟨rfl, rfl⟩
theorem visible_any (p : Int) (w : World) (hp : 0 ≤ p ∧ p < 2560) :
    Calls Tryz.prog 128 #[.int .i64 p] w fun e w' => e = .returned (.bool (vvis p)) ∧ w = w' := by
  obtain ⟨L, hL⟩ : ∃ L, p / 64 = L := ⟨_, rfl⟩
  obtain ⟨D, hD⟩ : ∃ D, p % 64 = D := ⟨_, rfl⟩
  have t1 : p.tdiv 64 = L := (Int.tdiv_eq_ediv_of_nonneg hp.1).trans hL
  have t2 : p.tmod 64 = D := (Int.tmod_eq_emod_of_nonneg hp.1).trans hD
  unfold vvis
  rw [hL, hD]
  by_cases hd : D < 48
  · have d1 : decide (D < 48) = true := decide_eq_true hd
    rw [d1, Bool.true_and]
    obtain ⟨B, hB⟩ : ∃ B, decide (L < 32) = B := ⟨_, rfl⟩
    rw [hB]
    go_enter Tryz.func128, Tryz.ntmps128
    go_wp2_with fail
    go_ret
    exact ⟨rfl, rfl⟩
  · have d1 : decide (D < 48) = false := decide_eq_false hd
    rw [d1, Bool.false_and]
    go_enter Tryz.func128, Tryz.ntmps128
    go_wp2_with fail
    go_ret
    exact ⟨rfl, rfl⟩
theorem vidCell_any (s : Vd) (g : Nat) (p : Int) (w : World) (h : rowB w g 91 s.cs) (hs : s.fit) (hp : 0 ≤ p ∧ p < 2560) (hv : vvis p = true) :
    Calls Tryz.prog 130 #[.pointer (some ⟨g, 0, none⟩), .int .i64 p] w fun e w' => e = .returned (.int .i64 (vreg s.m (vcellAt p).toNat)) ∧ w = w' := by
  unfold vvis at hv
  unfold vcellAt
  obtain ⟨L, hL⟩ : ∃ L, p / 64 = L := ⟨_, rfl⟩
  obtain ⟨D, hD⟩ : ∃ D, p % 64 = D := ⟨_, rfl⟩
  have t1 : p.tdiv 64 = L := (Int.tdiv_eq_ediv_of_nonneg hp.1).trans hL
  have t2 : p.tmod 64 = D := (Int.tmod_eq_emod_of_nonneg hp.1).trans hD
  rw [hL, hD] at hv ⊢
  simp only [Bool.and_eq_true, decide_eq_true_eq] at hv
  have hL2 : 0 ≤ L ∧ L < 40 := by omega
  have hD2 : 0 ≤ D ∧ D < 64 := by omega
  have k1 : L.tdiv 8 = L / 8 := Int.tdiv_eq_ediv_of_nonneg hL2.1
  have k2 : D.tdiv 8 = D / 8 := Int.tdiv_eq_ediv_of_nonneg hD2.1
  have w1 : wrap64 (6 * (L / 8)) = 6 * (L / 8) := IntWalk.wrap64_in _ (by omega)
  have w2 : wrap64 (8 + 6 * (L / 8)) = 8 + 6 * (L / 8) := IntWalk.wrap64_in _ (by omega)
  have w3 : wrap64 (8 + 6 * (L / 8) + D / 8) = 8 + 6 * (L / 8) + D / 8 := IntWalk.wrap64_in _ (by omega)
  have hR := vidReg_any s g (8 + 6 * (L / 8) + D / 8) w h hs (by omega)
  rw [show 8 + L / 8 * 6 + D / 8 = 8 + 6 * (L / 8) + D / 8 by omega]
  generalize vreg s.m (8 + 6 * (L / 8) + D / 8).toNat = x at *
  clear hL hD hv h hs
  go_enter Tryz.func130, Tryz.ntmps130
  go_wp2_with (go_at_call 115; refine hR.mono ?_; rintro e w' ⟨rfl, rfl⟩)
  go_ret
  exact ⟨rfl, rfl⟩
/-- Has the sprite dots in a line? -/
def vcrs (m : List Int) (L : Int) : Bool := decide (0 ≤ L - vreg m 2) && (decide (L - vreg m 2 < 8) && decide (vreg m 4 ≠ 0))
theorem vidCrosses_any (s : Vd) (g : Nat) (L : Int) (w : World) (h : rowB w g 91 s.cs) (hs : s.fit) (hL : 0 ≤ L ∧ L < 40) :
    Calls Tryz.prog 155 #[.pointer (some ⟨g, 0, none⟩), .int .i64 L] w fun e w' => e = .returned (.bool (vcrs s.m L)) ∧ w = w' := by
  have hY := vidReg_any s g 2 w h hs (by decide)
  have hF := vidReg_any s g 4 w h hs (by decide)
  rw [show ((2 : Int).toNat) = 2 from rfl] at hY
  rw [show ((4 : Int).toNat) = 4 from rfl] at hF
  have bY := hs.b 2
  have bF := hs.b 4
  unfold vcrs
  generalize vreg s.m 2 = Y at *
  generalize vreg s.m 4 = F at *
  have wy : wrap64 (L - Y) = L - Y := IntWalk.wrap64_in _ (by omega)
  obtain ⟨E, hE⟩ : ∃ E, L - Y = E := ⟨_, rfl⟩
  rw [hE] at wy ⊢
  clear h hs
  by_cases h0 : 0 ≤ E
  · have d0 : decide (0 ≤ E) = true := decide_eq_true h0
    rw [d0, Bool.true_and]
    by_cases h8 : E < 8
    · have d8 : decide (E < 8) = true := decide_eq_true h8
      rw [d8, Bool.true_and]
      obtain ⟨B, hB⟩ : ∃ B, decide (F ≠ 0) = B := ⟨_, rfl⟩
      have hB' : (F != 0) = B := by rw [← hB]; by_cases e : F = 0 <;> simp [e]
      rw [hB]
      clear hB
      go_enter Tryz.func155, Tryz.ntmps155
      go_wp2_with (first
        | (go_at_call_of 115 (Value.int .i64 2); refine hY.mono ?_; rintro e w' ⟨rfl, rfl⟩)
        | (go_at_call_of 115 (Value.int .i64 4); refine hF.mono ?_; rintro e w' ⟨rfl, rfl⟩))
      go_ret
      exact ⟨rfl, rfl⟩
    · have d8 : decide (E < 8) = false := decide_eq_false h8
      rw [d8, Bool.false_and]
      go_enter Tryz.func155, Tryz.ntmps155
      go_wp2_with (first
        | (go_at_call_of 115 (Value.int .i64 2); refine hY.mono ?_; rintro e w' ⟨rfl, rfl⟩))
      go_ret
      exact ⟨rfl, rfl⟩
  · have d0 : decide (0 ≤ E) = false := decide_eq_false h0
    rw [d0, Bool.false_and]
    go_enter Tryz.func155, Tryz.ntmps155
    go_wp2_with (first
      | (go_at_call_of 115 (Value.int .i64 2); refine hY.mono ?_; rintro e w' ⟨rfl, rfl⟩))
    go_ret
    exact ⟨rfl, rfl⟩
theorem vbit_get (F : Int) (_hF : 0 ≤ F ∧ F < 256) (i : Nat) (hi : i < 8) : decide (128 ≤ F * 2 ^ i % 256) = (F / 2 ^ (7 - i) % 2 == 1) := by
  have : (128 ≤ F * 2 ^ i % 256) ↔ F / 2 ^ (7 - i) % 2 = 1 := by
    rcases (by omega : i = 0 ∨ i = 1 ∨ i = 2 ∨ i = 3 ∨ i = 4 ∨ i = 5 ∨ i = 6 ∨ i = 7) with rfl | rfl | rfl | rfl | rfl | rfl | rfl | rfl <;> simp <;> omega
  by_cases h : 128 ≤ F * 2 ^ i % 256
  · rw [decide_eq_true h, beq_iff_eq.2 (this.1 h)]
  · rw [decide_eq_false h, beq_eq_false_iff_ne.2 (fun e => h (this.2 e))]
theorem vcov_none {m : List Int} {p : Int} (h : vcrs m (p / 64) = false) : vcov m p = false := by
  cases hc : vcov m p with
  | false => rfl
  | true =>
    exfalso
    unfold vcov vrow vbit at hc
    unfold vcrs at h
    simp only [Bool.and_eq_true, decide_eq_true_eq] at hc
    obtain ⟨_, ⟨h1, h2⟩, h3⟩ := hc
    have hF : vreg m 4 ≠ 0 := fun e => by rw [e, Int.zero_mul] at h3; exact absurd h3 (by decide)
    rw [decide_eq_true (show 0 ≤ p / 64 - vreg m 2 by omega), decide_eq_true (show p / 64 - vreg m 2 < 8 by omega), decide_eq_true hF] at h
    cases h
theorem vcov_some {m : List Int} {p : Int} (h : vcrs m (p / 64) = true) : vcov m p = (decide (0 ≤ p % 64 - vreg m 1) && (decide (p % 64 - vreg m 1 < 8) && decide (128 ≤ vreg m 4 * 2 ^ (p % 64 - vreg m 1).toNat % 256))) := by
  unfold vcrs at h
  simp only [Bool.and_eq_true, decide_eq_true_eq] at h
  unfold vcov vrow vbit
  rw [decide_eq_true (show vreg m 2 ≤ p / 64 by omega), decide_eq_true (show p / 64 < vreg m 2 + 8 by omega)]
  have e1 : decide (vreg m 1 ≤ p % 64) = decide (0 ≤ p % 64 - vreg m 1) := by by_cases h : vreg m 1 ≤ p % 64 <;> simp [h] <;> omega
  have e2 : decide (p % 64 < vreg m 1 + 8) = decide (p % 64 - vreg m 1 < 8) := by by_cases h : p % 64 < vreg m 1 + 8 <;> simp [h] <;> omega
  rw [e1, e2, Bool.and_self, Bool.true_and, Bool.and_assoc]
theorem vidCovers_any (s : Vd) (g : Nat) (p : Int) (w : World) (h : rowB w g 91 s.cs) (hs : s.fit) (hp : 0 ≤ p ∧ p < 2560) :
    Calls Tryz.prog 129 #[.pointer (some ⟨g, 0, none⟩), .int .i64 p] w fun e w' => e = .returned (.bool (vcov s.m p)) ∧ w = w' := by
  have hC := vidCrosses_any s g (p / 64) w h hs (by omega)
  have hX := vidReg_any s g 1 w h hs (by decide)
  have hF := vidReg_any s g 4 w h hs (by decide)
  rw [show ((1 : Int).toNat) = 1 from rfl] at hX
  rw [show ((4 : Int).toNat) = 4 from rfl] at hF
  have bX := hs.b 1
  have bF := hs.b 4
  have q0 := @vcov_none s.m p
  have q1 := @vcov_some s.m p
  generalize vreg s.m 1 = X at *
  generalize vreg s.m 4 = F at *
  generalize vcov s.m p = V at *
  generalize vcrs s.m (p / 64) = C at *
  obtain ⟨L, hL⟩ : ∃ L, p / 64 = L := ⟨_, rfl⟩
  obtain ⟨D, hD⟩ : ∃ D, p % 64 = D := ⟨_, rfl⟩
  have t1 : p.tdiv 64 = L := (Int.tdiv_eq_ediv_of_nonneg hp.1).trans hL
  have t2 : p.tmod 64 = D := (Int.tmod_eq_emod_of_nonneg hp.1).trans hD
  rw [hL] at hC
  rw [hD] at q1
  have hD2 : 0 ≤ D ∧ D < 64 := by omega
  have wL : wrap64 L = L := IntWalk.wrap64_in _ (by omega)
  clear hL hD h hs
  cases C with
  | false =>
    obtain rfl := q0 rfl
    clear q0 q1
    go_enter Tryz.func129, Tryz.ntmps129
    go_wp2_with (go_at_call 155; refine hC.mono ?_; rintro e w' ⟨rfl, rfl⟩)
    go_ret
    exact ⟨rfl, rfl⟩
  | true =>
    have hV := q1 rfl
    clear q0 q1
    have wx : wrap64 (D - X) = D - X := IntWalk.wrap64_in _ (by omega)
    obtain ⟨E, hE⟩ : ∃ E, D - X = E := ⟨_, rfl⟩
    rw [hE] at wx hV
    by_cases h0 : 0 ≤ E
    · have d0 : decide (0 ≤ E) = true := decide_eq_true h0
      rw [d0, Bool.true_and] at hV
      by_cases h8 : E < 8
      · have d8 : decide (E < 8) = true := decide_eq_true h8
        rw [d8, Bool.true_and, vbit_get F bF _ (by omega)] at hV
        obtain ⟨K, hK⟩ : ∃ K : Nat, 7 - E.toNat = K := ⟨_, rfl⟩
        have wk : wrap64 (7 - E) = 7 - E := IntWalk.wrap64_in _ (by omega)
        have hG := getBit_any K (by omega) F w
        rw [show (K : Int) = 7 - E by omega] at hG
        rw [hK] at hV
        generalize F / 2 ^ K % 2 = G at *
        go_enter Tryz.func129, Tryz.ntmps129
        go_wp2_with (first
          | (go_at_call 155; refine hC.mono ?_; rintro e w' ⟨rfl, rfl⟩)
          | (go_at_call_of 115 (Value.int .i64 1); refine hX.mono ?_; rintro e w' ⟨rfl, rfl⟩)
          | (go_at_call_of 115 (Value.int .i64 4); refine hF.mono ?_; rintro e w' ⟨rfl, rfl⟩)
          | (go_at_call 112; refine hG.mono ?_; rintro e w' ⟨rfl, rfl⟩))
        go_ret
        exact ⟨by rw [hV]; rfl, rfl⟩
      · have d8 : decide (E < 8) = false := decide_eq_false h8
        rw [d8, Bool.false_and] at hV
        subst hV
        go_enter Tryz.func129, Tryz.ntmps129
        go_wp2_with (first
          | (go_at_call 155; refine hC.mono ?_; rintro e w' ⟨rfl, rfl⟩)
          | (go_at_call_of 115 (Value.int .i64 1); refine hX.mono ?_; rintro e w' ⟨rfl, rfl⟩))
        go_ret
        exact ⟨rfl, rfl⟩
    · have d0 : decide (0 ≤ E) = false := decide_eq_false h0
      rw [d0, Bool.false_and] at hV
      subst hV
      go_enter Tryz.func129, Tryz.ntmps129
      go_wp2_with (first
        | (go_at_call 155; refine hC.mono ?_; rintro e w' ⟨rfl, rfl⟩)
        | (go_at_call_of 115 (Value.int .i64 1); refine hX.mono ?_; rintro e w' ⟨rfl, rfl⟩))
      go_ret
      exact ⟨rfl, rfl⟩
theorem vidHits_any (s : Vd) (g : Nat) (p : Int) (w : World) (h : rowB w g 91 s.cs) (hs : s.fit) (hp : 0 ≤ p ∧ p < 2560) :
    Calls Tryz.prog 87 #[.pointer (some ⟨g, 0, none⟩), .int .i64 p] w fun e w' => e = .returned (.bool (vhit s.m p)) ∧ w = w' := by
  have hV := visible_any p w hp
  have hC := vidCovers_any s g p w h hs hp
  have hB := vidCell_any s g p w h hs hp
  unfold vhit
  generalize vvis p = V at *
  cases V with
  | false =>
    rw [Bool.false_and]
    go_enter Tryz.func87, Tryz.ntmps87
    go_wp2_with (go_at_call 128; refine hV.mono ?_; rintro e w' ⟨rfl, rfl⟩)
    go_ret
    exact ⟨rfl, rfl⟩
  | true =>
    rw [Bool.true_and]
    replace hB := hB rfl
    generalize vcov s.m p = C at *
    cases C with
    | false =>
      rw [Bool.false_and]
      go_enter Tryz.func87, Tryz.ntmps87
      go_wp2_with (first
        | (go_at_call 128; refine hV.mono ?_; rintro e w' ⟨rfl, rfl⟩)
        | (go_at_call 129; refine hC.mono ?_; rintro e w' ⟨rfl, rfl⟩))
      go_ret
      exact ⟨rfl, rfl⟩
    | true =>
      rw [Bool.true_and]
      have hq : vcell s.m p = lo (vreg s.m (vcellAt p).toNat) 4 := rfl
      rw [hq]
      have hLw := low_any (vreg s.m (vcellAt p).toNat) 4 w
      rw [show wd 4 = 4 from rfl] at hLw
      have hn := lo_nonneg (vreg s.m (vcellAt p).toNat) 4
      generalize lo (vreg s.m (vcellAt p).toNat) 4 = Z at *
      generalize vreg s.m (vcellAt p).toNat = Y at *
      have hZ : (Z != 0) = decide (0 < Z) := by
        by_cases e : Z = 0
        · rw [e]; rfl
        · rw [decide_eq_true (show 0 < Z by omega)]; exact bne_iff_ne.2 e
      go_enter Tryz.func87, Tryz.ntmps87
      go_wp2_with (first
        | (go_at_call 128; refine hV.mono ?_; rintro e w' ⟨rfl, rfl⟩)
        | (go_at_call 129; refine hC.mono ?_; rintro e w' ⟨rfl, rfl⟩)
        | (go_at_call 130; refine hB.mono ?_; rintro e w' ⟨rfl, rfl⟩)
        | (go_at_call 83; refine hLw.mono ?_; rintro e w' ⟨rfl, rfl⟩))
      go_ret
      exact ⟨by first | rfl | rw [hZ], rfl⟩
/-- So many positions from one on have the same color, and of them each or none hits a cell. -/
def valike (m : List Int) (p : Int) : Int := if 32 ≤ p / 64 then 2560 - p else if 48 ≤ p % 64 then 64 - p % 64 else if vcrs m (p / 64) = true then 1 else 8 - p % 64 % 8
theorem vidAlike_any (s : Vd) (g : Nat) (p : Int) (w : World) (h : rowB w g 91 s.cs) (hs : s.fit) (hp : 0 ≤ p ∧ p < 2560) :
    Calls Tryz.prog 127 #[.pointer (some ⟨g, 0, none⟩), .int .i64 p] w fun e w' => e = .returned (.int .i64 (valike s.m p)) ∧ w = w' := by
  have hC := vidCrosses_any s g (p / 64) w h hs (by omega)
  unfold valike
  generalize vcrs s.m (p / 64) = C at *
  obtain ⟨L, hL⟩ : ∃ L, p / 64 = L := ⟨_, rfl⟩
  obtain ⟨D, hD⟩ : ∃ D, p % 64 = D := ⟨_, rfl⟩
  have t1 : p.tdiv 64 = L := (Int.tdiv_eq_ediv_of_nonneg hp.1).trans hL
  have t2 : p.tmod 64 = D := (Int.tmod_eq_emod_of_nonneg hp.1).trans hD
  rw [hL] at hC ⊢
  rw [hD]
  have hD2 : 0 ≤ D ∧ D < 64 := by omega
  have wL : wrap64 L = L := IntWalk.wrap64_in _ (by omega)
  clear hL hD h hs
  have w1 : wrap64 (2560 - p) = 2560 - p := IntWalk.wrap64_in _ (by omega)
  have w2 : wrap64 (64 - D) = 64 - D := IntWalk.wrap64_in _ (by omega)
  have w3 : wrap64 (8 - D % 8) = 8 - D % 8 := IntWalk.wrap64_in _ (by omega)
  by_cases h1 : 32 ≤ L
  · rw [if_pos h1]
    have d1 : decide (32 ≤ L) = true := decide_eq_true h1
    go_enter Tryz.func127, Tryz.ntmps127
    go_wp2_with fail
    go_ret
    exact ⟨rfl, rfl⟩
  · rw [if_neg h1]
    have d1 : decide (32 ≤ L) = false := decide_eq_false h1
    by_cases h2 : 48 ≤ D
    · rw [if_pos h2]
      have d2 : decide (48 ≤ D) = true := decide_eq_true h2
      go_enter Tryz.func127, Tryz.ntmps127
      go_wp2_with fail
      go_ret
      exact ⟨rfl, rfl⟩
    · rw [if_neg h2]
      have d2 : decide (48 ≤ D) = false := decide_eq_false h2
      have t3 : D.tmod 8 = D % 8 := Int.tmod_eq_emod_of_nonneg hD2.1
      cases C with
      | true =>
        rw [if_pos rfl]
        go_enter Tryz.func127, Tryz.ntmps127
        go_wp2_with (go_at_call 155; refine hC.mono ?_; rintro e w' ⟨rfl, rfl⟩)
        go_ret
        exact ⟨rfl, rfl⟩
      | false =>
        rw [if_neg (by decide)]
        go_enter Tryz.func127, Tryz.ntmps127
        go_wp2_with (go_at_call 155; refine hC.mono ?_; rintro e w' ⟨rfl, rfl⟩)
        go_ret
        exact ⟨rfl, rfl⟩
end Go.Proofs.YtakaebjojgeehaaGreat
