/- The reference's Shade: the color of a position, and whether the sprite hits a cell there. -/
import Derived.Test.YtambggbmkeemnaaChecked
import Derived.Test.YtambggbmkeemnaaDevEq
import Derived.Test.YtambggbmkeemnaaVidMath
import Derived.Below
import Derived.BigQuiet
import Derived.ChangeMaps5
import Derived.Deep.DeepCutAuto
import Derived.Deep.Draws
import Derived.Deep.MidRow
import Derived.Deep.OwnRows
import Derived.Deep.QuietTactic
import Derived.Deep.RegionHeld3
import Derived.Deep.RegionWith
import Derived.Deep.Slices
import Derived.Deep.WholeRow
import Derived.Laws.CopyOwn
import Derived.Lib.Hide
import Derived.Lib.SmallJoins
import Derived.OpenShut
import Derived.OrdersHeld
import Derived.OwnWalk
import Derived.RowKit3
import Derived.StillTactics
import Derived.StillTail
import Derived.StillTailTactics
import Derived.WalkKit
namespace Go.Proofs.Ytambggbmkeemnaa
open Go.RowKit
set_option maxRecDepth 100000

theorem no_next {m : List Int} {p : Int} {k : Nat} (h : ∀ j < k, vmet m p j = false) (hk : vmet m p k = false) : ∀ j < k + 1, vmet m p j = false := fun j hj => by
  by_cases e : j = k
  · rw [e]; exact hk
  · exact h j (by omega)
set_option maxHeartbeats 1000000 in
theorem shade_any (v : Value) (m : List Int) (p : Int) (w : World) (h : isByt w v m) (hl : m.length = 32) (hb : ∀ i, 0 ≤ vreg m i ∧ vreg m i < 256) (hp : 0 ≤ p ∧ p < 2560) :
    Calls Try.prog 39 #[v, .int .i64 p] w fun e w' => e = .returned (.tuple #[.int .i64 (vcol m p), .bool (vhit m p)]) ∧ w = w' := by
  obtain ⟨a, cap, rfl, hf⟩ := isByt_form h
  obtain ⟨b, off, rfl, hbl, hc1, hc2, c0⟩ := hf 0 (by omega)
  have hcell : ∀ i, i < 32 → w.cell? ⟨b, off + i, none⟩ = some (.int .u8 (vreg m i)) := fun i hi => by
    obtain ⟨b', off', e, _, _, _, c⟩ := hf i (by omega)
    cases e
    exact c
  have c1 := hcell 1 (by omega)
  have c2 := hcell 2 (by omega)
  have c3 := hcell 3 (by omega)
  have c4 := hcell 4 (by omega)
  rw [Nat.add_zero] at c0
  obtain ⟨L, hL⟩ : ∃ L, p / 64 = L := ⟨_, rfl⟩
  obtain ⟨D, hD⟩ : ∃ D, p % 64 = D := ⟨_, rfl⟩
  have t1 : p.tdiv 64 = L := (Int.tdiv_eq_ediv_of_nonneg hp.1).trans hL
  have t2 : p.tmod 64 = D := (Int.tmod_eq_emod_of_nonneg hp.1).trans hD
  have b0 := hb 0
  have b1 := hb 1
  have b2 := hb 2
  have b3 := hb 3
  have b4 := hb 4
  have hL2 : 0 ≤ L ∧ L < 40 := by omega
  have hD2 : 0 ≤ D ∧ D < 64 := by omega
  rw [hl]
  obtain ⟨M0, hM0⟩ : ∃ M0, vreg m 0 = M0 := ⟨_, rfl⟩
  have e0 : m.getD 0 0 = M0 := hM0
  rw [e0] at c0
  have u0 : M0.tmod 16 = M0 % 16 := Int.tmod_eq_emod_of_nonneg (by omega)
  by_cases hv : D < 48 ∧ L < 32
  · obtain ⟨hv1, hv2⟩ := hv
    have hvis : vvis p = true := by unfold vvis; rw [hD, hL, decide_eq_true hv1, decide_eq_true hv2]; rfl
    have hJ2 : (8 + L / 8 * 6 + D / 8).toNat < 32 := by omega
    have hcl : vcell m p = vreg m (8 + L / 8 * 6 + D / 8).toNat % 16 := by
      unfold vcell vcellAt
      rw [hL, hD]
    have cJ := hcell _ hJ2
    have bJ := hb (8 + L / 8 * 6 + D / 8).toNat
    obtain ⟨MJ, hMJ⟩ : ∃ MJ, vreg m (8 + L / 8 * 6 + D / 8).toNat = MJ := ⟨_, rfl⟩
    rw [hMJ] at cJ bJ hcl
    clear hMJ
    have uJ : MJ.tmod 16 = MJ % 16 := Int.tmod_eq_emod_of_nonneg bJ.1
    have k1 : L.tdiv 8 = L / 8 := Int.tdiv_eq_ediv_of_nonneg hL2.1
    have k2 : D.tdiv 8 = D / 8 := Int.tdiv_eq_ediv_of_nonneg hD2.1
    have w1 : wrap64 (L / 8 * 6) = L / 8 * 6 := IntWalk.wrap64_in _ (by omega)
    have w2 : wrap64 (8 + L / 8 * 6) = 8 + L / 8 * 6 := IntWalk.wrap64_in _ (by omega)
    have w3 : wrap64 (8 + L / 8 * 6 + D / 8) = 8 + L / 8 * 6 + D / 8 := IntWalk.wrap64_in _ (by omega)
    have hd1 : decide (48 ≤ D) = false := decide_eq_false (by omega)
    have hd2 : decide (32 ≤ L) = false := decide_eq_false (by omega)
    clear hcell hf h
    go_enter Try.func39, Try.ntmps39
    go_upto_region 6 with fail
    clear w1 w2 w3 k1 k2 cJ c0 hd1 hd2
    obtain ⟨X, hX⟩ : ∃ X, vreg m 1 = X := ⟨_, rfl⟩
    obtain ⟨Y, hY⟩ : ∃ Y, vreg m 2 = Y := ⟨_, rfl⟩
    obtain ⟨C, hC⟩ : ∃ C, vreg m 3 = C := ⟨_, rfl⟩
    obtain ⟨F, hF⟩ : ∃ F, vreg m 4 = F := ⟨_, rfl⟩
    have hmet : ∀ k : Nat, vmet m p k = (decide (D = X + k) && ((decide (Y ≤ L) && decide (L < Y + 8)) && decide (128 ≤ F * 2 ^ k % 256))) := fun k => by
      unfold vmet vrow vbit
      rw [hD, hL, hX, hY, hF]
    have hcol : vcol m p = if vcov m p = true then C % 16 else MJ % 16 := by unfold vcol; rw [if_pos hvis, hC, hcl]
    have hhit : vhit m p = (vcov m p && decide (0 < MJ % 16)) := by unfold vhit; rw [hvis, hcl]; rfl
    rw [hX] at b1 c1
    rw [hY] at b2 c2
    rw [hC] at b3 c3
    rw [hF] at b4 c4
    have uC : C.tmod 16 = C % 16 := Int.tmod_eq_emod_of_nonneg b3.1
    have HM := Lib.hid hmet
    have HC := Lib.hid hcol
    have HH := Lib.hid hhit
    clear hmet hcol hhit hX hY hC hF hM0 e0 hvis hcl
    go_loopw [9, 37] (fun x i wr => ∃ k : Nat, k ≤ 8 ∧ i = .int .i64 k ∧ wr = w ∧ ∀ j < k, vmet m p j = false) (fun _ i _ => 8 - (intOf i).toNat)
    case atStart => exact ⟨0, by decide, rfl, rfl, fun j hj => absurd hj (Nat.not_lt_zero j)⟩
    case round =>
      obtain ⟨k, hk, rfl, rfl, hno⟩ := hrel
      have HN := Lib.hid hno
      clear hno
      by_cases hlt : k < 8
      · have hd : decide ((k : Int) < 8) = true := decide_eq_true (by omega)
        have wk : wrap64 (X + k) = X + k := IntWalk.wrap64_in _ (by omega)
        have wy : wrap64 (Y + 8) = Y + 8 := IntWalk.wrap64_in _ (by omega)
        by_cases hA : D = X + k
        · have dA : (D == X + k) = true := by simpa using hA
          by_cases hB : Y ≤ L
          · have dB : decide (Y ≤ L) = true := decide_eq_true hB
            by_cases hC : L < Y + 8
            · have dC : decide (L < Y + 8) = true := decide_eq_true hC
              by_cases hE : 128 ≤ F * 2 ^ k % 256
              · have dE : decide (128 ≤ F * 2 ^ k % 256) = true := decide_eq_true hE
                have hz : vcov m p = true := vcov_met.2 ⟨k, hlt, by rw [HM.out, decide_eq_true hA, dB, dC, dE]; rfl⟩
                have q1 : vcol m p = C % 16 := by rw [HC.out, hz]; rfl
                have q2 : vhit m p = decide (0 < MJ % 16) := by rw [HH.out, hz]; rfl
                go_wp2_with fail
                go_ret2
                exact ⟨by rw [q1, q2]; rfl, rfl⟩
              · have dE : decide (128 ≤ F * 2 ^ k % 256) = false := decide_eq_false hE
                have hz : vmet m p k = false := by rw [HM.out, dE, Bool.and_false, Bool.and_false]
                go_wp2_with fail
                go_roundw
                case rel => exact ⟨k + 1, by omega, by go_num, trivial, no_next HN.out hz⟩
                case measure => simp [intOf]; omega
            · have dC : decide (L < Y + 8) = false := decide_eq_false hC
              have hz : vmet m p k = false := by rw [HM.out, dC, Bool.and_false, Bool.false_and, Bool.and_false]
              go_wp2_with fail
              go_roundw
              case rel => exact ⟨k + 1, by omega, by go_num, trivial, no_next HN.out hz⟩
              case measure => simp [intOf]; omega
          · have dB : decide (Y ≤ L) = false := decide_eq_false hB
            have hz : vmet m p k = false := by rw [HM.out, dB, Bool.false_and, Bool.false_and, Bool.and_false]
            go_wp2_with fail
            go_roundw
            case rel => exact ⟨k + 1, by omega, by go_num, trivial, no_next HN.out hz⟩
            case measure => simp [intOf]; omega
        · have dA : (D == X + k) = false := by simpa using hA
          have hz : vmet m p k = false := by rw [HM.out, decide_eq_false hA, Bool.false_and]
          go_wp2_with fail
          go_roundw
          case rel => exact ⟨k + 1, by omega, by go_num, trivial, no_next HN.out hz⟩
          case measure => simp [intOf]; omega
      · obtain rfl : k = 8 := by omega
        have hv : vcov m p = false := by
          cases hh : vcov m p with
          | false => rfl
          | true =>
            obtain ⟨i, hi, hm⟩ := vcov_met.1 hh
            rw [HN.out i hi] at hm
            cases hm
        have q1 : vcol m p = MJ % 16 := by rw [HC.out, hv]; rfl
        have q2 : vhit m p = false := by rw [HH.out, hv]; rfl
        go_wp2_with fail
        go_ret2
        exact ⟨by rw [q1, q2]; rfl, rfl⟩
  · have hvis : vvis p = false := by unfold vvis; rw [hD, hL]; simp; omega
    have q1 : vcol m p = M0 % 16 := by unfold vcol; rw [if_neg (by rw [hvis]; decide), hM0]
    have q2 : vhit m p = false := by unfold vhit; rw [hvis]; rfl
    rw [q1, q2]
    by_cases hd : 48 ≤ D
    · have hd1 : decide (48 ≤ D) = true := decide_eq_true hd
      clear hcell hf h
      go_enter Try.func39, Try.ntmps39
      go_wp2_with fail
      go_ret2
      exact ⟨rfl, rfl⟩
    · have hd1 : decide (48 ≤ D) = false := decide_eq_false hd
      have hd2 : decide (32 ≤ L) = true := decide_eq_true (by omega)
      clear hcell hf h
      go_enter Try.func39, Try.ntmps39
      go_wp2_with fail
      go_ret2
      exact ⟨rfl, rfl⟩
end Go.Proofs.Ytambggbmkeemnaa
