/- The walk of the law SoundFades. -/
import Derived.Test.YtbpjkdigihpohaaBitWalksB
import Derived.Test.YtbpjkdigihpohaaChecked
import Derived.Test.YtbpjkdigihpohaaSndKeep
import Derived.Below
import Derived.BigQuiet
import Derived.ChangeMaps5
import Derived.Deep.AppendSrc
import Derived.Deep.DeepCutAuto
import Derived.Deep.Draws
import Derived.Deep.MidRow
import Derived.Deep.OwnRows
import Derived.Deep.QuietTactic
import Derived.Deep.RegionHeld3
import Derived.Deep.RegionWith
import Derived.Deep.Slices
import Derived.Deep.WholeRow
import Derived.Lib.Hide
import Derived.Lib.SmallJoins
import Derived.OpenShut
import Derived.OrdersHeld
import Derived.OwnWalk
import Derived.RowKit3
import Derived.StillTactics
import Derived.StillTail
import Derived.StillTailTactics
import Derived.WalkKit
namespace Go.Proofs.Ytbpjkdigihpohaa
open Go.RowKit
set_option maxRecDepth 100000

theorem Sn.fades (v r : Int) (hv : 0 < v ∧ v < 16) (hr : 0 < r ∧ r < 41) :
    ((⟨⟨0, v, r, 0, 0, 0⟩, Vc.zero⟩ : Sn).skip (64 * r * v - 1)).reg 2 = 1 ∧ ((⟨⟨0, v, r, 0, 0, 0⟩, Vc.zero⟩ : Sn).skip (64 * r * v)).reg 2 = 0 ∧
      ((⟨⟨0, v, r, 0, 0, 0⟩, Vc.zero⟩ : Sn).skip (64 * r * v - 1)).fit ∧ ((⟨⟨0, v, r, 0, 0, 0⟩, Vc.zero⟩ : Sn).skip (64 * r * v)).fit := by
  have hf := Vc.fades v r hv ⟨hr.1, by omega⟩
  have hfit : (⟨⟨0, v, r, 0, 0, 0⟩, Vc.zero⟩ : Sn).fit := ⟨⟨by dsimp only; omega, by dsimp only; omega, by dsimp only; omega, by dsimp only; omega, by dsimp only; omega, by dsimp only; omega⟩, Vc.zero_fit⟩
  have hpos : 0 < 64 * r * v := Int.mul_pos (by omega) hv.1
  have hle : 64 * r * v ≤ 64 * r * 15 := Int.mul_le_mul_of_nonneg_left (by omega) (by omega)
  have e1 := Sn.skip_ticks hfit (64 * r * v - 1).toNat (by omega)
  have e2 := Sn.skip_ticks hfit (64 * r * v).toNat (by omega)
  rw [Int.toNat_of_nonneg (by omega)] at e1 e2
  have f1 := Sn.ticks_fit hfit (64 * r * v - 1).toNat
  have f2 := Sn.ticks_fit hfit (64 * r * v).toNat
  rw [e1, e2]
  refine ⟨?_, ?_, f1, f2⟩
  · rw [Sn.ticks_ab]; exact hf.1
  · rw [Sn.ticks_ab]; exact hf.2
set_option maxHeartbeats 1000000 in
theorem soundFades_walk (a b : Int) (w : World) (ha : -9223372036854775808 ≤ a ∧ a ≤ 9223372036854775807) (hb : -9223372036854775808 ≤ b ∧ b ≤ 9223372036854775807) :
    Calls Try.prog 5 #[.int .i64 a, .int .i64 b] w fun e w' => e = .returned (.bool true) ∧ Below w.heap.size w w' := by
  have hbl1 := fun w => below_any a 15 ha (by decide) w
  have hbl2 := fun w => below_any b 40 hb (by decide) w
  obtain ⟨A, hA⟩ : ∃ A, a % 15 = A := ⟨_, rfl⟩
  obtain ⟨B, hB⟩ : ∃ B, b % 40 = B := ⟨_, rfl⟩
  rw [hA] at hbl1
  rw [hB] at hbl2
  have hA0 : 0 ≤ A ∧ A < 15 := by omega
  have hB0 : 0 ≤ B ∧ B < 40 := by omega
  clear hA hB ha hb
  obtain ⟨V, hV⟩ : ∃ V, 1 + A = V := ⟨_, rfl⟩
  obtain ⟨R, hR⟩ : ∃ R, 1 + B = R := ⟨_, rfl⟩
  have wA : wrap64 (1 + A) = V := (IntWalk.wrap64_in _ (by omega)).trans hV
  have wB : wrap64 (1 + B) = R := (IntWalk.wrap64_in _ (by omega)).trans hR
  have hV0 : 0 < V ∧ V < 16 := by omega
  have hR0 : 0 < R ∧ R < 41 := by omega
  clear hV hR hA0 hB0
  have q1 : Sn.zero.write 3 R = ⟨⟨0, 0, R, 0, 0, 0⟩, Vc.zero⟩ := by
    have e : Sn.zero.write 3 R = ⟨⟨0, 0, R % 256, 0, 0, 0⟩, Vc.zero⟩ := rfl
    rw [e, show R % 256 = R by omega]
  have f1 : (⟨⟨0, 0, R, 0, 0, 0⟩, Vc.zero⟩ : Sn).fit := by rw [← q1]; exact Sn.write_fit Sn.zero_fit 3 R
  have q2 : (⟨⟨0, 0, R, 0, 0, 0⟩, Vc.zero⟩ : Sn).write 2 V = ⟨⟨0, V, R, 0, 0, 0⟩, Vc.zero⟩ := by
    have e : (⟨⟨0, 0, R, 0, 0, 0⟩, Vc.zero⟩ : Sn).write 2 V = ⟨⟨0, V % 16, R, 0, 0, 0⟩, Vc.zero⟩ := rfl
    rw [e, show V % 16 = V by omega]
  have f2 : (⟨⟨0, V, R, 0, 0, 0⟩, Vc.zero⟩ : Sn).fit := by rw [← q2]; exact Sn.write_fit f1 2 V
  obtain ⟨r1, r2, f3, f4⟩ := Sn.fades V R hV0 hR0
  have hpos : 0 < 64 * R * V := Int.mul_pos (by omega) hV0.1
  have hle : 64 * R * V ≤ 64 * R * 15 := Int.mul_le_mul_of_nonneg_left (by omega) (by omega)
  have w1 : wrap64 (64 * R) = 64 * R := IntWalk.wrap64_in _ (by omega)
  obtain ⟨E, hE⟩ : ∃ E, 64 * R * V = E := ⟨_, rfl⟩
  have w2 : wrap64 (64 * R * V) = E := (IntWalk.wrap64_in _ (by omega)).trans hE
  rw [hE] at r1 r2 f3 f4
  have hE0 : 0 < E ∧ E ≤ 38400 := by omega
  have w3 : wrap64 (E - 1) = E - 1 := IntWalk.wrap64_in _ (by omega)
  obtain ⟨T1, hT1⟩ : ∃ T1, (⟨⟨0, V, R, 0, 0, 0⟩, Vc.zero⟩ : Sn).skip (E - 1) = T1 := ⟨_, rfl⟩
  obtain ⟨T2, hT2⟩ : ∃ T2, (⟨⟨0, V, R, 0, 0, 0⟩, Vc.zero⟩ : Sn).skip E = T2 := ⟨_, rfl⟩
  rw [hT1] at r1 f3
  rw [hT2] at r2 f4
  have HQ1 := Lib.hid q1
  have HQ2 := Lib.hid q2
  have HT1 := Lib.hid hT1
  have HT2 := Lib.hid hT2
  have HR1 := Lib.hid r1
  have HR2 := Lib.hid r2
  clear hE hpos hle q1 q2 hT1 hT2 r1 r2
  go_enter Try.func5, Try.ntmps5
  go_upto_region 3 with (first
    | (go_at_call 23; with_reducible refine (hbl1 _).mono ?_; rintro e wx ⟨rfl, rfl⟩)
    | (go_at_call 23; with_reducible refine (hbl2 _).mono ?_; rintro e wx ⟨rfl, rfl⟩)
    | (go_at_call 13; refine (sndWrite_at f1 2 V HQ2.out hr2).mono ?_; rintro e v3 ⟨g3, rfl, hkg3, hr3, hb3⟩)
    | (go_at_call 13; refine (sndWrite_at Sn.zero_fit 3 R HQ1.out hr1).mono ?_; rintro e v2 ⟨g2, rfl, hkg2, hr2, hb2⟩)
    | (go_at_call 9; refine (sndNew_at _).mono ?_; rintro e v1 ⟨g1, rfl, hkg1, hr1, hb1⟩)
  )
  change Code.wp _ _ _ _ (v3.alloc (.cells #[.slice (some ⟨g3, 0, none⟩) 12 12, .slice none 0 0] 25))
  have z1 := hb1.size
  have z2 := hb2.size
  have bX := ((hb1.trans (hb2.mono z1)).trans (hb3.mono (by omega)))
  have hle := bX.size
  replace bX := bX.alloc hle (.cells #[.slice (some ⟨g3, 0, none⟩) 12 12, .slice none 0 0] 25)
  have rB := rowB_new v3 25 #[.slice (some ⟨g3, 0, none⟩) 12 12, .slice none 0 0]
  have hr := rowB_alloc hr3 (.cells #[.slice (some ⟨g3, 0, none⟩) 12 12, .slice none 0 0] 25)
  generalize v3.alloc (.cells #[.slice (some ⟨g3, 0, none⟩) 12 12, .slice none 0 0] 25) = vA at *
  generalize v3.heap.size = B at *
  clear hb1 hb2 hb3 hr1 hr2 hr3 hkg1 hkg2 hkg3 z1 z2
  obtain ⟨c0, c1, _, _⟩ := dcells2 rB
  go_upto_region 5 with (first
    | (go_at_call 22; refine (sndSkip_at f2 (E - 1) (by omega) HT1.out hr).mono ?_; rintro e v4 ⟨g4, rfl, hkg4, hr4, hb4⟩)
    | (go_at_call 11; refine (sndRead_at f3 2 HR1.out hr4).mono ?_; rintro e v5 ⟨g5, rfl, hkg5, hr5, hb5⟩)
  )
  change Code.wp _ _ _ _ (v5.alloc (.cells #[.slice (some ⟨g5, 0, none⟩) 12 12, .slice none 0 0] 25))
  have z4 := hb4.size
  have bY := hb4.trans (hb5.mono z4)
  replace bY := bY.alloc bY.size (.cells #[.slice (some ⟨g5, 0, none⟩) 12 12, .slice none 0 0] 25)
  generalize v5.alloc (.cells #[.slice (some ⟨g5, 0, none⟩) 12 12, .slice none 0 0] 25) = vB at *
  replace rB := rowB_below rB bY (rowB_lt rB)
  replace hr := rowB_below hr bY (rowB_lt hr)
  replace bX := bX.trans (bY.mono bX.size)
  clear c0 c1 hb4 hb5 hr4 hr5 hkg4 hkg5 z4 bY
  obtain ⟨c0, c1, _, _⟩ := dcells2 rB
  go_upto_region 6 with (first
    | (go_at_call 22; refine (sndSkip_at f2 E (by omega) HT2.out hr).mono ?_; rintro e v6 ⟨g6, rfl, hkg6, hr6, hb6⟩)
    | (go_at_call 11; refine (sndRead_at f4 2 HR2.out hr6).mono ?_; rintro e v7 ⟨g7, rfl, hkg7, hr7, hb7⟩)
  )
  change Code.wp _ _ _ _ (v7.alloc (.cells #[.slice (some ⟨g7, 0, none⟩) 12 12, .slice none 0 0] 25))
  have z6 := hb6.size
  have bY := hb6.trans (hb7.mono z6)
  replace bY := bY.alloc bY.size (.cells #[.slice (some ⟨g7, 0, none⟩) 12 12, .slice none 0 0] 25)
  generalize v7.alloc (.cells #[.slice (some ⟨g7, 0, none⟩) 12 12, .slice none 0 0] 25) = vC at *
  replace bX := bX.trans (bY.mono bX.size)
  go_wp2_with (go_at_call 24; refine (soundsK_any _).mono ?_; rintro e wY ⟨rfl, hbY⟩)
  go_ret
  exact ⟨rfl, bX.trans (hbY.mono bX.size)⟩
end Go.Proofs.Ytbpjkdigihpohaa
