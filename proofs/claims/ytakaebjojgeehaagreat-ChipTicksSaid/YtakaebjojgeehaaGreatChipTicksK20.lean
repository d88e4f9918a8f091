/- A part of the proof of ChipTicks: DrvM. -/
import Derived.Test.YtakaebjojgeehaaGreatChipTicksK01
import Derived.Test.YtakaebjojgeehaaGreatChipTicksK02
import Derived.Test.YtakaebjojgeehaaGreatChipTicksK03
import Derived.Test.YtakaebjojgeehaaGreatChipTicksK04
import Derived.Test.YtakaebjojgeehaaGreatChipTicksK05
import Derived.Test.YtakaebjojgeehaaGreatChipTicksK06
import Derived.Test.YtakaebjojgeehaaGreatChipTicksK09
import Derived.Test.YtakaebjojgeehaaGreatChipTicksK12
import Derived.Test.YtakaebjojgeehaaGreatChipTicksK16
import Derived.Test.YtakaebjojgeehaaGreatChipTicksK17
import Derived.Test.YtakaebjojgeehaaGreatChipTicksK18
import Derived.Test.YtakaebjojgeehaaGreatChipTicksK19
import Derived.Below
import Derived.BigQuiet
import Derived.ChangeMaps5
import Derived.Deep.AppendSrc
import Derived.Deep.DeepAppendWide
import Derived.Deep.DeepCutAuto
import Derived.Deep.Draws
import Derived.Deep.MidRow
import Derived.Deep.OwnRows
import Derived.Deep.QuietTactic
import Derived.Deep.RegionHeld3
import Derived.Deep.RegionWith
import Derived.Deep.Slices
import Derived.Deep.WholeRow
import Derived.Laws.CopyOwn
import Derived.Laws.OwnMore
import Derived.Lib.Hide
import Derived.Lib.SmallJoins
import Derived.Maps.AppendAt
import Derived.OpenShut
import Derived.OrdersHeld
import Derived.OwnWalk
import Derived.RowKit3
import Derived.StillTactics
import Derived.StillTail
import Derived.StillTailTactics
import Derived.Test.YtakaebjojgeehaaGreatChecked
import Derived.WalkKit
namespace Go.Proofs.YtakaebjojgeehaaGreat
open Go.RowKit
set_option maxRecDepth 100000
theorem drvSuch_any (y : Nat) (a : Option Addr) (n cap : Nat) (x : Int) (w : World) (hc : w.cell? ⟨y, 10, none⟩ = some (.slice a n cap)) (hn : n ≤ 140737488351232) :
    Calls Tryz.prog 149 #[.pointer (some ⟨y, 0, none⟩), .int .i64 x] w fun e w' => e = .returned (.int .i64 (if (n : Int) / 256 < x then 0 else x)) ∧ w = w' := by
  have t1 : (n : Int).tdiv 256 = (n : Int) / 256 := Int.tdiv_eq_ediv_of_nonneg (by omega)
  have w1 : wrap64 ((n : Int) / 256) = (n : Int) / 256 := IntWalk.wrap64_in _ (by omega)
  obtain ⟨E, hE⟩ : ∃ E, (n : Int) / 256 = E := ⟨_, rfl⟩
  rw [hE] at t1 w1
  rw [hE]
  by_cases h : E < x
  · have hd : decide (E < x) = true := decide_eq_true h
    rw [if_pos h]
    go_enter Tryz.func149, Tryz.ntmps149
    go_wp2_with fail
    go_ret
    exact ⟨rfl, rfl⟩
  · have hd : decide (E < x) = false := decide_eq_false h
    rw [if_neg h]
    go_enter Tryz.func149, Tryz.ntmps149
    go_wp2_with fail
    go_ret
    exact ⟨rfl, rfl⟩
theorem drvIsCmd_any (x : Int) (w : World) :
    Calls Tryz.prog 150 #[.int .i64 x] w fun e w' => e = .returned (.bool (decide (0 < x ∧ x ≤ 4))) ∧ w = w' := by
  by_cases h : 0 < x
  · have hd : decide (0 < x) = true := decide_eq_true h
    have e : decide (0 < x ∧ x ≤ 4) = decide (x ≤ 4) := by by_cases h2 : x ≤ 4 <;> simp [h, h2]
    rw [e]
    go_enter Tryz.func150, Tryz.ntmps150
    go_wp2_with fail
    go_ret
    exact ⟨rfl, rfl⟩
  · have hd : decide (0 < x) = false := decide_eq_false h
    have e : decide (0 < x ∧ x ≤ 4) = false := decide_eq_false (fun q => h q.1)
    rw [e]
    go_enter Tryz.func150, Tryz.ntmps150
    go_wp2_with fail
    go_ret
    exact ⟨rfl, rfl⟩
theorem drvLacks_any (y : Nat) (k x : Int) (w : World) (hc : w.cell? ⟨y, 0, none⟩ = some (.int .i64 k)) :
    Calls Tryz.prog 93 #[.pointer (some ⟨y, 0, none⟩), .int .i64 x] w fun e w' => e = .returned (.bool (decide (k = 0 ∧ (x = 3 ∨ x = 4)))) ∧ w = w' := by
  by_cases h : k = 0
  · subst h
    by_cases h3 : x = 3
    · subst h3
      go_enter Tryz.func93, Tryz.ntmps93
      go_wp2_with fail
      go_ret
      exact ⟨rfl, rfl⟩
    · have q3 : (x == 3) = false := by simpa using h3
      have e : decide ((0 : Int) = 0 ∧ (x = 3 ∨ x = 4)) = (x == 4) := by by_cases h4 : x = 4 <;> simp [h3, h4]
      rw [e]
      go_enter Tryz.func93, Tryz.ntmps93
      go_wp2_with fail
      go_ret
      exact ⟨rfl, rfl⟩
  · have q : (k == 0) = false := by simpa using h
    have e : decide (k = 0 ∧ (x = 3 ∨ x = 4)) = false := decide_eq_false (fun q => h q.1)
    rw [e]
    go_enter Tryz.func93, Tryz.ntmps93
    go_wp2_with fail
    go_ret
    exact ⟨rfl, rfl⟩
theorem drvEnd_any (lo y : Nat) (k t c e n l d r o b : Int) (m : List Int) (u : Value) (w : World) (h : stD lo w y ⟨k, t, c, e, n, l, d, r, o, b, m⟩ u) :
    Calls Tryz.prog 132 #[.pointer (some ⟨y, 0, none⟩)] w fun e' w' => e' = .returned (.tuple #[]) ∧ stD lo w' y ⟨k, t, 0, e, n, 0, d, r, o, b, m⟩ u ∧ Below lo w w' := by
  obtain ⟨⟨e0, e1, e2, e3, e4, e5, e6, e7, e8, e9, e10⟩, ⟨z0, z1, z2, z3, z4, z5, z6, z7, z8, z9, z10⟩⟩ := elCells h.row
  go_enter Tryz.func132, Tryz.ntmps132
  go_wp2_with fail
  refine bodyPost_end (results_none rfl _ _ _) rfl ⟨rfl, (stD.put (stD.put h 2 (.int .i64 0) (t := ⟨k, t, 0, e, n, l, d, r, o, b, m⟩) rfl rfl) 5 (.int .i64 0) (t := ⟨k, t, 0, e, n, 0, d, r, o, b, m⟩) rfl rfl), (Below.setCell (Below.setCell (Below.refl lo w) (p := ⟨y, 2, none⟩) h.lo (.int .i64 0)) (p := ⟨y, 5, none⟩) h.lo (.int .i64 0))⟩
theorem drvPlace_any (lo y : Nat) (k t c e n l d r o b : Int) (m : List Int) (u : Value) (w : World) (h : stD lo w y ⟨k, t, c, e, n, l, d, r, o, b, m⟩ u) (hk : 0 ≤ k ∧ k < 256) (ht : 0 ≤ t ∧ t < 4) (he : 0 ≤ e ∧ e < 4) (hn : 0 ≤ n ∧ n < 16) :
    Calls Tryz.prog 156 #[.pointer (some ⟨y, 0, none⟩)] w fun e' w' => e' = .returned (.int .i64 (256 * k - 256 + 64 * t + 16 * e + n)) ∧ Below w.heap.size w w' := by
  have w1 : IntKind.i64.wrap (k - 1) = k - 1 := IntWalk.i64_in _ (by omega)
  have w2 : IntKind.i64.wrap ((k - 1) * 256) = (k - 1) * 256 := IntWalk.i64_in _ (by omega)
  have w3 : IntKind.i64.wrap (t * 4) = t * 4 := IntWalk.i64_in _ (by omega)
  have w4 : IntKind.i64.wrap (t * 4 + e) = t * 4 + e := IntWalk.i64_in _ (by omega)
  have w5 : IntKind.i64.wrap ((t * 4 + e) * 16) = (t * 4 + e) * 16 := IntWalk.i64_in _ (by omega)
  have w6 : IntKind.i64.wrap ((k - 1) * 256 + (t * 4 + e) * 16) = (k - 1) * 256 + (t * 4 + e) * 16 := IntWalk.i64_in _ (by omega)
  have w7 : IntKind.i64.wrap ((k - 1) * 256 + (t * 4 + e) * 16 + n) = 256 * k - 256 + 64 * t + 16 * e + n := (IntWalk.i64_in _ (by omega)).trans (by omega)
  have hb := (Below.refl w.heap.size w).drew
  go_enter Tryz.func156, Tryz.ntmps156
  go_upto_region 1 with (fail)
  refine wp_region_mixM (fun _ => True) 16777215 0 [(0, 0, 12714046), (1, 0, 12714044), (2, 0, 12714040), (3, 0, 12714032), (4, 0, 12714016), (5, 0, 12713984), (6, 0, 12814208), (7, 0, 12814080), (8, 0, 12813824), (9, 0, 12813312), (10, 0, 12812288), (11, 0, 12840960), (12, 0, 12836864), (13, 0, 12828672), (14, 0, 12812288), (15, 0, 12779520), (16, 0, 12713984), (17, 0, 12582912), (18, 0, 16252928), (19, 0, 15728640), (20, 0, 14680064), (21, 0, 12582912), (22, 0, 8388608), (23, 0, 0)] (by kernel_rfl) (by kernel_rfl) (fun _ _ _ _ _ h => h) ?_
  simp only [List.map_cons, List.map_nil, opOf, List.getD_cons_zero, List.getD_cons_succ]
  change wpMix _ _ _ _ _ _ w.drew
  have hd := h.drew
  clear h
  generalize w.drew = w' at *
  obtain ⟨⟨e0, e1, e2, e3, e4, e5, e6, e7, e8, e9, e10⟩, _⟩ := elCells hd.row
  (refine wpMix_still (fun K hK => ?_); go_simp; refine hK _ ?_; clear hK K)
  (refine wpMix_still (fun K hK => ?_); go_simp; refine hK _ ?_; clear hK K)
  (refine wpMix_still (fun K hK => ?_); go_simp; refine hK _ ?_; clear hK K)
  (refine wpMix_still (fun K hK => ?_); go_simp; refine hK _ ?_; clear hK K)
  (refine wpMix_still (fun K hK => ?_); go_simp; refine hK _ ?_; clear hK K)
  (refine wpMix_still (fun K hK => ?_); go_simp; refine hK _ ?_; clear hK K)
  (refine wpMix_still (fun K hK => ?_); go_simp; refine hK _ ?_; clear hK K)
  (refine wpMix_still (fun K hK => ?_); go_simp; refine hK _ ?_; clear hK K)
  (refine wpMix_still (fun K hK => ?_); go_simp; refine hK _ ?_; clear hK K)
  (refine wpMix_still (fun K hK => ?_); go_simp; refine hK _ ?_; clear hK K)
  (refine wpMix_still (fun K hK => ?_); go_simp; refine hK _ ?_; clear hK K)
  (refine wpMix_still (fun K hK => ?_); go_simp; refine hK _ ?_; clear hK K)
  (refine wpMix_still (fun K hK => ?_); go_simp; refine hK _ ?_; clear hK K)
  (refine wpMix_still (fun K hK => ?_); go_simp; refine hK _ ?_; clear hK K)
  (refine wpMix_still (fun K hK => ?_); go_simp; refine hK _ ?_; clear hK K)
  (refine wpMix_still (fun K hK => ?_); go_simp; refine hK _ ?_; clear hK K)
  (refine wpMix_still (fun K hK => ?_); go_simp; refine hK _ ?_; clear hK K)
  (refine wpMix_still (fun K hK => ?_); go_simp; refine hK _ ?_; clear hK K)
  (refine wpMix_still (fun K hK => ?_); go_simp; refine hK _ ?_; clear hK K)
  (refine wpMix_still (fun K hK => ?_); go_simp; refine hK _ ?_; clear hK K)
  (refine wpMix_still (fun K hK => ?_); go_simp; refine hK _ ?_; clear hK K)
  (refine wpMix_still (fun K hK => ?_); go_simp; refine hK _ ?_; clear hK K)
  (refine wpMix_still (fun K hK => ?_); go_simp; refine hK _ ?_; clear hK K)
  (refine wpMix_still (fun K hK => ?_); go_simp; refine hK _ ?_; clear hK K)
  refine wpMix_nil ?_
  go_wp2_with fail
  go_ret
  exact ⟨rfl, hb⟩
theorem drOr (r o : Int) (hr : 0 ≤ r ∧ r < 2) (ho : 0 ≤ o ∧ o < 2) : bits .or .i64 (r * 2) (o * 4) = 2 * r + 4 * o ∧ bits .or .i64 (2 * r + 4 * o) 1 = 2 * r + 4 * o + 1 ∧ bits .or .i64 (2 * r + 4 * o) 8 = 2 * r + 4 * o + 8 ∧ bits .or .i64 (2 * r + 4 * o + 1) 8 = 2 * r + 4 * o + 1 + 8 := by
  rcases (by omega : r = 0 ∨ r = 1) with rfl | rfl <;> rcases (by omega : o = 0 ∨ o = 1) with rfl | rfl <;> decide
theorem drOr2 (r o : Int) (hr : 0 ≤ r ∧ r < 2) (ho : 0 ≤ o ∧ o < 2) : bits .or .i64 o r = if r = 1 then 1 else o := by
  rcases (by omega : r = 0 ∨ r = 1) with rfl | rfl <;> rcases (by omega : o = 0 ∨ o = 1) with rfl | rfl <;> decide
theorem drvStatus_any (lo y : Nat) (k t c e n l d r o b : Int) (m : List Int) (u : Value) (w : World) (h : stD lo w y ⟨k, t, c, e, n, l, d, r, o, b, m⟩ u) (hc : 0 ≤ c) (hr : 0 ≤ r ∧ r < 2) (ho : 0 ≤ o ∧ o < 2) :
    Calls Tryz.prog 118 #[.pointer (some ⟨y, 0, none⟩)] w fun e' w' => e' = .returned (.int .i64 (⟨k, t, c, e, n, l, d, r, o, b, m⟩ : Dr).status) ∧ Below w.heap.size w w' := by
  have hb := (Below.refl w.heap.size w).drew
  have hO := drOr r o hr ho
  have w1 : IntKind.i64.wrap (r * 2) = r * 2 := IntWalk.i64_in _ (by omega)
  have w4 : IntKind.i64.wrap (o * 4) = o * 4 := IntWalk.i64_in _ (by omega)
  obtain ⟨E, hE⟩ : ∃ E, 2 * r + 4 * o = E := ⟨_, rfl⟩
  rw [hE] at hO
  obtain ⟨F, hF⟩ : ∃ F, E + 1 = F := ⟨_, rfl⟩
  rw [hF] at hO
  obtain ⟨hO1, hO2, hO3, hO4⟩ := hO
  by_cases h0 : c = 0
  · subst h0
    by_cases h1 : k = 0
    · subst h1
      have ev : (⟨0, t, 0, e, n, l, d, r, o, b, m⟩ : Dr).status = E + 8 := by
        show oneD (decide (0 < 0)) + 2 * r + 4 * o + 8 * oneD (0 == 0) = _
        rw [show decide ((0 : Int) < 0) = false from rfl, show ((0 : Int) == 0) = true from rfl]
        unfold oneD
        simp
        omega
      rw [ev]
      clear ev
      go_enter Tryz.func118, Tryz.ntmps118
      go_upto_region 1 with (fail)
      refine wp_region_mix (fun _ => True) [(0, 0), (1, 0), (2, 0), (3, 0), (4, 0), (5, 0), (6, 0), (7, 0), (8, 0), (9, 0), (10, 0), (11, 0)] (by kernel_rfl) (by kernel_rfl) (fun _ _ _ _ _ h => h) ?_
      simp only [List.map_cons, List.map_nil, opOf, List.getD_cons_zero, List.getD_cons_succ]
      change wpMix _ _ _ _ _ _ w.drew
      have hd := h.drew
      clear h
      generalize w.drew = w' at *
      obtain ⟨⟨e0, e1, e2, e3, e4, e5, e6, e7, e8, e9, e10⟩, _⟩ := elCells hd.row
      (refine wpMix_still (fun K hK => ?_); go_simp; refine hK _ ?_; clear hK K)
      (refine wpMix_still (fun K hK => ?_); go_simp; refine hK _ ?_; clear hK K)
      (refine wpMix_still (fun K hK => ?_); go_simp; refine hK _ ?_; clear hK K)
      (refine wpMix_still (fun K hK => ?_); go_simp; refine hK _ ?_; clear hK K)
      (refine wpMix_still (fun K hK => ?_); go_simp; refine hK _ ?_; clear hK K)
      (refine wpMix_still (fun K hK => ?_); go_simp; refine hK _ ?_; clear hK K)
      (refine wpMix_still (fun K hK => ?_); go_simp; refine hK _ ?_; clear hK K)
      (refine wpMix_still (fun K hK => ?_); go_simp; refine hK _ ?_; clear hK K)
      (refine wpMix_still (fun K hK => ?_); go_simp; refine hK _ ?_; clear hK K)
      (refine wpMix_still (fun K hK => ?_); go_simp; refine hK _ ?_; clear hK K)
      (refine wpMix_still (fun K hK => ?_); go_simp; refine hK _ ?_; clear hK K)
      (refine wpMix_still (fun K hK => ?_); go_simp; refine hK _ ?_; clear hK K)
      refine wpMix_nil ?_
      go_wp2_with fail
      go_ret
      exact ⟨rfl, hb⟩
    · have q1 : (k == 0) = false := by simpa using h1
      have ev : (⟨k, t, 0, e, n, l, d, r, o, b, m⟩ : Dr).status = E := by
        show oneD (decide (0 < 0)) + 2 * r + 4 * o + 8 * oneD (k == 0) = _
        rw [show decide ((0 : Int) < 0) = false from rfl, q1]
        unfold oneD
        simp
        omega
      rw [ev]
      clear ev
      go_enter Tryz.func118, Tryz.ntmps118
      go_upto_region 1 with (fail)
      refine wp_region_mix (fun _ => True) [(0, 0), (1, 0), (2, 0), (3, 0), (4, 0), (5, 0), (6, 0), (7, 0), (8, 0), (9, 0), (10, 0), (11, 0)] (by kernel_rfl) (by kernel_rfl) (fun _ _ _ _ _ h => h) ?_
      simp only [List.map_cons, List.map_nil, opOf, List.getD_cons_zero, List.getD_cons_succ]
      change wpMix _ _ _ _ _ _ w.drew
      have hd := h.drew
      clear h
      generalize w.drew = w' at *
      obtain ⟨⟨e0, e1, e2, e3, e4, e5, e6, e7, e8, e9, e10⟩, _⟩ := elCells hd.row
      (refine wpMix_still (fun K hK => ?_); go_simp; refine hK _ ?_; clear hK K)
      (refine wpMix_still (fun K hK => ?_); go_simp; refine hK _ ?_; clear hK K)
      (refine wpMix_still (fun K hK => ?_); go_simp; refine hK _ ?_; clear hK K)
      (refine wpMix_still (fun K hK => ?_); go_simp; refine hK _ ?_; clear hK K)
      (refine wpMix_still (fun K hK => ?_); go_simp; refine hK _ ?_; clear hK K)
      (refine wpMix_still (fun K hK => ?_); go_simp; refine hK _ ?_; clear hK K)
      (refine wpMix_still (fun K hK => ?_); go_simp; refine hK _ ?_; clear hK K)
      (refine wpMix_still (fun K hK => ?_); go_simp; refine hK _ ?_; clear hK K)
      (refine wpMix_still (fun K hK => ?_); go_simp; refine hK _ ?_; clear hK K)
      (refine wpMix_still (fun K hK => ?_); go_simp; refine hK _ ?_; clear hK K)
      (refine wpMix_still (fun K hK => ?_); go_simp; refine hK _ ?_; clear hK K)
      (refine wpMix_still (fun K hK => ?_); go_simp; refine hK _ ?_; clear hK K)
      refine wpMix_nil ?_
      go_wp2_with fail
      go_ret
      exact ⟨rfl, hb⟩
  · have q : (c == 0) = false := by simpa using h0
    by_cases h1 : k = 0
    · subst h1
      have ev : (⟨0, t, c, e, n, l, d, r, o, b, m⟩ : Dr).status = F + 8 := by
        show oneD (decide (0 < c)) + 2 * r + 4 * o + 8 * oneD (0 == 0) = _
        rw [decide_eq_true (show 0 < c by omega), show ((0 : Int) == 0) = true from rfl]
        unfold oneD
        simp
        omega
      rw [ev]
      clear ev
      go_enter Tryz.func118, Tryz.ntmps118
      go_upto_region 1 with (fail)
      refine wp_region_mix (fun _ => True) [(0, 0), (1, 0), (2, 0), (3, 0), (4, 0), (5, 0), (6, 0), (7, 0), (8, 0), (9, 0), (10, 0), (11, 0)] (by kernel_rfl) (by kernel_rfl) (fun _ _ _ _ _ h => h) ?_
      simp only [List.map_cons, List.map_nil, opOf, List.getD_cons_zero, List.getD_cons_succ]
      change wpMix _ _ _ _ _ _ w.drew
      have hd := h.drew
      clear h
      generalize w.drew = w' at *
      obtain ⟨⟨e0, e1, e2, e3, e4, e5, e6, e7, e8, e9, e10⟩, _⟩ := elCells hd.row
      (refine wpMix_still (fun K hK => ?_); go_simp; refine hK _ ?_; clear hK K)
      (refine wpMix_still (fun K hK => ?_); go_simp; refine hK _ ?_; clear hK K)
      (refine wpMix_still (fun K hK => ?_); go_simp; refine hK _ ?_; clear hK K)
      (refine wpMix_still (fun K hK => ?_); go_simp; refine hK _ ?_; clear hK K)
      (refine wpMix_still (fun K hK => ?_); go_simp; refine hK _ ?_; clear hK K)
      (refine wpMix_still (fun K hK => ?_); go_simp; refine hK _ ?_; clear hK K)
      (refine wpMix_still (fun K hK => ?_); go_simp; refine hK _ ?_; clear hK K)
      (refine wpMix_still (fun K hK => ?_); go_simp; refine hK _ ?_; clear hK K)
      (refine wpMix_still (fun K hK => ?_); go_simp; refine hK _ ?_; clear hK K)
      (refine wpMix_still (fun K hK => ?_); go_simp; refine hK _ ?_; clear hK K)
      (refine wpMix_still (fun K hK => ?_); go_simp; refine hK _ ?_; clear hK K)
      (refine wpMix_still (fun K hK => ?_); go_simp; refine hK _ ?_; clear hK K)
      refine wpMix_nil ?_
      go_wp2_with fail
      go_ret
      exact ⟨rfl, hb⟩
    · have q1 : (k == 0) = false := by simpa using h1
      have ev : (⟨k, t, c, e, n, l, d, r, o, b, m⟩ : Dr).status = F := by
        show oneD (decide (0 < c)) + 2 * r + 4 * o + 8 * oneD (k == 0) = _
        rw [decide_eq_true (show 0 < c by omega), q1]
        unfold oneD
        simp
        omega
      rw [ev]
      clear ev
      go_enter Tryz.func118, Tryz.ntmps118
      go_upto_region 1 with (fail)
      refine wp_region_mix (fun _ => True) [(0, 0), (1, 0), (2, 0), (3, 0), (4, 0), (5, 0), (6, 0), (7, 0), (8, 0), (9, 0), (10, 0), (11, 0)] (by kernel_rfl) (by kernel_rfl) (fun _ _ _ _ _ h => h) ?_
      simp only [List.map_cons, List.map_nil, opOf, List.getD_cons_zero, List.getD_cons_succ]
      change wpMix _ _ _ _ _ _ w.drew
      have hd := h.drew
      clear h
      generalize w.drew = w' at *
      obtain ⟨⟨e0, e1, e2, e3, e4, e5, e6, e7, e8, e9, e10⟩, _⟩ := elCells hd.row
      (refine wpMix_still (fun K hK => ?_); go_simp; refine hK _ ?_; clear hK K)
      (refine wpMix_still (fun K hK => ?_); go_simp; refine hK _ ?_; clear hK K)
      (refine wpMix_still (fun K hK => ?_); go_simp; refine hK _ ?_; clear hK K)
      (refine wpMix_still (fun K hK => ?_); go_simp; refine hK _ ?_; clear hK K)
      (refine wpMix_still (fun K hK => ?_); go_simp; refine hK _ ?_; clear hK K)
      (refine wpMix_still (fun K hK => ?_); go_simp; refine hK _ ?_; clear hK K)
      (refine wpMix_still (fun K hK => ?_); go_simp; refine hK _ ?_; clear hK K)
      (refine wpMix_still (fun K hK => ?_); go_simp; refine hK _ ?_; clear hK K)
      (refine wpMix_still (fun K hK => ?_); go_simp; refine hK _ ?_; clear hK K)
      (refine wpMix_still (fun K hK => ?_); go_simp; refine hK _ ?_; clear hK K)
      (refine wpMix_still (fun K hK => ?_); go_simp; refine hK _ ?_; clear hK K)
      (refine wpMix_still (fun K hK => ?_); go_simp; refine hK _ ?_; clear hK K)
      refine wpMix_nil ?_
      go_wp2_with fail
      go_ret
      exact ⟨rfl, hb⟩
end Go.Proofs.YtakaebjojgeehaaGreat
