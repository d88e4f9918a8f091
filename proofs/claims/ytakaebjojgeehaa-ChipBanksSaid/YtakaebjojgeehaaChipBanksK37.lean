/- A part of the proof of ChipBanks: DrvM. -/
import Derived.Test.YtakaebjojgeehaaChipBanksK01
import Derived.Test.YtakaebjojgeehaaChipBanksK02
import Derived.Test.YtakaebjojgeehaaChipBanksK03
import Derived.Test.YtakaebjojgeehaaChipBanksK04
import Derived.Test.YtakaebjojgeehaaChipBanksK05
import Derived.Test.YtakaebjojgeehaaChipBanksK06
import Derived.Test.YtakaebjojgeehaaChipBanksK09
import Derived.Test.YtakaebjojgeehaaChipBanksK15
import Derived.Test.YtakaebjojgeehaaChipBanksK17
import Derived.Test.YtakaebjojgeehaaChipBanksK19
import Derived.Test.YtakaebjojgeehaaChipBanksK20
import Derived.Test.YtakaebjojgeehaaChipBanksK21
import Derived.Test.YtakaebjojgeehaaChipBanksK22
import Derived.Test.YtakaebjojgeehaaChipBanksK23
import Derived.Test.YtakaebjojgeehaaChipBanksK24
import Derived.Below
import Derived.BigQuiet
import Derived.ChangeMaps5
import Derived.Deep.AppendSrc
import Derived.Deep.DeepAppendWide
import Derived.Deep.DeepCutAuto
import Derived.Deep.Draws
import Derived.Deep.MidRow
import Derived.Deep.OwnRows
import Derived.Deep.QuietTactic
import Derived.Deep.RegionHeld3
import Derived.Deep.RegionWith
import Derived.Deep.Slices
import Derived.Deep.WholeRow
import Derived.Laws.CopyOwn
import Derived.Laws.OwnMore
import Derived.Lib.Hide
import Derived.Lib.SmallJoins
import Derived.Maps.AppendAt
import Derived.OpenShut
import Derived.OrdersHeld
import Derived.OwnWalk
import Derived.RowKit3
import Derived.StillTactics
import Derived.StillTail
import Derived.StillTailTactics
import Derived.Test.YtakaebjojgeehaaChecked
import Derived.WalkKit
namespace Go.Proofs.Ytakaebjojgeehaa
open Go.RowKit
set_option maxRecDepth 100000
theorem drvSuch_any (y : Nat) (a : Option Addr) (n cap : Nat) (x : Int) (w : World) (hc : w.cell? ⟨y, 10, none⟩ = some (.slice a n cap)) (hn : n ≤ 140737488351232) :
    Calls Try.prog 92 #[.pointer (some ⟨y, 0, none⟩), .int .i64 x] w fun e w' => e = .returned (.int .i64 (if (n : Int) / 256 < x then 0 else x)) ∧ w = w' := by
  have t1 : (n : Int).tdiv 256 = (n : Int) / 256 := Int.tdiv_eq_ediv_of_nonneg (by omega)
  have w1 : wrap64 ((n : Int) / 256) = (n : Int) / 256 := IntWalk.wrap64_in _ (by omega)
  obtain ⟨E, hE⟩ : ∃ E, (n : Int) / 256 = E := ⟨_, rfl⟩
  rw [hE] at t1 w1
  rw [hE]
  by_cases h : E < x
  · have hd : decide (E < x) = true := decide_eq_true h
    rw [if_pos h]
    go_enter Try.func92, Try.ntmps92
    go_wp2_with fail
    go_ret
    exact ⟨rfl, rfl⟩
  · have hd : decide (E < x) = false := decide_eq_false h
    rw [if_neg h]
    go_enter Try.func92, Try.ntmps92
    go_wp2_with fail
    go_ret
    exact ⟨rfl, rfl⟩
theorem drvIsCmd_any (x : Int) (w : World) :
    Calls Try.prog 88 #[.int .i64 x] w fun e w' => e = .returned (.bool (decide (0 < x ∧ x ≤ 4))) ∧ w = w' := by
  by_cases h : 0 < x
  · have hd : decide (0 < x) = true := decide_eq_true h
    have e : decide (0 < x ∧ x ≤ 4) = decide (x ≤ 4) := by by_cases h2 : x ≤ 4 <;> simp [h, h2]
    rw [e]
    go_enter Try.func88, Try.ntmps88
    go_wp2_with fail
    go_ret
    exact ⟨rfl, rfl⟩
  · have hd : decide (0 < x) = false := decide_eq_false h
    have e : decide (0 < x ∧ x ≤ 4) = false := decide_eq_false (fun q => h q.1)
    rw [e]
    go_enter Try.func88, Try.ntmps88
    go_wp2_with fail
    go_ret
    exact ⟨rfl, rfl⟩
theorem drvLacks_any (y : Nat) (k x : Int) (w : World) (hc : w.cell? ⟨y, 0, none⟩ = some (.int .i64 k)) :
    Calls Try.prog 89 #[.pointer (some ⟨y, 0, none⟩), .int .i64 x] w fun e w' => e = .returned (.bool (decide (k = 0 ∧ (x = 3 ∨ x = 4)))) ∧ w = w' := by
  by_cases h : k = 0
  · subst h
    by_cases h3 : x = 3
    · subst h3
      go_enter Try.func89, Try.ntmps89
      go_wp2_with fail
      go_ret
      exact ⟨rfl, rfl⟩
    · have q3 : (x == 3) = false := by simpa using h3
      have e : decide ((0 : Int) = 0 ∧ (x = 3 ∨ x = 4)) = (x == 4) := by by_cases h4 : x = 4 <;> simp [h3, h4]
      rw [e]
      go_enter Try.func89, Try.ntmps89
      go_wp2_with fail
      go_ret
      exact ⟨rfl, rfl⟩
  · have q : (k == 0) = false := by simpa using h
    have e : decide (k = 0 ∧ (x = 3 ∨ x = 4)) = false := decide_eq_false (fun q => h q.1)
    rw [e]
    go_enter Try.func89, Try.ntmps89
    go_wp2_with fail
    go_ret
    exact ⟨rfl, rfl⟩
theorem drOr (r o : Int) (hr : 0 ≤ r ∧ r < 2) (ho : 0 ≤ o ∧ o < 2) : bits .or .i64 (r * 2) (o * 4) = 2 * r + 4 * o ∧ bits .or .i64 (2 * r + 4 * o) 1 = 2 * r + 4 * o + 1 ∧ bits .or .i64 (2 * r + 4 * o) 8 = 2 * r + 4 * o + 8 ∧ bits .or .i64 (2 * r + 4 * o + 1) 8 = 2 * r + 4 * o + 1 + 8 := by
  rcases (by omega : r = 0 ∨ r = 1) with rfl | rfl <;> rcases (by omega : o = 0 ∨ o = 1) with rfl | rfl <;> decide
theorem drvStatus_any (lo y : Nat) (k t c e n l d r o b : Int) (m : List Int) (u : Value) (w : World) (h : stD lo w y ⟨k, t, c, e, n, l, d, r, o, b, m⟩ u) (hc : 0 ≤ c) (hr : 0 ≤ r ∧ r < 2) (ho : 0 ≤ o ∧ o < 2) :
    Calls Try.prog 80 #[.pointer (some ⟨y, 0, none⟩)] w fun e' w' => e' = .returned (.int .i64 (⟨k, t, c, e, n, l, d, r, o, b, m⟩ : Dr).status) ∧ Below w.heap.size w w' := by
  have hb := (Below.refl w.heap.size w).drew
  have hO := drOr r o hr ho
  have w1 : IntKind.i64.wrap (r * 2) = r * 2 := IntWalk.i64_in _ (by omega)
  have w4 : IntKind.i64.wrap (o * 4) = o * 4 := IntWalk.i64_in _ (by omega)
  obtain ⟨E, hE⟩ : ∃ E, 2 * r + 4 * o = E := ⟨_, rfl⟩
  rw [hE] at hO
  obtain ⟨F, hF⟩ : ∃ F, E + 1 = F := ⟨_, rfl⟩
  rw [hF] at hO
  obtain ⟨hO1, hO2, hO3, hO4⟩ := hO
  by_cases h0 : c = 0
  · subst h0
    by_cases h1 : k = 0
    · subst h1
      have ev : (⟨0, t, 0, e, n, l, d, r, o, b, m⟩ : Dr).status = E + 8 := by
        show oneD (decide (0 < 0)) + 2 * r + 4 * o + 8 * oneD (0 == 0) = _
        rw [show decide ((0 : Int) < 0) = false from rfl, show ((0 : Int) == 0) = true from rfl]
        unfold oneD
        simp
        omega
      rw [ev]
      clear ev
      go_enter Try.func80, Try.ntmps80
      go_upto_region 1 with (fail)
      refine wp_region_mix (fun _ => True) [(0, 0), (1, 0), (2, 0), (3, 0), (4, 0), (5, 0), (6, 0), (7, 0), (8, 0), (9, 0), (10, 0), (11, 0)] (by kernel_rfl) (by kernel_rfl) (fun _ _ _ _ _ h => h) ?_
      simp only [List.map_cons, List.map_nil, opOf, List.getD_cons_zero, List.getD_cons_succ]
      change wpMix _ _ _ _ _ _ w.drew
      have hd := h.drew
      clear h
      generalize w.drew = w' at *
      obtain ⟨⟨e0, e1, e2, e3, e4, e5, e6, e7, e8, e9, e10⟩, _⟩ := elCells hd.row
      (refine wpMix_still (fun K hK => ?_); go_simp; refine hK _ ?_; clear hK K)
      (refine wpMix_still (fun K hK => ?_); go_simp; refine hK _ ?_; clear hK K)
      (refine wpMix_still (fun K hK => ?_); go_simp; refine hK _ ?_; clear hK K)
      (refine wpMix_still (fun K hK => ?_); go_simp; refine hK _ ?_; clear hK K)
      (refine wpMix_still (fun K hK => ?_); go_simp; refine hK _ ?_; clear hK K)
      (refine wpMix_still (fun K hK => ?_); go_simp; refine hK _ ?_; clear hK K)
      (refine wpMix_still (fun K hK => ?_); go_simp; refine hK _ ?_; clear hK K)
      (refine wpMix_still (fun K hK => ?_); go_simp; refine hK _ ?_; clear hK K)
      (refine wpMix_still (fun K hK => ?_); go_simp; refine hK _ ?_; clear hK K)
      (refine wpMix_still (fun K hK => ?_); go_simp; refine hK _ ?_; clear hK K)
      (refine wpMix_still (fun K hK => ?_); go_simp; refine hK _ ?_; clear hK K)
      (refine wpMix_still (fun K hK => ?_); go_simp; refine hK _ ?_; clear hK K)
      refine wpMix_nil ?_
      go_wp2_with fail
      go_ret
      exact ⟨rfl, hb⟩
    · have q1 : (k == 0) = false := by simpa using h1
      have ev : (⟨k, t, 0, e, n, l, d, r, o, b, m⟩ : Dr).status = E := by
        show oneD (decide (0 < 0)) + 2 * r + 4 * o + 8 * oneD (k == 0) = _
        rw [show decide ((0 : Int) < 0) = false from rfl, q1]
        unfold oneD
        simp
        omega
      rw [ev]
      clear ev
      go_enter Try.func80, Try.ntmps80
      go_upto_region 1 with (fail)
      refine wp_region_mix (fun _ => True) [(0, 0), (1, 0), (2, 0), (3, 0), (4, 0), (5, 0), (6, 0), (7, 0), (8, 0), (9, 0), (10, 0), (11, 0)] (by kernel_rfl) (by kernel_rfl) (fun _ _ _ _ _ h => h) ?_
      simp only [List.map_cons, List.map_nil, opOf, List.getD_cons_zero, List.getD_cons_succ]
      change wpMix _ _ _ _ _ _ w.drew
      have hd := h.drew
      clear h
      generalize w.drew = w' at *
      obtain ⟨⟨e0, e1, e2, e3, e4, e5, e6, e7, e8, e9, e10⟩, _⟩ := elCells hd.row
      (refine wpMix_still (fun K hK => ?_); go_simp; refine hK _ ?_; clear hK K)
      (refine wpMix_still (fun K hK => ?_); go_simp; refine hK _ ?_; clear hK K)
      (refine wpMix_still (fun K hK => ?_); go_simp; refine hK _ ?_; clear hK K)
      (refine wpMix_still (fun K hK => ?_); go_simp; refine hK _ ?_; clear hK K)
      (refine wpMix_still (fun K hK => ?_); go_simp; refine hK _ ?_; clear hK K)
      (refine wpMix_still (fun K hK => ?_); go_simp; refine hK _ ?_; clear hK K)
      (refine wpMix_still (fun K hK => ?_); go_simp; refine hK _ ?_; clear hK K)
      (refine wpMix_still (fun K hK => ?_); go_simp; refine hK _ ?_; clear hK K)
      (refine wpMix_still (fun K hK => ?_); go_simp; refine hK _ ?_; clear hK K)
      (refine wpMix_still (fun K hK => ?_); go_simp; refine hK _ ?_; clear hK K)
      (refine wpMix_still (fun K hK => ?_); go_simp; refine hK _ ?_; clear hK K)
      (refine wpMix_still (fun K hK => ?_); go_simp; refine hK _ ?_; clear hK K)
      refine wpMix_nil ?_
      go_wp2_with fail
      go_ret
      exact ⟨rfl, hb⟩
  · have q : (c == 0) = false := by simpa using h0
    by_cases h1 : k = 0
    · subst h1
      have ev : (⟨0, t, c, e, n, l, d, r, o, b, m⟩ : Dr).status = F + 8 := by
        show oneD (decide (0 < c)) + 2 * r + 4 * o + 8 * oneD (0 == 0) = _
        rw [decide_eq_true (show 0 < c by omega), show ((0 : Int) == 0) = true from rfl]
        unfold oneD
        simp
        omega
      rw [ev]
      clear ev
      go_enter Try.func80, Try.ntmps80
      go_upto_region 1 with (fail)
      refine wp_region_mix (fun _ => True) [(0, 0), (1, 0), (2, 0), (3, 0), (4, 0), (5, 0), (6, 0), (7, 0), (8, 0), (9, 0), (10, 0), (11, 0)] (by kernel_rfl) (by kernel_rfl) (fun _ _ _ _ _ h => h) ?_
      simp only [List.map_cons, List.map_nil, opOf, List.getD_cons_zero, List.getD_cons_succ]
      change wpMix _ _ _ _ _ _ w.drew
      have hd := h.drew
      clear h
      generalize w.drew = w' at *
      obtain ⟨⟨e0, e1, e2, e3, e4, e5, e6, e7, e8, e9, e10⟩, _⟩ := elCells hd.row
      (refine wpMix_still (fun K hK => ?_); go_simp; refine hK _ ?_; clear hK K)
      (refine wpMix_still (fun K hK => ?_); go_simp; refine hK _ ?_; clear hK K)
      (refine wpMix_still (fun K hK => ?_); go_simp; refine hK _ ?_; clear hK K)
      (refine wpMix_still (fun K hK => ?_); go_simp; refine hK _ ?_; clear hK K)
      (refine wpMix_still (fun K hK => ?_); go_simp; refine hK _ ?_; clear hK K)
      (refine wpMix_still (fun K hK => ?_); go_simp; refine hK _ ?_; clear hK K)
      (refine wpMix_still (fun K hK => ?_); go_simp; refine hK _ ?_; clear hK K)
      (refine wpMix_still (fun K hK => ?_); go_simp; refine hK _ ?_; clear hK K)
      (refine wpMix_still (fun K hK => ?_); go_simp; refine hK _ ?_; clear hK K)
      (refine wpMix_still (fun K hK => ?_); go_simp; refine hK _ ?_; clear hK K)
      (refine wpMix_still (fun K hK => ?_); go_simp; refine hK _ ?_; clear hK K)
      (refine wpMix_still (fun K hK => ?_); go_simp; refine hK _ ?_; clear hK K)
      refine wpMix_nil ?_
      go_wp2_with fail
      go_ret
      exact ⟨rfl, hb⟩
    · have q1 : (k == 0) = false := by simpa using h1
      have ev : (⟨k, t, c, e, n, l, d, r, o, b, m⟩ : Dr).status = F := by
        show oneD (decide (0 < c)) + 2 * r + 4 * o + 8 * oneD (k == 0) = _
        rw [decide_eq_true (show 0 < c by omega), q1]
        unfold oneD
        simp
        omega
      rw [ev]
      clear ev
      go_enter Try.func80, Try.ntmps80
      go_upto_region 1 with (fail)
      refine wp_region_mix (fun _ => True) [(0, 0), (1, 0), (2, 0), (3, 0), (4, 0), (5, 0), (6, 0), (7, 0), (8, 0), (9, 0), (10, 0), (11, 0)] (by kernel_rfl) (by kernel_rfl) (fun _ _ _ _ _ h => h) ?_
      simp only [List.map_cons, List.map_nil, opOf, List.getD_cons_zero, List.getD_cons_succ]
      change wpMix _ _ _ _ _ _ w.drew
      have hd := h.drew
      clear h
      generalize w.drew = w' at *
      obtain ⟨⟨e0, e1, e2, e3, e4, e5, e6, e7, e8, e9, e10⟩, _⟩ := elCells hd.row
      (refine wpMix_still (fun K hK => ?_); go_simp; refine hK _ ?_; clear hK K)
      (refine wpMix_still (fun K hK => ?_); go_simp; refine hK _ ?_; clear hK K)
      (refine wpMix_still (fun K hK => ?_); go_simp; refine hK _ ?_; clear hK K)
      (refine wpMix_still (fun K hK => ?_); go_simp; refine hK _ ?_; clear hK K)
      (refine wpMix_still (fun K hK => ?_); go_simp; refine hK _ ?_; clear hK K)
      (refine wpMix_still (fun K hK => ?_); go_simp; refine hK _ ?_; clear hK K)
      (refine wpMix_still (fun K hK => ?_); go_simp; refine hK _ ?_; clear hK K)
      (refine wpMix_still (fun K hK => ?_); go_simp; refine hK _ ?_; clear hK K)
      (refine wpMix_still (fun K hK => ?_); go_simp; refine hK _ ?_; clear hK K)
      (refine wpMix_still (fun K hK => ?_); go_simp; refine hK _ ?_; clear hK K)
      (refine wpMix_still (fun K hK => ?_); go_simp; refine hK _ ?_; clear hK K)
      (refine wpMix_still (fun K hK => ?_); go_simp; refine hK _ ?_; clear hK K)
      refine wpMix_nil ?_
      go_wp2_with fail
      go_ret
      exact ⟨rfl, hb⟩
end Go.Proofs.Ytakaebjojgeehaa
