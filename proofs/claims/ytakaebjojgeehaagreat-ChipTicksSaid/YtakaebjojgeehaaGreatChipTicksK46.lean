/- A part of the proof of ChipTicks: DrvR. -/
import Derived.Test.YtakaebjojgeehaaGreatChipTicksK01
import Derived.Test.YtakaebjojgeehaaGreatChipTicksK02
import Derived.Test.YtakaebjojgeehaaGreatChipTicksK03
import Derived.Test.YtakaebjojgeehaaGreatChipTicksK04
import Derived.Test.YtakaebjojgeehaaGreatChipTicksK05
import Derived.Test.YtakaebjojgeehaaGreatChipTicksK06
import Derived.Test.YtakaebjojgeehaaGreatChipTicksK09
import Derived.Test.YtakaebjojgeehaaGreatChipTicksK12
import Derived.Test.YtakaebjojgeehaaGreatChipTicksK16
import Derived.Test.YtakaebjojgeehaaGreatChipTicksK17
import Derived.Below
import Derived.BigQuiet
import Derived.ChangeMaps5
import Derived.Deep.DeepAppendWide
import Derived.Deep.DeepCutAuto
import Derived.Deep.Draws
import Derived.Deep.MidRow
import Derived.Deep.OwnRows
import Derived.Deep.QuietTactic
import Derived.Deep.RegionHeld3
import Derived.Deep.RegionWith
import Derived.Deep.Slices
import Derived.Deep.WholeRow
import Derived.Laws.CopyOwn
import Derived.Laws.OwnMore
import Derived.Lib.Hide
import Derived.Lib.SmallJoins
import Derived.OpenShut
import Derived.OrdersHeld
import Derived.OwnWalk
import Derived.RowKit3
import Derived.StillTactics
import Derived.StillTail
import Derived.StillTailTactics
import Derived.Test.YtakaebjojgeehaaGreatChecked
import Derived.WalkKit
namespace Go.Proofs.YtakaebjojgeehaaGreat
open Go.RowKit
set_option maxRecDepth 100000
theorem rowB_num {w : World} {g : Nat} {l : List Int} (h : rowB w g 3 (nums l)) (i : Nat) (x : Int) : rowB (w.setCell ⟨g, i, none⟩ (.int .i64 x)) g 3 (nums (l.set i x)) := by rw [← nums_set]; exact rowB_set h i _
/-- The blocks of a drive: its numbers, its bytes. -/
def drvG (g : Nat) (a : Option Addr) (j : Nat) : Prop := j = g ∨ a = some ⟨j, 0, none⟩
theorem drvG.num {g : Nat} {a : Option Addr} : drvG g a g := Or.inl rfl
theorem drvG.byt {g q : Nat} : drvG g (some ⟨q, 0, none⟩) q := Or.inr rfl
/-- What turns leaves. -/
def turnsEnd (g : Nat) (a : Option Addr) (lo : Nat) (s : Dr) (w : World) (e : Ending) (w' : World) : Prop := e = .returned (.tuple #[]) ∧ rowB w' g 3 (nums s.tick.ns) ∧ bytO lo w' a s.tick.m g ∧ Off (drvG g a) w w'
set_option maxHeartbeats 16000000 in
theorem turns_any (s : Dr) (g lo : Nat) (a : Option Addr) (w : World) (hr : rowB w g 3 (nums s.ns)) (hq : bytO lo w a s.m g) (hs : s.fit) (hc : 0 < s.c) (hm : s.m.length ≤ 9223372036854775807) :
    Calls Tryz.prog 23 #[.slice (some ⟨g, 0, none⟩) 10 10, .slice a s.m.length s.m.length] w (turnsEnd g a lo s w) := by
  have hat := Dr.at_bd hs
  obtain ⟨k, t, c, e, n, l, d, r, o, b, m⟩ := s
  have hk := hs.k
  have ht := hs.t
  have hc5 := hs.c
  have he := hs.e
  have hn := hs.n
  have hl := hs.l
  have hd := hs.d
  have hrr := hs.r
  have hy := hs.y
  unfold turnsEnd
  dsimp only [Dr.ns, Dr.at] at hr hq hk ht hc5 he hn hl hd hrr hc hm hat hy
  clear hs
  obtain ⟨⟨c0, c1, c2, c3, c4, c5, c6, c7, c8, c9⟩, ⟨z0, z1, z2, z3, z4, z5, z6, z7, z8, z9⟩⟩ := drCells hr
  have hg := rowB_lt hr
  by_cases hA : 2 < c ∧ k = 0
  · obtain ⟨h2, rfl⟩ := hA
    have e1 : (⟨0, t, c, e, n, l, d, r, o, b, m⟩ : Dr).tick = ⟨0, t, 0, e, n, l, d, r, o, b, m⟩ := by unfold Dr.tick; rw [if_neg (by show ¬ c = 0; omega), if_pos ⟨h2, rfl⟩]
    rw [e1]
    clear e1
    have d2 : decide (2 < c) = true := decide_eq_true (by omega)
    go_enter Tryz.func23, Tryz.ntmps23
    go_wp2_with fail
    first | refine bodyPost_end (results_none rfl _ _ _) rfl ?_ | refine bodyPost_ret (results_none rfl _ _ _) rfl ?_
    exact ⟨rfl, (rowB_num hr 2 (0)), (bytO.other hq ⟨g, 2, none⟩ (.int .i64 (0)) (.inr rfl)), (Off.set (Off.refl (drvG g a) w) (p := ⟨g, 2, none⟩) (.inl drvG.num) (.int .i64 (0)))⟩
  · by_cases hB : 1 < l
    · have dl : decide (1 < l) = true := decide_eq_true (by omega)
      rcases (by omega : ¬ 2 < c ∨ (2 < c ∧ k ≠ 0)) with h2 | ⟨h2, hk0⟩
      · have d2 : decide (2 < c) = false := decide_eq_false (by omega)
        have e1 : (⟨k, t, c, e, n, l, d, r, o, b, m⟩ : Dr).tick = ⟨k, t, c, e, n, l - 1, d, r, o, b, m⟩ := by unfold Dr.tick; rw [if_neg (by show ¬ c = 0; omega), if_neg hA, if_pos hB]
        rw [e1]
        clear e1
        have wl : wrap64 (l - 1) = l - 1 := IntWalk.wrap64_in _ (by omega)
        go_enter Tryz.func23, Tryz.ntmps23
        go_wp2_with fail
        first | refine bodyPost_end (results_none rfl _ _ _) rfl ?_ | refine bodyPost_ret (results_none rfl _ _ _) rfl ?_
        exact ⟨rfl, (rowB_num hr 5 (l - 1)), (bytO.other hq ⟨g, 5, none⟩ (.int .i64 (l - 1)) (.inr rfl)), (Off.set (Off.refl (drvG g a) w) (p := ⟨g, 5, none⟩) (.inl drvG.num) (.int .i64 (l - 1)))⟩
      · have d2 : decide (2 < c) = true := decide_eq_true (by omega)
        have dk : (k == 0) = false := by simpa using hk0
        have e1 : (⟨k, t, c, e, n, l, d, r, o, b, m⟩ : Dr).tick = ⟨k, t, c, e, n, l - 1, d, r, o, b, m⟩ := by unfold Dr.tick; rw [if_neg (by show ¬ c = 0; omega), if_neg hA, if_pos hB]
        rw [e1]
        clear e1
        have wl : wrap64 (l - 1) = l - 1 := IntWalk.wrap64_in _ (by omega)
        go_enter Tryz.func23, Tryz.ntmps23
        go_wp2_with fail
        first | refine bodyPost_end (results_none rfl _ _ _) rfl ?_ | refine bodyPost_ret (results_none rfl _ _ _) rfl ?_
        exact ⟨rfl, (rowB_num hr 5 (l - 1)), (bytO.other hq ⟨g, 5, none⟩ (.int .i64 (l - 1)) (.inr rfl)), (Off.set (Off.refl (drvG g a) w) (p := ⟨g, 5, none⟩) (.inl drvG.num) (.int .i64 (l - 1)))⟩
    · have dl : decide (1 < l) = false := decide_eq_false (by omega)
      by_cases hC : c < 3
      · rcases (by omega : c = 1 ∨ c = 2) with rfl | rfl
        · by_cases hx : t < 3
          · have e1 : (⟨k, t, 1, e, n, l, d, r, o, b, m⟩ : Dr).tick = ⟨k, t + 1, 0, e, n, 0, d, r, o, b, m⟩ := by unfold Dr.tick; rw [if_neg (by show ¬ (1 : Int) = 0; decide), if_neg hA, if_neg hB, if_pos (by show (1 : Int) < 3; decide)]; unfold Dr.move; dsimp only; rw [if_pos rfl, if_pos hx]
            rw [e1]
            clear e1
            clear hat hA hB
            go_enter Tryz.func23, Tryz.ntmps23
            go_upto_region 5 with (fail)
            refine wp_region_mix (fun w' => Below w.heap.size w w') [(0, 1), (1, 1), (2, 1), (4, 1), (5, 1), (6, 1), (7, 1), (3, 3), (8, 0), (9, 0), (10, 0), (11, 0)] (by kernel_rfl) (by kernel_rfl) (fun _ _ _ _ _ h => h) ?_
            simp only [List.map_cons, List.map_nil, opOf, List.getD_cons_zero, List.getD_cons_succ]
            change wpMix _ _ _ _ _ _ w.drew
            have hS : Below w.heap.size w w.drew := (Below.refl _ _).drew
            have o1 : Off (drvG g a) w w.drew := off_drew _ _
            generalize w.drew = w1 at *
            refine wpMix_held (.slice (some ⟨g, 0, none⟩) 10 10) rfl hS (fun w' hw' => by go_simp) ?_
            simp only [Act.put, List.setIfInBounds_toArray, List.set_cons_zero, List.set_cons_succ]
            refine wpMix_held (.pointer (some ⟨g, 1, none⟩)) rfl hS (fun w' hw' => by go_simp) ?_
            simp only [Act.put, List.setIfInBounds_toArray, List.set_cons_zero, List.set_cons_succ]
            refine wpMix_held (.int .i64 t) rfl hS (fun w' hw' => by have x1 := rowB_cell (rowB_below hr hw' hg) 1 (v := .int .i64 (t)) rfl; go_simp) ?_
            simp only [Act.put, List.setIfInBounds_toArray, List.set_cons_zero, List.set_cons_succ]
            refine wpMix_held (.slice (some ⟨g, 0, none⟩) 10 10) rfl hS (fun w' hw' => by go_simp) ?_
            simp only [Act.put, List.setIfInBounds_toArray, List.set_cons_zero, List.set_cons_succ]
            refine wpMix_held (.pointer (some ⟨g, 2, none⟩)) rfl hS (fun w' hw' => by go_simp) ?_
            simp only [Act.put, List.setIfInBounds_toArray, List.set_cons_zero, List.set_cons_succ]
            refine wpMix_held (.int .i64 1) rfl hS (fun w' hw' => by have x1 := rowB_cell (rowB_below hr hw' hg) 2 (v := .int .i64 1) rfl; go_simp) ?_
            simp only [Act.put, List.setIfInBounds_toArray, List.set_cons_zero, List.set_cons_succ]
            refine wpMix_held (.int .i64 0) rfl hS (fun w' hw' => by go_simp <;> exact IntWalk.i64_in _ (by decide)) ?_
            simp only [Act.put, List.setIfInBounds_toArray, List.set_cons_zero, List.set_cons_succ]
            refine wpMix_call ?_
            go_wp2_with fail
            have hv := rowB_new w1 3 #[.int .i64 1, .int .i64 (-1)]
            have o2 := o1.alloc (.cells #[.int .i64 1, .int .i64 (-1)] 3)
            have r2 := rowB_alloc (rowB_below hr hS hg) (.cells #[.int .i64 1, .int .i64 (-1)] 3)
            have b2 := (bytO.below hq (hS)).alloc (.cells #[.int .i64 1, .int .i64 (-1)] 3)
            replace hS := hS.alloc hS.size (.cells #[.int .i64 1, .int .i64 (-1)] 3)
            generalize w1.alloc (.cells #[.int .i64 1, .int .i64 (-1)] 3) = w2 at *
            generalize w1.heap.size = y at *
            have v0 := rowB_cell hv 0 (v := .int .i64 1) rfl
            have v1 := rowB_cell hv 1 (v := .int .i64 (-1)) rfl
            have ly := rowB_lt hv
            have wt : wrap64 (t + 1) = t + 1 := IntWalk.wrap64_in _ (by omega)
            first | refine ⟨fun _ => hS, ?_⟩ | refine ⟨hS, ?_⟩ | refine And.intro (fun _ => hS) ?_
            (refine wpMix_still (fun K hK => ?_); go_simp; refine hK _ ?_; clear hK K)
            (refine wpMix_still (fun K hK => ?_); go_simp; refine hK _ ?_; clear hK K)
            (refine wpMix_still (fun K hK => ?_); go_simp; refine hK _ ?_; clear hK K)
            (refine wpMix_still (fun K hK => ?_); go_simp; refine hK _ ?_; clear hK K)
            refine wpMix_nil ?_
            clear c0 c1 c2 c3 c4 c5 c6 c7 c8 c9 z0 z1 z2 z3 z4 z5 z6 z7 z8 z9
            obtain ⟨⟨c0, c1, c2, c3, c4, c5, c6, c7, c8, c9⟩, ⟨z0, z1, z2, z3, z4, z5, z6, z7, z8, z9⟩⟩ := drCells r2
            have dx : decide (0 ≤ t + 1) = true := decide_eq_true (by omega)
            have dy : decide (t + 1 < 4) = true := decide_eq_true (by omega)
            go_wp2_with fail
            first | refine bodyPost_end (results_none rfl _ _ _) rfl ?_ | refine bodyPost_ret (results_none rfl _ _ _) rfl ?_
            exact ⟨rfl, (rowB_num (rowB_num (rowB_num r2 1 (t + 1)) 2 (0)) 5 (0)), (bytO.other (bytO.other (bytO.other b2 ⟨g, 1, none⟩ (.int .i64 (t + 1)) (.inr rfl)) ⟨g, 2, none⟩ (.int .i64 (0)) (.inr rfl)) ⟨g, 5, none⟩ (.int .i64 (0)) (.inr rfl)), (Off.set (Off.set (Off.set o2 (p := ⟨g, 1, none⟩) (.inl drvG.num) (.int .i64 (t + 1))) (p := ⟨g, 2, none⟩) (.inl drvG.num) (.int .i64 (0))) (p := ⟨g, 5, none⟩) (.inl drvG.num) (.int .i64 (0)))⟩
          · have e1 : (⟨k, t, 1, e, n, l, d, r, o, b, m⟩ : Dr).tick = ⟨k, t, 0, e, n, 0, d, r, o, b, m⟩ := by unfold Dr.tick; rw [if_neg (by show ¬ (1 : Int) = 0; decide), if_neg hA, if_neg hB, if_pos (by show (1 : Int) < 3; decide)]; unfold Dr.move; dsimp only; rw [if_pos rfl, if_neg hx]
            rw [e1]
            clear e1
            obtain rfl : t = 3 := by omega
            clear hat hA hB
            go_enter Tryz.func23, Tryz.ntmps23
            go_upto_region 5 with (fail)
            refine wp_region_mix (fun w' => Below w.heap.size w w') [(0, 1), (1, 1), (2, 1), (4, 1), (5, 1), (6, 1), (7, 1), (3, 3), (8, 0), (9, 0), (10, 0), (11, 0)] (by kernel_rfl) (by kernel_rfl) (fun _ _ _ _ _ h => h) ?_
            simp only [List.map_cons, List.map_nil, opOf, List.getD_cons_zero, List.getD_cons_succ]
            change wpMix _ _ _ _ _ _ w.drew
            have hS : Below w.heap.size w w.drew := (Below.refl _ _).drew
            have o1 : Off (drvG g a) w w.drew := off_drew _ _
            generalize w.drew = w1 at *
            refine wpMix_held (.slice (some ⟨g, 0, none⟩) 10 10) rfl hS (fun w' hw' => by go_simp) ?_
            simp only [Act.put, List.setIfInBounds_toArray, List.set_cons_zero, List.set_cons_succ]
            refine wpMix_held (.pointer (some ⟨g, 1, none⟩)) rfl hS (fun w' hw' => by go_simp) ?_
            simp only [Act.put, List.setIfInBounds_toArray, List.set_cons_zero, List.set_cons_succ]
            refine wpMix_held (.int .i64 3) rfl hS (fun w' hw' => by have x1 := rowB_cell (rowB_below hr hw' hg) 1 (v := .int .i64 (3)) rfl; go_simp) ?_
            simp only [Act.put, List.setIfInBounds_toArray, List.set_cons_zero, List.set_cons_succ]
            refine wpMix_held (.slice (some ⟨g, 0, none⟩) 10 10) rfl hS (fun w' hw' => by go_simp) ?_
            simp only [Act.put, List.setIfInBounds_toArray, List.set_cons_zero, List.set_cons_succ]
            refine wpMix_held (.pointer (some ⟨g, 2, none⟩)) rfl hS (fun w' hw' => by go_simp) ?_
            simp only [Act.put, List.setIfInBounds_toArray, List.set_cons_zero, List.set_cons_succ]
            refine wpMix_held (.int .i64 1) rfl hS (fun w' hw' => by have x1 := rowB_cell (rowB_below hr hw' hg) 2 (v := .int .i64 1) rfl; go_simp) ?_
            simp only [Act.put, List.setIfInBounds_toArray, List.set_cons_zero, List.set_cons_succ]
            refine wpMix_held (.int .i64 0) rfl hS (fun w' hw' => by go_simp <;> exact IntWalk.i64_in _ (by decide)) ?_
            simp only [Act.put, List.setIfInBounds_toArray, List.set_cons_zero, List.set_cons_succ]
            refine wpMix_call ?_
            go_wp2_with fail
            have hv := rowB_new w1 3 #[.int .i64 1, .int .i64 (-1)]
            have o2 := o1.alloc (.cells #[.int .i64 1, .int .i64 (-1)] 3)
            have r2 := rowB_alloc (rowB_below hr hS hg) (.cells #[.int .i64 1, .int .i64 (-1)] 3)
            have b2 := (bytO.below hq (hS)).alloc (.cells #[.int .i64 1, .int .i64 (-1)] 3)
            replace hS := hS.alloc hS.size (.cells #[.int .i64 1, .int .i64 (-1)] 3)
            generalize w1.alloc (.cells #[.int .i64 1, .int .i64 (-1)] 3) = w2 at *
            generalize w1.heap.size = y at *
            have v0 := rowB_cell hv 0 (v := .int .i64 1) rfl
            have v1 := rowB_cell hv 1 (v := .int .i64 (-1)) rfl
            have ly := rowB_lt hv
            have wt : wrap64 (3 + 1) = 3 + 1 := IntWalk.wrap64_in _ (by omega)
            first | refine ⟨fun _ => hS, ?_⟩ | refine ⟨hS, ?_⟩ | refine And.intro (fun _ => hS) ?_
            (refine wpMix_still (fun K hK => ?_); go_simp; refine hK _ ?_; clear hK K)
            (refine wpMix_still (fun K hK => ?_); go_simp; refine hK _ ?_; clear hK K)
            (refine wpMix_still (fun K hK => ?_); go_simp; refine hK _ ?_; clear hK K)
            (refine wpMix_still (fun K hK => ?_); go_simp; refine hK _ ?_; clear hK K)
            refine wpMix_nil ?_
            clear c0 c1 c2 c3 c4 c5 c6 c7 c8 c9 z0 z1 z2 z3 z4 z5 z6 z7 z8 z9
            obtain ⟨⟨c0, c1, c2, c3, c4, c5, c6, c7, c8, c9⟩, ⟨z0, z1, z2, z3, z4, z5, z6, z7, z8, z9⟩⟩ := drCells r2
            go_wp2_with fail
            first | refine bodyPost_end (results_none rfl _ _ _) rfl ?_ | refine bodyPost_ret (results_none rfl _ _ _) rfl ?_
            exact ⟨rfl, (rowB_num (rowB_num r2 2 (0)) 5 (0)), (bytO.other (bytO.other b2 ⟨g, 2, none⟩ (.int .i64 (0)) (.inr rfl)) ⟨g, 5, none⟩ (.int .i64 (0)) (.inr rfl)), (Off.set (Off.set o2 (p := ⟨g, 2, none⟩) (.inl drvG.num) (.int .i64 (0))) (p := ⟨g, 5, none⟩) (.inl drvG.num) (.int .i64 (0)))⟩
        · by_cases hx : 0 < t
          · have e1 : (⟨k, t, 2, e, n, l, d, r, o, b, m⟩ : Dr).tick = ⟨k, t - 1, 0, e, n, 0, d, r, o, b, m⟩ := by unfold Dr.tick; rw [if_neg (by show ¬ (2 : Int) = 0; decide), if_neg hA, if_neg hB, if_pos (by show (2 : Int) < 3; decide)]; unfold Dr.move; dsimp only; rw [if_neg (by decide), if_pos hx]
            rw [e1]
            clear e1
            clear hat hA hB
            go_enter Tryz.func23, Tryz.ntmps23
            go_upto_region 5 with (fail)
            refine wp_region_mix (fun w' => Below w.heap.size w w') [(0, 1), (1, 1), (2, 1), (4, 1), (5, 1), (6, 1), (7, 1), (3, 3), (8, 0), (9, 0), (10, 0), (11, 0)] (by kernel_rfl) (by kernel_rfl) (fun _ _ _ _ _ h => h) ?_
            simp only [List.map_cons, List.map_nil, opOf, List.getD_cons_zero, List.getD_cons_succ]
            change wpMix _ _ _ _ _ _ w.drew
            have hS : Below w.heap.size w w.drew := (Below.refl _ _).drew
            have o1 : Off (drvG g a) w w.drew := off_drew _ _
            generalize w.drew = w1 at *
            refine wpMix_held (.slice (some ⟨g, 0, none⟩) 10 10) rfl hS (fun w' hw' => by go_simp) ?_
            simp only [Act.put, List.setIfInBounds_toArray, List.set_cons_zero, List.set_cons_succ]
            refine wpMix_held (.pointer (some ⟨g, 1, none⟩)) rfl hS (fun w' hw' => by go_simp) ?_
            simp only [Act.put, List.setIfInBounds_toArray, List.set_cons_zero, List.set_cons_succ]
            refine wpMix_held (.int .i64 t) rfl hS (fun w' hw' => by have x1 := rowB_cell (rowB_below hr hw' hg) 1 (v := .int .i64 (t)) rfl; go_simp) ?_
            simp only [Act.put, List.setIfInBounds_toArray, List.set_cons_zero, List.set_cons_succ]
            refine wpMix_held (.slice (some ⟨g, 0, none⟩) 10 10) rfl hS (fun w' hw' => by go_simp) ?_
            simp only [Act.put, List.setIfInBounds_toArray, List.set_cons_zero, List.set_cons_succ]
            refine wpMix_held (.pointer (some ⟨g, 2, none⟩)) rfl hS (fun w' hw' => by go_simp) ?_
            simp only [Act.put, List.setIfInBounds_toArray, List.set_cons_zero, List.set_cons_succ]
            refine wpMix_held (.int .i64 2) rfl hS (fun w' hw' => by have x1 := rowB_cell (rowB_below hr hw' hg) 2 (v := .int .i64 2) rfl; go_simp) ?_
            simp only [Act.put, List.setIfInBounds_toArray, List.set_cons_zero, List.set_cons_succ]
            refine wpMix_held (.int .i64 1) rfl hS (fun w' hw' => by go_simp <;> exact IntWalk.i64_in _ (by decide)) ?_
            simp only [Act.put, List.setIfInBounds_toArray, List.set_cons_zero, List.set_cons_succ]
            refine wpMix_call ?_
            go_wp2_with fail
            have hv := rowB_new w1 3 #[.int .i64 1, .int .i64 (-1)]
            have o2 := o1.alloc (.cells #[.int .i64 1, .int .i64 (-1)] 3)
            have r2 := rowB_alloc (rowB_below hr hS hg) (.cells #[.int .i64 1, .int .i64 (-1)] 3)
            have b2 := (bytO.below hq (hS)).alloc (.cells #[.int .i64 1, .int .i64 (-1)] 3)
            replace hS := hS.alloc hS.size (.cells #[.int .i64 1, .int .i64 (-1)] 3)
            generalize w1.alloc (.cells #[.int .i64 1, .int .i64 (-1)] 3) = w2 at *
            generalize w1.heap.size = y at *
            have v0 := rowB_cell hv 0 (v := .int .i64 1) rfl
            have v1 := rowB_cell hv 1 (v := .int .i64 (-1)) rfl
            have ly := rowB_lt hv
            have wt : wrap64 (t + -1) = t + -1 := IntWalk.wrap64_in _ (by omega)
            first | refine ⟨fun _ => hS, ?_⟩ | refine ⟨hS, ?_⟩ | refine And.intro (fun _ => hS) ?_
            (refine wpMix_still (fun K hK => ?_); go_simp; refine hK _ ?_; clear hK K)
            (refine wpMix_still (fun K hK => ?_); go_simp; refine hK _ ?_; clear hK K)
            (refine wpMix_still (fun K hK => ?_); go_simp; refine hK _ ?_; clear hK K)
            (refine wpMix_still (fun K hK => ?_); go_simp; refine hK _ ?_; clear hK K)
            refine wpMix_nil ?_
            clear c0 c1 c2 c3 c4 c5 c6 c7 c8 c9 z0 z1 z2 z3 z4 z5 z6 z7 z8 z9
            obtain ⟨⟨c0, c1, c2, c3, c4, c5, c6, c7, c8, c9⟩, ⟨z0, z1, z2, z3, z4, z5, z6, z7, z8, z9⟩⟩ := drCells r2
            have dx : decide (0 ≤ t + -1) = true := decide_eq_true (by omega)
            have dy : decide (t + -1 < 4) = true := decide_eq_true (by omega)
            go_wp2_with fail
            first | refine bodyPost_end (results_none rfl _ _ _) rfl ?_ | refine bodyPost_ret (results_none rfl _ _ _) rfl ?_
            exact ⟨rfl, (rowB_num (rowB_num (rowB_num r2 1 (t + -1)) 2 (0)) 5 (0)), (bytO.other (bytO.other (bytO.other b2 ⟨g, 1, none⟩ (.int .i64 (t + -1)) (.inr rfl)) ⟨g, 2, none⟩ (.int .i64 (0)) (.inr rfl)) ⟨g, 5, none⟩ (.int .i64 (0)) (.inr rfl)), (Off.set (Off.set (Off.set o2 (p := ⟨g, 1, none⟩) (.inl drvG.num) (.int .i64 (t + -1))) (p := ⟨g, 2, none⟩) (.inl drvG.num) (.int .i64 (0))) (p := ⟨g, 5, none⟩) (.inl drvG.num) (.int .i64 (0)))⟩
          · have e1 : (⟨k, t, 2, e, n, l, d, r, o, b, m⟩ : Dr).tick = ⟨k, t, 0, e, n, 0, d, r, o, b, m⟩ := by unfold Dr.tick; rw [if_neg (by show ¬ (2 : Int) = 0; decide), if_neg hA, if_neg hB, if_pos (by show (2 : Int) < 3; decide)]; unfold Dr.move; dsimp only; rw [if_neg (by decide), if_neg hx]
            rw [e1]
            clear e1
            obtain rfl : t = 0 := by omega
            clear hat hA hB
            go_enter Tryz.func23, Tryz.ntmps23
            go_upto_region 5 with (fail)
            refine wp_region_mix (fun w' => Below w.heap.size w w') [(0, 1), (1, 1), (2, 1), (4, 1), (5, 1), (6, 1), (7, 1), (3, 3), (8, 0), (9, 0), (10, 0), (11, 0)] (by kernel_rfl) (by kernel_rfl) (fun _ _ _ _ _ h => h) ?_
            simp only [List.map_cons, List.map_nil, opOf, List.getD_cons_zero, List.getD_cons_succ]
            change wpMix _ _ _ _ _ _ w.drew
            have hS : Below w.heap.size w w.drew := (Below.refl _ _).drew
            have o1 : Off (drvG g a) w w.drew := off_drew _ _
            generalize w.drew = w1 at *
            refine wpMix_held (.slice (some ⟨g, 0, none⟩) 10 10) rfl hS (fun w' hw' => by go_simp) ?_
            simp only [Act.put, List.setIfInBounds_toArray, List.set_cons_zero, List.set_cons_succ]
            refine wpMix_held (.pointer (some ⟨g, 1, none⟩)) rfl hS (fun w' hw' => by go_simp) ?_
            simp only [Act.put, List.setIfInBounds_toArray, List.set_cons_zero, List.set_cons_succ]
            refine wpMix_held (.int .i64 0) rfl hS (fun w' hw' => by have x1 := rowB_cell (rowB_below hr hw' hg) 1 (v := .int .i64 (0)) rfl; go_simp) ?_
            simp only [Act.put, List.setIfInBounds_toArray, List.set_cons_zero, List.set_cons_succ]
            refine wpMix_held (.slice (some ⟨g, 0, none⟩) 10 10) rfl hS (fun w' hw' => by go_simp) ?_
            simp only [Act.put, List.setIfInBounds_toArray, List.set_cons_zero, List.set_cons_succ]
            refine wpMix_held (.pointer (some ⟨g, 2, none⟩)) rfl hS (fun w' hw' => by go_simp) ?_
            simp only [Act.put, List.setIfInBounds_toArray, List.set_cons_zero, List.set_cons_succ]
            refine wpMix_held (.int .i64 2) rfl hS (fun w' hw' => by have x1 := rowB_cell (rowB_below hr hw' hg) 2 (v := .int .i64 2) rfl; go_simp) ?_
            simp only [Act.put, List.setIfInBounds_toArray, List.set_cons_zero, List.set_cons_succ]
            refine wpMix_held (.int .i64 1) rfl hS (fun w' hw' => by go_simp <;> exact IntWalk.i64_in _ (by decide)) ?_
            simp only [Act.put, List.setIfInBounds_toArray, List.set_cons_zero, List.set_cons_succ]
            refine wpMix_call ?_
            go_wp2_with fail
            have hv := rowB_new w1 3 #[.int .i64 1, .int .i64 (-1)]
            have o2 := o1.alloc (.cells #[.int .i64 1, .int .i64 (-1)] 3)
            have r2 := rowB_alloc (rowB_below hr hS hg) (.cells #[.int .i64 1, .int .i64 (-1)] 3)
            have b2 := (bytO.below hq (hS)).alloc (.cells #[.int .i64 1, .int .i64 (-1)] 3)
            replace hS := hS.alloc hS.size (.cells #[.int .i64 1, .int .i64 (-1)] 3)
            generalize w1.alloc (.cells #[.int .i64 1, .int .i64 (-1)] 3) = w2 at *
            generalize w1.heap.size = y at *
            have v0 := rowB_cell hv 0 (v := .int .i64 1) rfl
            have v1 := rowB_cell hv 1 (v := .int .i64 (-1)) rfl
            have ly := rowB_lt hv
            have wt : wrap64 (0 + -1) = 0 + -1 := IntWalk.wrap64_in _ (by omega)
            first | refine ⟨fun _ => hS, ?_⟩ | refine ⟨hS, ?_⟩ | refine And.intro (fun _ => hS) ?_
            (refine wpMix_still (fun K hK => ?_); go_simp; refine hK _ ?_; clear hK K)
            (refine wpMix_still (fun K hK => ?_); go_simp; refine hK _ ?_; clear hK K)
            (refine wpMix_still (fun K hK => ?_); go_simp; refine hK _ ?_; clear hK K)
            (refine wpMix_still (fun K hK => ?_); go_simp; refine hK _ ?_; clear hK K)
            refine wpMix_nil ?_
            clear c0 c1 c2 c3 c4 c5 c6 c7 c8 c9 z0 z1 z2 z3 z4 z5 z6 z7 z8 z9
            obtain ⟨⟨c0, c1, c2, c3, c4, c5, c6, c7, c8, c9⟩, ⟨z0, z1, z2, z3, z4, z5, z6, z7, z8, z9⟩⟩ := drCells r2
            go_wp2_with fail
            first | refine bodyPost_end (results_none rfl _ _ _) rfl ?_ | refine bodyPost_ret (results_none rfl _ _ _) rfl ?_
            exact ⟨rfl, (rowB_num (rowB_num r2 2 (0)) 5 (0)), (bytO.other (bytO.other b2 ⟨g, 2, none⟩ (.int .i64 (0)) (.inr rfl)) ⟨g, 5, none⟩ (.int .i64 (0)) (.inr rfl)), (Off.set (Off.set o2 (p := ⟨g, 2, none⟩) (.inl drvG.num) (.int .i64 (0))) (p := ⟨g, 5, none⟩) (.inl drvG.num) (.int .i64 (0)))⟩
      · have hk0 : k ≠ 0 := fun h => hA ⟨by omega, h⟩
        have d2 : decide (2 < c) = true := decide_eq_true (by omega)
        have dk : (k == 0) = false := by simpa using hk0
        have dc3 : decide (c < 3) = false := decide_eq_false (by omega)
        rcases hq with ⟨rfl, _⟩ | ⟨q, rfl, hlo, hqg, hrq⟩
        · exfalso
          have := hk.2
          simp at this
          omega
        have hb := hat hk0
        obtain ⟨P, hP⟩ : ∃ P : Nat, 256 * k - 256 + 64 * t + 16 * e + n = P := ⟨(256 * k - 256 + 64 * t + 16 * e + n).toNat, by omega⟩
        have hAt : ∀ c r o : Int, (Dr.mk k t c e n l d r o b m).at.toNat = P := fun _ _ _ => (show (256 * k - 256 + 64 * t + 16 * e + n).toNat = P by omega)
        have hPl : P < m.length := by omega
        have hv := Vd.reg_bd hy P
        have hmP : (byts m)[P]? = some (.int .u8 (vreg m P)) := by
          rw [byts_get, List.getElem?_eq_getElem hPl]
          unfold vreg
          rw [List.getD_eq_getElem?_getD, List.getElem?_eq_getElem hPl]
          rfl
        have cq := rowB_cell hrq P hmP
        have zq := rowB_free hrq P
        have i1 : IntKind.i64.wrap (256 * k) = 256 * k := IntWalk.i64_in _ (by omega)
        have i2 : IntKind.i64.wrap (256 * k - 256) = 256 * k - 256 := IntWalk.i64_in _ (by omega)
        have i3 : IntKind.i64.wrap (64 * t) = 64 * t := IntWalk.i64_in _ (by omega)
        have i4 : IntKind.i64.wrap (256 * k - 256 + 64 * t) = 256 * k - 256 + 64 * t := IntWalk.i64_in _ (by omega)
        have i5 : IntKind.i64.wrap (16 * e) = 16 * e := IntWalk.i64_in _ (by omega)
        have i6 : IntKind.i64.wrap (256 * k - 256 + 64 * t + 16 * e) = 256 * k - 256 + 64 * t + 16 * e := IntWalk.i64_in _ (by omega)
        have i7 : IntKind.i64.wrap (256 * k - 256 + 64 * t + 16 * e + n) = P := (IntWalk.i64_in _ (by omega)).trans hP
        have u1 : wrap64 (vreg m P) = vreg m P := IntWalk.wrap64_in _ (by omega)
        have u2 : IntKind.u8.wrap d = d := Int.emod_eq_of_lt hd.1 hd.2
        have u3 : wrap64 (n + 1) = n + 1 := IntWalk.wrap64_in _ (by omega)
        clear hat hb
        rcases (by omega : c = 3 ∨ c = 4) with rfl | rfl
        · by_cases hr1 : r = 1
          · by_cases hx : n + 1 = 16
            · have e1 : (⟨k, t, 3, e, n, l, d, r, o, b, m⟩ : Dr).tick = ⟨k, t, 0, e, 0, 0, vreg m P, 1, 1, b, m⟩ := by unfold Dr.tick; rw [if_neg (by show ¬ (3 : Int) = 0; decide), if_neg hA, if_neg hB, if_neg (by show ¬ (3 : Int) < 3; decide)]; unfold Dr.byte; rw [if_pos rfl]; unfold Dr.done; dsimp only; rw [hAt, if_pos hx, if_pos hr1, if_neg (by decide)]
              rw [e1]
              clear e1
              have dr : (r == 1) = true := by simpa using hr1
              have dn : (n + 1 == 16) = true := by simpa using hx
              clear hA hB hr1 hx hAt
              go_enter Tryz.func23, Tryz.ntmps23
              go_upto_region 11 with fail
              have of := Off.refl (drvG g (some ⟨q, 0, none⟩)) w
              replace hr := rowB_num hr 8 1
              replace hrq := rowB_other hrq ⟨g, 8, none⟩ (.int .i64 1) (show g ≠ q from fun h => hqg h.symm)
              replace of := Off.set of (p := ⟨g, 8, none⟩) (.inl drvG.num) (.int .i64 1)
              change Code.wp _ _ _ _ (w.setCell ⟨g, 8, none⟩ (.int .i64 1))
              generalize w.setCell ⟨g, 8, none⟩ (.int .i64 1) = w1 at *
              clear c0 c1 c2 c3 c4 c5 c6 c7 c8 c9 z0 z1 z2 z3 z4 z5 z6 z7 z8 z9 cq zq
              obtain ⟨⟨c0, c1, c2, c3, c4, c5, c6, c7, c8, c9⟩, ⟨z0, z1, z2, z3, z4, z5, z6, z7, z8, z9⟩⟩ := drCells (k := k) (t := t) (c := 3) (e := e) (n := n) (l := l) (d := d) (r := r) (o := 1) (b := b) hr
              have cq := rowB_cell hrq P hmP
              have zq := rowB_free hrq P
              go_quiet (fail)
              replace hr := rowB_below hr (below_drewN w1 nq _) (rowB_lt hr)
              replace hrq := rowB_below hrq (below_drewN w1 nq _) (rowB_lt hrq)
              replace of := of.trans (off_below (below_drewN w1 nq _))
              generalize w1.drewN nq = w2 at *
              clear c0 c1 c2 c3 c4 c5 c6 c7 c8 c9 z0 z1 z2 z3 z4 z5 z6 z7 z8 z9 cq zq
              obtain ⟨⟨c0, c1, c2, c3, c4, c5, c6, c7, c8, c9⟩, ⟨z0, z1, z2, z3, z4, z5, z6, z7, z8, z9⟩⟩ := drCells (k := k) (t := t) (c := 3) (e := e) (n := n) (l := l) (d := d) (r := r) (o := 1) (b := b) hr
              have cq := rowB_cell hrq P hmP
              have zq := rowB_free hrq P
              go_wp2_with fail
              first | refine bodyPost_end (results_none rfl _ _ _) rfl ?_ | refine bodyPost_ret (results_none rfl _ _ _) rfl ?_
              exact ⟨rfl, (rowB_num (rowB_num (rowB_num (rowB_num (rowB_num (rowB_num (rowB_num hr 6 (vreg m P)) 7 (1)) 5 (20)) 4 (n + 1)) 2 (0)) 4 (0)) 5 (0)), .inr ⟨q, rfl, hlo, hqg, (rowB_other (rowB_other (rowB_other (rowB_other (rowB_other (rowB_other (rowB_other hrq ⟨g, 6, none⟩ (.int .i64 (vreg m P)) (show g ≠ q from fun h => hqg h.symm)) ⟨g, 7, none⟩ (.int .i64 (1)) (show g ≠ q from fun h => hqg h.symm)) ⟨g, 5, none⟩ (.int .i64 (20)) (show g ≠ q from fun h => hqg h.symm)) ⟨g, 4, none⟩ (.int .i64 (n + 1)) (show g ≠ q from fun h => hqg h.symm)) ⟨g, 2, none⟩ (.int .i64 (0)) (show g ≠ q from fun h => hqg h.symm)) ⟨g, 4, none⟩ (.int .i64 (0)) (show g ≠ q from fun h => hqg h.symm)) ⟨g, 5, none⟩ (.int .i64 (0)) (show g ≠ q from fun h => hqg h.symm))⟩, (Off.set (Off.set (Off.set (Off.set (Off.set (Off.set (Off.set of (p := ⟨g, 6, none⟩) (.inl drvG.num) (.int .i64 (vreg m P))) (p := ⟨g, 7, none⟩) (.inl drvG.num) (.int .i64 (1))) (p := ⟨g, 5, none⟩) (.inl drvG.num) (.int .i64 (20))) (p := ⟨g, 4, none⟩) (.inl drvG.num) (.int .i64 (n + 1))) (p := ⟨g, 2, none⟩) (.inl drvG.num) (.int .i64 (0))) (p := ⟨g, 4, none⟩) (.inl drvG.num) (.int .i64 (0))) (p := ⟨g, 5, none⟩) (.inl drvG.num) (.int .i64 (0)))⟩
            · have e1 : (⟨k, t, 3, e, n, l, d, r, o, b, m⟩ : Dr).tick = ⟨k, t, 3, e, n + 1, 20, vreg m P, 1, 1, b, m⟩ := by unfold Dr.tick; rw [if_neg (by show ¬ (3 : Int) = 0; decide), if_neg hA, if_neg hB, if_neg (by show ¬ (3 : Int) < 3; decide)]; unfold Dr.byte; rw [if_pos rfl]; unfold Dr.done; dsimp only; rw [hAt, if_neg hx, if_pos hr1]
              rw [e1]
              clear e1
              have dr : (r == 1) = true := by simpa using hr1
              have dn : (n + 1 == 16) = false := by simpa using hx
              clear hA hB hr1 hx hAt
              go_enter Tryz.func23, Tryz.ntmps23
              go_upto_region 11 with fail
              have of := Off.refl (drvG g (some ⟨q, 0, none⟩)) w
              replace hr := rowB_num hr 8 1
              replace hrq := rowB_other hrq ⟨g, 8, none⟩ (.int .i64 1) (show g ≠ q from fun h => hqg h.symm)
              replace of := Off.set of (p := ⟨g, 8, none⟩) (.inl drvG.num) (.int .i64 1)
              change Code.wp _ _ _ _ (w.setCell ⟨g, 8, none⟩ (.int .i64 1))
              generalize w.setCell ⟨g, 8, none⟩ (.int .i64 1) = w1 at *
              clear c0 c1 c2 c3 c4 c5 c6 c7 c8 c9 z0 z1 z2 z3 z4 z5 z6 z7 z8 z9 cq zq
              obtain ⟨⟨c0, c1, c2, c3, c4, c5, c6, c7, c8, c9⟩, ⟨z0, z1, z2, z3, z4, z5, z6, z7, z8, z9⟩⟩ := drCells (k := k) (t := t) (c := 3) (e := e) (n := n) (l := l) (d := d) (r := r) (o := 1) (b := b) hr
              have cq := rowB_cell hrq P hmP
              have zq := rowB_free hrq P
              go_quiet (fail)
              replace hr := rowB_below hr (below_drewN w1 nq _) (rowB_lt hr)
              replace hrq := rowB_below hrq (below_drewN w1 nq _) (rowB_lt hrq)
              replace of := of.trans (off_below (below_drewN w1 nq _))
              generalize w1.drewN nq = w2 at *
              clear c0 c1 c2 c3 c4 c5 c6 c7 c8 c9 z0 z1 z2 z3 z4 z5 z6 z7 z8 z9 cq zq
              obtain ⟨⟨c0, c1, c2, c3, c4, c5, c6, c7, c8, c9⟩, ⟨z0, z1, z2, z3, z4, z5, z6, z7, z8, z9⟩⟩ := drCells (k := k) (t := t) (c := 3) (e := e) (n := n) (l := l) (d := d) (r := r) (o := 1) (b := b) hr
              have cq := rowB_cell hrq P hmP
              have zq := rowB_free hrq P
              go_wp2_with fail
              first | refine bodyPost_end (results_none rfl _ _ _) rfl ?_ | refine bodyPost_ret (results_none rfl _ _ _) rfl ?_
              exact ⟨rfl, (rowB_num (rowB_num (rowB_num (rowB_num hr 6 (vreg m P)) 7 (1)) 5 (20)) 4 (n + 1)), .inr ⟨q, rfl, hlo, hqg, (rowB_other (rowB_other (rowB_other (rowB_other hrq ⟨g, 6, none⟩ (.int .i64 (vreg m P)) (show g ≠ q from fun h => hqg h.symm)) ⟨g, 7, none⟩ (.int .i64 (1)) (show g ≠ q from fun h => hqg h.symm)) ⟨g, 5, none⟩ (.int .i64 (20)) (show g ≠ q from fun h => hqg h.symm)) ⟨g, 4, none⟩ (.int .i64 (n + 1)) (show g ≠ q from fun h => hqg h.symm))⟩, (Off.set (Off.set (Off.set (Off.set of (p := ⟨g, 6, none⟩) (.inl drvG.num) (.int .i64 (vreg m P))) (p := ⟨g, 7, none⟩) (.inl drvG.num) (.int .i64 (1))) (p := ⟨g, 5, none⟩) (.inl drvG.num) (.int .i64 (20))) (p := ⟨g, 4, none⟩) (.inl drvG.num) (.int .i64 (n + 1)))⟩
          · by_cases hx : n + 1 = 16
            · have e1 : (⟨k, t, 3, e, n, l, d, r, o, b, m⟩ : Dr).tick = ⟨k, t, 0, e, 0, 0, vreg m P, 1, o, b, m⟩ := by unfold Dr.tick; rw [if_neg (by show ¬ (3 : Int) = 0; decide), if_neg hA, if_neg hB, if_neg (by show ¬ (3 : Int) < 3; decide)]; unfold Dr.byte; rw [if_pos rfl]; unfold Dr.done; dsimp only; rw [hAt, if_pos hx, if_neg hr1, if_neg (by decide)]
              rw [e1]
              clear e1
              have dr : (r == 1) = false := by simpa using hr1
              have dn : (n + 1 == 16) = true := by simpa using hx
              clear hA hB hr1 hx hAt
              go_enter Tryz.func23, Tryz.ntmps23
              go_upto_region 11 with fail
              have of := Off.refl (drvG g (some ⟨q, 0, none⟩)) w
              obtain ⟨w1, hw1⟩ : ∃ z, z = w := ⟨_, rfl⟩
              rw [← hw1] at hr hrq
              have of : Off (drvG g (some ⟨q, 0, none⟩)) w w1 := by rw [hw1]; exact of
              change Code.wp _ _ _ _ w
              rw [← hw1]
              clear hw1
              clear c0 c1 c2 c3 c4 c5 c6 c7 c8 c9 z0 z1 z2 z3 z4 z5 z6 z7 z8 z9 cq zq
              obtain ⟨⟨c0, c1, c2, c3, c4, c5, c6, c7, c8, c9⟩, ⟨z0, z1, z2, z3, z4, z5, z6, z7, z8, z9⟩⟩ := drCells (k := k) (t := t) (c := 3) (e := e) (n := n) (l := l) (d := d) (r := r) (o := o) (b := b) hr
              have cq := rowB_cell hrq P hmP
              have zq := rowB_free hrq P
              go_quiet (fail)
              replace hr := rowB_below hr (below_drewN w1 nq _) (rowB_lt hr)
              replace hrq := rowB_below hrq (below_drewN w1 nq _) (rowB_lt hrq)
              replace of := of.trans (off_below (below_drewN w1 nq _))
              generalize w1.drewN nq = w2 at *
              clear c0 c1 c2 c3 c4 c5 c6 c7 c8 c9 z0 z1 z2 z3 z4 z5 z6 z7 z8 z9 cq zq
              obtain ⟨⟨c0, c1, c2, c3, c4, c5, c6, c7, c8, c9⟩, ⟨z0, z1, z2, z3, z4, z5, z6, z7, z8, z9⟩⟩ := drCells (k := k) (t := t) (c := 3) (e := e) (n := n) (l := l) (d := d) (r := r) (o := o) (b := b) hr
              have cq := rowB_cell hrq P hmP
              have zq := rowB_free hrq P
              go_wp2_with fail
              first | refine bodyPost_end (results_none rfl _ _ _) rfl ?_ | refine bodyPost_ret (results_none rfl _ _ _) rfl ?_
              exact ⟨rfl, (rowB_num (rowB_num (rowB_num (rowB_num (rowB_num (rowB_num (rowB_num hr 6 (vreg m P)) 7 (1)) 5 (20)) 4 (n + 1)) 2 (0)) 4 (0)) 5 (0)), .inr ⟨q, rfl, hlo, hqg, (rowB_other (rowB_other (rowB_other (rowB_other (rowB_other (rowB_other (rowB_other hrq ⟨g, 6, none⟩ (.int .i64 (vreg m P)) (show g ≠ q from fun h => hqg h.symm)) ⟨g, 7, none⟩ (.int .i64 (1)) (show g ≠ q from fun h => hqg h.symm)) ⟨g, 5, none⟩ (.int .i64 (20)) (show g ≠ q from fun h => hqg h.symm)) ⟨g, 4, none⟩ (.int .i64 (n + 1)) (show g ≠ q from fun h => hqg h.symm)) ⟨g, 2, none⟩ (.int .i64 (0)) (show g ≠ q from fun h => hqg h.symm)) ⟨g, 4, none⟩ (.int .i64 (0)) (show g ≠ q from fun h => hqg h.symm)) ⟨g, 5, none⟩ (.int .i64 (0)) (show g ≠ q from fun h => hqg h.symm))⟩, (Off.set (Off.set (Off.set (Off.set (Off.set (Off.set (Off.set of (p := ⟨g, 6, none⟩) (.inl drvG.num) (.int .i64 (vreg m P))) (p := ⟨g, 7, none⟩) (.inl drvG.num) (.int .i64 (1))) (p := ⟨g, 5, none⟩) (.inl drvG.num) (.int .i64 (20))) (p := ⟨g, 4, none⟩) (.inl drvG.num) (.int .i64 (n + 1))) (p := ⟨g, 2, none⟩) (.inl drvG.num) (.int .i64 (0))) (p := ⟨g, 4, none⟩) (.inl drvG.num) (.int .i64 (0))) (p := ⟨g, 5, none⟩) (.inl drvG.num) (.int .i64 (0)))⟩
            · have e1 : (⟨k, t, 3, e, n, l, d, r, o, b, m⟩ : Dr).tick = ⟨k, t, 3, e, n + 1, 20, vreg m P, 1, o, b, m⟩ := by unfold Dr.tick; rw [if_neg (by show ¬ (3 : Int) = 0; decide), if_neg hA, if_neg hB, if_neg (by show ¬ (3 : Int) < 3; decide)]; unfold Dr.byte; rw [if_pos rfl]; unfold Dr.done; dsimp only; rw [hAt, if_neg hx, if_neg hr1]
              rw [e1]
              clear e1
              have dr : (r == 1) = false := by simpa using hr1
              have dn : (n + 1 == 16) = false := by simpa using hx
              clear hA hB hr1 hx hAt
              go_enter Tryz.func23, Tryz.ntmps23
              go_upto_region 11 with fail
              have of := Off.refl (drvG g (some ⟨q, 0, none⟩)) w
              obtain ⟨w1, hw1⟩ : ∃ z, z = w := ⟨_, rfl⟩
              rw [← hw1] at hr hrq
              have of : Off (drvG g (some ⟨q, 0, none⟩)) w w1 := by rw [hw1]; exact of
              change Code.wp _ _ _ _ w
              rw [← hw1]
              clear hw1
              clear c0 c1 c2 c3 c4 c5 c6 c7 c8 c9 z0 z1 z2 z3 z4 z5 z6 z7 z8 z9 cq zq
              obtain ⟨⟨c0, c1, c2, c3, c4, c5, c6, c7, c8, c9⟩, ⟨z0, z1, z2, z3, z4, z5, z6, z7, z8, z9⟩⟩ := drCells (k := k) (t := t) (c := 3) (e := e) (n := n) (l := l) (d := d) (r := r) (o := o) (b := b) hr
              have cq := rowB_cell hrq P hmP
              have zq := rowB_free hrq P
              go_quiet (fail)
              replace hr := rowB_below hr (below_drewN w1 nq _) (rowB_lt hr)
              replace hrq := rowB_below hrq (below_drewN w1 nq _) (rowB_lt hrq)
              replace of := of.trans (off_below (below_drewN w1 nq _))
              generalize w1.drewN nq = w2 at *
              clear c0 c1 c2 c3 c4 c5 c6 c7 c8 c9 z0 z1 z2 z3 z4 z5 z6 z7 z8 z9 cq zq
              obtain ⟨⟨c0, c1, c2, c3, c4, c5, c6, c7, c8, c9⟩, ⟨z0, z1, z2, z3, z4, z5, z6, z7, z8, z9⟩⟩ := drCells (k := k) (t := t) (c := 3) (e := e) (n := n) (l := l) (d := d) (r := r) (o := o) (b := b) hr
              have cq := rowB_cell hrq P hmP
              have zq := rowB_free hrq P
              go_wp2_with fail
              first | refine bodyPost_end (results_none rfl _ _ _) rfl ?_ | refine bodyPost_ret (results_none rfl _ _ _) rfl ?_
              exact ⟨rfl, (rowB_num (rowB_num (rowB_num (rowB_num hr 6 (vreg m P)) 7 (1)) 5 (20)) 4 (n + 1)), .inr ⟨q, rfl, hlo, hqg, (rowB_other (rowB_other (rowB_other (rowB_other hrq ⟨g, 6, none⟩ (.int .i64 (vreg m P)) (show g ≠ q from fun h => hqg h.symm)) ⟨g, 7, none⟩ (.int .i64 (1)) (show g ≠ q from fun h => hqg h.symm)) ⟨g, 5, none⟩ (.int .i64 (20)) (show g ≠ q from fun h => hqg h.symm)) ⟨g, 4, none⟩ (.int .i64 (n + 1)) (show g ≠ q from fun h => hqg h.symm))⟩, (Off.set (Off.set (Off.set (Off.set of (p := ⟨g, 6, none⟩) (.inl drvG.num) (.int .i64 (vreg m P))) (p := ⟨g, 7, none⟩) (.inl drvG.num) (.int .i64 (1))) (p := ⟨g, 5, none⟩) (.inl drvG.num) (.int .i64 (20))) (p := ⟨g, 4, none⟩) (.inl drvG.num) (.int .i64 (n + 1)))⟩
        · by_cases hr1 : r = 1
          · by_cases hx : n + 1 = 16
            · have e1 : (⟨k, t, 4, e, n, l, d, r, o, b, m⟩ : Dr).tick = ⟨k, t, 0, e, 0, 0, d, 0, 1, b, m.set P d⟩ := by unfold Dr.tick; rw [if_neg (by show ¬ (4 : Int) = 0; decide), if_neg hA, if_neg hB, if_neg (by show ¬ (4 : Int) < 3; decide)]; unfold Dr.byte; rw [if_neg (by show ¬ (4 : Int) = 3; decide)]; unfold Dr.done; dsimp only; rw [hAt, if_pos hx, if_pos hr1, if_pos rfl]
              rw [e1]
              clear e1
              have dr : (r == 1) = true := by simpa using hr1
              have dn : (n + 1 == 16) = true := by simpa using hx
              clear hA hB hr1 hx hAt
              go_enter Tryz.func23, Tryz.ntmps23
              go_upto_region 11 with fail
              have of := Off.refl (drvG g (some ⟨q, 0, none⟩)) w
              replace hr := rowB_num hr 8 1
              replace hrq := rowB_other hrq ⟨g, 8, none⟩ (.int .i64 1) (show g ≠ q from fun h => hqg h.symm)
              replace of := Off.set of (p := ⟨g, 8, none⟩) (.inl drvG.num) (.int .i64 1)
              change Code.wp _ _ _ _ (w.setCell ⟨g, 8, none⟩ (.int .i64 1))
              generalize w.setCell ⟨g, 8, none⟩ (.int .i64 1) = w1 at *
              clear c0 c1 c2 c3 c4 c5 c6 c7 c8 c9 z0 z1 z2 z3 z4 z5 z6 z7 z8 z9 cq zq
              obtain ⟨⟨c0, c1, c2, c3, c4, c5, c6, c7, c8, c9⟩, ⟨z0, z1, z2, z3, z4, z5, z6, z7, z8, z9⟩⟩ := drCells (k := k) (t := t) (c := 4) (e := e) (n := n) (l := l) (d := d) (r := r) (o := 1) (b := b) hr
              have cq := rowB_cell hrq P hmP
              have zq := rowB_free hrq P
              go_quiet (fail)
              replace hr := rowB_below hr (below_drewN w1 nq _) (rowB_lt hr)
              replace hrq := rowB_below hrq (below_drewN w1 nq _) (rowB_lt hrq)
              replace of := of.trans (off_below (below_drewN w1 nq _))
              generalize w1.drewN nq = w2 at *
              clear c0 c1 c2 c3 c4 c5 c6 c7 c8 c9 z0 z1 z2 z3 z4 z5 z6 z7 z8 z9 cq zq
              obtain ⟨⟨c0, c1, c2, c3, c4, c5, c6, c7, c8, c9⟩, ⟨z0, z1, z2, z3, z4, z5, z6, z7, z8, z9⟩⟩ := drCells (k := k) (t := t) (c := 4) (e := e) (n := n) (l := l) (d := d) (r := r) (o := 1) (b := b) hr
              have cq := rowB_cell hrq P hmP
              have zq := rowB_free hrq P
              go_wp2_with fail
              first | refine bodyPost_end (results_none rfl _ _ _) rfl ?_ | refine bodyPost_ret (results_none rfl _ _ _) rfl ?_
              exact ⟨rfl, (rowB_num (rowB_num (rowB_num (rowB_num (rowB_num (rowB_num (rowB_num (rowB_other hr ⟨q, P, none⟩ (.int .u8 d) (show q ≠ g from hqg)) 7 (1)) 5 (20)) 4 (n + 1)) 7 (0)) 2 (0)) 4 (0)) 5 (0)), .inr ⟨q, rfl, hlo, hqg, (rowB_other (rowB_other (rowB_other (rowB_other (rowB_other (rowB_other (rowB_other (rowB_eq (rowB_set hrq P (.int .u8 d)) (byts_set _ _ _)) ⟨g, 7, none⟩ (.int .i64 (1)) (show g ≠ q from fun h => hqg h.symm)) ⟨g, 5, none⟩ (.int .i64 (20)) (show g ≠ q from fun h => hqg h.symm)) ⟨g, 4, none⟩ (.int .i64 (n + 1)) (show g ≠ q from fun h => hqg h.symm)) ⟨g, 7, none⟩ (.int .i64 (0)) (show g ≠ q from fun h => hqg h.symm)) ⟨g, 2, none⟩ (.int .i64 (0)) (show g ≠ q from fun h => hqg h.symm)) ⟨g, 4, none⟩ (.int .i64 (0)) (show g ≠ q from fun h => hqg h.symm)) ⟨g, 5, none⟩ (.int .i64 (0)) (show g ≠ q from fun h => hqg h.symm))⟩, (Off.set (Off.set (Off.set (Off.set (Off.set (Off.set (Off.set (Off.set of (p := ⟨q, P, none⟩) (.inl drvG.byt) (.int .u8 d)) (p := ⟨g, 7, none⟩) (.inl drvG.num) (.int .i64 (1))) (p := ⟨g, 5, none⟩) (.inl drvG.num) (.int .i64 (20))) (p := ⟨g, 4, none⟩) (.inl drvG.num) (.int .i64 (n + 1))) (p := ⟨g, 7, none⟩) (.inl drvG.num) (.int .i64 (0))) (p := ⟨g, 2, none⟩) (.inl drvG.num) (.int .i64 (0))) (p := ⟨g, 4, none⟩) (.inl drvG.num) (.int .i64 (0))) (p := ⟨g, 5, none⟩) (.inl drvG.num) (.int .i64 (0)))⟩
            · have e1 : (⟨k, t, 4, e, n, l, d, r, o, b, m⟩ : Dr).tick = ⟨k, t, 4, e, n + 1, 20, d, 1, 1, b, m.set P d⟩ := by unfold Dr.tick; rw [if_neg (by show ¬ (4 : Int) = 0; decide), if_neg hA, if_neg hB, if_neg (by show ¬ (4 : Int) < 3; decide)]; unfold Dr.byte; rw [if_neg (by show ¬ (4 : Int) = 3; decide)]; unfold Dr.done; dsimp only; rw [hAt, if_neg hx, if_pos hr1]
              rw [e1]
              clear e1
              have dr : (r == 1) = true := by simpa using hr1
              have dn : (n + 1 == 16) = false := by simpa using hx
              clear hA hB hr1 hx hAt
              go_enter Tryz.func23, Tryz.ntmps23
              go_upto_region 11 with fail
              have of := Off.refl (drvG g (some ⟨q, 0, none⟩)) w
              replace hr := rowB_num hr 8 1
              replace hrq := rowB_other hrq ⟨g, 8, none⟩ (.int .i64 1) (show g ≠ q from fun h => hqg h.symm)
              replace of := Off.set of (p := ⟨g, 8, none⟩) (.inl drvG.num) (.int .i64 1)
              change Code.wp _ _ _ _ (w.setCell ⟨g, 8, none⟩ (.int .i64 1))
              generalize w.setCell ⟨g, 8, none⟩ (.int .i64 1) = w1 at *
              clear c0 c1 c2 c3 c4 c5 c6 c7 c8 c9 z0 z1 z2 z3 z4 z5 z6 z7 z8 z9 cq zq
              obtain ⟨⟨c0, c1, c2, c3, c4, c5, c6, c7, c8, c9⟩, ⟨z0, z1, z2, z3, z4, z5, z6, z7, z8, z9⟩⟩ := drCells (k := k) (t := t) (c := 4) (e := e) (n := n) (l := l) (d := d) (r := r) (o := 1) (b := b) hr
              have cq := rowB_cell hrq P hmP
              have zq := rowB_free hrq P
              go_quiet (fail)
              replace hr := rowB_below hr (below_drewN w1 nq _) (rowB_lt hr)
              replace hrq := rowB_below hrq (below_drewN w1 nq _) (rowB_lt hrq)
              replace of := of.trans (off_below (below_drewN w1 nq _))
              generalize w1.drewN nq = w2 at *
              clear c0 c1 c2 c3 c4 c5 c6 c7 c8 c9 z0 z1 z2 z3 z4 z5 z6 z7 z8 z9 cq zq
              obtain ⟨⟨c0, c1, c2, c3, c4, c5, c6, c7, c8, c9⟩, ⟨z0, z1, z2, z3, z4, z5, z6, z7, z8, z9⟩⟩ := drCells (k := k) (t := t) (c := 4) (e := e) (n := n) (l := l) (d := d) (r := r) (o := 1) (b := b) hr
              have cq := rowB_cell hrq P hmP
              have zq := rowB_free hrq P
              go_wp2_with fail
              first | refine bodyPost_end (results_none rfl _ _ _) rfl ?_ | refine bodyPost_ret (results_none rfl _ _ _) rfl ?_
              exact ⟨rfl, (rowB_num (rowB_num (rowB_num (rowB_other hr ⟨q, P, none⟩ (.int .u8 d) (show q ≠ g from hqg)) 7 (1)) 5 (20)) 4 (n + 1)), .inr ⟨q, rfl, hlo, hqg, (rowB_other (rowB_other (rowB_other (rowB_eq (rowB_set hrq P (.int .u8 d)) (byts_set _ _ _)) ⟨g, 7, none⟩ (.int .i64 (1)) (show g ≠ q from fun h => hqg h.symm)) ⟨g, 5, none⟩ (.int .i64 (20)) (show g ≠ q from fun h => hqg h.symm)) ⟨g, 4, none⟩ (.int .i64 (n + 1)) (show g ≠ q from fun h => hqg h.symm))⟩, (Off.set (Off.set (Off.set (Off.set of (p := ⟨q, P, none⟩) (.inl drvG.byt) (.int .u8 d)) (p := ⟨g, 7, none⟩) (.inl drvG.num) (.int .i64 (1))) (p := ⟨g, 5, none⟩) (.inl drvG.num) (.int .i64 (20))) (p := ⟨g, 4, none⟩) (.inl drvG.num) (.int .i64 (n + 1)))⟩
          · by_cases hx : n + 1 = 16
            · have e1 : (⟨k, t, 4, e, n, l, d, r, o, b, m⟩ : Dr).tick = ⟨k, t, 0, e, 0, 0, d, 0, o, b, m.set P d⟩ := by unfold Dr.tick; rw [if_neg (by show ¬ (4 : Int) = 0; decide), if_neg hA, if_neg hB, if_neg (by show ¬ (4 : Int) < 3; decide)]; unfold Dr.byte; rw [if_neg (by show ¬ (4 : Int) = 3; decide)]; unfold Dr.done; dsimp only; rw [hAt, if_pos hx, if_neg hr1, if_pos rfl]
              rw [e1]
              clear e1
              have dr : (r == 1) = false := by simpa using hr1
              have dn : (n + 1 == 16) = true := by simpa using hx
              clear hA hB hr1 hx hAt
              go_enter Tryz.func23, Tryz.ntmps23
              go_upto_region 11 with fail
              have of := Off.refl (drvG g (some ⟨q, 0, none⟩)) w
              obtain ⟨w1, hw1⟩ : ∃ z, z = w := ⟨_, rfl⟩
              rw [← hw1] at hr hrq
              have of : Off (drvG g (some ⟨q, 0, none⟩)) w w1 := by rw [hw1]; exact of
              change Code.wp _ _ _ _ w
              rw [← hw1]
              clear hw1
              clear c0 c1 c2 c3 c4 c5 c6 c7 c8 c9 z0 z1 z2 z3 z4 z5 z6 z7 z8 z9 cq zq
              obtain ⟨⟨c0, c1, c2, c3, c4, c5, c6, c7, c8, c9⟩, ⟨z0, z1, z2, z3, z4, z5, z6, z7, z8, z9⟩⟩ := drCells (k := k) (t := t) (c := 4) (e := e) (n := n) (l := l) (d := d) (r := r) (o := o) (b := b) hr
              have cq := rowB_cell hrq P hmP
              have zq := rowB_free hrq P
              go_quiet (fail)
              replace hr := rowB_below hr (below_drewN w1 nq _) (rowB_lt hr)
              replace hrq := rowB_below hrq (below_drewN w1 nq _) (rowB_lt hrq)
              replace of := of.trans (off_below (below_drewN w1 nq _))
              generalize w1.drewN nq = w2 at *
              clear c0 c1 c2 c3 c4 c5 c6 c7 c8 c9 z0 z1 z2 z3 z4 z5 z6 z7 z8 z9 cq zq
              obtain ⟨⟨c0, c1, c2, c3, c4, c5, c6, c7, c8, c9⟩, ⟨z0, z1, z2, z3, z4, z5, z6, z7, z8, z9⟩⟩ := drCells (k := k) (t := t) (c := 4) (e := e) (n := n) (l := l) (d := d) (r := r) (o := o) (b := b) hr
              have cq := rowB_cell hrq P hmP
              have zq := rowB_free hrq P
              go_wp2_with fail
              first | refine bodyPost_end (results_none rfl _ _ _) rfl ?_ | refine bodyPost_ret (results_none rfl _ _ _) rfl ?_
              exact ⟨rfl, (rowB_num (rowB_num (rowB_num (rowB_num (rowB_num (rowB_num (rowB_num (rowB_other hr ⟨q, P, none⟩ (.int .u8 d) (show q ≠ g from hqg)) 7 (1)) 5 (20)) 4 (n + 1)) 7 (0)) 2 (0)) 4 (0)) 5 (0)), .inr ⟨q, rfl, hlo, hqg, (rowB_other (rowB_other (rowB_other (rowB_other (rowB_other (rowB_other (rowB_other (rowB_eq (rowB_set hrq P (.int .u8 d)) (byts_set _ _ _)) ⟨g, 7, none⟩ (.int .i64 (1)) (show g ≠ q from fun h => hqg h.symm)) ⟨g, 5, none⟩ (.int .i64 (20)) (show g ≠ q from fun h => hqg h.symm)) ⟨g, 4, none⟩ (.int .i64 (n + 1)) (show g ≠ q from fun h => hqg h.symm)) ⟨g, 7, none⟩ (.int .i64 (0)) (show g ≠ q from fun h => hqg h.symm)) ⟨g, 2, none⟩ (.int .i64 (0)) (show g ≠ q from fun h => hqg h.symm)) ⟨g, 4, none⟩ (.int .i64 (0)) (show g ≠ q from fun h => hqg h.symm)) ⟨g, 5, none⟩ (.int .i64 (0)) (show g ≠ q from fun h => hqg h.symm))⟩, (Off.set (Off.set (Off.set (Off.set (Off.set (Off.set (Off.set (Off.set of (p := ⟨q, P, none⟩) (.inl drvG.byt) (.int .u8 d)) (p := ⟨g, 7, none⟩) (.inl drvG.num) (.int .i64 (1))) (p := ⟨g, 5, none⟩) (.inl drvG.num) (.int .i64 (20))) (p := ⟨g, 4, none⟩) (.inl drvG.num) (.int .i64 (n + 1))) (p := ⟨g, 7, none⟩) (.inl drvG.num) (.int .i64 (0))) (p := ⟨g, 2, none⟩) (.inl drvG.num) (.int .i64 (0))) (p := ⟨g, 4, none⟩) (.inl drvG.num) (.int .i64 (0))) (p := ⟨g, 5, none⟩) (.inl drvG.num) (.int .i64 (0)))⟩
            · have e1 : (⟨k, t, 4, e, n, l, d, r, o, b, m⟩ : Dr).tick = ⟨k, t, 4, e, n + 1, 20, d, 1, o, b, m.set P d⟩ := by unfold Dr.tick; rw [if_neg (by show ¬ (4 : Int) = 0; decide), if_neg hA, if_neg hB, if_neg (by show ¬ (4 : Int) < 3; decide)]; unfold Dr.byte; rw [if_neg (by show ¬ (4 : Int) = 3; decide)]; unfold Dr.done; dsimp only; rw [hAt, if_neg hx, if_neg hr1]
              rw [e1]
              clear e1
              have dr : (r == 1) = false := by simpa using hr1
              have dn : (n + 1 == 16) = false := by simpa using hx
              clear hA hB hr1 hx hAt
              go_enter Tryz.func23, Tryz.ntmps23
              go_upto_region 11 with fail
              have of := Off.refl (drvG g (some ⟨q, 0, none⟩)) w
              obtain ⟨w1, hw1⟩ : ∃ z, z = w := ⟨_, rfl⟩
              rw [← hw1] at hr hrq
              have of : Off (drvG g (some ⟨q, 0, none⟩)) w w1 := by rw [hw1]; exact of
              change Code.wp _ _ _ _ w
              rw [← hw1]
              clear hw1
              clear c0 c1 c2 c3 c4 c5 c6 c7 c8 c9 z0 z1 z2 z3 z4 z5 z6 z7 z8 z9 cq zq
              obtain ⟨⟨c0, c1, c2, c3, c4, c5, c6, c7, c8, c9⟩, ⟨z0, z1, z2, z3, z4, z5, z6, z7, z8, z9⟩⟩ := drCells (k := k) (t := t) (c := 4) (e := e) (n := n) (l := l) (d := d) (r := r) (o := o) (b := b) hr
              have cq := rowB_cell hrq P hmP
              have zq := rowB_free hrq P
              go_quiet (fail)
              replace hr := rowB_below hr (below_drewN w1 nq _) (rowB_lt hr)
              replace hrq := rowB_below hrq (below_drewN w1 nq _) (rowB_lt hrq)
              replace of := of.trans (off_below (below_drewN w1 nq _))
              generalize w1.drewN nq = w2 at *
              clear c0 c1 c2 c3 c4 c5 c6 c7 c8 c9 z0 z1 z2 z3 z4 z5 z6 z7 z8 z9 cq zq
              obtain ⟨⟨c0, c1, c2, c3, c4, c5, c6, c7, c8, c9⟩, ⟨z0, z1, z2, z3, z4, z5, z6, z7, z8, z9⟩⟩ := drCells (k := k) (t := t) (c := 4) (e := e) (n := n) (l := l) (d := d) (r := r) (o := o) (b := b) hr
              have cq := rowB_cell hrq P hmP
              have zq := rowB_free hrq P
              go_wp2_with fail
              first | refine bodyPost_end (results_none rfl _ _ _) rfl ?_ | refine bodyPost_ret (results_none rfl _ _ _) rfl ?_
              exact ⟨rfl, (rowB_num (rowB_num (rowB_num (rowB_other hr ⟨q, P, none⟩ (.int .u8 d) (show q ≠ g from hqg)) 7 (1)) 5 (20)) 4 (n + 1)), .inr ⟨q, rfl, hlo, hqg, (rowB_other (rowB_other (rowB_other (rowB_eq (rowB_set hrq P (.int .u8 d)) (byts_set _ _ _)) ⟨g, 7, none⟩ (.int .i64 (1)) (show g ≠ q from fun h => hqg h.symm)) ⟨g, 5, none⟩ (.int .i64 (20)) (show g ≠ q from fun h => hqg h.symm)) ⟨g, 4, none⟩ (.int .i64 (n + 1)) (show g ≠ q from fun h => hqg h.symm))⟩, (Off.set (Off.set (Off.set (Off.set of (p := ⟨q, P, none⟩) (.inl drvG.byt) (.int .u8 d)) (p := ⟨g, 7, none⟩) (.inl drvG.num) (.int .i64 (1))) (p := ⟨g, 5, none⟩) (.inl drvG.num) (.int .i64 (20))) (p := ⟨g, 4, none⟩) (.inl drvG.num) (.int .i64 (n + 1)))⟩
end Go.Proofs.YtakaebjojgeehaaGreat
