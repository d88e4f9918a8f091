/- A part of the proof of ChipBanks: SerC. -/
import Derived.Test.YtakaebjojgeehaaChipBanksK01
import Derived.Test.YtakaebjojgeehaaChipBanksK02
import Derived.Test.YtakaebjojgeehaaChipBanksK03
import Derived.Test.YtakaebjojgeehaaChipBanksK04
import Derived.Test.YtakaebjojgeehaaChipBanksK05
import Derived.Test.YtakaebjojgeehaaChipBanksK07
import Derived.Test.YtakaebjojgeehaaChipBanksK08
import Derived.Test.YtakaebjojgeehaaChipBanksK09
import Derived.Test.YtakaebjojgeehaaChipBanksK26
import Derived.Below
import Derived.BigQuiet
import Derived.ChangeMaps5
import Derived.Deep.DeepCutAuto
import Derived.Deep.Draws
import Derived.Deep.MidRow
import Derived.Deep.OwnRows
import Derived.Deep.QuietTactic
import Derived.Deep.RegionHeld3
import Derived.Deep.RegionWith
import Derived.Deep.Slices
import Derived.Deep.WholeRow
import Derived.Lib.Hide
import Derived.Lib.SmallJoins
import Derived.OpenShut
import Derived.OrdersHeld
import Derived.OwnWalk
import Derived.RowKit3
import Derived.StillTactics
import Derived.StillTail
import Derived.StillTailTactics
import Derived.Test.YtakaebjojgeehaaChecked
import Derived.WalkKit
namespace Go.Proofs.Ytakaebjojgeehaa
open Go.RowKit
set_option maxRecDepth 100000
theorem eight_one (d c r t o k n z : Int) : (#[.int .i64 d, .int .i64 c, .int .i64 r, .int .i64 t, .int .i64 o, .int .i64 k, .int .i64 n, .int .i64 z] : Array Value).all (·.oneCell') = true := by simp [Value.oneCell']
theorem agSr : isAg Try.prog 65 8 := ⟨⟨_, Try.underlying65, rfl⟩, by kernel_rfl⟩
theorem srCells {w : World} {y : Nat} {ty : TypeId} {d c r t o k n z : Value} (h : rowB w y ty #[d, c, r, t, o, k, n, z]) : w.cell? ⟨y, 0, none⟩ = some d ∧ w.cell? ⟨y, 1, none⟩ = some c ∧ w.cell? ⟨y, 2, none⟩ = some r ∧ w.cell? ⟨y, 3, none⟩ = some t ∧ w.cell? ⟨y, 4, none⟩ = some o ∧ w.cell? ⟨y, 5, none⟩ = some k ∧ w.cell? ⟨y, 6, none⟩ = some n ∧ w.cell? ⟨y, 7, none⟩ = some z ∧ w.frozen? ⟨y, 0, none⟩ = false ∧ w.frozen? ⟨y, 1, none⟩ = false ∧ w.frozen? ⟨y, 2, none⟩ = false ∧ w.frozen? ⟨y, 3, none⟩ = false ∧ w.frozen? ⟨y, 4, none⟩ = false ∧ w.frozen? ⟨y, 5, none⟩ = false ∧ w.frozen? ⟨y, 6, none⟩ = false ∧ w.frozen? ⟨y, 7, none⟩ = false :=
  ⟨rowB_cell h 0 rfl, rowB_cell h 1 rfl, rowB_cell h 2 rfl, rowB_cell h 3 rfl, rowB_cell h 4 rfl, rowB_cell h 5 rfl, rowB_cell h 6 rfl, rowB_cell h 7 rfl, rowB_free h 0, rowB_free h 1, rowB_free h 2, rowB_free h 3, rowB_free h 4, rowB_free h 5, rowB_free h 6, rowB_free h 7⟩

theorem srLoad_any (v vm : Value) (l : List Int) (w : World) (h : isArg w v l) :
    Calls Try.prog 69 #[.agg #[v, vm]] w fun e w' => e = .returned (.agg (Sr.of l).cs) ∧ Below w.heap.size w w' := by
  obtain ⟨x0, hx0⟩ : ∃ x, lo (l.getD 0 0) 8 = x := ⟨_, rfl⟩
  obtain ⟨x1, hx1⟩ : ∃ x, lo (l.getD 1 0) 6 = x := ⟨_, rfl⟩
  obtain ⟨x2, hx2⟩ : ∃ x, lo (l.getD 2 0) 8 = x := ⟨_, rfl⟩
  obtain ⟨x3, hx3⟩ : ∃ x, lo (l.getD 3 0) 1 = x := ⟨_, rfl⟩
  obtain ⟨x4, hx4⟩ : ∃ x, lo (l.getD 4 0) 1 = x := ⟨_, rfl⟩
  obtain ⟨x5, hx5⟩ : ∃ x, lo (l.getD 5 0) 2 = x := ⟨_, rfl⟩
  obtain ⟨x6, hx6⟩ : ∃ x, lo (l.getD 6 0) 20 = x := ⟨_, rfl⟩
  obtain ⟨x7, hx7⟩ : ∃ x, lo (l.getD 7 0) 8 = x := ⟨_, rfl⟩
  have hT : (Sr.of l).cs = #[.int .i64 x0, .int .i64 x1, .int .i64 x2, .int .i64 x3, .int .i64 x4, .int .i64 x5, .int .i64 x6, .int .i64 x7] := by subst hx0 hx1 hx2 hx3 hx4 hx5 hx6 hx7; rfl
  rw [hT]
  clear hT
  obtain ⟨k0, k1, bW, sW⟩ := boxes2 w (.cells #[v, vm] 34) (.cells #[.int .i64 0, .int .i64 0, .int .i64 0, .int .i64 0, .int .i64 0, .int .i64 0, .int .i64 0, .int .i64 0] 65)
  have k0 : rowB _ _ _ _ := k0
  have k1 : rowB _ _ _ _ := k1
  go_enter Try.func69, Try.ntmps69
  go_upto_region 1 with (fail)
  generalize (w.alloc (.cells #[v, vm] 34)).alloc (.cells #[.int .i64 0, .int .i64 0, .int .i64 0, .int .i64 0, .int .i64 0, .int .i64 0, .int .i64 0, .int .i64 0] 65) = w1 at *
  refine wp_region_mix (fun w' => rowB w' w.heap.size 34 #[v, vm]) [(0, 0), (2, 1), (4, 1), (6, 1), (8, 1), (10, 1), (12, 1), (14, 1), (1, 3), (3, 3), (5, 3), (7, 3), (9, 3), (11, 3), (13, 3), (15, 2), (16, 2), (17, 2)] (by kernel_rfl) (by kernel_rfl) (fun _ _ _ _ _ h => h) ?_
  simp only [List.map_cons, List.map_nil, opOf, List.getD_cons_zero, List.getD_cons_succ]
  change wpMix _ _ _ _ _ _ w1.drew
  have hs : w.heap.size + 2 = w1.drew.heap.size := sW.symm
  replace k0 : rowB w1.drew _ _ _ := k0
  replace k1 : rowB w1.drew _ _ _ := k1
  replace bW := bW.drew
  clear sW
  generalize w1.drew = w2 at *
  have h2 := isArg_below h bW (Nat.le_refl _)
  have c0 : w2.cell? ⟨w.heap.size, 0, none⟩ = some v := rowB_cell k0 0 rfl
  have c1 : w2.cell? ⟨w.heap.size, 1, none⟩ = some vm := rowB_cell k0 1 rfl
  (refine wpMix_still (fun K hK => ?_); go_simp; refine hK _ ?_; clear hK K)
  refine wpMix_held (.agg #[v, vm]) rfl k0 (fun w' hw' => exec_rowR 34 _ rfl w.heap.size rfl 34 #[v, vm] hw' agDv) ?_
  simp only [Act.put, List.setIfInBounds_toArray, List.set_cons_zero, List.set_cons_succ]
  refine wpMix_held (.agg #[v, vm]) rfl k0 (fun w' hw' => exec_rowR 34 _ rfl w.heap.size rfl 34 #[v, vm] hw' agDv) ?_
  simp only [Act.put, List.setIfInBounds_toArray, List.set_cons_zero, List.set_cons_succ]
  refine wpMix_held (.agg #[v, vm]) rfl k0 (fun w' hw' => exec_rowR 34 _ rfl w.heap.size rfl 34 #[v, vm] hw' agDv) ?_
  simp only [Act.put, List.setIfInBounds_toArray, List.set_cons_zero, List.set_cons_succ]
  refine wpMix_held (.agg #[v, vm]) rfl k0 (fun w' hw' => exec_rowR 34 _ rfl w.heap.size rfl 34 #[v, vm] hw' agDv) ?_
  simp only [Act.put, List.setIfInBounds_toArray, List.set_cons_zero, List.set_cons_succ]
  refine wpMix_held (.agg #[v, vm]) rfl k0 (fun w' hw' => exec_rowR 34 _ rfl w.heap.size rfl 34 #[v, vm] hw' agDv) ?_
  simp only [Act.put, List.setIfInBounds_toArray, List.set_cons_zero, List.set_cons_succ]
  refine wpMix_held (.agg #[v, vm]) rfl k0 (fun w' hw' => exec_rowR 34 _ rfl w.heap.size rfl 34 #[v, vm] hw' agDv) ?_
  simp only [Act.put, List.setIfInBounds_toArray, List.set_cons_zero, List.set_cons_succ]
  refine wpMix_held (.agg #[v, vm]) rfl k0 (fun w' hw' => exec_rowR 34 _ rfl w.heap.size rfl 34 #[v, vm] hw' agDv) ?_
  simp only [Act.put, List.setIfInBounds_toArray, List.set_cons_zero, List.set_cons_succ]
  refine wpMix_call ?_
  go_wp2_with (go_at_call 84; refine (devNumber_any _ _ l 0 8 _ h2).mono ?_; rintro e w3 ⟨rfl, hb⟩; rw [show wd 8 = 8 from rfl, hx0])
  replace k0 := rowB_below k0 hb (rowB_lt k0)
  replace k1 := rowB_below k1 hb (rowB_lt k1)
  replace h2 := isArg_below h2 hb (Nat.le_refl _)
  replace bW := bW.trans (hb.mono bW.size)
  first | refine ⟨fun _ => k0, ?_⟩ | refine ⟨k0, ?_⟩
  clear hb
  refine wpMix_call ?_
  go_wp2_with (go_at_call 84; refine (devNumber_any _ _ l 1 6 _ h2).mono ?_; rintro e w4 ⟨rfl, hb⟩; rw [show wd 6 = 6 from rfl, hx1])
  replace k0 := rowB_below k0 hb (rowB_lt k0)
  replace k1 := rowB_below k1 hb (rowB_lt k1)
  replace h2 := isArg_below h2 hb (Nat.le_refl _)
  replace bW := bW.trans (hb.mono bW.size)
  first | refine ⟨fun _ => k0, ?_⟩ | refine ⟨k0, ?_⟩
  clear hb
  refine wpMix_call ?_
  go_wp2_with (go_at_call 84; refine (devNumber_any _ _ l 2 8 _ h2).mono ?_; rintro e w5 ⟨rfl, hb⟩; rw [show wd 8 = 8 from rfl, hx2])
  replace k0 := rowB_below k0 hb (rowB_lt k0)
  replace k1 := rowB_below k1 hb (rowB_lt k1)
  replace h2 := isArg_below h2 hb (Nat.le_refl _)
  replace bW := bW.trans (hb.mono bW.size)
  first | refine ⟨fun _ => k0, ?_⟩ | refine ⟨k0, ?_⟩
  clear hb
  refine wpMix_call ?_
  go_wp2_with (go_at_call 84; refine (devNumber_any _ _ l 3 1 _ h2).mono ?_; rintro e w6 ⟨rfl, hb⟩; rw [show wd 1 = 1 from rfl, hx3])
  replace k0 := rowB_below k0 hb (rowB_lt k0)
  replace k1 := rowB_below k1 hb (rowB_lt k1)
  replace h2 := isArg_below h2 hb (Nat.le_refl _)
  replace bW := bW.trans (hb.mono bW.size)
  first | refine ⟨fun _ => k0, ?_⟩ | refine ⟨k0, ?_⟩
  clear hb
  refine wpMix_call ?_
  go_wp2_with (go_at_call 84; refine (devNumber_any _ _ l 4 1 _ h2).mono ?_; rintro e w7 ⟨rfl, hb⟩; rw [show wd 1 = 1 from rfl, hx4])
  replace k0 := rowB_below k0 hb (rowB_lt k0)
  replace k1 := rowB_below k1 hb (rowB_lt k1)
  replace h2 := isArg_below h2 hb (Nat.le_refl _)
  replace bW := bW.trans (hb.mono bW.size)
  first | refine ⟨fun _ => k0, ?_⟩ | refine ⟨k0, ?_⟩
  clear hb
  refine wpMix_call ?_
  go_wp2_with (go_at_call 84; refine (devNumber_any _ _ l 5 2 _ h2).mono ?_; rintro e w8 ⟨rfl, hb⟩; rw [show wd 2 = 2 from rfl, hx5])
  replace k0 := rowB_below k0 hb (rowB_lt k0)
  replace k1 := rowB_below k1 hb (rowB_lt k1)
  replace h2 := isArg_below h2 hb (Nat.le_refl _)
  replace bW := bW.trans (hb.mono bW.size)
  first | refine ⟨fun _ => k0, ?_⟩ | refine ⟨k0, ?_⟩
  clear hb
  refine wpMix_call ?_
  go_wp2_with (go_at_call 84; refine (devNumber_any _ _ l 6 20 _ h2).mono ?_; rintro e w9 ⟨rfl, hb⟩; rw [show wd 20 = 20 from rfl, hx6])
  replace k0 := rowB_below k0 hb (rowB_lt k0)
  replace k1 := rowB_below k1 hb (rowB_lt k1)
  replace h2 := isArg_below h2 hb (Nat.le_refl _)
  replace bW := bW.trans (hb.mono bW.size)
  first | refine ⟨fun _ => k0, ?_⟩ | refine ⟨k0, ?_⟩
  clear hb
  refine wpMix_call ?_
  go_wp2_with (go_at_call 84; refine (devNumber_any _ _ l 7 8 _ h2).mono ?_; rintro e w10 ⟨rfl, hb⟩; rw [show wd 8 = 8 from rfl, hx7])
  replace k0 := rowB_below k0 hb (rowB_lt k0)
  replace k1 := rowB_below k1 hb (rowB_lt k1)
  replace h2 := isArg_below h2 hb (Nat.le_refl _)
  replace bW := bW.trans (hb.mono bW.size)
  try refine ⟨fun h => (by cases h), ?_⟩
  clear hb
  refine wpMix_call ?_
  go_wp2_with fail
  try refine ⟨fun h => (by cases h), ?_⟩
  refine wpMix_call ?_
  go_wp2_with (refine wpList_storeR rfl 65 _ _ rfl (w.heap.size + 1) rfl #[.int .i64 x0, .int .i64 x1, .int .i64 x2, .int .i64 x3, .int .i64 x4, .int .i64 x5, .int .i64 x6, .int .i64 x7] rfl (eight_one _ _ _ _ _ _ _ _) 65 #[.int .i64 0, .int .i64 0, .int .i64 0, .int .i64 0, .int .i64 0, .int .i64 0, .int .i64 0, .int .i64 0] rfl ?_ agSr ?_; with_reducible exact k1)
  try refine ⟨fun h => (by cases h), ?_⟩
  refine wpMix_nil ?_
  go_wp2_with fail
  exact bodyPost_ret (resultsR rfl (w.heap.size + 1) _ rfl (rowB_row k1 _) agSr) rfl ⟨rfl, below_rowR bW _ (by omega)⟩
theorem srBusy_any (s : Sr) (w : World) :
    Calls Try.prog 70 #[.agg s.cs] w fun e w' => e = .returned (.bool (decide (0 < s.c))) ∧ Below w.heap.size w w' := by
  have b0 := (boxes1 w (.cells s.cs 65)).2.1
  obtain ⟨d, c, r, t, o, k, n, z⟩ := s
  dsimp only [Sr.cs] at *
  go_enter Try.func70, Try.ntmps70
  go_wp2_with fail
  go_ret
  exact ⟨rfl, b0⟩
theorem srDev_any (s : Sr) (w : World) :
    Calls Try.prog 58 #[.agg s.cs] w fun e w' => ∃ v, e = .returned v ∧ devO w.heap.size w' v s.ns ∧ Below w.heap.size w w' := by
  obtain ⟨d, c, r, t, o, k, n, z⟩ := s
  dsimp only [Sr.cs, Sr.ns]
  obtain ⟨k0, k1, bW, sW⟩ := boxes2 w (.cells #[.int .i64 d, .int .i64 c, .int .i64 r, .int .i64 t, .int .i64 o, .int .i64 k, .int .i64 n, .int .i64 z] 65) (.cells #[.slice none 0 0, .slice none 0 0] 34)
  have k0 : rowB _ _ _ _ := k0
  have k1 : rowB _ _ _ _ := k1
  go_enter Try.func58, Try.ntmps58
  go_upto_region 1 with (fail)
  generalize (w.alloc (.cells #[.int .i64 d, .int .i64 c, .int .i64 r, .int .i64 t, .int .i64 o, .int .i64 k, .int .i64 n, .int .i64 z] 65)).alloc (.cells #[.slice none 0 0, .slice none 0 0] 34) = w1 at *
  obtain ⟨e0, e1, e2, e3, e4, e5, e6, e7, _⟩ := srCells k0
  have hlt : w.heap.size + 1 < w1.heap.size := by omega
  clear sW
  have n1 := rowB_new w1 3 #[.int .i64 d, .int .i64 c, .int .i64 r, .int .i64 t, .int .i64 o, .int .i64 k, .int .i64 n, .int .i64 z]
  have k2 := rowB_alloc k1 (.cells #[.int .i64 d, .int .i64 c, .int .i64 r, .int .i64 t, .int .i64 o, .int .i64 k, .int .i64 n, .int .i64 z] 3)
  have b2 := bW.alloc (by omega) (.cells #[.int .i64 d, .int .i64 c, .int .i64 r, .int .i64 t, .int .i64 o, .int .i64 k, .int .i64 n, .int .i64 z] 3)
  go_wp2_with (refine wpList_storeR rfl 34 _ _ rfl (w.heap.size + 1) rfl #[.slice (some ⟨w1.heap.size, 0, none⟩) 8 8, .slice none 0 0] rfl (dev2_one _ _ _ _ _ _) 34 #[.slice none 0 0, .slice none 0 0] rfl ?_ agDv ?_; with_reducible exact k2)
  refine bodyPost_ret (resultsR rfl (w.heap.size + 1) _ rfl (rowB_row k2 _) agDv) rfl ?_
  exact ⟨_, rfl, ⟨w1.heap.size, rfl, by omega, rowB_row_other n1 _ (by omega)⟩, below_rowR b2 _ (by omega)⟩
theorem srNew_any (w : World) : Calls Try.prog 30 #[] w fun e w' => ∃ v, e = .returned v ∧ devO w.heap.size w' v [0, 0, 0, 0, 0, 0, 0, 0] ∧ Below w.heap.size w w' := by
  obtain ⟨k0, bW, sW⟩ := boxes1 w (.cells #[.slice none 0 0, .slice none 0 0] 34)
  have k0 : rowB _ _ _ _ := k0
  go_enter Try.func30, Try.ntmps30
  go_wp2_with (first
    | (go_at_call 58; refine (srDev_any ⟨_, _, _, _, _, _, _, _⟩ _).mono ?_; rintro e w2 ⟨u, rfl, ⟨g, rfl, hg, hr⟩, hb⟩; have r1 := rowB_below k0 hb (rowB_lt k0); dsimp only [Sr.ns, List.length] at hr; rw [sW] at hg; have bX := bW.trans (hb.mono bW.size))
    | (refine wpList_storeR rfl 34 _ _ rfl w.heap.size rfl #[.slice (some ⟨g, 0, none⟩) 8 8, .slice none 0 0] rfl (dev2_one _ _ _ _ _ _) 34 #[.slice none 0 0, .slice none 0 0] rfl ?_ agDv ?_; with_reducible exact r1))
  refine bodyPost_ret (resultsR rfl w.heap.size _ rfl (rowB_row r1 _) agDv) rfl ?_
  exact ⟨_, rfl, ⟨g, rfl, by omega, rowB_row_other hr _ (by omega)⟩, below_rowR bX _ (by omega)⟩
theorem srStatus_any (s : Sr) (h : s.fit) (w : World) :
    Calls Try.prog 77 #[.agg s.cs] w fun e w' => e = .returned (.int .i64 s.status) ∧ Below w.heap.size w w' := by
  obtain ⟨k0, bW, sW⟩ := boxes1 w (.cells s.cs 65)
  have k0 : rowB _ _ _ _ := k0
  have hOr := srOr s.t s.o h.t h.o
  have ht := h.t
  have ho := h.o
  obtain ⟨d, c, r, t, o, k, n, z⟩ := s
  dsimp only [Sr.cs] at *
  have w1 : wrap64 (t * 1) = t * 1 := IntWalk.wrap64_in _ (by omega)
  have w4 : wrap64 (o * 4) = o * 4 := IntWalk.wrap64_in _ (by omega)
  obtain ⟨E, hE⟩ : ∃ E, t + 4 * o = E := ⟨_, rfl⟩
  rw [hE] at hOr
  by_cases hc : 0 < c
  · have e : (⟨d, c, r, t, o, k, n, z⟩ : Sr).status = t + 2 + 4 * o := by show t + 2 * (if 0 < c then 1 else 0) + 4 * o = _; rw [if_pos hc]; rfl
    have hd : decide (0 < c) = true := decide_eq_true hc
    rw [e]
    clear e hc hE
    obtain ⟨G, hG⟩ : ∃ G, t + 2 + 4 * o = G := ⟨_, rfl⟩
    rw [hG] at hOr
    rw [hG]
    clear hG
    obtain ⟨hO1, hO2⟩ := hOr
    go_enter Try.func77, Try.ntmps77
    go_upto_region 2 with (fail)
    go_upto_region 3 with (first
      | (go_at_call 70; refine (srBusy_any ⟨_, _, _, _, _, _, _, _⟩ _).mono ?_; rintro e wb ⟨rfl, hb⟩)
      | (refine wpList_loadR rfl 65 _ rfl w.heap.size rfl 65 #[.int .i64 d, .int .i64 c, .int .i64 r, .int .i64 t, .int .i64 o, .int .i64 k, .int .i64 n, .int .i64 z] ?_ agSr ?_; with_reducible exact k0)
)
    go_wp2_with fail
    go_ret
    exact ⟨rfl, bW.trans (hb.mono bW.size)⟩
  · have e : (⟨d, c, r, t, o, k, n, z⟩ : Sr).status = E := by show t + 2 * (if 0 < c then 1 else 0) + 4 * o = _; rw [if_neg hc]; omega
    have hd : decide (0 < c) = false := decide_eq_false hc
    rw [e]
    clear e hc hE
    obtain ⟨hO1, hO2⟩ := hOr
    go_enter Try.func77, Try.ntmps77
    go_upto_region 2 with (fail)
    go_upto_region 4 with (first
      | (go_at_call 70; refine (srBusy_any ⟨_, _, _, _, _, _, _, _⟩ _).mono ?_; rintro e wb ⟨rfl, hb⟩)
      | (refine wpList_loadR rfl 65 _ rfl w.heap.size rfl 65 #[.int .i64 d, .int .i64 c, .int .i64 r, .int .i64 t, .int .i64 o, .int .i64 k, .int .i64 n, .int .i64 z] ?_ agSr ?_; with_reducible exact k0)
)
    go_wp2_with fail
    go_ret
    exact ⟨rfl, bW.trans (hb.mono bW.size)⟩
end Go.Proofs.Ytakaebjojgeehaa
