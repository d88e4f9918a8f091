/- A part of the proof of ChipBanks: TimC. -/
import Derived.Test.YtakaebjojgeehaaChipBanksK01
import Derived.Test.YtakaebjojgeehaaChipBanksK02
import Derived.Test.YtakaebjojgeehaaChipBanksK03
import Derived.Test.YtakaebjojgeehaaChipBanksK04
import Derived.Test.YtakaebjojgeehaaChipBanksK05
import Derived.Test.YtakaebjojgeehaaChipBanksK07
import Derived.Test.YtakaebjojgeehaaChipBanksK08
import Derived.Test.YtakaebjojgeehaaChipBanksK09
import Derived.Below
import Derived.BigQuiet
import Derived.ChangeMaps5
import Derived.Deep.DeepCutAuto
import Derived.Deep.Draws
import Derived.Deep.MidRow
import Derived.Deep.OwnRows
import Derived.Deep.QuietTactic
import Derived.Deep.RegionHeld3
import Derived.Deep.RegionWith
import Derived.Deep.Slices
import Derived.Deep.WholeRow
import Derived.Lib.Hide
import Derived.Lib.SmallJoins
import Derived.OpenShut
import Derived.OrdersHeld
import Derived.OwnWalk
import Derived.RowKit3
import Derived.StillTactics
import Derived.StillTail
import Derived.StillTailTactics
import Derived.Test.YtakaebjojgeehaaChecked
import Derived.WalkKit
namespace Go.Proofs.Ytakaebjojgeehaa
open Go.RowKit
set_option maxRecDepth 100000
/-- A timer's numbers: counter, latch, control bits, whether it has fired. -/
structure Tm where (c l k f : Int)
def Tm.of (l : List Int) : Tm := ⟨lo (l.getD 0 0) 16, lo (l.getD 1 0) 16, lo (l.getD 2 0) 3, lo (l.getD 3 0) 1⟩
def Tm.cs (s : Tm) : Array Value := #[.int .i64 s.c, .int .i64 s.l, .int .i64 s.k, .int .i64 s.f]
def Tm.ns (s : Tm) : List Int := [s.c, s.l, s.k, s.f]
structure Tm.fit (s : Tm) : Prop where
  c : 0 ≤ s.c ∧ s.c < 65536
  l : 0 ≤ s.l ∧ s.l < 65536
  k : 0 ≤ s.k ∧ s.k < 8
  f : 0 ≤ s.f ∧ s.f < 2
theorem Tm.of_fit (l : List Int) : (Tm.of l).fit :=
  ⟨⟨lo_nonneg _ _, lo_lt _ _⟩, ⟨lo_nonneg _ _, lo_lt _ _⟩, ⟨lo_nonneg _ _, lo_lt _ _⟩, ⟨lo_nonneg _ _, lo_lt _ _⟩⟩
theorem four_one (a b c d : Int) : (#[.int .i64 a, .int .i64 b, .int .i64 c, .int .i64 d] : Array Value).all (·.oneCell') = true := by simp [Value.oneCell']
theorem agTm : isAg Try.prog 61 4 := ⟨⟨_, Try.underlying61, rfl⟩, by kernel_rfl⟩

theorem tmLoad_any (v vm : Value) (l : List Int) (w : World) (h : isArg w v l) :
    Calls Try.prog 66 #[.agg #[v, vm]] w fun e w' => e = .returned (.agg (Tm.of l).cs) ∧ Below w.heap.size w w' := by
  obtain ⟨x0, hx0⟩ : ∃ x, lo (l.getD 0 0) 16 = x := ⟨_, rfl⟩
  obtain ⟨x1, hx1⟩ : ∃ x, lo (l.getD 1 0) 16 = x := ⟨_, rfl⟩
  obtain ⟨x2, hx2⟩ : ∃ x, lo (l.getD 2 0) 3 = x := ⟨_, rfl⟩
  obtain ⟨x3, hx3⟩ : ∃ x, lo (l.getD 3 0) 1 = x := ⟨_, rfl⟩
  have hT : (Tm.of l).cs = #[.int .i64 x0, .int .i64 x1, .int .i64 x2, .int .i64 x3] := by subst hx0 hx1 hx2 hx3; rfl
  rw [hT]
  clear hT
  obtain ⟨k0, k1, bW, sW⟩ := boxes2 w (.cells #[v, vm] 34) (.cells #[.int .i64 0, .int .i64 0, .int .i64 0, .int .i64 0] 61)
  have k0 : rowB _ _ _ _ := k0
  have k1 : rowB _ _ _ _ := k1
  go_enter Try.func66, Try.ntmps66
  go_upto_region 1 with (fail)
  generalize (w.alloc (.cells #[v, vm] 34)).alloc (.cells #[.int .i64 0, .int .i64 0, .int .i64 0, .int .i64 0] 61) = w1 at *
  refine wp_region_mix (fun w' => rowB w' w.heap.size 34 #[v, vm]) [(0, 0), (2, 1), (4, 1), (6, 1), (1, 3), (3, 3), (5, 3), (7, 2), (8, 2), (9, 2)] (by kernel_rfl) (by kernel_rfl) (fun _ _ _ _ _ h => h) ?_
  simp only [List.map_cons, List.map_nil, opOf, List.getD_cons_zero, List.getD_cons_succ]
  change wpMix _ _ _ _ _ _ w1.drew
  have hs : w.heap.size + 2 = w1.drew.heap.size := sW.symm
  replace k0 : rowB w1.drew _ _ _ := k0
  replace k1 : rowB w1.drew _ _ _ := k1
  replace bW := bW.drew
  clear sW
  generalize w1.drew = w2 at *
  have h2 := isArg_below h bW (Nat.le_refl _)
  have c0 : w2.cell? ⟨w.heap.size, 0, none⟩ = some v := rowB_cell k0 0 rfl
  have c1 : w2.cell? ⟨w.heap.size, 1, none⟩ = some vm := rowB_cell k0 1 rfl
  (refine wpMix_still (fun K hK => ?_); go_simp; refine hK _ ?_; clear hK K)
  refine wpMix_held (.agg #[v, vm]) rfl k0 (fun w' hw' => exec_rowR 34 _ rfl w.heap.size rfl 34 #[v, vm] hw' agDv) ?_
  simp only [Act.put, List.setIfInBounds_toArray, List.set_cons_zero, List.set_cons_succ]
  refine wpMix_held (.agg #[v, vm]) rfl k0 (fun w' hw' => exec_rowR 34 _ rfl w.heap.size rfl 34 #[v, vm] hw' agDv) ?_
  simp only [Act.put, List.setIfInBounds_toArray, List.set_cons_zero, List.set_cons_succ]
  refine wpMix_held (.agg #[v, vm]) rfl k0 (fun w' hw' => exec_rowR 34 _ rfl w.heap.size rfl 34 #[v, vm] hw' agDv) ?_
  simp only [Act.put, List.setIfInBounds_toArray, List.set_cons_zero, List.set_cons_succ]
  refine wpMix_call ?_
  go_wp2_with (go_at_call 84; refine (devNumber_any _ _ l 0 16 _ h2).mono ?_; rintro e w3 ⟨rfl, hb⟩; rw [show wd 16 = 16 from rfl, hx0])
  replace k0 := rowB_below k0 hb (rowB_lt k0)
  replace k1 := rowB_below k1 hb (rowB_lt k1)
  replace h2 := isArg_below h2 hb (Nat.le_refl _)
  replace bW := bW.trans (hb.mono bW.size)
  first | refine ⟨fun _ => k0, ?_⟩ | refine ⟨k0, ?_⟩
  clear hb
  refine wpMix_call ?_
  go_wp2_with (go_at_call 84; refine (devNumber_any _ _ l 1 16 _ h2).mono ?_; rintro e w4 ⟨rfl, hb⟩; rw [show wd 16 = 16 from rfl, hx1])
  replace k0 := rowB_below k0 hb (rowB_lt k0)
  replace k1 := rowB_below k1 hb (rowB_lt k1)
  replace h2 := isArg_below h2 hb (Nat.le_refl _)
  replace bW := bW.trans (hb.mono bW.size)
  first | refine ⟨fun _ => k0, ?_⟩ | refine ⟨k0, ?_⟩
  clear hb
  refine wpMix_call ?_
  go_wp2_with (go_at_call 84; refine (devNumber_any _ _ l 2 3 _ h2).mono ?_; rintro e w5 ⟨rfl, hb⟩; rw [show wd 3 = 3 from rfl, hx2])
  replace k0 := rowB_below k0 hb (rowB_lt k0)
  replace k1 := rowB_below k1 hb (rowB_lt k1)
  replace h2 := isArg_below h2 hb (Nat.le_refl _)
  replace bW := bW.trans (hb.mono bW.size)
  first | refine ⟨fun _ => k0, ?_⟩ | refine ⟨k0, ?_⟩
  clear hb
  refine wpMix_call ?_
  go_wp2_with (go_at_call 84; refine (devNumber_any _ _ l 3 1 _ h2).mono ?_; rintro e w6 ⟨rfl, hb⟩; rw [show wd 1 = 1 from rfl, hx3])
  replace k0 := rowB_below k0 hb (rowB_lt k0)
  replace k1 := rowB_below k1 hb (rowB_lt k1)
  replace h2 := isArg_below h2 hb (Nat.le_refl _)
  replace bW := bW.trans (hb.mono bW.size)
  try refine ⟨fun h => (by cases h), ?_⟩
  clear hb
  refine wpMix_call ?_
  go_wp2_with fail
  try refine ⟨fun h => (by cases h), ?_⟩
  refine wpMix_call ?_
  go_wp2_with (refine wpList_storeR rfl 61 _ _ rfl (w.heap.size + 1) rfl #[.int .i64 x0, .int .i64 x1, .int .i64 x2, .int .i64 x3] rfl (four_one _ _ _ _) 61 #[.int .i64 0, .int .i64 0, .int .i64 0, .int .i64 0] rfl ?_ agTm ?_; with_reducible exact k1)
  try refine ⟨fun h => (by cases h), ?_⟩
  refine wpMix_nil ?_
  go_wp2_with fail
  exact bodyPost_ret (resultsR rfl (w.heap.size + 1) _ rfl (rowB_row k1 _) agTm) rfl ⟨rfl, below_rowR bW _ (by omega)⟩
theorem tmDev_any (s : Tm) (w : World) :
    Calls Try.prog 56 #[.agg s.cs] w fun e w' => ∃ v, e = .returned v ∧ devO w.heap.size w' v s.ns ∧ Below w.heap.size w w' := by
  obtain ⟨c, l, k, f⟩ := s
  dsimp only [Tm.cs, Tm.ns]
  obtain ⟨k0, k1, bW, sW⟩ := boxes2 w (.cells #[.int .i64 c, .int .i64 l, .int .i64 k, .int .i64 f] 61) (.cells #[.slice none 0 0, .slice none 0 0] 34)
  have k0 : rowB _ _ _ _ := k0
  have k1 : rowB _ _ _ _ := k1
  go_enter Try.func56, Try.ntmps56
  go_upto_region 1 with (fail)
  generalize (w.alloc (.cells #[.int .i64 c, .int .i64 l, .int .i64 k, .int .i64 f] 61)).alloc (.cells #[.slice none 0 0, .slice none 0 0] 34) = w1 at *
  have c0 := rowB_cell k0 0 (v := .int .i64 c) rfl
  have c1 := rowB_cell k0 1 (v := .int .i64 l) rfl
  have c2 := rowB_cell k0 2 (v := .int .i64 k) rfl
  have c3 := rowB_cell k0 3 (v := .int .i64 f) rfl
  have hlt : w.heap.size + 1 < w1.heap.size := by omega
  clear sW
  have n1 := rowB_new w1 3 #[.int .i64 c, .int .i64 l, .int .i64 k, .int .i64 f]
  have k2 := rowB_alloc k1 (.cells #[.int .i64 c, .int .i64 l, .int .i64 k, .int .i64 f] 3)
  have b2 := bW.alloc (by omega) (.cells #[.int .i64 c, .int .i64 l, .int .i64 k, .int .i64 f] 3)
  go_wp2_with (refine wpList_storeR rfl 34 _ _ rfl (w.heap.size + 1) rfl #[.slice (some ⟨w1.heap.size, 0, none⟩) 4 4, .slice none 0 0] rfl (dev2_one _ _ _ _ _ _) 34 #[.slice none 0 0, .slice none 0 0] rfl ?_ agDv ?_; with_reducible exact k2)
  refine bodyPost_ret (resultsR rfl (w.heap.size + 1) _ rfl (rowB_row k2 _) agDv) rfl ?_
  exact ⟨_, rfl, ⟨w1.heap.size, rfl, by omega, rowB_row_other n1 _ (by omega)⟩, below_rowR b2 _ (by omega)⟩
theorem tm_low (c : Int) : lo (c / 2 ^ wd 0) (fz 0 8) = lo c 8 := by
  rw [show wd 0 = 0 from rfl, show fz 0 8 = 8 from rfl, Int.pow_zero, Int.ediv_one]
theorem tm_high (c : Int) : lo (c / 2 ^ wd 8) (fz 8 8) = lo (c / 256) 8 := rfl
/-- What reading a register gives. -/
def Tm.reg (s : Tm) (a : Int) : Int := if a = 0 then lo s.c 8 else if a = 1 then lo (s.c / 256) 8 else if a = 2 then s.k else if a = 3 then s.f else 0
def Tm.read (s : Tm) (a : Int) : Tm := ⟨s.c, s.l, s.k, if a = 3 then 0 else s.f⟩
theorem tmRead_any (v vm : Value) (l : List Int) (at' : Int) (w : World) (h : isArg w v l) :
    Calls Try.prog 43 #[.agg #[v, vm], .int .i64 at'] w fun e w' => ∃ v, e = .returned (.tuple #[v, .int .i64 ((Tm.of l).reg at')]) ∧ devO w.heap.size w' v ((Tm.of l).read at').ns ∧ Below w.heap.size w w' := by
  have hfit := Tm.of_fit l
  obtain ⟨k0, k1, bW, sW⟩ := boxes2 w (.cells #[v, vm] 34) (.cells #[.slice none 0 0, .slice none 0 0] 34)
  have k0 : rowB _ _ _ _ := k0
  have k1 : rowB _ _ _ _ := k1
  have h2 := isArg_below h bW (Nat.le_refl _)
  have hload := tmLoad_any v vm l _ h2
  generalize Tm.of l = s at *
  obtain ⟨c, l', k, f⟩ := s
  dsimp only [Tm.cs, Tm.ns] at *
  have hd : at' = 0 ∨ at' = 1 ∨ at' = 2 ∨ at' = 3 ∨ (at' ≠ 0 ∧ at' ≠ 1 ∧ at' ≠ 2 ∧ at' ≠ 3) := by omega
  rcases hd with rfl | rfl | rfl | rfl | ⟨n0, n1, n2, n3⟩
  · go_enter Try.func43, Try.ntmps43
    go_wp2_with (first
      | (go_at_call 66; refine hload.mono ?_; rintro e w1 ⟨rfl, hb⟩; have bX := bW.trans (hb.mono bW.size); have r1 := rowB_below k1 hb (rowB_lt k1); have hs := hb.size; rw [sW] at hs; clear hb hload)
      | (go_at_call 75; refine (get_any _ _ _ _).mono ?_; rintro e w' ⟨rfl, rfl⟩)
      | (go_at_call 56; refine (tmDev_any ⟨_, _, _, _⟩ _).mono ?_; rintro e w2 ⟨u, rfl, ⟨g, rfl, hg, hr⟩, hb⟩; have r2 := rowB_below (rowB_alloc r1 _) hb (rowB_lt (rowB_alloc r1 _)); dsimp only [Tm.ns, List.length] at hr; replace hg := Nat.le_trans (Nat.le_of_eq (World.size_alloc _ _).symm) hg; replace bX := (bX.alloc (by omega) _).trans (hb.mono (Nat.le_trans bX.size (by simp))))
      | (refine wpList_storeR rfl 34 _ _ rfl (w.heap.size + 1) rfl #[.slice (some ⟨g, 0, none⟩) 4 4, .slice none 0 0] rfl (dev2_one _ _ _ _ _ _) 34 #[.slice none 0 0, .slice none 0 0] rfl ?_ agDv ?_; with_reducible exact r2))
    refine bodyPost_ret (resultsRT rfl (w.heap.size + 1) _ rfl (rowB_row r2 _) agDv rfl) rfl ?_
    refine ⟨_, ?_, ⟨g, rfl, by omega, rowB_row_other hr _ (by omega)⟩, below_rowR bX _ (by omega)⟩
    exact congrArg (fun x => Ending.returned (.tuple #[.agg #[.slice (some ⟨g, 0, none⟩) 4 4, .slice none 0 0], .int .i64 x])) (tm_low c)
  · go_enter Try.func43, Try.ntmps43
    go_wp2_with (first
      | (go_at_call 66; refine hload.mono ?_; rintro e w1 ⟨rfl, hb⟩; have bX := bW.trans (hb.mono bW.size); have r1 := rowB_below k1 hb (rowB_lt k1); have hs := hb.size; rw [sW] at hs; clear hb hload)
      | (go_at_call 75; refine (get_any _ _ _ _).mono ?_; rintro e w' ⟨rfl, rfl⟩)
      | (go_at_call 56; refine (tmDev_any ⟨_, _, _, _⟩ _).mono ?_; rintro e w2 ⟨u, rfl, ⟨g, rfl, hg, hr⟩, hb⟩; have r2 := rowB_below (rowB_alloc r1 _) hb (rowB_lt (rowB_alloc r1 _)); dsimp only [Tm.ns, List.length] at hr; replace hg := Nat.le_trans (Nat.le_of_eq (World.size_alloc _ _).symm) hg; replace bX := (bX.alloc (by omega) _).trans (hb.mono (Nat.le_trans bX.size (by simp))))
      | (refine wpList_storeR rfl 34 _ _ rfl (w.heap.size + 1) rfl #[.slice (some ⟨g, 0, none⟩) 4 4, .slice none 0 0] rfl (dev2_one _ _ _ _ _ _) 34 #[.slice none 0 0, .slice none 0 0] rfl ?_ agDv ?_; with_reducible exact r2))
    refine bodyPost_ret (resultsRT rfl (w.heap.size + 1) _ rfl (rowB_row r2 _) agDv rfl) rfl ?_
    refine ⟨_, ?_, ⟨g, rfl, by omega, rowB_row_other hr _ (by omega)⟩, below_rowR bX _ (by omega)⟩
    exact congrArg (fun x => Ending.returned (.tuple #[.agg #[.slice (some ⟨g, 0, none⟩) 4 4, .slice none 0 0], .int .i64 x])) (tm_high c)
  · go_enter Try.func43, Try.ntmps43
    go_wp2_with (first
      | (go_at_call 66; refine hload.mono ?_; rintro e w1 ⟨rfl, hb⟩; have bX := bW.trans (hb.mono bW.size); have r1 := rowB_below k1 hb (rowB_lt k1); have hs := hb.size; rw [sW] at hs; clear hb hload)
      | (go_at_call 75; refine (get_any _ _ _ _).mono ?_; rintro e w' ⟨rfl, rfl⟩)
      | (go_at_call 56; refine (tmDev_any ⟨_, _, _, _⟩ _).mono ?_; rintro e w2 ⟨u, rfl, ⟨g, rfl, hg, hr⟩, hb⟩; have r2 := rowB_below (rowB_alloc r1 _) hb (rowB_lt (rowB_alloc r1 _)); dsimp only [Tm.ns, List.length] at hr; replace hg := Nat.le_trans (Nat.le_of_eq (World.size_alloc _ _).symm) hg; replace bX := (bX.alloc (by omega) _).trans (hb.mono (Nat.le_trans bX.size (by simp))))
      | (refine wpList_storeR rfl 34 _ _ rfl (w.heap.size + 1) rfl #[.slice (some ⟨g, 0, none⟩) 4 4, .slice none 0 0] rfl (dev2_one _ _ _ _ _ _) 34 #[.slice none 0 0, .slice none 0 0] rfl ?_ agDv ?_; with_reducible exact r2))
    refine bodyPost_ret (resultsRT rfl (w.heap.size + 1) _ rfl (rowB_row r2 _) agDv rfl) rfl ?_
    refine ⟨_, ?_, ⟨g, rfl, by omega, rowB_row_other hr _ (by omega)⟩, below_rowR bX _ (by omega)⟩
    exact congrArg (fun x => Ending.returned (.tuple #[.agg #[.slice (some ⟨g, 0, none⟩) 4 4, .slice none 0 0], .int .i64 x])) (rfl)
  · go_enter Try.func43, Try.ntmps43
    go_wp2_with (first
      | (go_at_call 66; refine hload.mono ?_; rintro e w1 ⟨rfl, hb⟩; have bX := bW.trans (hb.mono bW.size); have r1 := rowB_below k1 hb (rowB_lt k1); have hs := hb.size; rw [sW] at hs; clear hb hload)
      | (go_at_call 75; refine (get_any _ _ _ _).mono ?_; rintro e w' ⟨rfl, rfl⟩)
      | (go_at_call 56; refine (tmDev_any ⟨_, _, _, _⟩ _).mono ?_; rintro e w2 ⟨u, rfl, ⟨g, rfl, hg, hr⟩, hb⟩; have r2 := rowB_below (rowB_alloc r1 _) hb (rowB_lt (rowB_alloc r1 _)); dsimp only [Tm.ns, List.length] at hr; replace hg := Nat.le_trans (Nat.le_of_eq (World.size_alloc _ _).symm) hg; replace bX := (bX.alloc (by omega) _).trans (hb.mono (Nat.le_trans bX.size (by simp))))
      | (refine wpList_storeR rfl 34 _ _ rfl (w.heap.size + 1) rfl #[.slice (some ⟨g, 0, none⟩) 4 4, .slice none 0 0] rfl (dev2_one _ _ _ _ _ _) 34 #[.slice none 0 0, .slice none 0 0] rfl ?_ agDv ?_; with_reducible exact r2))
    refine bodyPost_ret (resultsRT rfl (w.heap.size + 1) _ rfl (rowB_row r2 _) agDv rfl) rfl ?_
    refine ⟨_, ?_, ⟨g, rfl, by omega, rowB_row_other hr _ (by omega)⟩, below_rowR bX _ (by omega)⟩
    exact congrArg (fun x => Ending.returned (.tuple #[.agg #[.slice (some ⟨g, 0, none⟩) 4 4, .slice none 0 0], .int .i64 x])) (rfl)
  · have q0 : (at' == 0) = false := by simpa using n0
    have q1 : (at' == 1) = false := by simpa using n1
    have q2 : (at' == 2) = false := by simpa using n2
    have q3 : (at' == 3) = false := by simpa using n3
    have e1 : (⟨c, l', k, f⟩ : Tm).reg at' = 0 := by unfold Tm.reg; rw [if_neg n0, if_neg n1, if_neg n2, if_neg n3]
    have e2 : (⟨c, l', k, f⟩ : Tm).read at' = ⟨c, l', k, f⟩ := by unfold Tm.read; rw [if_neg n3]
    rw [e1, e2]
    clear e1 e2 n0 n1 n2 n3
    go_enter Try.func43, Try.ntmps43
    go_wp2_with (first
      | (go_at_call 66; refine hload.mono ?_; rintro e w1 ⟨rfl, hb⟩; have bX := bW.trans (hb.mono bW.size); have r1 := rowB_below k1 hb (rowB_lt k1); have hs := hb.size; rw [sW] at hs; clear hb hload)
      | (go_at_call 75; refine (get_any _ _ _ _).mono ?_; rintro e w' ⟨rfl, rfl⟩)
      | (go_at_call 56; refine (tmDev_any ⟨_, _, _, _⟩ _).mono ?_; rintro e w2 ⟨u, rfl, ⟨g, rfl, hg, hr⟩, hb⟩; have r2 := rowB_below (rowB_alloc r1 _) hb (rowB_lt (rowB_alloc r1 _)); dsimp only [Tm.ns, List.length] at hr; replace hg := Nat.le_trans (Nat.le_of_eq (World.size_alloc _ _).symm) hg; replace bX := (bX.alloc (by omega) _).trans (hb.mono (Nat.le_trans bX.size (by simp))))
      | (refine wpList_storeR rfl 34 _ _ rfl (w.heap.size + 1) rfl #[.slice (some ⟨g, 0, none⟩) 4 4, .slice none 0 0] rfl (dev2_one _ _ _ _ _ _) 34 #[.slice none 0 0, .slice none 0 0] rfl ?_ agDv ?_; with_reducible exact r2))
    refine bodyPost_ret (resultsRT rfl (w.heap.size + 1) _ rfl (rowB_row r2 _) agDv rfl) rfl ?_
    refine ⟨_, ?_, ⟨g, rfl, by omega, rowB_row_other hr _ (by omega)⟩, below_rowR bX _ (by omega)⟩
    exact congrArg (fun x => Ending.returned (.tuple #[.agg #[.slice (some ⟨g, 0, none⟩) 4 4, .slice none 0 0], .int .i64 x])) (rfl)
/-- What writing a register makes. -/
def Tm.write (s : Tm) (a d : Int) : Tm :=
  if a = 0 then { s with l := putN s.l 0 8 d } else if a = 1 then { s with l := putN s.l 8 8 d } else if a = 2 then ⟨if d / 128 % 2 = 1 then s.l else s.c, s.l, lo d 3, s.f⟩ else s
theorem nat_and_p2 (N i : Nat) : N &&& 2 ^ i = (N.testBit i).toNat * 2 ^ i := by
  refine Nat.eq_of_testBit_eq fun j => ?_
  rw [Nat.testBit_and, Nat.testBit_two_pow]
  cases h : N.testBit i with
  | true =>
    simp only [Bool.toNat_true, Nat.one_mul, Nat.testBit_two_pow]
    by_cases e : i = j
    · subst e; simp [h]
    · simp [e]
  | false =>
    simp only [Bool.toNat_false, Nat.zero_mul, Nat.zero_testBit]
    by_cases e : i = j
    · subst e; simp [h]
    · simp [e]
theorem bit_lo64 (d : Int) (i : Nat) (h : i ≤ 61) : d % 18446744073709551616 / 2 ^ i % 2 = d / 2 ^ i % 2 := by
  have e := lo_div d i (64 - i)
  rw [show i + (64 - i) = 64 by omega] at e
  unfold lo at e
  rw [show (18446744073709551616 : Int) = 2 ^ 64 from rfl, e]
  refine Int.emod_emod_of_dvd _ ⟨2 ^ (63 - i), ?_⟩
  rw [show 64 - i = (63 - i) + 1 by omega, p2_succ]
theorem and_bit (d : Int) (i : Nat) (h : i ≤ 61) : bits .and .i64 d (2 ^ i) = d / 2 ^ i % 2 * 2 ^ i := by
  have hp := p2_pos i
  have hq := p2_62 i (by omega)
  show IntKind.i64.wrap ((BitVec.ofInt 64 d &&& BitVec.ofInt 64 (2 ^ i)).toNat : Int) = _
  have e1 : (BitVec.ofInt 64 (2 ^ i : Int)).toNat = 2 ^ i := by
    have : ((BitVec.ofInt 64 (2 ^ i : Int)).toNat : Int) = ((2 ^ i : Nat) : Int) := by
      rw [ofInt_toNat, Int.emod_eq_of_lt (by omega) (by omega)]
      simp
    exact_mod_cast this
  have e2 : (((BitVec.ofInt 64 d &&& BitVec.ofInt 64 (2 ^ i)).toNat : Nat) : Int) = d / 2 ^ i % 2 * 2 ^ i := by
    rw [BitVec.toNat_and, e1, nat_and_p2]
    have hN := ofInt_toNat d
    generalize (BitVec.ofInt 64 d).toNat = N at *
    have hb : ((N.testBit i).toNat : Int) = d / 2 ^ i % 2 := by
      rw [← bit_lo64 d i h, ← hN, Nat.toNat_testBit]
      simp
    rw [Int.natCast_mul, hb]
    simp
  rw [e2]
  have : d / 2 ^ i % 2 = 0 ∨ d / 2 ^ i % 2 = 1 := by omega
  rcases this with h | h <;> rw [h] <;> exact IntWalk.i64_in _ (by omega)
theorem tm_and128 (d : Int) : (bits .and .i64 d 128 != 0) = decide (d / 128 % 2 = 1) := by
  have e := and_bit d 7 (by decide)
  have e2 : (2 : Int) ^ 7 = 128 := rfl
  rw [e2] at e
  rw [e]
  have : d / 128 % 2 = 0 ∨ d / 128 % 2 = 1 := by omega
  rcases this with h | h <;> rw [h] <;> decide
theorem tmWrite_any (v vm : Value) (l : List Int) (at' d : Int) (w : World) (h : isArg w v l) :
    Calls Try.prog 36 #[.agg #[v, vm], .int .i64 at', .int .i64 d] w fun e w' => ∃ v, e = .returned v ∧ devO w.heap.size w' v ((Tm.of l).write at' d).ns ∧ Below w.heap.size w w' := by
  have hfit := Tm.of_fit l
  obtain ⟨k0, k1, bW, sW⟩ := boxes2 w (.cells #[v, vm] 34) (.cells #[.slice none 0 0, .slice none 0 0] 34)
  have k0 : rowB _ _ _ _ := k0
  have k1 : rowB _ _ _ _ := k1
  have h2 := isArg_below h bW (Nat.le_refl _)
  have hload := tmLoad_any v vm l _ h2
  generalize Tm.of l = s at *
  obtain ⟨c, l', k, f⟩ := s
  dsimp only [Tm.cs, Tm.ns] at *
  have hd : at' = 0 ∨ at' = 1 ∨ (at' = 2 ∧ d / 128 % 2 = 1) ∨ (at' = 2 ∧ ¬ d / 128 % 2 = 1) ∨ (at' ≠ 0 ∧ at' ≠ 1 ∧ at' ≠ 2) := by omega
  rcases hd with rfl | rfl | ⟨rfl, hd⟩ | ⟨rfl, hd⟩ | ⟨n0, n1, n2⟩
  · go_enter Try.func36, Try.ntmps36
    go_wp2_with (first
      | (go_at_call 66; refine hload.mono ?_; rintro e w1 ⟨rfl, hb⟩; have bX := bW.trans (hb.mono bW.size); have r1 := rowB_below k1 hb (rowB_lt k1); have hs := hb.size; rw [sW] at hs; clear hb hload)
      | (go_at_call 67; refine (put_any _ _ _ _ _).mono ?_; rintro e w' ⟨rfl, rfl⟩)
      | (go_at_call 16; refine (low_any _ _ _).mono ?_; rintro e w' ⟨rfl, rfl⟩)
      | (go_at_call 56; refine (tmDev_any ⟨_, _, _, _⟩ _).mono ?_; rintro e w2 ⟨u, rfl, ⟨g, rfl, hg, hr⟩, hb⟩; have r2 := rowB_below (rowB_alloc r1 _) hb (rowB_lt (rowB_alloc r1 _)); dsimp only [Tm.ns, List.length] at hr; replace hg := Nat.le_trans (Nat.le_of_eq (World.size_alloc _ _).symm) hg; replace bX := (bX.alloc (by omega) _).trans (hb.mono (Nat.le_trans bX.size (by simp))))
      | (refine wpList_storeR rfl 34 _ _ rfl (w.heap.size + 1) rfl #[.slice (some ⟨g, 0, none⟩) 4 4, .slice none 0 0] rfl (dev2_one _ _ _ _ _ _) 34 #[.slice none 0 0, .slice none 0 0] rfl ?_ agDv ?_; with_reducible exact r2))
    refine bodyPost_ret (resultsR rfl (w.heap.size + 1) _ rfl (rowB_row r2 _) agDv) rfl ?_
    exact ⟨_, rfl, ⟨g, rfl, by omega, rowB_row_other hr _ (by omega)⟩, below_rowR bX _ (by omega)⟩
  · go_enter Try.func36, Try.ntmps36
    go_wp2_with (first
      | (go_at_call 66; refine hload.mono ?_; rintro e w1 ⟨rfl, hb⟩; have bX := bW.trans (hb.mono bW.size); have r1 := rowB_below k1 hb (rowB_lt k1); have hs := hb.size; rw [sW] at hs; clear hb hload)
      | (go_at_call 67; refine (put_any _ _ _ _ _).mono ?_; rintro e w' ⟨rfl, rfl⟩)
      | (go_at_call 16; refine (low_any _ _ _).mono ?_; rintro e w' ⟨rfl, rfl⟩)
      | (go_at_call 56; refine (tmDev_any ⟨_, _, _, _⟩ _).mono ?_; rintro e w2 ⟨u, rfl, ⟨g, rfl, hg, hr⟩, hb⟩; have r2 := rowB_below (rowB_alloc r1 _) hb (rowB_lt (rowB_alloc r1 _)); dsimp only [Tm.ns, List.length] at hr; replace hg := Nat.le_trans (Nat.le_of_eq (World.size_alloc _ _).symm) hg; replace bX := (bX.alloc (by omega) _).trans (hb.mono (Nat.le_trans bX.size (by simp))))
      | (refine wpList_storeR rfl 34 _ _ rfl (w.heap.size + 1) rfl #[.slice (some ⟨g, 0, none⟩) 4 4, .slice none 0 0] rfl (dev2_one _ _ _ _ _ _) 34 #[.slice none 0 0, .slice none 0 0] rfl ?_ agDv ?_; with_reducible exact r2))
    refine bodyPost_ret (resultsR rfl (w.heap.size + 1) _ rfl (rowB_row r2 _) agDv) rfl ?_
    exact ⟨_, rfl, ⟨g, rfl, by omega, rowB_row_other hr _ (by omega)⟩, below_rowR bX _ (by omega)⟩
  · have ha := tm_and128 d
    rw [decide_eq_true hd] at ha
    have e1 : (⟨c, l', k, f⟩ : Tm).write 2 d = ⟨l', l', lo d 3, f⟩ := by unfold Tm.write; rw [if_neg (by decide), if_neg (by decide), if_pos rfl, if_pos hd]
    rw [e1]
    clear e1 hd
    go_enter Try.func36, Try.ntmps36
    go_wp2_with (first
      | (go_at_call 66; refine hload.mono ?_; rintro e w1 ⟨rfl, hb⟩; have bX := bW.trans (hb.mono bW.size); have r1 := rowB_below k1 hb (rowB_lt k1); have hs := hb.size; rw [sW] at hs; clear hb hload)
      | (go_at_call 67; refine (put_any _ _ _ _ _).mono ?_; rintro e w' ⟨rfl, rfl⟩)
      | (go_at_call 16; refine (low_any _ _ _).mono ?_; rintro e w' ⟨rfl, rfl⟩)
      | (go_at_call 56; refine (tmDev_any ⟨_, _, _, _⟩ _).mono ?_; rintro e w2 ⟨u, rfl, ⟨g, rfl, hg, hr⟩, hb⟩; have r2 := rowB_below (rowB_alloc r1 _) hb (rowB_lt (rowB_alloc r1 _)); dsimp only [Tm.ns, List.length] at hr; replace hg := Nat.le_trans (Nat.le_of_eq (World.size_alloc _ _).symm) hg; replace bX := (bX.alloc (by omega) _).trans (hb.mono (Nat.le_trans bX.size (by simp))))
      | (refine wpList_storeR rfl 34 _ _ rfl (w.heap.size + 1) rfl #[.slice (some ⟨g, 0, none⟩) 4 4, .slice none 0 0] rfl (dev2_one _ _ _ _ _ _) 34 #[.slice none 0 0, .slice none 0 0] rfl ?_ agDv ?_; with_reducible exact r2))
    refine bodyPost_ret (resultsR rfl (w.heap.size + 1) _ rfl (rowB_row r2 _) agDv) rfl ?_
    exact ⟨_, rfl, ⟨g, rfl, by omega, rowB_row_other hr _ (by omega)⟩, below_rowR bX _ (by omega)⟩
  · have ha := tm_and128 d
    rw [decide_eq_false hd] at ha
    have e1 : (⟨c, l', k, f⟩ : Tm).write 2 d = ⟨c, l', lo d 3, f⟩ := by unfold Tm.write; rw [if_neg (by decide), if_neg (by decide), if_pos rfl, if_neg hd]
    rw [e1]
    clear e1 hd
    go_enter Try.func36, Try.ntmps36
    go_wp2_with (first
      | (go_at_call 66; refine hload.mono ?_; rintro e w1 ⟨rfl, hb⟩; have bX := bW.trans (hb.mono bW.size); have r1 := rowB_below k1 hb (rowB_lt k1); have hs := hb.size; rw [sW] at hs; clear hb hload)
      | (go_at_call 67; refine (put_any _ _ _ _ _).mono ?_; rintro e w' ⟨rfl, rfl⟩)
      | (go_at_call 16; refine (low_any _ _ _).mono ?_; rintro e w' ⟨rfl, rfl⟩)
      | (go_at_call 56; refine (tmDev_any ⟨_, _, _, _⟩ _).mono ?_; rintro e w2 ⟨u, rfl, ⟨g, rfl, hg, hr⟩, hb⟩; have r2 := rowB_below (rowB_alloc r1 _) hb (rowB_lt (rowB_alloc r1 _)); dsimp only [Tm.ns, List.length] at hr; replace hg := Nat.le_trans (Nat.le_of_eq (World.size_alloc _ _).symm) hg; replace bX := (bX.alloc (by omega) _).trans (hb.mono (Nat.le_trans bX.size (by simp))))
      | (refine wpList_storeR rfl 34 _ _ rfl (w.heap.size + 1) rfl #[.slice (some ⟨g, 0, none⟩) 4 4, .slice none 0 0] rfl (dev2_one _ _ _ _ _ _) 34 #[.slice none 0 0, .slice none 0 0] rfl ?_ agDv ?_; with_reducible exact r2))
    refine bodyPost_ret (resultsR rfl (w.heap.size + 1) _ rfl (rowB_row r2 _) agDv) rfl ?_
    exact ⟨_, rfl, ⟨g, rfl, by omega, rowB_row_other hr _ (by omega)⟩, below_rowR bX _ (by omega)⟩
  · have q0 : (at' == 0) = false := by simpa using n0
    have q1 : (at' == 1) = false := by simpa using n1
    have q2 : (at' == 2) = false := by simpa using n2
    have e1 : (⟨c, l', k, f⟩ : Tm).write at' d = ⟨c, l', k, f⟩ := by unfold Tm.write; rw [if_neg n0, if_neg n1, if_neg n2]
    rw [e1]
    clear e1 n0 n1 n2
    go_enter Try.func36, Try.ntmps36
    go_wp2_with (first
      | (go_at_call 66; refine hload.mono ?_; rintro e w1 ⟨rfl, hb⟩; have bX := bW.trans (hb.mono bW.size); have r1 := rowB_below k1 hb (rowB_lt k1); have hs := hb.size; rw [sW] at hs; clear hb hload)
      | (go_at_call 67; refine (put_any _ _ _ _ _).mono ?_; rintro e w' ⟨rfl, rfl⟩)
      | (go_at_call 16; refine (low_any _ _ _).mono ?_; rintro e w' ⟨rfl, rfl⟩)
      | (go_at_call 56; refine (tmDev_any ⟨_, _, _, _⟩ _).mono ?_; rintro e w2 ⟨u, rfl, ⟨g, rfl, hg, hr⟩, hb⟩; have r2 := rowB_below (rowB_alloc r1 _) hb (rowB_lt (rowB_alloc r1 _)); dsimp only [Tm.ns, List.length] at hr; replace hg := Nat.le_trans (Nat.le_of_eq (World.size_alloc _ _).symm) hg; replace bX := (bX.alloc (by omega) _).trans (hb.mono (Nat.le_trans bX.size (by simp))))
      | (refine wpList_storeR rfl 34 _ _ rfl (w.heap.size + 1) rfl #[.slice (some ⟨g, 0, none⟩) 4 4, .slice none 0 0] rfl (dev2_one _ _ _ _ _ _) 34 #[.slice none 0 0, .slice none 0 0] rfl ?_ agDv ?_; with_reducible exact r2))
    refine bodyPost_ret (resultsR rfl (w.heap.size + 1) _ rfl (rowB_row r2 _) agDv) rfl ?_
    exact ⟨_, rfl, ⟨g, rfl, by omega, rowB_row_other hr _ (by omega)⟩, below_rowR bX _ (by omega)⟩

/-- A running timer some cycles later. -/
def Tm.after (s : Tm) (k : Int) : Tm :=
  if k ≤ s.c then ⟨s.c - k, s.l, s.k, s.f⟩ else if s.k / 2 % 2 = 1 then ⟨s.l - (k - s.c - 1) % (s.l + 1), s.l, s.k, 1⟩ else ⟨0, s.l, s.k - s.k % 2, 1⟩
def Tm.next (s : Tm) : Int := if s.k % 2 = 1 then s.c else 100000
theorem tmNew_any (w : World) :
    Calls Try.prog 28 #[] w fun e w' => ∃ v, e = .returned v ∧ devO w.heap.size w' v [0, 0, 0, 0] ∧ Below w.heap.size w w' := by
  obtain ⟨k1, bW, sW⟩ := boxes1 w (.cells #[.slice none 0 0, .slice none 0 0] 34)
  have k1 : rowB _ _ _ _ := k1
  go_enter Try.func28, Try.ntmps28
  go_wp2_with (first
    | (go_at_call 56; refine (tmDev_any ⟨_, _, _, _⟩ _).mono ?_; rintro e wd ⟨u, rfl, ⟨g, rfl, hg, hr⟩, hb⟩; have r9 := rowB_below k1 hb (rowB_lt k1); dsimp only [Tm.ns, List.length] at hr; have hg2 := Nat.lt_of_lt_of_le (rowB_lt k1) hg; replace bX := bW.trans (hb.mono bW.size))
    | (refine wpList_storeR rfl 34 _ _ rfl w.heap.size rfl #[.slice (some ⟨g, 0, none⟩) 4 4, .slice none 0 0] rfl (dev2_one _ _ _ _ _ _) 34 #[.slice none 0 0, .slice none 0 0] rfl ?_ agDv ?_; with_reducible exact r9))
  refine bodyPost_ret (resultsR rfl w.heap.size _ rfl (rowB_row r9 _) agDv) rfl ?_
  exact ⟨_, rfl, ⟨g, rfl, by omega, rowB_row_other hr _ (by omega)⟩, below_rowR bX _ (by omega)⟩
end Go.Proofs.Ytakaebjojgeehaa
