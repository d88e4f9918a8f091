/- A part of the proof of ChipTicks: TimC. -/
import Derived.Test.YtakaebjojgeehaaGreatChipTicksK01
import Derived.Test.YtakaebjojgeehaaGreatChipTicksK02
import Derived.Test.YtakaebjojgeehaaGreatChipTicksK03
import Derived.Test.YtakaebjojgeehaaGreatChipTicksK04
import Derived.Test.YtakaebjojgeehaaGreatChipTicksK05
import Derived.Below
import Derived.BigQuiet
import Derived.ChangeMaps5
import Derived.Deep.DeepCutAuto
import Derived.Deep.Draws
import Derived.Deep.MidRow
import Derived.Deep.OwnRows
import Derived.Deep.QuietTactic
import Derived.Deep.RegionHeld3
import Derived.Deep.RegionWith
import Derived.Deep.Slices
import Derived.Deep.WholeRow
import Derived.Lib.Hide
import Derived.Lib.SmallJoins
import Derived.OpenShut
import Derived.OrdersHeld
import Derived.OwnWalk
import Derived.RowKit3
import Derived.StillTactics
import Derived.StillTail
import Derived.StillTailTactics
import Derived.Test.YtakaebjojgeehaaGreatChecked
import Derived.WalkKit
namespace Go.Proofs.YtakaebjojgeehaaGreat
open Go.RowKit
set_option maxRecDepth 100000
/-- A timer's numbers: counter, latch, control bits, whether it has fired. -/
structure Tm where (c l k f : Int)
def Tm.of (l : List Int) : Tm := ⟨lo (l.getD 0 0) 16, lo (l.getD 1 0) 16, lo (l.getD 2 0) 3, lo (l.getD 3 0) 1⟩
def Tm.cs (s : Tm) : Array Value := #[.int .i64 s.c, .int .i64 s.l, .int .i64 s.k, .int .i64 s.f]
def Tm.ns (s : Tm) : List Int := [s.c, s.l, s.k, s.f]
structure Tm.fit (s : Tm) : Prop where
  c : 0 ≤ s.c ∧ s.c < 65536
  l : 0 ≤ s.l ∧ s.l < 65536
  k : 0 ≤ s.k ∧ s.k < 8
  f : 0 ≤ s.f ∧ s.f < 2
theorem Tm.of_fit (l : List Int) : (Tm.of l).fit :=
  ⟨⟨lo_nonneg _ _, lo_lt _ _⟩, ⟨lo_nonneg _ _, lo_lt _ _⟩, ⟨lo_nonneg _ _, lo_lt _ _⟩, ⟨lo_nonneg _ _, lo_lt _ _⟩⟩
theorem Tm.of_ns {s : Tm} (h : s.fit) : Tm.of s.ns = s := by
  obtain ⟨c, l, k, f⟩ := s
  obtain ⟨h1, h2, h3, h4⟩ := h
  show Tm.mk _ _ _ _ = _
  rw [show lo (Tm.ns ⟨c, l, k, f⟩ |>.getD 0 0) 16 = c from lo_of h1.1 h1.2, show lo (Tm.ns ⟨c, l, k, f⟩ |>.getD 1 0) 16 = l from lo_of h2.1 h2.2, show lo (Tm.ns ⟨c, l, k, f⟩ |>.getD 2 0) 3 = k from lo_of h3.1 h3.2, show lo (Tm.ns ⟨c, l, k, f⟩ |>.getD 3 0) 1 = f from lo_of h4.1 h4.2]
theorem four_one (a b c d : Int) : (#[.int .i64 a, .int .i64 b, .int .i64 c, .int .i64 d] : Array Value).all (·.oneCell') = true := by simp [Value.oneCell']
theorem agTm : isAg Tryz.prog 82 4 := ⟨⟨_, Tryz.underlying82, rfl⟩, by kernel_rfl⟩

theorem tmLoad_any (v vm : Value) (l : List Int) (w : World) (h : isArg w v l) :
    Calls Tryz.prog 77 #[.agg #[v, vm]] w fun e w' => e = .returned (.agg (Tm.of l).cs) ∧ Below w.heap.size w w' := by
  obtain ⟨x0, hx0⟩ : ∃ x, lo (l.getD 0 0) 16 = x := ⟨_, rfl⟩
  obtain ⟨x1, hx1⟩ : ∃ x, lo (l.getD 1 0) 16 = x := ⟨_, rfl⟩
  obtain ⟨x2, hx2⟩ : ∃ x, lo (l.getD 2 0) 3 = x := ⟨_, rfl⟩
  obtain ⟨x3, hx3⟩ : ∃ x, lo (l.getD 3 0) 1 = x := ⟨_, rfl⟩
  have hT : (Tm.of l).cs = #[.int .i64 x0, .int .i64 x1, .int .i64 x2, .int .i64 x3] := by subst hx0 hx1 hx2 hx3; rfl
  rw [hT]
  clear hT
  obtain ⟨k0, k1, bW, sW⟩ := boxes2 w (.cells #[v, vm] 27) (.cells #[.int .i64 0, .int .i64 0, .int .i64 0, .int .i64 0] 82)
  have k0 : rowB _ _ _ _ := k0
  have k1 : rowB _ _ _ _ := k1
  go_enter Tryz.func77, Tryz.ntmps77
  go_upto_region 1 with (fail)
  generalize (w.alloc (.cells #[v, vm] 27)).alloc (.cells #[.int .i64 0, .int .i64 0, .int .i64 0, .int .i64 0] 82) = w1 at *
  refine wp_region_mix (fun w' => rowB w' w.heap.size 27 #[v, vm]) [(0, 0), (2, 1), (4, 1), (6, 1), (1, 3), (3, 3), (5, 3), (7, 2), (8, 2), (9, 2)] (by kernel_rfl) (by kernel_rfl) (fun _ _ _ _ _ h => h) ?_
  simp only [List.map_cons, List.map_nil, opOf, List.getD_cons_zero, List.getD_cons_succ]
  change wpMix _ _ _ _ _ _ w1.drew
  have hs : w.heap.size + 2 = w1.drew.heap.size := sW.symm
  replace k0 : rowB w1.drew _ _ _ := k0
  replace k1 : rowB w1.drew _ _ _ := k1
  replace bW := bW.drew
  clear sW
  generalize w1.drew = w2 at *
  have h2 := isArg_below h bW (Nat.le_refl _)
  have c0 : w2.cell? ⟨w.heap.size, 0, none⟩ = some v := rowB_cell k0 0 rfl
  have c1 : w2.cell? ⟨w.heap.size, 1, none⟩ = some vm := rowB_cell k0 1 rfl
  (refine wpMix_still (fun K hK => ?_); go_simp; refine hK _ ?_; clear hK K)
  refine wpMix_held (.agg #[v, vm]) rfl k0 (fun w' hw' => exec_rowR 27 _ rfl w.heap.size rfl 27 #[v, vm] hw' agDv) ?_
  simp only [Act.put, List.setIfInBounds_toArray, List.set_cons_zero, List.set_cons_succ]
  refine wpMix_held (.agg #[v, vm]) rfl k0 (fun w' hw' => exec_rowR 27 _ rfl w.heap.size rfl 27 #[v, vm] hw' agDv) ?_
  simp only [Act.put, List.setIfInBounds_toArray, List.set_cons_zero, List.set_cons_succ]
  refine wpMix_held (.agg #[v, vm]) rfl k0 (fun w' hw' => exec_rowR 27 _ rfl w.heap.size rfl 27 #[v, vm] hw' agDv) ?_
  simp only [Act.put, List.setIfInBounds_toArray, List.set_cons_zero, List.set_cons_succ]
  refine wpMix_call ?_
  go_wp2_with (go_at_call 124; refine (devNumber_any _ _ l 0 16 _ h2).mono ?_; rintro e w3 ⟨rfl, hb⟩; rw [show wd 16 = 16 from rfl, hx0])
  replace k0 := rowB_below k0 hb (rowB_lt k0)
  replace k1 := rowB_below k1 hb (rowB_lt k1)
  replace h2 := isArg_below h2 hb (Nat.le_refl _)
  replace bW := bW.trans (hb.mono bW.size)
  first | refine ⟨fun _ => k0, ?_⟩ | refine ⟨k0, ?_⟩
  clear hb
  refine wpMix_call ?_
  go_wp2_with (go_at_call 124; refine (devNumber_any _ _ l 1 16 _ h2).mono ?_; rintro e w4 ⟨rfl, hb⟩; rw [show wd 16 = 16 from rfl, hx1])
  replace k0 := rowB_below k0 hb (rowB_lt k0)
  replace k1 := rowB_below k1 hb (rowB_lt k1)
  replace h2 := isArg_below h2 hb (Nat.le_refl _)
  replace bW := bW.trans (hb.mono bW.size)
  first | refine ⟨fun _ => k0, ?_⟩ | refine ⟨k0, ?_⟩
  clear hb
  refine wpMix_call ?_
  go_wp2_with (go_at_call 124; refine (devNumber_any _ _ l 2 3 _ h2).mono ?_; rintro e w5 ⟨rfl, hb⟩; rw [show wd 3 = 3 from rfl, hx2])
  replace k0 := rowB_below k0 hb (rowB_lt k0)
  replace k1 := rowB_below k1 hb (rowB_lt k1)
  replace h2 := isArg_below h2 hb (Nat.le_refl _)
  replace bW := bW.trans (hb.mono bW.size)
  first | refine ⟨fun _ => k0, ?_⟩ | refine ⟨k0, ?_⟩
  clear hb
  refine wpMix_call ?_
  go_wp2_with (go_at_call 124; refine (devNumber_any _ _ l 3 1 _ h2).mono ?_; rintro e w6 ⟨rfl, hb⟩; rw [show wd 1 = 1 from rfl, hx3])
  replace k0 := rowB_below k0 hb (rowB_lt k0)
  replace k1 := rowB_below k1 hb (rowB_lt k1)
  replace h2 := isArg_below h2 hb (Nat.le_refl _)
  replace bW := bW.trans (hb.mono bW.size)
  try refine ⟨fun h => (by cases h), ?_⟩
  clear hb
  refine wpMix_call ?_
  go_wp2_with fail
  try refine ⟨fun h => (by cases h), ?_⟩
  refine wpMix_call ?_
  go_wp2_with (refine wpList_storeR rfl 82 _ _ rfl (w.heap.size + 1) rfl #[.int .i64 x0, .int .i64 x1, .int .i64 x2, .int .i64 x3] rfl (four_one _ _ _ _) 82 #[.int .i64 0, .int .i64 0, .int .i64 0, .int .i64 0] rfl ?_ agTm ?_; with_reducible exact k1)
  try refine ⟨fun h => (by cases h), ?_⟩
  refine wpMix_nil ?_
  go_wp2_with fail
  exact bodyPost_ret (resultsR rfl (w.heap.size + 1) _ rfl (rowB_row k1 _) agTm) rfl ⟨rfl, below_rowR bW _ (by omega)⟩
/-- The bits of the control register. -/
theorem tm_and {k : Int} (h : 0 ≤ k ∧ k < 8) (b : Int) (hb : b = 1 ∨ b = 2 ∨ b = 4) : (bits .and .i64 k b != 0) = decide (k / b % 2 = 1) := by
  obtain ⟨n, rfl⟩ : ∃ n : Fin 8, k = (n.val : Int) := ⟨⟨k.toNat, by omega⟩, by simp; omega⟩
  rcases hb with rfl | rfl | rfl
  · exact (by decide +kernel : ∀ n : Fin 8, (bits .and .i64 (n.val : Int) 1 != 0) = decide ((n.val : Int) / 1 % 2 = 1)) n
  · exact (by decide +kernel : ∀ n : Fin 8, (bits .and .i64 (n.val : Int) 2 != 0) = decide ((n.val : Int) / 2 % 2 = 1)) n
  · exact (by decide +kernel : ∀ n : Fin 8, (bits .and .i64 (n.val : Int) 4 != 0) = decide ((n.val : Int) / 4 % 2 = 1)) n
def Tm.has (s : Tm) (b : Int) : Bool := decide (s.k / b % 2 = 1)
theorem tmHas_any (s : Tm) (hs : s.fit) (b : Int) (hb : b = 1 ∨ b = 2 ∨ b = 4) (w : World) :
    Calls Tryz.prog 78 #[.agg s.cs, .int .i64 b] w fun e w' => e = .returned (.bool (s.has b)) ∧ Below w.heap.size w w' := by
  have hx := tm_and hs.k b hb
  have b0 := (boxes1 w (.cells s.cs 82)).2.1
  unfold Tm.has
  obtain ⟨c, l, k, f⟩ := s
  dsimp only [Tm.cs] at *
  obtain ⟨R, hR⟩ : ∃ R, decide (k / b % 2 = 1) = R := ⟨_, rfl⟩
  rw [hR] at hx ⊢
  clear hR
  go_enter Tryz.func78, Tryz.ntmps78
  go_wp2_with fail
  go_ret
  exact ⟨rfl, b0⟩

theorem tmDev_any (s : Tm) (w : World) :
    Calls Tryz.prog 80 #[.agg s.cs] w fun e w' => ∃ v, e = .returned v ∧ devO w.heap.size w' v s.ns ∧ Below w.heap.size w w' := by
  obtain ⟨c, l, k, f⟩ := s
  dsimp only [Tm.cs, Tm.ns]
  obtain ⟨k0, k1, bW, sW⟩ := boxes2 w (.cells #[.int .i64 c, .int .i64 l, .int .i64 k, .int .i64 f] 82) (.cells #[.slice none 0 0, .slice none 0 0] 27)
  have k0 : rowB _ _ _ _ := k0
  have k1 : rowB _ _ _ _ := k1
  go_enter Tryz.func80, Tryz.ntmps80
  go_upto_region 1 with (fail)
  generalize (w.alloc (.cells #[.int .i64 c, .int .i64 l, .int .i64 k, .int .i64 f] 82)).alloc (.cells #[.slice none 0 0, .slice none 0 0] 27) = w1 at *
  have c0 := rowB_cell k0 0 (v := .int .i64 c) rfl
  have c1 := rowB_cell k0 1 (v := .int .i64 l) rfl
  have c2 := rowB_cell k0 2 (v := .int .i64 k) rfl
  have c3 := rowB_cell k0 3 (v := .int .i64 f) rfl
  have hlt : w.heap.size + 1 < w1.heap.size := by omega
  clear sW
  have n1 := rowB_new w1 3 #[.int .i64 c, .int .i64 l, .int .i64 k, .int .i64 f]
  have k2 := rowB_alloc k1 (.cells #[.int .i64 c, .int .i64 l, .int .i64 k, .int .i64 f] 3)
  have b2 := bW.alloc (by omega) (.cells #[.int .i64 c, .int .i64 l, .int .i64 k, .int .i64 f] 3)
  go_wp2_with (refine wpList_storeR rfl 27 _ _ rfl (w.heap.size + 1) rfl #[.slice (some ⟨w1.heap.size, 0, none⟩) 4 4, .slice none 0 0] rfl (dev2_one _ _ _ _ _ _) 27 #[.slice none 0 0, .slice none 0 0] rfl ?_ agDv ?_; with_reducible exact k2)
  refine bodyPost_ret (resultsR rfl (w.heap.size + 1) _ rfl (rowB_row k2 _) agDv) rfl ?_
  exact ⟨_, rfl, ⟨w1.heap.size, rfl, by omega, rowB_row_other n1 _ (by omega)⟩, below_rowR b2 _ (by omega)⟩
theorem tm_low (c : Int) : lo (c / 2 ^ wd 0) (fz 0 8) = lo c 8 := by
  rw [show wd 0 = 0 from rfl, show fz 0 8 = 8 from rfl, Int.pow_zero, Int.ediv_one]
theorem tm_high (c : Int) : lo (c / 2 ^ wd 8) (fz 8 8) = lo (c / 256) 8 := rfl
/-- What reading a register gives. -/
def Tm.reg (s : Tm) (a : Int) : Int := if a = 0 then lo s.c 8 else if a = 1 then lo (s.c / 256) 8 else if a = 2 then s.k else if a = 3 then s.f else 0
def Tm.read (s : Tm) (a : Int) : Tm := ⟨s.c, s.l, s.k, if a = 3 then 0 else s.f⟩
theorem tmRead_any (v vm : Value) (l : List Int) (at' : Int) (w : World) (h : isArg w v l) :
    Calls Tryz.prog 55 #[.agg #[v, vm], .int .i64 at'] w fun e w' => ∃ v, e = .returned (.tuple #[v, .int .i64 ((Tm.of l).reg at')]) ∧ devO w.heap.size w' v ((Tm.of l).read at').ns ∧ Below w.heap.size w w' := by
  have hfit := Tm.of_fit l
  obtain ⟨k0, k1, bW, sW⟩ := boxes2 w (.cells #[v, vm] 27) (.cells #[.slice none 0 0, .slice none 0 0] 27)
  have k0 : rowB _ _ _ _ := k0
  have k1 : rowB _ _ _ _ := k1
  have h2 := isArg_below h bW (Nat.le_refl _)
  have hload := tmLoad_any v vm l _ h2
  generalize Tm.of l = s at *
  obtain ⟨c, l', k, f⟩ := s
  dsimp only [Tm.cs, Tm.ns] at *
  have hd : at' = 0 ∨ at' = 1 ∨ at' = 2 ∨ at' = 3 ∨ (at' ≠ 0 ∧ at' ≠ 1 ∧ at' ≠ 2 ∧ at' ≠ 3) := by omega
  rcases hd with rfl | rfl | rfl | rfl | ⟨n0, n1, n2, n3⟩
  · go_enter Tryz.func55, Tryz.ntmps55
    go_wp2_with (first
      | (go_at_call 77; refine hload.mono ?_; rintro e w1 ⟨rfl, hb⟩; have bX := bW.trans (hb.mono bW.size); have r1 := rowB_below k1 hb (rowB_lt k1); have hs := hb.size; rw [sW] at hs; clear hb hload)
      | (go_at_call 112; refine (get_any _ _ _ _).mono ?_; rintro e w' ⟨rfl, rfl⟩)
      | (go_at_call 80; refine (tmDev_any ⟨_, _, _, _⟩ _).mono ?_; rintro e w2 ⟨u, rfl, ⟨g, rfl, hg, hr⟩, hb⟩; have r2 := rowB_below (rowB_alloc r1 _) hb (rowB_lt (rowB_alloc r1 _)); dsimp only [Tm.ns, List.length] at hr; replace hg := Nat.le_trans (Nat.le_of_eq (World.size_alloc _ _).symm) hg; replace bX := (bX.alloc (by omega) _).trans (hb.mono (Nat.le_trans bX.size (by simp))))
      | (refine wpList_storeR rfl 27 _ _ rfl (w.heap.size + 1) rfl #[.slice (some ⟨g, 0, none⟩) 4 4, .slice none 0 0] rfl (dev2_one _ _ _ _ _ _) 27 #[.slice none 0 0, .slice none 0 0] rfl ?_ agDv ?_; with_reducible exact r2))
    refine bodyPost_ret (resultsRT rfl (w.heap.size + 1) _ rfl (rowB_row r2 _) agDv rfl) rfl ?_
    refine ⟨_, ?_, ⟨g, rfl, by omega, rowB_row_other hr _ (by omega)⟩, below_rowR bX _ (by omega)⟩
    exact congrArg (fun x => Ending.returned (.tuple #[.agg #[.slice (some ⟨g, 0, none⟩) 4 4, .slice none 0 0], .int .i64 x])) (tm_low c)
  · go_enter Tryz.func55, Tryz.ntmps55
    go_wp2_with (first
      | (go_at_call 77; refine hload.mono ?_; rintro e w1 ⟨rfl, hb⟩; have bX := bW.trans (hb.mono bW.size); have r1 := rowB_below k1 hb (rowB_lt k1); have hs := hb.size; rw [sW] at hs; clear hb hload)
      | (go_at_call 112; refine (get_any _ _ _ _).mono ?_; rintro e w' ⟨rfl, rfl⟩)
      | (go_at_call 80; refine (tmDev_any ⟨_, _, _, _⟩ _).mono ?_; rintro e w2 ⟨u, rfl, ⟨g, rfl, hg, hr⟩, hb⟩; have r2 := rowB_below (rowB_alloc r1 _) hb (rowB_lt (rowB_alloc r1 _)); dsimp only [Tm.ns, List.length] at hr; replace hg := Nat.le_trans (Nat.le_of_eq (World.size_alloc _ _).symm) hg; replace bX := (bX.alloc (by omega) _).trans (hb.mono (Nat.le_trans bX.size (by simp))))
      | (refine wpList_storeR rfl 27 _ _ rfl (w.heap.size + 1) rfl #[.slice (some ⟨g, 0, none⟩) 4 4, .slice none 0 0] rfl (dev2_one _ _ _ _ _ _) 27 #[.slice none 0 0, .slice none 0 0] rfl ?_ agDv ?_; with_reducible exact r2))
    refine bodyPost_ret (resultsRT rfl (w.heap.size + 1) _ rfl (rowB_row r2 _) agDv rfl) rfl ?_
    refine ⟨_, ?_, ⟨g, rfl, by omega, rowB_row_other hr _ (by omega)⟩, below_rowR bX _ (by omega)⟩
    exact congrArg (fun x => Ending.returned (.tuple #[.agg #[.slice (some ⟨g, 0, none⟩) 4 4, .slice none 0 0], .int .i64 x])) (tm_high c)
  · go_enter Tryz.func55, Tryz.ntmps55
    go_wp2_with (first
      | (go_at_call 77; refine hload.mono ?_; rintro e w1 ⟨rfl, hb⟩; have bX := bW.trans (hb.mono bW.size); have r1 := rowB_below k1 hb (rowB_lt k1); have hs := hb.size; rw [sW] at hs; clear hb hload)
      | (go_at_call 112; refine (get_any _ _ _ _).mono ?_; rintro e w' ⟨rfl, rfl⟩)
      | (go_at_call 80; refine (tmDev_any ⟨_, _, _, _⟩ _).mono ?_; rintro e w2 ⟨u, rfl, ⟨g, rfl, hg, hr⟩, hb⟩; have r2 := rowB_below (rowB_alloc r1 _) hb (rowB_lt (rowB_alloc r1 _)); dsimp only [Tm.ns, List.length] at hr; replace hg := Nat.le_trans (Nat.le_of_eq (World.size_alloc _ _).symm) hg; replace bX := (bX.alloc (by omega) _).trans (hb.mono (Nat.le_trans bX.size (by simp))))
      | (refine wpList_storeR rfl 27 _ _ rfl (w.heap.size + 1) rfl #[.slice (some ⟨g, 0, none⟩) 4 4, .slice none 0 0] rfl (dev2_one _ _ _ _ _ _) 27 #[.slice none 0 0, .slice none 0 0] rfl ?_ agDv ?_; with_reducible exact r2))
    refine bodyPost_ret (resultsRT rfl (w.heap.size + 1) _ rfl (rowB_row r2 _) agDv rfl) rfl ?_
    refine ⟨_, ?_, ⟨g, rfl, by omega, rowB_row_other hr _ (by omega)⟩, below_rowR bX _ (by omega)⟩
    exact congrArg (fun x => Ending.returned (.tuple #[.agg #[.slice (some ⟨g, 0, none⟩) 4 4, .slice none 0 0], .int .i64 x])) (rfl)
  · go_enter Tryz.func55, Tryz.ntmps55
    go_wp2_with (first
      | (go_at_call 77; refine hload.mono ?_; rintro e w1 ⟨rfl, hb⟩; have bX := bW.trans (hb.mono bW.size); have r1 := rowB_below k1 hb (rowB_lt k1); have hs := hb.size; rw [sW] at hs; clear hb hload)
      | (go_at_call 112; refine (get_any _ _ _ _).mono ?_; rintro e w' ⟨rfl, rfl⟩)
      | (go_at_call 80; refine (tmDev_any ⟨_, _, _, _⟩ _).mono ?_; rintro e w2 ⟨u, rfl, ⟨g, rfl, hg, hr⟩, hb⟩; have r2 := rowB_below (rowB_alloc r1 _) hb (rowB_lt (rowB_alloc r1 _)); dsimp only [Tm.ns, List.length] at hr; replace hg := Nat.le_trans (Nat.le_of_eq (World.size_alloc _ _).symm) hg; replace bX := (bX.alloc (by omega) _).trans (hb.mono (Nat.le_trans bX.size (by simp))))
      | (refine wpList_storeR rfl 27 _ _ rfl (w.heap.size + 1) rfl #[.slice (some ⟨g, 0, none⟩) 4 4, .slice none 0 0] rfl (dev2_one _ _ _ _ _ _) 27 #[.slice none 0 0, .slice none 0 0] rfl ?_ agDv ?_; with_reducible exact r2))
    refine bodyPost_ret (resultsRT rfl (w.heap.size + 1) _ rfl (rowB_row r2 _) agDv rfl) rfl ?_
    refine ⟨_, ?_, ⟨g, rfl, by omega, rowB_row_other hr _ (by omega)⟩, below_rowR bX _ (by omega)⟩
    exact congrArg (fun x => Ending.returned (.tuple #[.agg #[.slice (some ⟨g, 0, none⟩) 4 4, .slice none 0 0], .int .i64 x])) (rfl)
  · have q0 : (at' == 0) = false := by simpa using n0
    have q1 : (at' == 1) = false := by simpa using n1
    have q2 : (at' == 2) = false := by simpa using n2
    have q3 : (at' == 3) = false := by simpa using n3
    have e1 : (⟨c, l', k, f⟩ : Tm).reg at' = 0 := by unfold Tm.reg; rw [if_neg n0, if_neg n1, if_neg n2, if_neg n3]
    have e2 : (⟨c, l', k, f⟩ : Tm).read at' = ⟨c, l', k, f⟩ := by unfold Tm.read; rw [if_neg n3]
    rw [e1, e2]
    clear e1 e2 n0 n1 n2 n3
    go_enter Tryz.func55, Tryz.ntmps55
    go_wp2_with (first
      | (go_at_call 77; refine hload.mono ?_; rintro e w1 ⟨rfl, hb⟩; have bX := bW.trans (hb.mono bW.size); have r1 := rowB_below k1 hb (rowB_lt k1); have hs := hb.size; rw [sW] at hs; clear hb hload)
      | (go_at_call 112; refine (get_any _ _ _ _).mono ?_; rintro e w' ⟨rfl, rfl⟩)
      | (go_at_call 80; refine (tmDev_any ⟨_, _, _, _⟩ _).mono ?_; rintro e w2 ⟨u, rfl, ⟨g, rfl, hg, hr⟩, hb⟩; have r2 := rowB_below (rowB_alloc r1 _) hb (rowB_lt (rowB_alloc r1 _)); dsimp only [Tm.ns, List.length] at hr; replace hg := Nat.le_trans (Nat.le_of_eq (World.size_alloc _ _).symm) hg; replace bX := (bX.alloc (by omega) _).trans (hb.mono (Nat.le_trans bX.size (by simp))))
      | (refine wpList_storeR rfl 27 _ _ rfl (w.heap.size + 1) rfl #[.slice (some ⟨g, 0, none⟩) 4 4, .slice none 0 0] rfl (dev2_one _ _ _ _ _ _) 27 #[.slice none 0 0, .slice none 0 0] rfl ?_ agDv ?_; with_reducible exact r2))
    refine bodyPost_ret (resultsRT rfl (w.heap.size + 1) _ rfl (rowB_row r2 _) agDv rfl) rfl ?_
    refine ⟨_, ?_, ⟨g, rfl, by omega, rowB_row_other hr _ (by omega)⟩, below_rowR bX _ (by omega)⟩
    exact congrArg (fun x => Ending.returned (.tuple #[.agg #[.slice (some ⟨g, 0, none⟩) 4 4, .slice none 0 0], .int .i64 x])) (rfl)
/-- What writing a register makes. -/
def Tm.write (s : Tm) (a d : Int) : Tm :=
  if a = 0 then { s with l := putN s.l 0 8 d } else if a = 1 then { s with l := putN s.l 8 8 d } else if a = 2 then ⟨if d / 128 % 2 = 1 then s.l else s.c, s.l, lo d 3, s.f⟩ else s
theorem nat_and_p2 (N i : Nat) : N &&& 2 ^ i = (N.testBit i).toNat * 2 ^ i := by
  refine Nat.eq_of_testBit_eq fun j => ?_
  rw [Nat.testBit_and, Nat.testBit_two_pow]
  cases h : N.testBit i with
  | true =>
    simp only [Bool.toNat_true, Nat.one_mul, Nat.testBit_two_pow]
    by_cases e : i = j
    · subst e; simp [h]
    · simp [e]
  | false =>
    simp only [Bool.toNat_false, Nat.zero_mul, Nat.zero_testBit]
    by_cases e : i = j
    · subst e; simp [h]
    · simp [e]
theorem bit_lo64 (d : Int) (i : Nat) (h : i ≤ 61) : d % 18446744073709551616 / 2 ^ i % 2 = d / 2 ^ i % 2 := by
  have e := lo_div d i (64 - i)
  rw [show i + (64 - i) = 64 by omega] at e
  unfold lo at e
  rw [show (18446744073709551616 : Int) = 2 ^ 64 from rfl, e]
  refine Int.emod_emod_of_dvd _ ⟨2 ^ (63 - i), ?_⟩
  rw [show 64 - i = (63 - i) + 1 by omega, p2_succ]
theorem and_bit (d : Int) (i : Nat) (h : i ≤ 61) : bits .and .i64 d (2 ^ i) = d / 2 ^ i % 2 * 2 ^ i := by
  have hp := p2_pos i
  have hq := p2_62 i (by omega)
  show IntKind.i64.wrap ((BitVec.ofInt 64 d &&& BitVec.ofInt 64 (2 ^ i)).toNat : Int) = _
  have e1 : (BitVec.ofInt 64 (2 ^ i : Int)).toNat = 2 ^ i := by
    have : ((BitVec.ofInt 64 (2 ^ i : Int)).toNat : Int) = ((2 ^ i : Nat) : Int) := by
      rw [ofInt_toNat, Int.emod_eq_of_lt (by omega) (by omega)]
      simp
    exact_mod_cast this
  have e2 : (((BitVec.ofInt 64 d &&& BitVec.ofInt 64 (2 ^ i)).toNat : Nat) : Int) = d / 2 ^ i % 2 * 2 ^ i := by
    rw [BitVec.toNat_and, e1, nat_and_p2]
    have hN := ofInt_toNat d
    generalize (BitVec.ofInt 64 d).toNat = N at *
    have hb : ((N.testBit i).toNat : Int) = d / 2 ^ i % 2 := by
      rw [← bit_lo64 d i h, ← hN, Nat.toNat_testBit]
      simp
    rw [Int.natCast_mul, hb]
    simp
  rw [e2]
  have : d / 2 ^ i % 2 = 0 ∨ d / 2 ^ i % 2 = 1 := by omega
  rcases this with h | h <;> rw [h] <;> exact IntWalk.i64_in _ (by omega)
theorem tm_and128 (d : Int) : (bits .and .i64 d 128 != 0) = decide (d / 128 % 2 = 1) := by
  have e := and_bit d 7 (by decide)
  have e2 : (2 : Int) ^ 7 = 128 := rfl
  rw [e2] at e
  rw [e]
  have : d / 128 % 2 = 0 ∨ d / 128 % 2 = 1 := by omega
  rcases this with h | h <;> rw [h] <;> decide
theorem tmWrite_any (v vm : Value) (l : List Int) (at' d : Int) (w : World) (h : isArg w v l) :
    Calls Tryz.prog 62 #[.agg #[v, vm], .int .i64 at', .int .i64 d] w fun e w' => ∃ v, e = .returned v ∧ devO w.heap.size w' v ((Tm.of l).write at' d).ns ∧ Below w.heap.size w w' := by
  have hfit := Tm.of_fit l
  obtain ⟨k0, k1, bW, sW⟩ := boxes2 w (.cells #[v, vm] 27) (.cells #[.slice none 0 0, .slice none 0 0] 27)
  have k0 : rowB _ _ _ _ := k0
  have k1 : rowB _ _ _ _ := k1
  have h2 := isArg_below h bW (Nat.le_refl _)
  have hload := tmLoad_any v vm l _ h2
  generalize Tm.of l = s at *
  obtain ⟨c, l', k, f⟩ := s
  dsimp only [Tm.cs, Tm.ns] at *
  have hd : at' = 0 ∨ at' = 1 ∨ (at' = 2 ∧ d / 128 % 2 = 1) ∨ (at' = 2 ∧ ¬ d / 128 % 2 = 1) ∨ (at' ≠ 0 ∧ at' ≠ 1 ∧ at' ≠ 2) := by omega
  rcases hd with rfl | rfl | ⟨rfl, hd⟩ | ⟨rfl, hd⟩ | ⟨n0, n1, n2⟩
  · go_enter Tryz.func62, Tryz.ntmps62
    go_wp2_with (first
      | (go_at_call 77; refine hload.mono ?_; rintro e w1 ⟨rfl, hb⟩; have bX := bW.trans (hb.mono bW.size); have r1 := rowB_below k1 hb (rowB_lt k1); have hs := hb.size; rw [sW] at hs; clear hb hload)
      | (go_at_call 119; refine (put_any _ _ _ _ _).mono ?_; rintro e w' ⟨rfl, rfl⟩)
      | (go_at_call 83; refine (low_any _ _ _).mono ?_; rintro e w' ⟨rfl, rfl⟩)
      | (go_at_call 80; refine (tmDev_any ⟨_, _, _, _⟩ _).mono ?_; rintro e w2 ⟨u, rfl, ⟨g, rfl, hg, hr⟩, hb⟩; have r2 := rowB_below (rowB_alloc r1 _) hb (rowB_lt (rowB_alloc r1 _)); dsimp only [Tm.ns, List.length] at hr; replace hg := Nat.le_trans (Nat.le_of_eq (World.size_alloc _ _).symm) hg; replace bX := (bX.alloc (by omega) _).trans (hb.mono (Nat.le_trans bX.size (by simp))))
      | (refine wpList_storeR rfl 27 _ _ rfl (w.heap.size + 1) rfl #[.slice (some ⟨g, 0, none⟩) 4 4, .slice none 0 0] rfl (dev2_one _ _ _ _ _ _) 27 #[.slice none 0 0, .slice none 0 0] rfl ?_ agDv ?_; with_reducible exact r2))
    refine bodyPost_ret (resultsR rfl (w.heap.size + 1) _ rfl (rowB_row r2 _) agDv) rfl ?_
    exact ⟨_, rfl, ⟨g, rfl, by omega, rowB_row_other hr _ (by omega)⟩, below_rowR bX _ (by omega)⟩
  · go_enter Tryz.func62, Tryz.ntmps62
    go_wp2_with (first
      | (go_at_call 77; refine hload.mono ?_; rintro e w1 ⟨rfl, hb⟩; have bX := bW.trans (hb.mono bW.size); have r1 := rowB_below k1 hb (rowB_lt k1); have hs := hb.size; rw [sW] at hs; clear hb hload)
      | (go_at_call 119; refine (put_any _ _ _ _ _).mono ?_; rintro e w' ⟨rfl, rfl⟩)
      | (go_at_call 83; refine (low_any _ _ _).mono ?_; rintro e w' ⟨rfl, rfl⟩)
      | (go_at_call 80; refine (tmDev_any ⟨_, _, _, _⟩ _).mono ?_; rintro e w2 ⟨u, rfl, ⟨g, rfl, hg, hr⟩, hb⟩; have r2 := rowB_below (rowB_alloc r1 _) hb (rowB_lt (rowB_alloc r1 _)); dsimp only [Tm.ns, List.length] at hr; replace hg := Nat.le_trans (Nat.le_of_eq (World.size_alloc _ _).symm) hg; replace bX := (bX.alloc (by omega) _).trans (hb.mono (Nat.le_trans bX.size (by simp))))
      | (refine wpList_storeR rfl 27 _ _ rfl (w.heap.size + 1) rfl #[.slice (some ⟨g, 0, none⟩) 4 4, .slice none 0 0] rfl (dev2_one _ _ _ _ _ _) 27 #[.slice none 0 0, .slice none 0 0] rfl ?_ agDv ?_; with_reducible exact r2))
    refine bodyPost_ret (resultsR rfl (w.heap.size + 1) _ rfl (rowB_row r2 _) agDv) rfl ?_
    exact ⟨_, rfl, ⟨g, rfl, by omega, rowB_row_other hr _ (by omega)⟩, below_rowR bX _ (by omega)⟩
  · have ha := tm_and128 d
    rw [decide_eq_true hd] at ha
    have e1 : (⟨c, l', k, f⟩ : Tm).write 2 d = ⟨l', l', lo d 3, f⟩ := by unfold Tm.write; rw [if_neg (by decide), if_neg (by decide), if_pos rfl, if_pos hd]
    rw [e1]
    clear e1 hd
    go_enter Tryz.func62, Tryz.ntmps62
    go_wp2_with (first
      | (go_at_call 77; refine hload.mono ?_; rintro e w1 ⟨rfl, hb⟩; have bX := bW.trans (hb.mono bW.size); have r1 := rowB_below k1 hb (rowB_lt k1); have hs := hb.size; rw [sW] at hs; clear hb hload)
      | (go_at_call 119; refine (put_any _ _ _ _ _).mono ?_; rintro e w' ⟨rfl, rfl⟩)
      | (go_at_call 83; refine (low_any _ _ _).mono ?_; rintro e w' ⟨rfl, rfl⟩)
      | (go_at_call 80; refine (tmDev_any ⟨_, _, _, _⟩ _).mono ?_; rintro e w2 ⟨u, rfl, ⟨g, rfl, hg, hr⟩, hb⟩; have r2 := rowB_below (rowB_alloc r1 _) hb (rowB_lt (rowB_alloc r1 _)); dsimp only [Tm.ns, List.length] at hr; replace hg := Nat.le_trans (Nat.le_of_eq (World.size_alloc _ _).symm) hg; replace bX := (bX.alloc (by omega) _).trans (hb.mono (Nat.le_trans bX.size (by simp))))
      | (refine wpList_storeR rfl 27 _ _ rfl (w.heap.size + 1) rfl #[.slice (some ⟨g, 0, none⟩) 4 4, .slice none 0 0] rfl (dev2_one _ _ _ _ _ _) 27 #[.slice none 0 0, .slice none 0 0] rfl ?_ agDv ?_; with_reducible exact r2))
    refine bodyPost_ret (resultsR rfl (w.heap.size + 1) _ rfl (rowB_row r2 _) agDv) rfl ?_
    exact ⟨_, rfl, ⟨g, rfl, by omega, rowB_row_other hr _ (by omega)⟩, below_rowR bX _ (by omega)⟩
  · have ha := tm_and128 d
    rw [decide_eq_false hd] at ha
    have e1 : (⟨c, l', k, f⟩ : Tm).write 2 d = ⟨c, l', lo d 3, f⟩ := by unfold Tm.write; rw [if_neg (by decide), if_neg (by decide), if_pos rfl, if_neg hd]
    rw [e1]
    clear e1 hd
    go_enter Tryz.func62, Tryz.ntmps62
    go_wp2_with (first
      | (go_at_call 77; refine hload.mono ?_; rintro e w1 ⟨rfl, hb⟩; have bX := bW.trans (hb.mono bW.size); have r1 := rowB_below k1 hb (rowB_lt k1); have hs := hb.size; rw [sW] at hs; clear hb hload)
      | (go_at_call 119; refine (put_any _ _ _ _ _).mono ?_; rintro e w' ⟨rfl, rfl⟩)
      | (go_at_call 83; refine (low_any _ _ _).mono ?_; rintro e w' ⟨rfl, rfl⟩)
      | (go_at_call 80; refine (tmDev_any ⟨_, _, _, _⟩ _).mono ?_; rintro e w2 ⟨u, rfl, ⟨g, rfl, hg, hr⟩, hb⟩; have r2 := rowB_below (rowB_alloc r1 _) hb (rowB_lt (rowB_alloc r1 _)); dsimp only [Tm.ns, List.length] at hr; replace hg := Nat.le_trans (Nat.le_of_eq (World.size_alloc _ _).symm) hg; replace bX := (bX.alloc (by omega) _).trans (hb.mono (Nat.le_trans bX.size (by simp))))
      | (refine wpList_storeR rfl 27 _ _ rfl (w.heap.size + 1) rfl #[.slice (some ⟨g, 0, none⟩) 4 4, .slice none 0 0] rfl (dev2_one _ _ _ _ _ _) 27 #[.slice none 0 0, .slice none 0 0] rfl ?_ agDv ?_; with_reducible exact r2))
    refine bodyPost_ret (resultsR rfl (w.heap.size + 1) _ rfl (rowB_row r2 _) agDv) rfl ?_
    exact ⟨_, rfl, ⟨g, rfl, by omega, rowB_row_other hr _ (by omega)⟩, below_rowR bX _ (by omega)⟩
  · have q0 : (at' == 0) = false := by simpa using n0
    have q1 : (at' == 1) = false := by simpa using n1
    have q2 : (at' == 2) = false := by simpa using n2
    have e1 : (⟨c, l', k, f⟩ : Tm).write at' d = ⟨c, l', k, f⟩ := by unfold Tm.write; rw [if_neg n0, if_neg n1, if_neg n2]
    rw [e1]
    clear e1 n0 n1 n2
    go_enter Tryz.func62, Tryz.ntmps62
    go_wp2_with (first
      | (go_at_call 77; refine hload.mono ?_; rintro e w1 ⟨rfl, hb⟩; have bX := bW.trans (hb.mono bW.size); have r1 := rowB_below k1 hb (rowB_lt k1); have hs := hb.size; rw [sW] at hs; clear hb hload)
      | (go_at_call 119; refine (put_any _ _ _ _ _).mono ?_; rintro e w' ⟨rfl, rfl⟩)
      | (go_at_call 83; refine (low_any _ _ _).mono ?_; rintro e w' ⟨rfl, rfl⟩)
      | (go_at_call 80; refine (tmDev_any ⟨_, _, _, _⟩ _).mono ?_; rintro e w2 ⟨u, rfl, ⟨g, rfl, hg, hr⟩, hb⟩; have r2 := rowB_below (rowB_alloc r1 _) hb (rowB_lt (rowB_alloc r1 _)); dsimp only [Tm.ns, List.length] at hr; replace hg := Nat.le_trans (Nat.le_of_eq (World.size_alloc _ _).symm) hg; replace bX := (bX.alloc (by omega) _).trans (hb.mono (Nat.le_trans bX.size (by simp))))
      | (refine wpList_storeR rfl 27 _ _ rfl (w.heap.size + 1) rfl #[.slice (some ⟨g, 0, none⟩) 4 4, .slice none 0 0] rfl (dev2_one _ _ _ _ _ _) 27 #[.slice none 0 0, .slice none 0 0] rfl ?_ agDv ?_; with_reducible exact r2))
    refine bodyPost_ret (resultsR rfl (w.heap.size + 1) _ rfl (rowB_row r2 _) agDv) rfl ?_
    exact ⟨_, rfl, ⟨g, rfl, by omega, rowB_row_other hr _ (by omega)⟩, below_rowR bX _ (by omega)⟩

/-- A running timer some cycles later. -/
def Tm.after (s : Tm) (k : Int) : Tm :=
  if k ≤ s.c then ⟨s.c - k, s.l, s.k, s.f⟩ else if s.k / 2 % 2 = 1 then ⟨s.l - (k - s.c - 1) % (s.l + 1), s.l, s.k, 1⟩ else ⟨0, s.l, s.k - s.k % 2, 1⟩
theorem tm_andNot1 {k : Int} (h : 0 ≤ k ∧ k < 8) : bits .andNot .i64 k 1 = k - k % 2 := by
  obtain ⟨n, rfl⟩ : ∃ n : Fin 8, k = (n.val : Int) := ⟨⟨k.toNat, by omega⟩, by simp; omega⟩
  exact (by decide +kernel : ∀ n : Fin 8, bits .andNot .i64 (n.val : Int) 1 = (n.val : Int) - (n.val : Int) % 2) n
set_option maxHeartbeats 2000000 in
theorem tmAfter_any (s : Tm) (hs : s.fit) (j : Int) (hj : 1 ≤ j ∧ j ≤ 9223372036854775807) (w : World) :
    Calls Tryz.prog 79 #[.agg s.cs, .int .i64 j] w fun e w' => e = .returned (.agg (s.after j).cs) ∧ Below w.heap.size w w' := by
  have hn := tm_andNot1 hs.k
  have hc := hs.c
  have hl := hs.l
  have hk := hs.k
  rcases (by omega : j ≤ s.c ∨ (¬ j ≤ s.c ∧ s.k / 2 % 2 = 1) ∨ (¬ j ≤ s.c ∧ ¬ s.k / 2 % 2 = 1)) with h1 | ⟨h1, h2⟩ | ⟨h1, h2⟩
  · have e : s.after j = ⟨s.c - j, s.l, s.k, s.f⟩ := by unfold Tm.after; rw [if_pos h1]
    rw [e]
    obtain ⟨c, l, k, f⟩ := s
    dsimp only [Tm.cs] at *
    have hd : decide (j ≤ c) = true := decide_eq_true h1
    obtain ⟨_, q1, q2, _⟩ := boxes2 w (.cells #[.int .i64 (c - j), .int .i64 (l), .int .i64 (k), .int .i64 (f)] 82) (.cells #[.int .i64 (c - j), .int .i64 (l), .int .i64 (k), .int .i64 (f)] 82)
    clear e
    go_enter Tryz.func79, Tryz.ntmps79
    go_wp2_with fail
    exact bodyPost_ret (resultsR rfl (w.heap.size + 1) _ rfl (show rowB _ _ _ _ from q1) agTm) rfl ⟨rfl, q2⟩
  · have e : s.after j = ⟨s.l - (j - s.c - 1) % (s.l + 1), s.l, s.k, 1⟩ := by unfold Tm.after; rw [if_neg h1, if_pos h2]
    rw [e]
    have hh : ∀ w, Calls Tryz.prog 78 #[.agg (Tm.cs ⟨s.c, s.l, s.k, 1⟩), .int .i64 2] w fun e w' => e = .returned (.bool true) ∧ Below w.heap.size w w' := fun w => by
      have := tmHas_any ⟨s.c, s.l, s.k, 1⟩ ⟨hs.c, hs.l, hs.k, (by decide : (0 : Int) ≤ 1 ∧ (1 : Int) < 2)⟩ 2 (by decide) w
      rw [show (Tm.mk s.c s.l s.k 1).has 2 = true from decide_eq_true h2] at this
      exact this
    obtain ⟨c, l, k, f⟩ := s
    dsimp only [Tm.cs] at *
    have hd : decide (j ≤ c) = false := decide_eq_false h1
    obtain ⟨b0, b1, bW, sW⟩ := boxes2 w (.cells #[.int .i64 (c), .int .i64 (l), .int .i64 (k), .int .i64 (1)] 82) (.cells #[.int .i64 0, .int .i64 0, .int .i64 0, .int .i64 0] 82)
    have b0 : rowB _ _ _ _ := b0
    have b1 : rowB _ _ _ _ := b1
    have hr0 : 0 ≤ j - c - 1 := by omega
    have hm : (j - c - 1).tmod (l + 1) = (j - c - 1) % (l + 1) := Int.tmod_eq_emod_of_nonneg hr0
    have hm0 := Int.emod_nonneg (j - c - 1) (b := l + 1) (by omega)
    have hm1 := Int.emod_lt_of_pos (j - c - 1) (b := l + 1) (by omega)
    have hnz : ¬ (l + 1 = 0) := by omega
    have hwl : IntKind.i64.wrap (l + 1) = l + 1 := IntWalk.i64_in _ (by omega)
    have hwr : IntKind.i64.wrap (l - (j - c - 1) % (l + 1)) = l - (j - c - 1) % (l + 1) := IntWalk.i64_in _ (by omega)
    clear e h1 h2
    go_enter Tryz.func79, Tryz.ntmps79
    go_wp2_with (go_at_call 78; refine (hh _).mono ?_; rintro e w1 ⟨rfl, hb⟩; have x0 := rowB_below b0 hb (rowB_lt b0); have x1 := rowB_below b1 hb (rowB_lt b1); have bX := bW.trans (hb.mono bW.size); obtain ⟨u0, u1, u2, u3, v0, v1, v2, v3⟩ := dcells4 x0; obtain ⟨p0, p1, p2, p3, z0, z1, z2, z3⟩ := dcells4 x1)
    refine wp_region_mix (fun _ => True) [(0, 0), (1, 0), (2, 0), (3, 0), (4, 0), (5, 0), (6, 0), (7, 0), (8, 0), (9, 2)] (by kernel_rfl) (by kernel_rfl) (fun _ _ _ _ _ h => h) ?_
    simp only [List.map_cons, List.map_nil, opOf, List.getD_cons_zero, List.getD_cons_succ]
    change wpMix _ _ _ _ _ _ w1.drew
    replace x0 : rowB w1.drew _ _ _ := x0
    replace x1 : rowB w1.drew _ _ _ := x1
    replace bX := bX.drew
    iterate 9 (refine wpMix_still (fun K hK => ?_); go_simp; refine hK _ ?_; clear hK K)
    refine wpMix_call ?_
    go_wp2_with fail
    try refine ⟨fun h => (by cases h), ?_⟩
    refine wpMix_nil ?_
    have y0 := rowB_set x0 0 (.int .i64 (l - (j - c - 1) % (l + 1)))
    have y1 := rowB_other x1 ⟨w.heap.size, 0, none⟩ (.int .i64 (l - (j - c - 1) % (l + 1))) (by simp)
    have b2 := bX.setCell (p := ⟨w.heap.size, 0, none⟩) (by simp) (.int .i64 (l - (j - c - 1) % (l + 1)))
    replace y0 : rowB _ _ _ #[.int .i64 (l - (j - c - 1) % (l + 1)), .int .i64 (l), .int .i64 (k), .int .i64 (1)] := y0
    go_wp2_with (first
      | (refine wpList_loadR rfl 82 _ rfl w.heap.size rfl 82 #[.int .i64 (l - (j - c - 1) % (l + 1)), .int .i64 (l), .int .i64 (k), .int .i64 (1)] ?_ agTm ?_; with_reducible exact y0)
      | (refine wpList_storeR rfl 82 _ _ rfl (w.heap.size + 1) rfl #[.int .i64 (l - (j - c - 1) % (l + 1)), .int .i64 (l), .int .i64 (k), .int .i64 (1)] rfl (four_one _ _ _ _) 82 #[.int .i64 0, .int .i64 0, .int .i64 0, .int .i64 0] rfl ?_ agTm ?_; with_reducible exact y1))
    exact bodyPost_ret (resultsR rfl (w.heap.size + 1) _ rfl (show rowB _ _ 82 #[.int .i64 (l - (j - c - 1) % (l + 1)), .int .i64 (l), .int .i64 (k), .int .i64 (1)] from rowB_set (rowB_set (rowB_set (rowB_set y1 0 _) 1 _) 2 _) 3 _) agTm) rfl ⟨rfl, (((b2.setCell (p := ⟨w.heap.size + 1, 0, none⟩) (by simp) _).setCell (p := ⟨w.heap.size + 1, 1, none⟩) (by simp) _).setCell (p := ⟨w.heap.size + 1, 2, none⟩) (by simp) _).setCell (p := ⟨w.heap.size + 1, 3, none⟩) (by simp) _⟩
  · have e : s.after j = ⟨0, s.l, s.k - s.k % 2, 1⟩ := by unfold Tm.after; rw [if_neg h1, if_neg h2]
    rw [e]
    have hh : ∀ w, Calls Tryz.prog 78 #[.agg (Tm.cs ⟨s.c, s.l, s.k, 1⟩), .int .i64 2] w fun e w' => e = .returned (.bool false) ∧ Below w.heap.size w w' := fun w => by
      have := tmHas_any ⟨s.c, s.l, s.k, 1⟩ ⟨hs.c, hs.l, hs.k, (by decide : (0 : Int) ≤ 1 ∧ (1 : Int) < 2)⟩ 2 (by decide) w
      rw [show (Tm.mk s.c s.l s.k 1).has 2 = false from decide_eq_false h2] at this
      exact this
    obtain ⟨c, l, k, f⟩ := s
    dsimp only [Tm.cs] at *
    have hd : decide (j ≤ c) = false := decide_eq_false h1
    obtain ⟨b0, b1, bW, sW⟩ := boxes2 w (.cells #[.int .i64 (c), .int .i64 (l), .int .i64 (k), .int .i64 (1)] 82) (.cells #[.int .i64 0, .int .i64 0, .int .i64 0, .int .i64 0] 82)
    have b0 : rowB _ _ _ _ := b0
    have b1 : rowB _ _ _ _ := b1
    clear e h1 h2
    go_enter Tryz.func79, Tryz.ntmps79
    go_wp2_with (go_at_call 78; refine (hh _).mono ?_; rintro e w1 ⟨rfl, hb⟩; have x0 := rowB_below b0 hb (rowB_lt b0); have x1 := rowB_below b1 hb (rowB_lt b1); have bX := bW.trans (hb.mono bW.size); obtain ⟨u0, u1, u2, u3, v0, v1, v2, v3⟩ := dcells4 x0; obtain ⟨p0, p1, p2, p3, z0, z1, z2, z3⟩ := dcells4 x1)
    have y0 := rowB_set (rowB_set x0 0 (.int .i64 0)) 2 (.int .i64 (k - k % 2))
    have y1 := rowB_other (rowB_other x1 ⟨w.heap.size, 0, none⟩ (.int .i64 0) (by simp)) ⟨w.heap.size, 2, none⟩ (.int .i64 (k - k % 2)) (by simp)
    have b2 := (bX.setCell (p := ⟨w.heap.size, 0, none⟩) (by simp) (.int .i64 0)).setCell (p := ⟨w.heap.size, 2, none⟩) (by simp) (.int .i64 (k - k % 2))
    replace y0 : rowB _ _ _ #[.int .i64 (0), .int .i64 (l), .int .i64 (k - k % 2), .int .i64 (1)] := y0
    exact bodyPost_ret (resultsR rfl (w.heap.size + 1) _ rfl (show rowB _ _ 82 #[.int .i64 (0), .int .i64 (l), .int .i64 (k - k % 2), .int .i64 (1)] from rowB_set (rowB_set (rowB_set (rowB_set y1 0 _) 1 _) 2 _) 3 _) agTm) rfl ⟨rfl, (((b2.setCell (p := ⟨w.heap.size + 1, 0, none⟩) (by simp) _).setCell (p := ⟨w.heap.size + 1, 1, none⟩) (by simp) _).setCell (p := ⟨w.heap.size + 1, 2, none⟩) (by simp) _).setCell (p := ⟨w.heap.size + 1, 3, none⟩) (by simp) _⟩

def Tm.skip (s : Tm) (j : Int) : Tm := if 0 < j ∧ s.k % 2 = 1 then s.after j else s
set_option maxHeartbeats 2000000 in
theorem tmSkip_any (v vm : Value) (l : List Int) (j : Int) (hj : j ≤ 9223372036854775807) (w : World) (h : isArg w v l) :
    Calls Tryz.prog 30 #[.agg #[v, vm], .int .i64 j] w fun e w' => ∃ v, e = .returned v ∧ devO w.heap.size w' v ((Tm.of l).skip j).ns ∧ Below w.heap.size w w' := by
  have hfit := Tm.of_fit l
  obtain ⟨k0, k1, bW, sW⟩ := boxes2 w (.cells #[v, vm] 27) (.cells #[.slice none 0 0, .slice none 0 0] 27)
  have k0 : rowB _ _ _ _ := k0
  have k1 : rowB _ _ _ _ := k1
  have h2 := isArg_below h bW (Nat.le_refl _)
  have hload := tmLoad_any v vm l _ h2
  generalize Tm.of l = s at *
  rcases (by omega : j ≤ 0 ∨ (0 < j ∧ ¬ s.k % 2 = 1) ∨ (0 < j ∧ s.k % 2 = 1)) with h1 | ⟨h1, hk⟩ | ⟨h1, hk⟩
  · rw [show s.skip j = s from if_neg (by omega)]
    obtain ⟨c, l', k, f⟩ := s
    dsimp only [Tm.cs, Tm.ns] at *
    have hd : decide (0 < j) = false := decide_eq_false (by omega)
    go_enter Tryz.func30, Tryz.ntmps30
    go_wp2_with (first
      | (go_at_call 77; refine hload.mono ?_; rintro e w1 ⟨rfl, hb⟩; have bX := bW.trans (hb.mono bW.size); have r1 := rowB_below k1 hb (rowB_lt k1); have hs := hb.size; rw [sW] at hs; clear hb hload; replace r1 := rowB_alloc r1 (.cells #[.int .i64 c, .int .i64 l', .int .i64 k, .int .i64 f] 82); replace bX := bX.alloc (by omega) (.cells #[.int .i64 c, .int .i64 l', .int .i64 k, .int .i64 f] 82); have n1 := rowB_new w1 82 #[.int .i64 c, .int .i64 l', .int .i64 k, .int .i64 f])
      | (go_at_call 80; refine (tmDev_any ⟨_, _, _, _⟩ _).mono ?_; rintro e wd ⟨u, rfl, ⟨g, rfl, hg, hr⟩, hb⟩; have r9 := rowB_below r1 hb (rowB_lt r1); dsimp only [Tm.ns, List.length] at hr; have hg2 := Nat.lt_of_lt_of_le (rowB_lt r1) hg; replace bX := bX.trans (hb.mono bX.size))
      | (refine wpList_storeR rfl 27 _ _ rfl (w.heap.size + 1) rfl #[.slice (some ⟨g, 0, none⟩) 4 4, .slice none 0 0] rfl (dev2_one _ _ _ _ _ _) 27 #[.slice none 0 0, .slice none 0 0] rfl ?_ agDv ?_; with_reducible exact r9))
    refine bodyPost_ret (resultsR rfl (w.heap.size + 1) _ rfl (rowB_row r9 _) agDv) rfl ?_
    exact ⟨_, rfl, ⟨g, rfl, by omega, rowB_row_other hr _ (by omega)⟩, below_rowR bX _ (by omega)⟩
  · rw [show s.skip j = s from if_neg (by omega)]
    have hh : ∀ w, Calls Tryz.prog 78 #[.agg s.cs, .int .i64 1] w fun e w' => e = .returned (.bool false) ∧ Below w.heap.size w w' := fun w => by
      have := tmHas_any s hfit 1 (by decide) w
      rw [show s.has 1 = false from by unfold Tm.has; rw [Int.ediv_one]; exact decide_eq_false hk] at this
      exact this
    obtain ⟨c, l', k, f⟩ := s
    dsimp only [Tm.cs, Tm.ns] at *
    have hd : decide (0 < j) = true := decide_eq_true h1
    go_enter Tryz.func30, Tryz.ntmps30
    go_wp2_with (first
      | (go_at_call 77; refine hload.mono ?_; rintro e w1 ⟨rfl, hb⟩; have bX := bW.trans (hb.mono bW.size); have r1 := rowB_below k1 hb (rowB_lt k1); have hs := hb.size; rw [sW] at hs; clear hb hload; replace r1 := rowB_alloc r1 (.cells #[.int .i64 c, .int .i64 l', .int .i64 k, .int .i64 f] 82); replace bX := bX.alloc (by omega) (.cells #[.int .i64 c, .int .i64 l', .int .i64 k, .int .i64 f] 82); have n1 := rowB_new w1 82 #[.int .i64 c, .int .i64 l', .int .i64 k, .int .i64 f])
      | (go_at_call 78; refine (hh _).mono ?_; rintro e w2 ⟨rfl, hb⟩; have r2 := rowB_below r1 hb (rowB_lt r1); have n2 := rowB_below n1 hb (rowB_lt n1); obtain ⟨q0, q1, q2, q3, y0, y1, y2, y3⟩ := dcells4 n2; replace bX := bX.trans (hb.mono bX.size); clear hb)
      | (go_at_call 80; refine (tmDev_any ⟨_, _, _, _⟩ _).mono ?_; rintro e wd ⟨u, rfl, ⟨g, rfl, hg, hr⟩, hb⟩; have r9 := rowB_below r2 hb (rowB_lt r2); dsimp only [Tm.ns, List.length] at hr; have hg2 := Nat.lt_of_lt_of_le (rowB_lt r2) hg; replace bX := bX.trans (hb.mono bX.size))
      | (refine wpList_storeR rfl 27 _ _ rfl (w.heap.size + 1) rfl #[.slice (some ⟨g, 0, none⟩) 4 4, .slice none 0 0] rfl (dev2_one _ _ _ _ _ _) 27 #[.slice none 0 0, .slice none 0 0] rfl ?_ agDv ?_; with_reducible exact r9))
    refine bodyPost_ret (resultsR rfl (w.heap.size + 1) _ rfl (rowB_row r9 _) agDv) rfl ?_
    exact ⟨_, rfl, ⟨g, rfl, by omega, rowB_row_other hr _ (by omega)⟩, below_rowR bX _ (by omega)⟩
  · rw [show s.skip j = s.after j from if_pos ⟨h1, hk⟩]
    have hh : ∀ w, Calls Tryz.prog 78 #[.agg s.cs, .int .i64 1] w fun e w' => e = .returned (.bool true) ∧ Below w.heap.size w w' := fun w => by
      have := tmHas_any s hfit 1 (by decide) w
      rw [show s.has 1 = true from by unfold Tm.has; rw [Int.ediv_one]; exact decide_eq_true hk] at this
      exact this
    have hA := fun w => tmAfter_any s hfit j (by omega) w
    generalize s.after j = sa at *
    obtain ⟨c, l', k, f⟩ := s
    obtain ⟨c2, l2, k2, f2⟩ := sa
    dsimp only [Tm.cs, Tm.ns] at *
    have hd : decide (0 < j) = true := decide_eq_true h1
    go_enter Tryz.func30, Tryz.ntmps30
    go_wp2_with (first
      | (go_at_call 77; refine hload.mono ?_; rintro e w1 ⟨rfl, hb⟩; have bX := bW.trans (hb.mono bW.size); have r1 := rowB_below k1 hb (rowB_lt k1); have hs := hb.size; rw [sW] at hs; clear hb hload; replace r1 := rowB_alloc r1 (.cells #[.int .i64 c, .int .i64 l', .int .i64 k, .int .i64 f] 82); replace bX := bX.alloc (by omega) (.cells #[.int .i64 c, .int .i64 l', .int .i64 k, .int .i64 f] 82); have n1 := rowB_new w1 82 #[.int .i64 c, .int .i64 l', .int .i64 k, .int .i64 f])
      | (go_at_call 78; refine (hh _).mono ?_; rintro e w2 ⟨rfl, hb⟩; have r2 := rowB_below r1 hb (rowB_lt r1); have n2 := rowB_below n1 hb (rowB_lt n1); obtain ⟨q0, q1, q2, q3, y0, y1, y2, y3⟩ := dcells4 n2; replace bX := bX.trans (hb.mono bX.size); clear hb)
      | (go_at_call 79; refine (hA _).mono ?_; rintro e w3 ⟨rfl, hb⟩; have r3 := rowB_below r2 hb (rowB_lt r2); have n3 := rowB_below n2 hb (rowB_lt n2); replace bX := bX.trans (hb.mono bX.size); clear hb; have r4 := rowB_row_other r3 #[.int .i64 c2, .int .i64 l2, .int .i64 k2, .int .i64 f2] (show w1.heap.size ≠ w.heap.size + 1 by omega); have n4 := rowB_row n3 #[.int .i64 c2, .int .i64 l2, .int .i64 k2, .int .i64 f2]; have bY := below_rowR bX #[.int .i64 c2, .int .i64 l2, .int .i64 k2, .int .i64 f2] (show w.heap.size ≤ w1.heap.size by omega))
      | (refine wpList_storeR rfl 82 _ _ rfl w1.heap.size rfl #[.int .i64 c2, .int .i64 l2, .int .i64 k2, .int .i64 f2] rfl (four_one _ _ _ _) 82 #[.int .i64 c, .int .i64 l', .int .i64 k, .int .i64 f] rfl ?_ agTm ?_; with_reducible exact n3)
      | (refine wpList_loadR rfl 82 _ rfl w1.heap.size rfl 82 #[.int .i64 c2, .int .i64 l2, .int .i64 k2, .int .i64 f2] ?_ agTm ?_; with_reducible exact n4)
      | (go_at_call 80; refine (tmDev_any ⟨_, _, _, _⟩ _).mono ?_; rintro e wd ⟨u, rfl, ⟨g, rfl, hg, hr⟩, hb⟩; have r9 := rowB_below r4 hb (rowB_lt r4); dsimp only [Tm.ns, List.length] at hr; have hg2 := Nat.lt_of_lt_of_le (rowB_lt r4) hg; replace bX := bY.trans (hb.mono bY.size))
      | (refine wpList_storeR rfl 27 _ _ rfl (w.heap.size + 1) rfl #[.slice (some ⟨g, 0, none⟩) 4 4, .slice none 0 0] rfl (dev2_one _ _ _ _ _ _) 27 #[.slice none 0 0, .slice none 0 0] rfl ?_ agDv ?_; with_reducible exact r9))
    refine bodyPost_ret (resultsR rfl (w.heap.size + 1) _ rfl (rowB_row r9 _) agDv) rfl ?_
    exact ⟨_, rfl, ⟨g, rfl, by omega, rowB_row_other hr _ (by omega)⟩, below_rowR bX _ (by omega)⟩
def Tm.next (s : Tm) : Int := if s.k % 2 = 1 then s.c else 100000
theorem tmNew_any (w : World) :
    Calls Tryz.prog 68 #[] w fun e w' => ∃ v, e = .returned v ∧ devO w.heap.size w' v [0, 0, 0, 0] ∧ Below w.heap.size w w' := by
  obtain ⟨k1, bW, sW⟩ := boxes1 w (.cells #[.slice none 0 0, .slice none 0 0] 27)
  have k1 : rowB _ _ _ _ := k1
  go_enter Tryz.func68, Tryz.ntmps68
  go_wp2_with (first
    | (go_at_call 80; refine (tmDev_any ⟨_, _, _, _⟩ _).mono ?_; rintro e wd ⟨u, rfl, ⟨g, rfl, hg, hr⟩, hb⟩; have r9 := rowB_below k1 hb (rowB_lt k1); dsimp only [Tm.ns, List.length] at hr; have hg2 := Nat.lt_of_lt_of_le (rowB_lt k1) hg; replace bX := bW.trans (hb.mono bW.size))
    | (refine wpList_storeR rfl 27 _ _ rfl w.heap.size rfl #[.slice (some ⟨g, 0, none⟩) 4 4, .slice none 0 0] rfl (dev2_one _ _ _ _ _ _) 27 #[.slice none 0 0, .slice none 0 0] rfl ?_ agDv ?_; with_reducible exact r9))
  refine bodyPost_ret (resultsR rfl w.heap.size _ rfl (rowB_row r9 _) agDv) rfl ?_
  exact ⟨_, rfl, ⟨g, rfl, by omega, rowB_row_other hr _ (by omega)⟩, below_rowR bX _ (by omega)⟩
end Go.Proofs.YtakaebjojgeehaaGreat
