/- A part of the proof of ChipBanks: PortC. -/
import Derived.Test.YtakaebjojgeehaaChipBanksK01
import Derived.Test.YtakaebjojgeehaaChipBanksK02
import Derived.Test.YtakaebjojgeehaaChipBanksK03
import Derived.Test.YtakaebjojgeehaaChipBanksK04
import Derived.Test.YtakaebjojgeehaaChipBanksK05
import Derived.Test.YtakaebjojgeehaaChipBanksK07
import Derived.Test.YtakaebjojgeehaaChipBanksK08
import Derived.Test.YtakaebjojgeehaaChipBanksK09
import Derived.Below
import Derived.BigQuiet
import Derived.ChangeMaps5
import Derived.Deep.DeepCutAuto
import Derived.Deep.Draws
import Derived.Deep.MidRow
import Derived.Deep.OwnRows
import Derived.Deep.QuietTactic
import Derived.Deep.RegionHeld3
import Derived.Deep.RegionWith
import Derived.Deep.Slices
import Derived.Deep.WholeRow
import Derived.Lib.Hide
import Derived.Lib.SmallJoins
import Derived.OpenShut
import Derived.OrdersHeld
import Derived.OwnWalk
import Derived.RowKit3
import Derived.StillTactics
import Derived.StillTail
import Derived.StillTailTactics
import Derived.Test.YtakaebjojgeehaaChecked
import Derived.WalkKit
namespace Go.Proofs.Ytakaebjojgeehaa
open Go.RowKit
set_option maxRecDepth 100000
theorem three_one (a b c : Int) : (#[.int .i64 a, .int .i64 b, .int .i64 c] : Array Value).all (·.oneCell') = true := by simp [Value.oneCell']
theorem agPt : isAg Try.prog 63 3 := ⟨⟨_, Try.underlying63, rfl⟩, by kernel_rfl⟩
theorem dcells3 {w : World} {g : Nat} {t : TypeId} {a b c : Value} (h : rowB w g t #[a, b, c]) : w.cell? ⟨g, 0, none⟩ = some a ∧ w.cell? ⟨g, 1, none⟩ = some b ∧ w.cell? ⟨g, 2, none⟩ = some c ∧ w.frozen? ⟨g, 0, none⟩ = false ∧ w.frozen? ⟨g, 1, none⟩ = false ∧ w.frozen? ⟨g, 2, none⟩ = false :=
  ⟨rowB_cell h 0 rfl, rowB_cell h 1 rfl, rowB_cell h 2 rfl, rowB_free h 0, rowB_free h 1, rowB_free h 2⟩

theorem ptLoad_any (v vm : Value) (l : List Int) (w : World) (h : isArg w v l) :
    Calls Try.prog 68 #[.agg #[v, vm]] w fun e w' => e = .returned (.agg (Pt.of l).cs) ∧ Below w.heap.size w w' := by
  obtain ⟨x0, hx0⟩ : ∃ x, lo (l.getD 0 0) 8 = x := ⟨_, rfl⟩
  obtain ⟨x1, hx1⟩ : ∃ x, lo (l.getD 1 0) 8 = x := ⟨_, rfl⟩
  obtain ⟨x2, hx2⟩ : ∃ x, lo (l.getD 2 0) 8 = x := ⟨_, rfl⟩
  have hT : (Pt.of l).cs = #[.int .i64 x0, .int .i64 x1, .int .i64 x2] := by subst hx0 hx1 hx2; rfl
  rw [hT]
  clear hT
  obtain ⟨k0, k1, bW, sW⟩ := boxes2 w (.cells #[v, vm] 34) (.cells #[.int .i64 0, .int .i64 0, .int .i64 0] 63)
  have k0 : rowB _ _ _ _ := k0
  have k1 : rowB _ _ _ _ := k1
  go_enter Try.func68, Try.ntmps68
  go_upto_region 1 with (fail)
  generalize (w.alloc (.cells #[v, vm] 34)).alloc (.cells #[.int .i64 0, .int .i64 0, .int .i64 0] 63) = w1 at *
  refine wp_region_mix (fun w' => rowB w' w.heap.size 34 #[v, vm]) [(0, 0), (2, 1), (4, 1), (1, 3), (3, 3), (5, 2), (6, 2), (7, 2)] (by kernel_rfl) (by kernel_rfl) (fun _ _ _ _ _ h => h) ?_
  simp only [List.map_cons, List.map_nil, opOf, List.getD_cons_zero, List.getD_cons_succ]
  change wpMix _ _ _ _ _ _ w1.drew
  have hs : w.heap.size + 2 = w1.drew.heap.size := sW.symm
  replace k0 : rowB w1.drew _ _ _ := k0
  replace k1 : rowB w1.drew _ _ _ := k1
  replace bW := bW.drew
  clear sW
  generalize w1.drew = w2 at *
  have h2 := isArg_below h bW (Nat.le_refl _)
  have c0 : w2.cell? ⟨w.heap.size, 0, none⟩ = some v := rowB_cell k0 0 rfl
  have c1 : w2.cell? ⟨w.heap.size, 1, none⟩ = some vm := rowB_cell k0 1 rfl
  (refine wpMix_still (fun K hK => ?_); go_simp; refine hK _ ?_; clear hK K)
  refine wpMix_held (.agg #[v, vm]) rfl k0 (fun w' hw' => exec_rowR 34 _ rfl w.heap.size rfl 34 #[v, vm] hw' agDv) ?_
  simp only [Act.put, List.setIfInBounds_toArray, List.set_cons_zero, List.set_cons_succ]
  refine wpMix_held (.agg #[v, vm]) rfl k0 (fun w' hw' => exec_rowR 34 _ rfl w.heap.size rfl 34 #[v, vm] hw' agDv) ?_
  simp only [Act.put, List.setIfInBounds_toArray, List.set_cons_zero, List.set_cons_succ]
  refine wpMix_call ?_
  go_wp2_with (go_at_call 84; refine (devNumber_any _ _ l 0 8 _ h2).mono ?_; rintro e w3 ⟨rfl, hb⟩; rw [show wd 8 = 8 from rfl, hx0])
  replace k0 := rowB_below k0 hb (rowB_lt k0)
  replace k1 := rowB_below k1 hb (rowB_lt k1)
  replace h2 := isArg_below h2 hb (Nat.le_refl _)
  replace bW := bW.trans (hb.mono bW.size)
  first | refine ⟨fun _ => k0, ?_⟩ | refine ⟨k0, ?_⟩
  clear hb
  refine wpMix_call ?_
  go_wp2_with (go_at_call 84; refine (devNumber_any _ _ l 1 8 _ h2).mono ?_; rintro e w4 ⟨rfl, hb⟩; rw [show wd 8 = 8 from rfl, hx1])
  replace k0 := rowB_below k0 hb (rowB_lt k0)
  replace k1 := rowB_below k1 hb (rowB_lt k1)
  replace h2 := isArg_below h2 hb (Nat.le_refl _)
  replace bW := bW.trans (hb.mono bW.size)
  first | refine ⟨fun _ => k0, ?_⟩ | refine ⟨k0, ?_⟩
  clear hb
  refine wpMix_call ?_
  go_wp2_with (go_at_call 84; refine (devNumber_any _ _ l 2 8 _ h2).mono ?_; rintro e w5 ⟨rfl, hb⟩; rw [show wd 8 = 8 from rfl, hx2])
  replace k0 := rowB_below k0 hb (rowB_lt k0)
  replace k1 := rowB_below k1 hb (rowB_lt k1)
  replace h2 := isArg_below h2 hb (Nat.le_refl _)
  replace bW := bW.trans (hb.mono bW.size)
  try refine ⟨fun h => (by cases h), ?_⟩
  clear hb
  refine wpMix_call ?_
  go_wp2_with fail
  try refine ⟨fun h => (by cases h), ?_⟩
  refine wpMix_call ?_
  go_wp2_with (refine wpList_storeR rfl 63 _ _ rfl (w.heap.size + 1) rfl #[.int .i64 x0, .int .i64 x1, .int .i64 x2] rfl (three_one _ _ _) 63 #[.int .i64 0, .int .i64 0, .int .i64 0] rfl ?_ agPt ?_; with_reducible exact k1)
  try refine ⟨fun h => (by cases h), ?_⟩
  refine wpMix_nil ?_
  go_wp2_with fail
  exact bodyPost_ret (resultsR rfl (w.heap.size + 1) _ rfl (rowB_row k1 _) agPt) rfl ⟨rfl, below_rowR bW _ (by omega)⟩
theorem ptDriven_any (s : Pt) (w : World) :
    Calls Try.prog 76 #[.agg s.cs] w fun e w' => e = .returned (.int .i64 s.drv) ∧ Below w.heap.size w w' := by
  have b0 := (boxes1 w (.cells s.cs 63)).2.1
  unfold Pt.drv
  obtain ⟨n, l, m⟩ := s
  dsimp only [Pt.cs] at *
  go_enter Try.func76, Try.ntmps76
  go_wp2_with fail
  go_ret
  exact ⟨rfl, b0⟩
theorem ptDev_any (s : Pt) (w : World) :
    Calls Try.prog 57 #[.agg s.cs] w fun e w' => ∃ v, e = .returned v ∧ devO w.heap.size w' v s.ns ∧ Below w.heap.size w w' := by
  obtain ⟨n, l, m⟩ := s
  dsimp only [Pt.cs, Pt.ns]
  obtain ⟨k0, k1, bW, sW⟩ := boxes2 w (.cells #[.int .i64 n, .int .i64 l, .int .i64 m] 63) (.cells #[.slice none 0 0, .slice none 0 0] 34)
  have k0 : rowB _ _ _ _ := k0
  have k1 : rowB _ _ _ _ := k1
  go_enter Try.func57, Try.ntmps57
  go_upto_region 1 with (fail)
  generalize (w.alloc (.cells #[.int .i64 n, .int .i64 l, .int .i64 m] 63)).alloc (.cells #[.slice none 0 0, .slice none 0 0] 34) = w1 at *
  obtain ⟨c0, c1, c2, _⟩ := dcells3 k0
  have hlt : w.heap.size + 1 < w1.heap.size := by omega
  clear sW
  have n1 := rowB_new w1 3 #[.int .i64 n, .int .i64 l, .int .i64 m]
  have k2 := rowB_alloc k1 (.cells #[.int .i64 n, .int .i64 l, .int .i64 m] 3)
  have b2 := bW.alloc (by omega) (.cells #[.int .i64 n, .int .i64 l, .int .i64 m] 3)
  go_wp2_with (refine wpList_storeR rfl 34 _ _ rfl (w.heap.size + 1) rfl #[.slice (some ⟨w1.heap.size, 0, none⟩) 3 3, .slice none 0 0] rfl (dev2_one _ _ _ _ _ _) 34 #[.slice none 0 0, .slice none 0 0] rfl ?_ agDv ?_; with_reducible exact k2)
  refine bodyPost_ret (resultsR rfl (w.heap.size + 1) _ rfl (rowB_row k2 _) agDv) rfl ?_
  exact ⟨_, rfl, ⟨w1.heap.size, rfl, by omega, rowB_row_other n1 _ (by omega)⟩, below_rowR b2 _ (by omega)⟩
theorem ptNew_any (w : World) : Calls Try.prog 29 #[] w fun e w' => ∃ v, e = .returned v ∧ devO w.heap.size w' v [255, 0, 0] ∧ Below w.heap.size w w' := by
  obtain ⟨k0, bW, sW⟩ := boxes1 w (.cells #[.slice none 0 0, .slice none 0 0] 34)
  have k0 : rowB _ _ _ _ := k0
  have e8 : lo (-1) (wd 8) = 255 := by decide
  go_enter Try.func29, Try.ntmps29
  go_wp2_with (first
    | (go_at_call 16; refine (low_any _ _ _).mono ?_; rintro e w' ⟨rfl, rfl⟩; rw [e8])
    | (go_at_call 57; refine (ptDev_any ⟨_, _, _⟩ _).mono ?_; rintro e w2 ⟨u, rfl, ⟨g, rfl, hg, hr⟩, hb⟩; have r1 := rowB_below k0 hb (rowB_lt k0); dsimp only [Pt.ns, List.length] at hr; rw [sW] at hg; have bX := bW.trans (hb.mono bW.size))
    | (refine wpList_storeR rfl 34 _ _ rfl w.heap.size rfl #[.slice (some ⟨g, 0, none⟩) 3 3, .slice none 0 0] rfl (dev2_one _ _ _ _ _ _) 34 #[.slice none 0 0, .slice none 0 0] rfl ?_ agDv ?_; with_reducible exact r1))
  refine bodyPost_ret (resultsR rfl w.heap.size _ rfl (rowB_row r1 _) agDv) rfl ?_
  exact ⟨_, rfl, ⟨g, rfl, by omega, rowB_row_other hr _ (by omega)⟩, below_rowR bX _ (by omega)⟩
theorem ptWrite_any (v vm : Value) (l : List Int) (a d : Int) (w : World) (h : isArg w v l) :
    Calls Try.prog 37 #[.agg #[v, vm], .int .i64 a, .int .i64 d] w fun e w' => ∃ v, e = .returned v ∧ devO w.heap.size w' v ((Pt.of l).write a d).ns ∧ Below w.heap.size w w' := by
  obtain ⟨k0, k1, bW, sW⟩ := boxes2 w (.cells #[v, vm] 34) (.cells #[.slice none 0 0, .slice none 0 0] 34)
  have k0 : rowB _ _ _ _ := k0
  have k1 : rowB _ _ _ _ := k1
  have h2 := isArg_below h bW (Nat.le_refl _)
  have hload := ptLoad_any v vm l _ h2
  generalize Pt.of l = s at *
  obtain ⟨n, l', m⟩ := s
  dsimp only [Pt.cs] at *
  have e8 : lo d (wd 8) = lo d 8 := rfl
  obtain ⟨D, hD⟩ : ∃ D, lo d 8 = D := ⟨_, rfl⟩
  rw [hD] at e8
  rcases (by omega : a = 0 ∨ a = 1 ∨ (a ≠ 0 ∧ a ≠ 1)) with rfl | rfl | ⟨n0, n1⟩
  · have e : (⟨n, l', m⟩ : Pt).write 0 d = ⟨n, D, m⟩ := by unfold Pt.write; rw [if_pos rfl, hD]
    rw [e]
    clear e hD
    go_enter Try.func37, Try.ntmps37
    go_wp2_with (first
      | (go_at_call 68; refine hload.mono ?_; rintro e w1 ⟨rfl, hb⟩; have bX := bW.trans (hb.mono bW.size); have r1 := rowB_below k1 hb (rowB_lt k1); have hs := hb.size; rw [sW] at hs; clear hb hload)
      | (go_at_call 16; refine (low_any _ _ _).mono ?_; rintro e w' ⟨rfl, rfl⟩; rw [e8])
      | (go_at_call 57; refine (ptDev_any ⟨_, _, _⟩ _).mono ?_; rintro e w2 ⟨u, rfl, ⟨g, rfl, hg, hr⟩, hb⟩; have r2 := rowB_below (rowB_alloc r1 _) hb (rowB_lt (rowB_alloc r1 _)); dsimp only [Pt.ns, List.length] at hr; replace hg := Nat.le_trans (Nat.le_of_eq (World.size_alloc _ _).symm) hg; replace bX := (bX.alloc (by omega) _).trans (hb.mono (Nat.le_trans bX.size (by simp))))
      | (refine wpList_storeR rfl 34 _ _ rfl (w.heap.size + 1) rfl #[.slice (some ⟨g, 0, none⟩) 3 3, .slice none 0 0] rfl (dev2_one _ _ _ _ _ _) 34 #[.slice none 0 0, .slice none 0 0] rfl ?_ agDv ?_; with_reducible exact r2))
    refine bodyPost_ret (resultsR rfl (w.heap.size + 1) _ rfl (rowB_row r2 _) agDv) rfl ?_
    exact ⟨_, rfl, ⟨g, rfl, by omega, rowB_row_other hr _ (by omega)⟩, below_rowR bX _ (by omega)⟩
  · have e : (⟨n, l', m⟩ : Pt).write 1 d = ⟨n, l', D⟩ := by unfold Pt.write; rw [if_neg (by decide), if_pos rfl, hD]
    rw [e]
    clear e hD
    go_enter Try.func37, Try.ntmps37
    go_wp2_with (first
      | (go_at_call 68; refine hload.mono ?_; rintro e w1 ⟨rfl, hb⟩; have bX := bW.trans (hb.mono bW.size); have r1 := rowB_below k1 hb (rowB_lt k1); have hs := hb.size; rw [sW] at hs; clear hb hload)
      | (go_at_call 16; refine (low_any _ _ _).mono ?_; rintro e w' ⟨rfl, rfl⟩; rw [e8])
      | (go_at_call 57; refine (ptDev_any ⟨_, _, _⟩ _).mono ?_; rintro e w2 ⟨u, rfl, ⟨g, rfl, hg, hr⟩, hb⟩; have r2 := rowB_below (rowB_alloc r1 _) hb (rowB_lt (rowB_alloc r1 _)); dsimp only [Pt.ns, List.length] at hr; replace hg := Nat.le_trans (Nat.le_of_eq (World.size_alloc _ _).symm) hg; replace bX := (bX.alloc (by omega) _).trans (hb.mono (Nat.le_trans bX.size (by simp))))
      | (refine wpList_storeR rfl 34 _ _ rfl (w.heap.size + 1) rfl #[.slice (some ⟨g, 0, none⟩) 3 3, .slice none 0 0] rfl (dev2_one _ _ _ _ _ _) 34 #[.slice none 0 0, .slice none 0 0] rfl ?_ agDv ?_; with_reducible exact r2))
    refine bodyPost_ret (resultsR rfl (w.heap.size + 1) _ rfl (rowB_row r2 _) agDv) rfl ?_
    exact ⟨_, rfl, ⟨g, rfl, by omega, rowB_row_other hr _ (by omega)⟩, below_rowR bX _ (by omega)⟩
  · have e : (⟨n, l', m⟩ : Pt).write a d = ⟨n, l', m⟩ := by unfold Pt.write; rw [if_neg n0, if_neg n1]
    rw [e]
    clear e hD
    have q0 : (a == 0) = false := by simpa using n0
    have q1 : (a == 1) = false := by simpa using n1
    clear n0 n1
    go_enter Try.func37, Try.ntmps37
    go_wp2_with (first
      | (go_at_call 68; refine hload.mono ?_; rintro e w1 ⟨rfl, hb⟩; have bX := bW.trans (hb.mono bW.size); have r1 := rowB_below k1 hb (rowB_lt k1); have hs := hb.size; rw [sW] at hs; clear hb hload)
      | (go_at_call 16; refine (low_any _ _ _).mono ?_; rintro e w' ⟨rfl, rfl⟩; rw [e8])
      | (go_at_call 57; refine (ptDev_any ⟨_, _, _⟩ _).mono ?_; rintro e w2 ⟨u, rfl, ⟨g, rfl, hg, hr⟩, hb⟩; have r2 := rowB_below (rowB_alloc r1 _) hb (rowB_lt (rowB_alloc r1 _)); dsimp only [Pt.ns, List.length] at hr; replace hg := Nat.le_trans (Nat.le_of_eq (World.size_alloc _ _).symm) hg; replace bX := (bX.alloc (by omega) _).trans (hb.mono (Nat.le_trans bX.size (by simp))))
      | (refine wpList_storeR rfl 34 _ _ rfl (w.heap.size + 1) rfl #[.slice (some ⟨g, 0, none⟩) 3 3, .slice none 0 0] rfl (dev2_one _ _ _ _ _ _) 34 #[.slice none 0 0, .slice none 0 0] rfl ?_ agDv ?_; with_reducible exact r2))
    refine bodyPost_ret (resultsR rfl (w.heap.size + 1) _ rfl (rowB_row r2 _) agDv) rfl ?_
    exact ⟨_, rfl, ⟨g, rfl, by omega, rowB_row_other hr _ (by omega)⟩, below_rowR bX _ (by omega)⟩
theorem ptRead_any (v vm : Value) (l : List Int) (a : Int) (w : World) (h : isArg w v l) :
    Calls Try.prog 44 #[.agg #[v, vm], .int .i64 a] w fun e w' => ∃ v, e = .returned (.tuple #[v, .int .i64 ((Pt.of l).reg a)]) ∧ devO w.heap.size w' v (Pt.of l).ns ∧ Below w.heap.size w w' := by
  obtain ⟨k0, k1, bW, sW⟩ := boxes2 w (.cells #[v, vm] 34) (.cells #[.slice none 0 0, .slice none 0 0] 34)
  have k0 : rowB _ _ _ _ := k0
  have k1 : rowB _ _ _ _ := k1
  have h2 := isArg_below h bW (Nat.le_refl _)
  have hload := ptLoad_any v vm l _ h2
  have hdr := ptDriven_any (Pt.of l)
  generalize Pt.of l = s at *
  rcases (by omega : a = 0 ∨ a = 1 ∨ (a ≠ 0 ∧ a ≠ 1)) with rfl | rfl | ⟨n0, n1⟩
  · have e : s.reg 0 = s.both := if_pos rfl
    rw [e]
    clear e
    obtain ⟨R, hR⟩ : ∃ R, s.both = R := ⟨_, rfl⟩
    rw [hR]
    unfold Pt.both at hR
    obtain ⟨E, hE⟩ : ∃ E, s.drv = E := ⟨_, rfl⟩
    rw [hE] at hR
    simp only [hE] at hdr
    clear hE
    obtain ⟨n, l', m⟩ := s
    dsimp only [Pt.cs] at *
    go_enter Try.func44, Try.ntmps44
    go_upto_region 5 with (first
      | (go_at_call 68; refine hload.mono ?_; rintro e w1 ⟨rfl, hb⟩; have bX := bW.trans (hb.mono bW.size); have r1 := rowB_below k1 hb (rowB_lt k1); have hs := hb.size; rw [sW] at hs; clear hb hload))
    have nP := rowB_new w1 63 #[.int .i64 n, .int .i64 l', .int .i64 m]
    replace r1 := rowB_alloc r1 (.cells #[.int .i64 n, .int .i64 l', .int .i64 m] 63)
    replace bX := bX.alloc (by omega) (.cells #[.int .i64 n, .int .i64 l', .int .i64 m] 63)
    have hlt := rowB_lt nP
    obtain ⟨y, hy⟩ : ∃ y, w1.heap.size = y := ⟨_, rfl⟩
    rw [hy] at nP hlt hs
    have HY := Lib.hid hy
    change Code.wp _ _ _ _ (w1.alloc (.cells #[.int .i64 n, .int .i64 l', .int .i64 m] 63))
    rw [hy]
    clear hy HY
    generalize w1.alloc (.cells #[.int .i64 n, .int .i64 l', .int .i64 m] 63) = w2 at *
    have hS : rowB w2.drew y 63 #[.int .i64 n, .int .i64 l', .int .i64 m] := nP
    replace r1 : rowB w2.drew _ _ _ := r1
    replace bX := bX.drew
    have hlt : y < w2.drew.heap.size := hlt
    clear nP
    refine wp_region_mix (fun w' => rowB w' y 63 #[.int .i64 n, .int .i64 l', .int .i64 m]) [(0, 0), (2, 1), (3, 1), (4, 1), (5, 1), (6, 1), (1, 3), (7, 0), (8, 0)] (by kernel_rfl) (by kernel_rfl) (fun _ _ _ _ _ h => h) ?_
    simp only [List.map_cons, List.map_nil, opOf, List.getD_cons_zero, List.getD_cons_succ]
    change wpMix _ _ _ _ _ _ w2.drew
    obtain ⟨c0, c1, c2, _⟩ := dcells3 hS
    generalize w2.drew = w3 at *
    (refine wpMix_still (fun K hK => ?_); go_simp; refine hK _ ?_; clear hK K)
    refine wpMix_held (.pointer (some ⟨y, 0, none⟩)) rfl hS (fun w' hw' => by go_simp) ?_
    simp only [Act.put, List.setIfInBounds_toArray, List.set_cons_zero, List.set_cons_succ]
    refine wpMix_held (.int .i64 n) rfl hS (fun w' hw' => by have c := rowB_cell hw' 0 (v := .int .i64 n) rfl; go_simp) ?_
    simp only [Act.put, List.setIfInBounds_toArray, List.set_cons_zero, List.set_cons_succ]
    refine wpMix_held (.pointer (some ⟨y, 2, none⟩)) rfl hS (fun w' hw' => by go_simp) ?_
    simp only [Act.put, List.setIfInBounds_toArray, List.set_cons_zero, List.set_cons_succ]
    refine wpMix_held (.int .i64 m) rfl hS (fun w' hw' => by have c := rowB_cell hw' 2 (v := .int .i64 m) rfl; go_simp) ?_
    simp only [Act.put, List.setIfInBounds_toArray, List.set_cons_zero, List.set_cons_succ]
    refine wpMix_held (.int .i64 (bits .andNot .i64 n m)) rfl hS (fun w' hw' => by go_simp) ?_
    simp only [Act.put, List.setIfInBounds_toArray, List.set_cons_zero, List.set_cons_succ]
    refine wpMix_call ?_
    go_wp2_with (go_at_call 76; refine (hdr _).mono ?_; rintro e w4 ⟨rfl, hb⟩; replace hS := rowB_below hS hb (rowB_lt hS); replace r1 := rowB_below r1 hb (rowB_lt r1); replace bX := bX.trans (hb.mono bX.size); replace hlt := Nat.lt_of_lt_of_le hlt hb.size; clear hb c0 c1 c2)
    first | refine ⟨fun _ => hS, ?_⟩ | refine ⟨hS, ?_⟩ | refine And.intro (fun _ => hS) ?_
    (refine wpMix_still (fun K hK => ?_); go_simp; refine hK _ ?_; clear hK K)
    (refine wpMix_still (fun K hK => ?_); go_simp; refine hK _ ?_; clear hK K)
    refine wpMix_nil ?_
    obtain ⟨c0, c1, c2, _⟩ := dcells3 hS
    go_wp2_with (first
      | (go_at_call 57; refine (ptDev_any ⟨_, _, _⟩ _).mono ?_; rintro e w2 ⟨u, rfl, ⟨g, rfl, hg, hr⟩, hb⟩; have r2 := rowB_below r1 hb (rowB_lt r1); dsimp only [Pt.ns, List.length] at hr; replace bX := bX.trans (hb.mono bX.size))
      | (refine wpList_storeR rfl 34 _ _ rfl (w.heap.size + 1) rfl #[.slice (some ⟨g, 0, none⟩) 3 3, .slice none 0 0] rfl (dev2_one _ _ _ _ _ _) 34 #[.slice none 0 0, .slice none 0 0] rfl ?_ agDv ?_; with_reducible exact r2))
    refine bodyPost_ret (resultsRT rfl (w.heap.size + 1) _ rfl (rowB_row r2 _) agDv rfl) rfl ?_
    exact ⟨_, rfl, ⟨g, rfl, by omega, rowB_row_other hr _ (by omega)⟩, below_rowR bX _ (by omega)⟩
  · have e : s.reg 1 = s.m := (if_neg (by decide)).trans (if_pos rfl)
    rw [e]
    clear e
    obtain ⟨n, l', m⟩ := s
    dsimp only [Pt.cs] at *
    clear hdr
    go_enter Try.func44, Try.ntmps44
    go_wp2_with (first
      | (go_at_call 68; refine hload.mono ?_; rintro e w1 ⟨rfl, hb⟩; have bX := bW.trans (hb.mono bW.size); have r1 := rowB_below k1 hb (rowB_lt k1); have hs := hb.size; rw [sW] at hs; clear hb hload)
      | (go_at_call 57; refine (ptDev_any ⟨_, _, _⟩ _).mono ?_; rintro e w2 ⟨u, rfl, ⟨g, rfl, hg, hr⟩, hb⟩; have r2 := rowB_below (rowB_alloc r1 _) hb (rowB_lt (rowB_alloc r1 _)); dsimp only [Pt.ns, List.length] at hr; replace hg := Nat.le_trans (Nat.le_of_eq (World.size_alloc _ _).symm) hg; replace bX := (bX.alloc (by omega) _).trans (hb.mono (Nat.le_trans bX.size (by simp))))
      | (refine wpList_storeR rfl 34 _ _ rfl (w.heap.size + 1) rfl #[.slice (some ⟨g, 0, none⟩) 3 3, .slice none 0 0] rfl (dev2_one _ _ _ _ _ _) 34 #[.slice none 0 0, .slice none 0 0] rfl ?_ agDv ?_; with_reducible exact r2))
    refine bodyPost_ret (resultsRT rfl (w.heap.size + 1) _ rfl (rowB_row r2 _) agDv rfl) rfl ?_
    exact ⟨_, rfl, ⟨g, rfl, by omega, rowB_row_other hr _ (by omega)⟩, below_rowR bX _ (by omega)⟩
  · have e : s.reg a = 0 := (if_neg n0).trans (if_neg n1)
    rw [e]
    clear e
    have q0 : (a == 0) = false := by simpa using n0
    have q1 : (a == 1) = false := by simpa using n1
    clear n0 n1
    obtain ⟨n, l', m⟩ := s
    dsimp only [Pt.cs] at *
    clear hdr
    go_enter Try.func44, Try.ntmps44
    go_wp2_with (first
      | (go_at_call 68; refine hload.mono ?_; rintro e w1 ⟨rfl, hb⟩; have bX := bW.trans (hb.mono bW.size); have r1 := rowB_below k1 hb (rowB_lt k1); have hs := hb.size; rw [sW] at hs; clear hb hload)
      | (go_at_call 57; refine (ptDev_any ⟨_, _, _⟩ _).mono ?_; rintro e w2 ⟨u, rfl, ⟨g, rfl, hg, hr⟩, hb⟩; have r2 := rowB_below (rowB_alloc r1 _) hb (rowB_lt (rowB_alloc r1 _)); dsimp only [Pt.ns, List.length] at hr; replace hg := Nat.le_trans (Nat.le_of_eq (World.size_alloc _ _).symm) hg; replace bX := (bX.alloc (by omega) _).trans (hb.mono (Nat.le_trans bX.size (by simp))))
      | (refine wpList_storeR rfl 34 _ _ rfl (w.heap.size + 1) rfl #[.slice (some ⟨g, 0, none⟩) 3 3, .slice none 0 0] rfl (dev2_one _ _ _ _ _ _) 34 #[.slice none 0 0, .slice none 0 0] rfl ?_ agDv ?_; with_reducible exact r2))
    refine bodyPost_ret (resultsRT rfl (w.heap.size + 1) _ rfl (rowB_row r2 _) agDv rfl) rfl ?_
    exact ⟨_, rfl, ⟨g, rfl, by omega, rowB_row_other hr _ (by omega)⟩, below_rowR bX _ (by omega)⟩
end Go.Proofs.Ytakaebjojgeehaa
