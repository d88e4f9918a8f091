/- A part of the proof of ChipTicks: ChSk. -/
import Derived.Test.YtakaebjojgeehaaGreatChipTicksK01
import Derived.Test.YtakaebjojgeehaaGreatChipTicksK02
import Derived.Test.YtakaebjojgeehaaGreatChipTicksK03
import Derived.Test.YtakaebjojgeehaaGreatChipTicksK04
import Derived.Test.YtakaebjojgeehaaGreatChipTicksK05
import Derived.Test.YtakaebjojgeehaaGreatChipTicksK06
import Derived.Test.YtakaebjojgeehaaGreatChipTicksK07
import Derived.Test.YtakaebjojgeehaaGreatChipTicksK08
import Derived.Test.YtakaebjojgeehaaGreatChipTicksK09
import Derived.Test.YtakaebjojgeehaaGreatChipTicksK12
import Derived.Test.YtakaebjojgeehaaGreatChipTicksK13
import Derived.Test.YtakaebjojgeehaaGreatChipTicksK14
import Derived.Test.YtakaebjojgeehaaGreatChipTicksK15
import Derived.Test.YtakaebjojgeehaaGreatChipTicksK16
import Derived.Test.YtakaebjojgeehaaGreatChipTicksK17
import Derived.Test.YtakaebjojgeehaaGreatChipTicksK18
import Derived.Test.YtakaebjojgeehaaGreatChipTicksK19
import Derived.Test.YtakaebjojgeehaaGreatChipTicksK20
import Derived.Test.YtakaebjojgeehaaGreatChipTicksK21
import Derived.Test.YtakaebjojgeehaaGreatChipTicksK22
import Derived.Test.YtakaebjojgeehaaGreatChipTicksK23
import Derived.Test.YtakaebjojgeehaaGreatChipTicksK25
import Derived.Test.YtakaebjojgeehaaGreatChipTicksK26
import Derived.Test.YtakaebjojgeehaaGreatChipTicksK27
import Derived.Test.YtakaebjojgeehaaGreatChipTicksK28
import Derived.Test.YtakaebjojgeehaaGreatChipTicksK29
import Derived.Test.YtakaebjojgeehaaGreatChipTicksK30
import Derived.Test.YtakaebjojgeehaaGreatChipTicksK31
import Derived.Test.YtakaebjojgeehaaGreatChipTicksK32
import Derived.Test.YtakaebjojgeehaaGreatChipTicksK33
import Derived.Test.YtakaebjojgeehaaGreatChipTicksK34
import Derived.Test.YtakaebjojgeehaaGreatChipTicksK35
import Derived.Test.YtakaebjojgeehaaGreatChipTicksK36
import Derived.Test.YtakaebjojgeehaaGreatChipTicksK37
import Derived.Test.YtakaebjojgeehaaGreatChipTicksK38
import Derived.Test.YtakaebjojgeehaaGreatChipTicksK39
import Derived.Test.YtakaebjojgeehaaGreatChipTicksK40
import Derived.Test.YtakaebjojgeehaaGreatChipTicksK42
import Derived.Test.YtakaebjojgeehaaGreatChipTicksK51
import Derived.Test.YtakaebjojgeehaaGreatChipTicksK52
import Derived.Below
import Derived.BigQuiet
import Derived.ChangeMaps5
import Derived.Deep.AppendSrc
import Derived.Deep.DeepAppendWide
import Derived.Deep.DeepCutAuto
import Derived.Deep.Draws
import Derived.Deep.MidRow
import Derived.Deep.OwnRows
import Derived.Deep.QuietTactic
import Derived.Deep.RegionHeld3
import Derived.Deep.RegionWith
import Derived.Deep.Slices
import Derived.Deep.WholeRow
import Derived.Laws.CopyOwn
import Derived.Laws.OwnMore
import Derived.Lib.Hide
import Derived.Lib.SmallJoins
import Derived.Maps.AppendAt
import Derived.OpenShut
import Derived.OrdersHeld
import Derived.OwnWalk
import Derived.RowKit3
import Derived.Shelf.Abstract
import Derived.StillTactics
import Derived.StillTail
import Derived.StillTailTactics
import Derived.Test.YtakaebjojgeehaaGreatChecked
import Derived.WalkKit
namespace Go.Proofs.YtakaebjojgeehaaGreat
open Go.RowKit
set_option maxRecDepth 100000
set_option linter.unusedVariables false
set_option maxHeartbeats 1000000 in
theorem chSkip3_any (nm : ByteArray) (b z : Int) (da : Option Addr) (nd dc : Nat) (v vm : Value) (l lb : List Int) (j : Int) (hj : -9223372036854775808 ≤ j ∧ j ≤ 10000000) (w : World) (h : isArg w v l) (hm : isByt w vm lb) (hwf : ∀ x ∈ l, (Lit.int .i64 x).wf = true) (hbb : ∀ x ∈ lb, 0 ≤ x ∧ x < 256) (hL : (3 : Int) = 8 → lb.length ≤ 140737488351232) (hd : nd ≤ 140737488351232) (hz : -9223372036854775808 ≤ z ∧ z ≤ 9223372036854775807) :
    Calls Tryz.prog 11 #[.agg (chip5 nm 3 b z (.slice da nd dc)), .agg #[v, vm], .int .i64 j] w fun e w' => ∃ u, e = .returned u ∧ memR w' u ((Tm.of l).skip j).ns [] ∧ Below w.heap.size w w' := by
  dsimp only [chip5]
  obtain ⟨k0, k1, k2, bW, sW⟩ := boxes3 w (.cells #[.string nm, .int .i64 3, .int .i64 b, .int .i64 z, .slice da nd dc] 24) (.cells #[v, vm] 27) (.cells #[.slice none 0 0, .slice none 0 0] 27)
  have k0 : rowB _ _ _ _ := k0
  have k1 : rowB _ _ _ _ := k1
  have k2 : rowB _ _ _ _ := k2
  have hA := isArg_below h bW (Nat.le_refl _)
  have hM := isByt_below hm bW (Nat.le_refl _)
  have hf : ∃ NS BS, NS = ((Tm.of l).skip j).ns ∧ BS = [] ∧ Calls Tryz.prog 30 #[.agg #[v, vm], .int .i64 j] (((w.alloc (.cells #[.string nm, .int .i64 3, .int .i64 b, .int .i64 z, .slice da nd dc] 24)).alloc (.cells #[v, vm] 27)).alloc (.cells #[.slice none 0 0, .slice none 0 0] 27)) (fun e w' => ∃ u, e = .returned u ∧ memR w' u NS BS ∧ Below (((w.alloc (.cells #[.string nm, .int .i64 3, .int .i64 b, .int .i64 z, .slice da nd dc] 24)).alloc (.cells #[v, vm] 27)).alloc (.cells #[.slice none 0 0, .slice none 0 0] 27)).heap.size (((w.alloc (.cells #[.string nm, .int .i64 3, .int .i64 b, .int .i64 z, .slice da nd dc] 24)).alloc (.cells #[v, vm] 27)).alloc (.cells #[.slice none 0 0, .slice none 0 0] 27)) w') := by
    refine ⟨_, _, rfl, rfl, (tmSkip_any v vm l j (by omega) _ hA).mono ?_⟩
    rintro e w' ⟨u, rfl, hu, hb⟩
    exact ⟨u, rfl, hu.mem (by show (4 : Nat) ≤ 9223372036854775807; decide), hb⟩
  obtain ⟨NS, BS, e1, e2, hf⟩ := hf
  rw [← e1, ← e2]
  clear e1 e2 hA hM h hm hwf hbb hL hd hz
  obtain ⟨c0, c1, c2, c3, c4⟩ := ccells k0
  go_enter Tryz.func11, Tryz.ntmps11
  go_wp2_with (first
    | (refine wpList_loadR rfl 27 _ rfl (w.heap.size + 1) rfl 27 #[v, vm] ?_ agDv ?_; with_reducible exact k1)
    | (go_at_call 30; refine hf.mono ?_; rintro e w2 ⟨u, rfl, hu, hb⟩; obtain ⟨a2, c2', p2, d2, rfl, u1, u2⟩ := hu.open; have t2 := rowB_below k2 hb (rowB_lt k2); have bY := bW.trans (hb.mono bW.size))
    | (refine wpList_storeR rfl 27 _ _ rfl (w.heap.size + 2) rfl #[.slice a2 NS.length c2', .slice p2 BS.length d2] rfl (dev2_one _ _ _ _ _ _) 27 #[.slice none 0 0, .slice none 0 0] rfl ?_ agDv ?_; with_reducible exact t2))
  refine bodyPost_ret (resultsR rfl (w.heap.size + 2) _ rfl (rowB_row t2 _) agDv) rfl ?_
  exact ⟨_, rfl, memR.box t2 u1 u2 _, below_rowR bY _ (by omega)⟩
set_option maxHeartbeats 1000000 in
theorem chSkip5_any (nm : ByteArray) (b z : Int) (da : Option Addr) (nd dc : Nat) (v vm : Value) (l lb : List Int) (j : Int) (hj : -9223372036854775808 ≤ j ∧ j ≤ 10000000) (w : World) (h : isArg w v l) (hm : isByt w vm lb) (hwf : ∀ x ∈ l, (Lit.int .i64 x).wf = true) (hbb : ∀ x ∈ lb, 0 ≤ x ∧ x < 256) (hL : (5 : Int) = 8 → lb.length ≤ 140737488351232) (hd : nd ≤ 140737488351232) (hz : -9223372036854775808 ≤ z ∧ z ≤ 9223372036854775807) :
    Calls Tryz.prog 11 #[.agg (chip5 nm 5 b z (.slice da nd dc)), .agg #[v, vm], .int .i64 j] w fun e w' => ∃ u, e = .returned u ∧ memR w' u ((Sr.of l).skip j).ns [] ∧ Below w.heap.size w w' := by
  dsimp only [chip5]
  obtain ⟨k0, k1, k2, bW, sW⟩ := boxes3 w (.cells #[.string nm, .int .i64 5, .int .i64 b, .int .i64 z, .slice da nd dc] 24) (.cells #[v, vm] 27) (.cells #[.slice none 0 0, .slice none 0 0] 27)
  have k0 : rowB _ _ _ _ := k0
  have k1 : rowB _ _ _ _ := k1
  have k2 : rowB _ _ _ _ := k2
  have hA := isArg_below h bW (Nat.le_refl _)
  have hM := isByt_below hm bW (Nat.le_refl _)
  have hf : ∃ NS BS, NS = ((Sr.of l).skip j).ns ∧ BS = [] ∧ Calls Tryz.prog 31 #[.agg #[v, vm], .int .i64 j] (((w.alloc (.cells #[.string nm, .int .i64 5, .int .i64 b, .int .i64 z, .slice da nd dc] 24)).alloc (.cells #[v, vm] 27)).alloc (.cells #[.slice none 0 0, .slice none 0 0] 27)) (fun e w' => ∃ u, e = .returned u ∧ memR w' u NS BS ∧ Below (((w.alloc (.cells #[.string nm, .int .i64 5, .int .i64 b, .int .i64 z, .slice da nd dc] 24)).alloc (.cells #[v, vm] 27)).alloc (.cells #[.slice none 0 0, .slice none 0 0] 27)).heap.size (((w.alloc (.cells #[.string nm, .int .i64 5, .int .i64 b, .int .i64 z, .slice da nd dc] 24)).alloc (.cells #[v, vm] 27)).alloc (.cells #[.slice none 0 0, .slice none 0 0] 27)) w') := by
    refine ⟨_, _, rfl, rfl, (srSkip_any v vm l j _ hA (by omega)).mono ?_⟩
    rintro e w' ⟨u, rfl, hu, hb⟩
    exact ⟨u, rfl, hu.mem (by show (8 : Nat) ≤ 9223372036854775807; decide), hb⟩
  obtain ⟨NS, BS, e1, e2, hf⟩ := hf
  rw [← e1, ← e2]
  clear e1 e2 hA hM h hm hwf hbb hL hd hz
  obtain ⟨c0, c1, c2, c3, c4⟩ := ccells k0
  go_enter Tryz.func11, Tryz.ntmps11
  go_wp2_with (first
    | (refine wpList_loadR rfl 27 _ rfl (w.heap.size + 1) rfl 27 #[v, vm] ?_ agDv ?_; with_reducible exact k1)
    | (go_at_call 31; refine hf.mono ?_; rintro e w2 ⟨u, rfl, hu, hb⟩; obtain ⟨a2, c2', p2, d2, rfl, u1, u2⟩ := hu.open; have t2 := rowB_below k2 hb (rowB_lt k2); have bY := bW.trans (hb.mono bW.size))
    | (refine wpList_storeR rfl 27 _ _ rfl (w.heap.size + 2) rfl #[.slice a2 NS.length c2', .slice p2 BS.length d2] rfl (dev2_one _ _ _ _ _ _) 27 #[.slice none 0 0, .slice none 0 0] rfl ?_ agDv ?_; with_reducible exact t2))
  refine bodyPost_ret (resultsR rfl (w.heap.size + 2) _ rfl (rowB_row t2 _) agDv) rfl ?_
  exact ⟨_, rfl, memR.box t2 u1 u2 _, below_rowR bY _ (by omega)⟩
set_option maxHeartbeats 1000000 in
theorem chSkip6_any (nm : ByteArray) (b z : Int) (da : Option Addr) (nd dc : Nat) (v vm : Value) (l lb : List Int) (j : Int) (hj : -9223372036854775808 ≤ j ∧ j ≤ 10000000) (w : World) (h : isArg w v l) (hm : isByt w vm lb) (hwf : ∀ x ∈ l, (Lit.int .i64 x).wf = true) (hbb : ∀ x ∈ lb, 0 ≤ x ∧ x < 256) (hL : (6 : Int) = 8 → lb.length ≤ 140737488351232) (hd : nd ≤ 140737488351232) (hz : -9223372036854775808 ≤ z ∧ z ≤ 9223372036854775807) :
    Calls Tryz.prog 11 #[.agg (chip5 nm 6 b z (.slice da nd dc)), .agg #[v, vm], .int .i64 j] w fun e w' => ∃ u, e = .returned u ∧ memR w' u [((Vd.ofN l lb).ticks j.toNat).p, ((Vd.ofN l lb).ticks j.toNat).h] ((Vd.ofN l lb).ticks j.toNat).m ∧ Below w.heap.size w w' := by
  dsimp only [chip5]
  obtain ⟨k0, k1, k2, bW, sW⟩ := boxes3 w (.cells #[.string nm, .int .i64 6, .int .i64 b, .int .i64 z, .slice da nd dc] 24) (.cells #[v, vm] 27) (.cells #[.slice none 0 0, .slice none 0 0] 27)
  have k0 : rowB _ _ _ _ := k0
  have k1 : rowB _ _ _ _ := k1
  have k2 : rowB _ _ _ _ := k2
  have hA := isArg_below h bW (Nat.le_refl _)
  have hM := isByt_below hm bW (Nat.le_refl _)
  have hf : ∃ NS BS, NS = [((Vd.ofN l lb).ticks j.toNat).p, ((Vd.ofN l lb).ticks j.toNat).h] ∧ BS = ((Vd.ofN l lb).ticks j.toNat).m ∧ Calls Tryz.prog 32 #[.agg #[v, vm], .int .i64 j] (((w.alloc (.cells #[.string nm, .int .i64 6, .int .i64 b, .int .i64 z, .slice da nd dc] 24)).alloc (.cells #[v, vm] 27)).alloc (.cells #[.slice none 0 0, .slice none 0 0] 27)) (fun e w' => ∃ u, e = .returned u ∧ memR w' u NS BS ∧ Below (((w.alloc (.cells #[.string nm, .int .i64 6, .int .i64 b, .int .i64 z, .slice da nd dc] 24)).alloc (.cells #[v, vm] 27)).alloc (.cells #[.slice none 0 0, .slice none 0 0] 27)).heap.size (((w.alloc (.cells #[.string nm, .int .i64 6, .int .i64 b, .int .i64 z, .slice da nd dc] 24)).alloc (.cells #[v, vm] 27)).alloc (.cells #[.slice none 0 0, .slice none 0 0] 27)) w') := by
    refine ⟨_, _, rfl, rfl, (vidSkip_any v vm l lb j _ hA hM hbb (by omega)).mono ?_⟩
    rintro e w' ⟨u, rfl, hu, hb⟩
    exact ⟨u, rfl, hu.mem (Vd.ticks_fit (Vd.ofN_fit l lb hbb) _), hb⟩
  obtain ⟨NS, BS, e1, e2, hf⟩ := hf
  rw [← e1, ← e2]
  clear e1 e2 hA hM h hm hwf hbb hL hd hz
  obtain ⟨c0, c1, c2, c3, c4⟩ := ccells k0
  go_enter Tryz.func11, Tryz.ntmps11
  go_wp2_with (first
    | (refine wpList_loadR rfl 27 _ rfl (w.heap.size + 1) rfl 27 #[v, vm] ?_ agDv ?_; with_reducible exact k1)
    | (go_at_call 32; refine hf.mono ?_; rintro e w2 ⟨u, rfl, hu, hb⟩; obtain ⟨a2, c2', p2, d2, rfl, u1, u2⟩ := hu.open; have t2 := rowB_below k2 hb (rowB_lt k2); have bY := bW.trans (hb.mono bW.size))
    | (refine wpList_storeR rfl 27 _ _ rfl (w.heap.size + 2) rfl #[.slice a2 NS.length c2', .slice p2 BS.length d2] rfl (dev2_one _ _ _ _ _ _) 27 #[.slice none 0 0, .slice none 0 0] rfl ?_ agDv ?_; with_reducible exact t2))
  refine bodyPost_ret (resultsR rfl (w.heap.size + 2) _ rfl (rowB_row t2 _) agDv) rfl ?_
  exact ⟨_, rfl, memR.box t2 u1 u2 _, below_rowR bY _ (by omega)⟩
set_option maxHeartbeats 1000000 in
theorem chSkip7_any (nm : ByteArray) (b z : Int) (da : Option Addr) (nd dc : Nat) (v vm : Value) (l lb : List Int) (j : Int) (hj : -9223372036854775808 ≤ j ∧ j ≤ 10000000) (w : World) (h : isArg w v l) (hm : isByt w vm lb) (hwf : ∀ x ∈ l, (Lit.int .i64 x).wf = true) (hbb : ∀ x ∈ lb, 0 ≤ x ∧ x < 256) (hL : (7 : Int) = 8 → lb.length ≤ 140737488351232) (hd : nd ≤ 140737488351232) (hz : -9223372036854775808 ≤ z ∧ z ≤ 9223372036854775807) :
    Calls Tryz.prog 11 #[.agg (chip5 nm 7 b z (.slice da nd dc)), .agg #[v, vm], .int .i64 j] w fun e w' => ∃ u, e = .returned u ∧ memR w' u ((Sn.of l).ticks j.toNat).ns [] ∧ Below w.heap.size w w' := by
  dsimp only [chip5]
  obtain ⟨k0, k1, k2, bW, sW⟩ := boxes3 w (.cells #[.string nm, .int .i64 7, .int .i64 b, .int .i64 z, .slice da nd dc] 24) (.cells #[v, vm] 27) (.cells #[.slice none 0 0, .slice none 0 0] 27)
  have k0 : rowB _ _ _ _ := k0
  have k1 : rowB _ _ _ _ := k1
  have k2 : rowB _ _ _ _ := k2
  have hA := isArg_below h bW (Nat.le_refl _)
  have hM := isByt_below hm bW (Nat.le_refl _)
  have hf : ∃ NS BS, NS = ((Sn.of l).ticks j.toNat).ns ∧ BS = [] ∧ Calls Tryz.prog 33 #[.agg #[v, vm], .int .i64 j] (((w.alloc (.cells #[.string nm, .int .i64 7, .int .i64 b, .int .i64 z, .slice da nd dc] 24)).alloc (.cells #[v, vm] 27)).alloc (.cells #[.slice none 0 0, .slice none 0 0] 27)) (fun e w' => ∃ u, e = .returned u ∧ memR w' u NS BS ∧ Below (((w.alloc (.cells #[.string nm, .int .i64 7, .int .i64 b, .int .i64 z, .slice da nd dc] 24)).alloc (.cells #[v, vm] 27)).alloc (.cells #[.slice none 0 0, .slice none 0 0] 27)).heap.size (((w.alloc (.cells #[.string nm, .int .i64 7, .int .i64 b, .int .i64 z, .slice da nd dc] 24)).alloc (.cells #[v, vm] 27)).alloc (.cells #[.slice none 0 0, .slice none 0 0] 27)) w') := by
    refine ⟨_, _, rfl, rfl, (sndSkip_any v vm l j _ hA (by omega)).mono ?_⟩
    rintro e w' ⟨u, rfl, hu, hb⟩
    rw [Sn.skip_of (Sn.of_fit l) j hj.2] at hu
    exact ⟨u, rfl, hu.mem (by show (12 : Nat) ≤ 9223372036854775807; decide), hb⟩
  obtain ⟨NS, BS, e1, e2, hf⟩ := hf
  rw [← e1, ← e2]
  clear e1 e2 hA hM h hm hwf hbb hL hd hz
  obtain ⟨c0, c1, c2, c3, c4⟩ := ccells k0
  go_enter Tryz.func11, Tryz.ntmps11
  go_wp2_with (first
    | (refine wpList_loadR rfl 27 _ rfl (w.heap.size + 1) rfl 27 #[v, vm] ?_ agDv ?_; with_reducible exact k1)
    | (go_at_call 33; refine hf.mono ?_; rintro e w2 ⟨u, rfl, hu, hb⟩; obtain ⟨a2, c2', p2, d2, rfl, u1, u2⟩ := hu.open; have t2 := rowB_below k2 hb (rowB_lt k2); have bY := bW.trans (hb.mono bW.size))
    | (refine wpList_storeR rfl 27 _ _ rfl (w.heap.size + 2) rfl #[.slice a2 NS.length c2', .slice p2 BS.length d2] rfl (dev2_one _ _ _ _ _ _) 27 #[.slice none 0 0, .slice none 0 0] rfl ?_ agDv ?_; with_reducible exact t2))
  refine bodyPost_ret (resultsR rfl (w.heap.size + 2) _ rfl (rowB_row t2 _) agDv) rfl ?_
  exact ⟨_, rfl, memR.box t2 u1 u2 _, below_rowR bY _ (by omega)⟩
set_option maxHeartbeats 1000000 in
theorem chSkip8_any (nm : ByteArray) (b z : Int) (da : Option Addr) (nd dc : Nat) (v vm : Value) (l lb : List Int) (j : Int) (hj : -9223372036854775808 ≤ j ∧ j ≤ 10000000) (w : World) (h : isArg w v l) (hm : isByt w vm lb) (hwf : ∀ x ∈ l, (Lit.int .i64 x).wf = true) (hbb : ∀ x ∈ lb, 0 ≤ x ∧ x < 256) (hL : (8 : Int) = 8 → lb.length ≤ 140737488351232) (hd : nd ≤ 140737488351232) (hz : -9223372036854775808 ≤ z ∧ z ≤ 9223372036854775807) :
    Calls Tryz.prog 11 #[.agg (chip5 nm 8 b z (.slice da nd dc)), .agg #[v, vm], .int .i64 j] w fun e w' => ∃ u, e = .returned u ∧ memR w' u ((Dr.of l lb).ticks j.toNat).ns ((Dr.of l lb).ticks j.toNat).m ∧ Below w.heap.size w w' := by
  dsimp only [chip5]
  obtain ⟨k0, k1, k2, bW, sW⟩ := boxes3 w (.cells #[.string nm, .int .i64 8, .int .i64 b, .int .i64 z, .slice da nd dc] 24) (.cells #[v, vm] 27) (.cells #[.slice none 0 0, .slice none 0 0] 27)
  have k0 : rowB _ _ _ _ := k0
  have k1 : rowB _ _ _ _ := k1
  have k2 : rowB _ _ _ _ := k2
  have hA := isArg_below h bW (Nat.le_refl _)
  have hM := isByt_below hm bW (Nat.le_refl _)
  have hf : ∃ NS BS, NS = ((Dr.of l lb).ticks j.toNat).ns ∧ BS = ((Dr.of l lb).ticks j.toNat).m ∧ Calls Tryz.prog 34 #[.agg #[v, vm], .int .i64 j] (((w.alloc (.cells #[.string nm, .int .i64 8, .int .i64 b, .int .i64 z, .slice da nd dc] 24)).alloc (.cells #[v, vm] 27)).alloc (.cells #[.slice none 0 0, .slice none 0 0] 27)) (fun e w' => ∃ u, e = .returned u ∧ memR w' u NS BS ∧ Below (((w.alloc (.cells #[.string nm, .int .i64 8, .int .i64 b, .int .i64 z, .slice da nd dc] 24)).alloc (.cells #[v, vm] 27)).alloc (.cells #[.slice none 0 0, .slice none 0 0] 27)).heap.size (((w.alloc (.cells #[.string nm, .int .i64 8, .int .i64 b, .int .i64 z, .slice da nd dc] 24)).alloc (.cells #[v, vm] 27)).alloc (.cells #[.slice none 0 0, .slice none 0 0] 27)) w') := by
    refine ⟨_, _, rfl, rfl, (drvSkip_any v vm l lb j _ hA hM hbb (hL rfl) (by omega)).mono ?_⟩
    rintro e w' ⟨u, rfl, hu, hb⟩
    exact ⟨u, rfl, hu.mem, hb⟩
  obtain ⟨NS, BS, e1, e2, hf⟩ := hf
  rw [← e1, ← e2]
  clear e1 e2 hA hM h hm hwf hbb hL hd hz
  obtain ⟨c0, c1, c2, c3, c4⟩ := ccells k0
  go_enter Tryz.func11, Tryz.ntmps11
  go_wp2_with (first
    | (refine wpList_loadR rfl 27 _ rfl (w.heap.size + 1) rfl 27 #[v, vm] ?_ agDv ?_; with_reducible exact k1)
    | (go_at_call 34; refine hf.mono ?_; rintro e w2 ⟨u, rfl, hu, hb⟩; obtain ⟨a2, c2', p2, d2, rfl, u1, u2⟩ := hu.open; have t2 := rowB_below k2 hb (rowB_lt k2); have bY := bW.trans (hb.mono bW.size))
    | (refine wpList_storeR rfl 27 _ _ rfl (w.heap.size + 2) rfl #[.slice a2 NS.length c2', .slice p2 BS.length d2] rfl (dev2_one _ _ _ _ _ _) 27 #[.slice none 0 0, .slice none 0 0] rfl ?_ agDv ?_; with_reducible exact t2))
  refine bodyPost_ret (resultsR rfl (w.heap.size + 2) _ rfl (rowB_row t2 _) agDv) rfl ?_
  exact ⟨_, rfl, memR.box t2 u1 u2 _, below_rowR bY _ (by omega)⟩
set_option maxHeartbeats 1000000 in
theorem chSkipS_any (nm : ByteArray) (k b z : Int) (da : Option Addr) (nd dc : Nat) (v vm : Value) (l lb : List Int) (hk : isStill k) (j : Int) (w : World) (h : isArg w v l) (hm : isByt w vm lb) (hwf : ∀ x ∈ l, (Lit.int .i64 x).wf = true) (hbb : ∀ x ∈ lb, 0 ≤ x ∧ x < 256) (hL : k = 8 → lb.length ≤ 140737488351232) (hd : nd ≤ 140737488351232) (hz : -9223372036854775808 ≤ z ∧ z ≤ 9223372036854775807) :
    Calls Tryz.prog 11 #[.agg (chip5 nm k b z (.slice da nd dc)), .agg #[v, vm], .int .i64 j] w fun e w' => ∃ u, e = .returned u ∧ memR w' u (memNs k z nd l) (memBs k z nd lb) ∧ Below w.heap.size w w' := by
  have hq := hk
  obtain ⟨h3, h5, h6, h7, h8⟩ := hk
  have q3 : (k == 3) = false := beq_eq_false_iff_ne.2 h3
  have q5 : (k == 5) = false := beq_eq_false_iff_ne.2 h5
  have q6 : (k == 6) = false := beq_eq_false_iff_ne.2 h6
  have q7 : (k == 7) = false := beq_eq_false_iff_ne.2 h7
  have q8 : (k == 8) = false := beq_eq_false_iff_ne.2 h8
  obtain ⟨k0, k1, k2, bW, sW⟩ := boxes3 w (.cells (chip5 nm k b z (.slice da nd dc)) 24) (.cells #[v, vm] 27) (.cells #[.slice none 0 0, .slice none 0 0] 27)
  have hf := chForm_any nm k b z da nd dc v vm l lb hq _ (isArg_below h bW (Nat.le_refl _)) (isByt_below hm bW (Nat.le_refl _)) hwf hbb hL hd hz
  generalize memNs k z nd l = NS at *
  generalize memBs k z nd lb = BS at *
  clear h3 h5 h6 h7 h8 hq h hm hwf hbb hL hd hz
  dsimp only [chip5] at *
  have k0 : rowB _ _ _ _ := k0
  have k1 : rowB _ _ _ _ := k1
  have k2 : rowB _ _ _ _ := k2
  obtain ⟨c0, c1, c2, c3, c4⟩ := ccells k0
  go_enter Tryz.func11, Tryz.ntmps11
  go_wp2_with (first
    | (refine wpList_loadR rfl 24 _ rfl w.heap.size rfl 24 #[.string nm, .int .i64 k, .int .i64 b, .int .i64 z, .slice da nd dc] ?_ agCh ?_; with_reducible exact k0)
    | (refine wpList_loadR rfl 27 _ rfl (w.heap.size + 1) rfl 27 #[v, vm] ?_ agDv ?_; with_reducible exact k1)
    | (go_at_call 35; refine hf.mono ?_; rintro e w2 ⟨u, rfl, hu, hb⟩; obtain ⟨a2, c2', p2, d2, rfl, u1, u2⟩ := hu.open; have t2 := rowB_below k2 hb (rowB_lt k2); have bY := bW.trans (hb.mono bW.size))
    | (refine wpList_storeR rfl 27 _ _ rfl (w.heap.size + 2) rfl #[.slice a2 NS.length c2', .slice p2 BS.length d2] rfl (dev2_one _ _ _ _ _ _) 27 #[.slice none 0 0, .slice none 0 0] rfl ?_ agDv ?_; with_reducible exact t2))
  refine bodyPost_ret (resultsR rfl (w.heap.size + 2) _ rfl (rowB_row t2 _) agDv) rfl ?_
  exact ⟨_, rfl, memR.box t2 u1 u2 _, below_rowR bY _ (by omega)⟩
theorem chSkip_any (nm : ByteArray) (k b z : Int) (da : Option Addr) (nd dc : Nat) (v vm : Value) (l lb : List Int) (j : Int) (hj : -9223372036854775808 ≤ j ∧ j ≤ 10000000) (w : World) (h : isArg w v l) (hm : isByt w vm lb) (hwf : ∀ x ∈ l, (Lit.int .i64 x).wf = true) (hbb : ∀ x ∈ lb, 0 ≤ x ∧ x < 256) (hL : k = 8 → lb.length ≤ 140737488351232) (hd : nd ≤ 140737488351232) (hz : -9223372036854775808 ≤ z ∧ z ≤ 9223372036854775807) :
    Calls Tryz.prog 11 #[.agg (chip5 nm k b z (.slice da nd dc)), .agg #[v, vm], .int .i64 j] w fun e w' => ∃ u, e = .returned u ∧ memR w' u (chNs k z nd l lb j) (chBs k z nd l lb j) ∧ Below w.heap.size w w' := by
  rcases kinds_of k with rfl | rfl | rfl | rfl | rfl | hk
  · rw [chNs3, chBs_none (by omega)]
    exact chSkip3_any nm b z da nd dc v vm l lb j hj w h hm hwf hbb hL hd hz
  · rw [chNs5, chBs_none (by omega)]
    exact chSkip5_any nm b z da nd dc v vm l lb j hj w h hm hwf hbb hL hd hz
  · rw [chNs6, chBs6]
    exact chSkip6_any nm b z da nd dc v vm l lb j hj w h hm hwf hbb hL hd hz
  · rw [chNs7, chBs_none (by omega)]
    exact chSkip7_any nm b z da nd dc v vm l lb j hj w h hm hwf hbb hL hd hz
  · rw [chNs8, chBs8]
    exact chSkip8_any nm b z da nd dc v vm l lb j hj w h hm hwf hbb hL hd hz
  · rw [chNs_still hk, chBs_still hk]
    exact chSkipS_any nm k b z da nd dc v vm l lb hk j w h hm hwf hbb hL hd hz
set_option maxHeartbeats 1000000 in
theorem chTick_any (nm : ByteArray) (k b z : Int) (da : Option Addr) (nd dc : Nat) (v vm : Value) (l lb : List Int) (w : World) (h : isArg w v l) (hm : isByt w vm lb) (hwf : ∀ x ∈ l, (Lit.int .i64 x).wf = true) (hbb : ∀ x ∈ lb, 0 ≤ x ∧ x < 256) (hL : k = 8 → lb.length ≤ 140737488351232) (hd : nd ≤ 140737488351232) (hz : -9223372036854775808 ≤ z ∧ z ≤ 9223372036854775807) :
    Calls Tryz.prog 10 #[.agg (chip5 nm k b z (.slice da nd dc)), .agg #[v, vm]] w fun e w' => ∃ u, e = .returned u ∧ memR w' u (chNs k z nd l lb 1) (chBs k z nd l lb 1) ∧ Below w.heap.size w w' := by
  obtain ⟨k0, k1, k2, bW, sW⟩ := boxes3 w (.cells (chip5 nm k b z (.slice da nd dc)) 24) (.cells #[v, vm] 27) (.cells #[.slice none 0 0, .slice none 0 0] 27)
  have hf := chSkip_any nm k b z da nd dc v vm l lb 1 (by omega) _ (isArg_below h bW (Nat.le_refl _)) (isByt_below hm bW (Nat.le_refl _)) hwf hbb hL hd hz
  generalize chNs k z nd l lb 1 = NS at *
  generalize chBs k z nd l lb 1 = BS at *
  clear h hm hwf hbb hL hd hz
  dsimp only [chip5] at *
  have k0 : rowB _ _ _ _ := k0
  have k1 : rowB _ _ _ _ := k1
  have k2 : rowB _ _ _ _ := k2
  go_enter Tryz.func10, Tryz.ntmps10
  go_wp2_with (first
    | (refine wpList_loadR rfl 24 _ rfl w.heap.size rfl 24 #[.string nm, .int .i64 k, .int .i64 b, .int .i64 z, .slice da nd dc] ?_ agCh ?_; with_reducible exact k0)
    | (refine wpList_loadR rfl 27 _ rfl (w.heap.size + 1) rfl 27 #[v, vm] ?_ agDv ?_; with_reducible exact k1)
    | (go_at_call 11; refine hf.mono ?_; rintro e w2 ⟨u, rfl, hu, hb⟩; obtain ⟨a2, c2', p2, d2, rfl, u1, u2⟩ := hu.open; have t2 := rowB_below k2 hb (rowB_lt k2); have bY := bW.trans (hb.mono bW.size))
    | (refine wpList_storeR rfl 27 _ _ rfl (w.heap.size + 2) rfl #[.slice a2 NS.length c2', .slice p2 BS.length d2] rfl (dev2_one _ _ _ _ _ _) 27 #[.slice none 0 0, .slice none 0 0] rfl ?_ agDv ?_; with_reducible exact t2))
  refine bodyPost_ret (resultsR rfl (w.heap.size + 2) _ rfl (rowB_row t2 _) agDv) rfl ?_
  exact ⟨_, rfl, memR.box t2 u1 u2 _, below_rowR bY _ (by omega)⟩
end Go.Proofs.YtakaebjojgeehaaGreat
