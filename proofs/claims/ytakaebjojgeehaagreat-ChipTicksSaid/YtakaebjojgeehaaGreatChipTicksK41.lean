/- A part of the proof of ChipTicks: ChNw. -/
import Derived.Test.YtakaebjojgeehaaGreatChipTicksK01
import Derived.Test.YtakaebjojgeehaaGreatChipTicksK02
import Derived.Test.YtakaebjojgeehaaGreatChipTicksK03
import Derived.Test.YtakaebjojgeehaaGreatChipTicksK04
import Derived.Test.YtakaebjojgeehaaGreatChipTicksK05
import Derived.Test.YtakaebjojgeehaaGreatChipTicksK06
import Derived.Test.YtakaebjojgeehaaGreatChipTicksK07
import Derived.Test.YtakaebjojgeehaaGreatChipTicksK08
import Derived.Test.YtakaebjojgeehaaGreatChipTicksK09
import Derived.Test.YtakaebjojgeehaaGreatChipTicksK12
import Derived.Test.YtakaebjojgeehaaGreatChipTicksK13
import Derived.Test.YtakaebjojgeehaaGreatChipTicksK14
import Derived.Test.YtakaebjojgeehaaGreatChipTicksK15
import Derived.Test.YtakaebjojgeehaaGreatChipTicksK16
import Derived.Test.YtakaebjojgeehaaGreatChipTicksK17
import Derived.Test.YtakaebjojgeehaaGreatChipTicksK18
import Derived.Test.YtakaebjojgeehaaGreatChipTicksK19
import Derived.Test.YtakaebjojgeehaaGreatChipTicksK20
import Derived.Test.YtakaebjojgeehaaGreatChipTicksK21
import Derived.Test.YtakaebjojgeehaaGreatChipTicksK22
import Derived.Test.YtakaebjojgeehaaGreatChipTicksK23
import Derived.Test.YtakaebjojgeehaaGreatChipTicksK25
import Derived.Test.YtakaebjojgeehaaGreatChipTicksK26
import Derived.Test.YtakaebjojgeehaaGreatChipTicksK27
import Derived.Test.YtakaebjojgeehaaGreatChipTicksK28
import Derived.Test.YtakaebjojgeehaaGreatChipTicksK29
import Derived.Test.YtakaebjojgeehaaGreatChipTicksK30
import Derived.Test.YtakaebjojgeehaaGreatChipTicksK31
import Derived.Test.YtakaebjojgeehaaGreatChipTicksK32
import Derived.Test.YtakaebjojgeehaaGreatChipTicksK33
import Derived.Test.YtakaebjojgeehaaGreatChipTicksK34
import Derived.Test.YtakaebjojgeehaaGreatChipTicksK35
import Derived.Test.YtakaebjojgeehaaGreatChipTicksK36
import Derived.Test.YtakaebjojgeehaaGreatChipTicksK37
import Derived.Test.YtakaebjojgeehaaGreatChipTicksK38
import Derived.Test.YtakaebjojgeehaaGreatChipTicksK39
import Derived.Test.YtakaebjojgeehaaGreatChipTicksK40
import Derived.Below
import Derived.BigQuiet
import Derived.ChangeMaps5
import Derived.Deep.AppendSrc
import Derived.Deep.DeepAppendWide
import Derived.Deep.DeepCutAuto
import Derived.Deep.Draws
import Derived.Deep.MidRow
import Derived.Deep.OwnRows
import Derived.Deep.QuietTactic
import Derived.Deep.RegionHeld3
import Derived.Deep.RegionWith
import Derived.Deep.Slices
import Derived.Deep.WholeRow
import Derived.Laws.CopyOwn
import Derived.Laws.OwnMore
import Derived.Lib.Hide
import Derived.Lib.SmallJoins
import Derived.Maps.AppendAt
import Derived.OpenShut
import Derived.OrdersHeld
import Derived.OwnWalk
import Derived.RowKit3
import Derived.Shelf.Abstract
import Derived.StillTactics
import Derived.StillTail
import Derived.StillTailTactics
import Derived.Test.YtakaebjojgeehaaGreatChecked
import Derived.WalkKit
namespace Go.Proofs.YtakaebjojgeehaaGreat
open Go.RowKit
set_option maxRecDepth 100000
set_option linter.unusedVariables false
set_option maxHeartbeats 1000000 in
theorem chNew0_any (nm : ByteArray) (b z : Int) (vd : Value) (ld : List Int) (w : World) (hm : isByt w vd ld) (hL : ld.length ≤ 140737488351232) (hz : -9223372036854775808 ≤ z ∧ z ≤ 9223372036854775807) :
    Calls Tryz.prog 26 #[.agg (chip5 nm 0 b z vd)] w fun e w' => ∃ u, e = .returned u ∧ memR w' u [] (pad (memSize 0 z ld.length) ld) ∧ Below w.heap.size w w' := by
  obtain ⟨da, dc, rfl, _⟩ := isByt_form hm
  obtain ⟨k0, k2, bW, sW⟩ := boxes2 w (.cells (chip5 nm 0 b z (.slice da ld.length dc)) 24) (.cells #[.slice none 0 0, .slice none 0 0] 27)
  have hload := mmLoad_any nm 0 b z da ld.length dc _ _ [] ld _ (isArg_none _) (isByt_below hm bW (Nat.le_refl _)) (fun x hx => by cases hx) hL hz
  dsimp only [chip5] at *
  have k0 : rowB _ _ _ _ := k0
  have k2 : rowB _ _ _ _ := k2
  generalize bankOf 0 z ld.length [] = BK at *
  generalize pad (memSize 0 z ld.length) ld = BS at *
  obtain ⟨NS, hNS⟩ : ∃ NS : List Int, [] = NS := ⟨_, rfl⟩
  rw [hNS]
  have HNS := Lib.hid hNS
  clear hNS hm hz
  obtain ⟨c0, c1, c2, c3, c4⟩ := ccells k0
  go_enter Tryz.func26, Tryz.ntmps26
  go_wp2_with (first
    | (refine wpList_loadR rfl 24 _ rfl w.heap.size rfl 24 #[.string nm, .int .i64 0, .int .i64 b, .int .i64 z, .slice da ld.length dc] ?_ agCh ?_; with_reducible exact k0)
    | (go_at_call 52; refine hload.mono ?_; rintro e w2 ⟨y, q, rfl, hst, hb⟩; have t1 := rowB_below k2 hb (rowB_lt k2); have b1 := bW.trans (hb.mono bW.size))
    | (go_at_call 53; refine (mmDevF_any hst hL (by decide)).mono ?_; rintro e w5 ⟨u, rfl, hu, hb5⟩; rw [HNS.out] at hu; obtain ⟨a2, c2', p2, d2, rfl, u1, u2⟩ := hu.open; have t2 := rowB_below t1 hb5 (rowB_lt t1); have bY := b1.trans (hb5.mono b1.size))
    | (refine wpList_storeR rfl 27 _ _ rfl (w.heap.size + 1) rfl #[.slice a2 NS.length c2', .slice p2 BS.length d2] rfl (dev2_one _ _ _ _ _ _) 27 #[.slice none 0 0, .slice none 0 0] rfl ?_ agDv ?_; with_reducible exact t2))
  refine bodyPost_ret (resultsR rfl (w.heap.size + 1) _ rfl (rowB_row t2 _) agDv) rfl ?_
  exact ⟨_, rfl, memR.box t2 u1 u2 _, below_rowR bY _ (by omega)⟩
set_option maxHeartbeats 1000000 in
theorem chNew1_any (nm : ByteArray) (b z : Int) (vd : Value) (ld : List Int) (w : World) (hm : isByt w vd ld) (hL : ld.length ≤ 140737488351232) (hz : -9223372036854775808 ≤ z ∧ z ≤ 9223372036854775807) :
    Calls Tryz.prog 26 #[.agg (chip5 nm 1 b z vd)] w fun e w' => ∃ u, e = .returned u ∧ memR w' u [] (pad (memSize 1 z ld.length) ld) ∧ Below w.heap.size w w' := by
  obtain ⟨da, dc, rfl, _⟩ := isByt_form hm
  obtain ⟨k0, k2, bW, sW⟩ := boxes2 w (.cells (chip5 nm 1 b z (.slice da ld.length dc)) 24) (.cells #[.slice none 0 0, .slice none 0 0] 27)
  have hload := mmLoad_any nm 1 b z da ld.length dc _ _ [] ld _ (isArg_none _) (isByt_below hm bW (Nat.le_refl _)) (fun x hx => by cases hx) hL hz
  dsimp only [chip5] at *
  have k0 : rowB _ _ _ _ := k0
  have k2 : rowB _ _ _ _ := k2
  generalize bankOf 1 z ld.length [] = BK at *
  generalize pad (memSize 1 z ld.length) ld = BS at *
  obtain ⟨NS, hNS⟩ : ∃ NS : List Int, [] = NS := ⟨_, rfl⟩
  rw [hNS]
  have HNS := Lib.hid hNS
  clear hNS hm hz
  obtain ⟨c0, c1, c2, c3, c4⟩ := ccells k0
  go_enter Tryz.func26, Tryz.ntmps26
  go_wp2_with (first
    | (refine wpList_loadR rfl 24 _ rfl w.heap.size rfl 24 #[.string nm, .int .i64 1, .int .i64 b, .int .i64 z, .slice da ld.length dc] ?_ agCh ?_; with_reducible exact k0)
    | (go_at_call 52; refine hload.mono ?_; rintro e w2 ⟨y, q, rfl, hst, hb⟩; have t1 := rowB_below k2 hb (rowB_lt k2); have b1 := bW.trans (hb.mono bW.size))
    | (go_at_call 53; refine (mmDevF_any hst hL (by decide)).mono ?_; rintro e w5 ⟨u, rfl, hu, hb5⟩; rw [HNS.out] at hu; obtain ⟨a2, c2', p2, d2, rfl, u1, u2⟩ := hu.open; have t2 := rowB_below t1 hb5 (rowB_lt t1); have bY := b1.trans (hb5.mono b1.size))
    | (refine wpList_storeR rfl 27 _ _ rfl (w.heap.size + 1) rfl #[.slice a2 NS.length c2', .slice p2 BS.length d2] rfl (dev2_one _ _ _ _ _ _) 27 #[.slice none 0 0, .slice none 0 0] rfl ?_ agDv ?_; with_reducible exact t2))
  refine bodyPost_ret (resultsR rfl (w.heap.size + 1) _ rfl (rowB_row t2 _) agDv) rfl ?_
  exact ⟨_, rfl, memR.box t2 u1 u2 _, below_rowR bY _ (by omega)⟩
set_option maxHeartbeats 1000000 in
theorem chNew2_any (nm : ByteArray) (b z : Int) (vd : Value) (ld : List Int) (w : World) (hm : isByt w vd ld) (hL : ld.length ≤ 140737488351232) (hz : -9223372036854775808 ≤ z ∧ z ≤ 9223372036854775807) :
    Calls Tryz.prog 26 #[.agg (chip5 nm 2 b z vd)] w fun e w' => ∃ u, e = .returned u ∧ memR w' u [bankOf 2 z ld.length []] (pad (memSize 2 z ld.length) ld) ∧ Below w.heap.size w w' := by
  obtain ⟨da, dc, rfl, _⟩ := isByt_form hm
  obtain ⟨k0, k2, bW, sW⟩ := boxes2 w (.cells (chip5 nm 2 b z (.slice da ld.length dc)) 24) (.cells #[.slice none 0 0, .slice none 0 0] 27)
  have hload := mmLoad_any nm 2 b z da ld.length dc _ _ [] ld _ (isArg_none _) (isByt_below hm bW (Nat.le_refl _)) (fun x hx => by cases hx) hL hz
  dsimp only [chip5] at *
  have k0 : rowB _ _ _ _ := k0
  have k2 : rowB _ _ _ _ := k2
  generalize bankOf 2 z ld.length [] = BK at *
  generalize pad (memSize 2 z ld.length) ld = BS at *
  obtain ⟨NS, hNS⟩ : ∃ NS : List Int, [BK] = NS := ⟨_, rfl⟩
  rw [hNS]
  have HNS := Lib.hid hNS
  clear hNS hm hz
  obtain ⟨c0, c1, c2, c3, c4⟩ := ccells k0
  go_enter Tryz.func26, Tryz.ntmps26
  go_wp2_with (first
    | (refine wpList_loadR rfl 24 _ rfl w.heap.size rfl 24 #[.string nm, .int .i64 2, .int .i64 b, .int .i64 z, .slice da ld.length dc] ?_ agCh ?_; with_reducible exact k0)
    | (go_at_call 52; refine hload.mono ?_; rintro e w2 ⟨y, q, rfl, hst, hb⟩; have t1 := rowB_below k2 hb (rowB_lt k2); have b1 := bW.trans (hb.mono bW.size))
    | (go_at_call 53; refine (mmDevT_any hst hL).mono ?_; rintro e w5 ⟨u, rfl, hu, hb5⟩; rw [HNS.out] at hu; obtain ⟨a2, c2', p2, d2, rfl, u1, u2⟩ := hu.open; have t2 := rowB_below t1 hb5 (rowB_lt t1); have bY := b1.trans (hb5.mono b1.size))
    | (refine wpList_storeR rfl 27 _ _ rfl (w.heap.size + 1) rfl #[.slice a2 NS.length c2', .slice p2 BS.length d2] rfl (dev2_one _ _ _ _ _ _) 27 #[.slice none 0 0, .slice none 0 0] rfl ?_ agDv ?_; with_reducible exact t2))
  refine bodyPost_ret (resultsR rfl (w.heap.size + 1) _ rfl (rowB_row t2 _) agDv) rfl ?_
  exact ⟨_, rfl, memR.box t2 u1 u2 _, below_rowR bY _ (by omega)⟩
set_option maxHeartbeats 1000000 in
theorem chNew3_any (nm : ByteArray) (b z : Int) (vd : Value) (ld : List Int) (w : World) (hm : isByt w vd ld) (hL : ld.length ≤ 140737488351232) :
    Calls Tryz.prog 26 #[.agg (chip5 nm 3 b z vd)] w fun e w' => ∃ u, e = .returned u ∧ memR w' u [0, 0, 0, 0] [] ∧ Below w.heap.size w w' := by
  obtain ⟨da, dc, rfl, _⟩ := isByt_form hm
  obtain ⟨k0, k2, bW, sW⟩ := boxes2 w (.cells (chip5 nm 3 b z (.slice da ld.length dc)) 24) (.cells #[.slice none 0 0, .slice none 0 0] 27)
  have hf : ∃ NS BS, NS = [0, 0, 0, 0] ∧ BS = [] ∧ Calls Tryz.prog 68 #[] ((w.alloc (.cells (chip5 nm 3 b z (.slice da ld.length dc)) 24)).alloc (.cells #[.slice none 0 0, .slice none 0 0] 27)) (fun e w' => ∃ u, e = .returned u ∧ memR w' u NS BS ∧ Below ((w.alloc (.cells (chip5 nm 3 b z (.slice da ld.length dc)) 24)).alloc (.cells #[.slice none 0 0, .slice none 0 0] 27)).heap.size ((w.alloc (.cells (chip5 nm 3 b z (.slice da ld.length dc)) 24)).alloc (.cells #[.slice none 0 0, .slice none 0 0] 27)) w') := by
    refine ⟨_, _, rfl, rfl, (tmNew_any _).mono ?_⟩
    rintro e w' ⟨u, rfl, hu, hb⟩
    exact ⟨u, rfl, hu.mem (by show (4 : Nat) ≤ 9223372036854775807; decide), hb⟩
  obtain ⟨NS, BS, e1, e2, hf⟩ := hf
  rw [← e1, ← e2]
  clear e1 e2 hm hL
  dsimp only [chip5] at *
  have k0 : rowB _ _ _ _ := k0
  have k2 : rowB _ _ _ _ := k2
  obtain ⟨c0, c1, c2, c3, c4⟩ := ccells k0
  go_enter Tryz.func26, Tryz.ntmps26
  go_wp2_with (first
    | (go_at_call 68; refine hf.mono ?_; rintro e w2 ⟨u, rfl, hu, hb⟩; obtain ⟨a2, c2', p2, d2, rfl, u1, u2⟩ := hu.open; have t2 := rowB_below k2 hb (rowB_lt k2); have bY := bW.trans (hb.mono bW.size))
    | (refine wpList_storeR rfl 27 _ _ rfl (w.heap.size + 1) rfl #[.slice a2 NS.length c2', .slice p2 BS.length d2] rfl (dev2_one _ _ _ _ _ _) 27 #[.slice none 0 0, .slice none 0 0] rfl ?_ agDv ?_; with_reducible exact t2))
  refine bodyPost_ret (resultsR rfl (w.heap.size + 1) _ rfl (rowB_row t2 _) agDv) rfl ?_
  exact ⟨_, rfl, memR.box t2 u1 u2 _, below_rowR bY _ (by omega)⟩
set_option maxHeartbeats 1000000 in
theorem chNew4_any (nm : ByteArray) (b z : Int) (vd : Value) (ld : List Int) (w : World) (hm : isByt w vd ld) (hL : ld.length ≤ 140737488351232) :
    Calls Tryz.prog 26 #[.agg (chip5 nm 4 b z vd)] w fun e w' => ∃ u, e = .returned u ∧ memR w' u [255, 0, 0] [] ∧ Below w.heap.size w w' := by
  obtain ⟨da, dc, rfl, _⟩ := isByt_form hm
  obtain ⟨k0, k2, bW, sW⟩ := boxes2 w (.cells (chip5 nm 4 b z (.slice da ld.length dc)) 24) (.cells #[.slice none 0 0, .slice none 0 0] 27)
  have hf : ∃ NS BS, NS = [255, 0, 0] ∧ BS = [] ∧ Calls Tryz.prog 69 #[] ((w.alloc (.cells (chip5 nm 4 b z (.slice da ld.length dc)) 24)).alloc (.cells #[.slice none 0 0, .slice none 0 0] 27)) (fun e w' => ∃ u, e = .returned u ∧ memR w' u NS BS ∧ Below ((w.alloc (.cells (chip5 nm 4 b z (.slice da ld.length dc)) 24)).alloc (.cells #[.slice none 0 0, .slice none 0 0] 27)).heap.size ((w.alloc (.cells (chip5 nm 4 b z (.slice da ld.length dc)) 24)).alloc (.cells #[.slice none 0 0, .slice none 0 0] 27)) w') := by
    refine ⟨_, _, rfl, rfl, (ptNew_any _).mono ?_⟩
    rintro e w' ⟨u, rfl, hu, hb⟩
    exact ⟨u, rfl, hu.mem (by show (3 : Nat) ≤ 9223372036854775807; decide), hb⟩
  obtain ⟨NS, BS, e1, e2, hf⟩ := hf
  rw [← e1, ← e2]
  clear e1 e2 hm hL
  dsimp only [chip5] at *
  have k0 : rowB _ _ _ _ := k0
  have k2 : rowB _ _ _ _ := k2
  obtain ⟨c0, c1, c2, c3, c4⟩ := ccells k0
  go_enter Tryz.func26, Tryz.ntmps26
  go_wp2_with (first
    | (go_at_call 69; refine hf.mono ?_; rintro e w2 ⟨u, rfl, hu, hb⟩; obtain ⟨a2, c2', p2, d2, rfl, u1, u2⟩ := hu.open; have t2 := rowB_below k2 hb (rowB_lt k2); have bY := bW.trans (hb.mono bW.size))
    | (refine wpList_storeR rfl 27 _ _ rfl (w.heap.size + 1) rfl #[.slice a2 NS.length c2', .slice p2 BS.length d2] rfl (dev2_one _ _ _ _ _ _) 27 #[.slice none 0 0, .slice none 0 0] rfl ?_ agDv ?_; with_reducible exact t2))
  refine bodyPost_ret (resultsR rfl (w.heap.size + 1) _ rfl (rowB_row t2 _) agDv) rfl ?_
  exact ⟨_, rfl, memR.box t2 u1 u2 _, below_rowR bY _ (by omega)⟩
set_option maxHeartbeats 1000000 in
theorem chNew5_any (nm : ByteArray) (b z : Int) (vd : Value) (ld : List Int) (w : World) (hm : isByt w vd ld) (hL : ld.length ≤ 140737488351232) :
    Calls Tryz.prog 26 #[.agg (chip5 nm 5 b z vd)] w fun e w' => ∃ u, e = .returned u ∧ memR w' u [0, 0, 0, 0, 0, 0, 0, 0] [] ∧ Below w.heap.size w w' := by
  obtain ⟨da, dc, rfl, _⟩ := isByt_form hm
  obtain ⟨k0, k2, bW, sW⟩ := boxes2 w (.cells (chip5 nm 5 b z (.slice da ld.length dc)) 24) (.cells #[.slice none 0 0, .slice none 0 0] 27)
  have hf : ∃ NS BS, NS = [0, 0, 0, 0, 0, 0, 0, 0] ∧ BS = [] ∧ Calls Tryz.prog 70 #[] ((w.alloc (.cells (chip5 nm 5 b z (.slice da ld.length dc)) 24)).alloc (.cells #[.slice none 0 0, .slice none 0 0] 27)) (fun e w' => ∃ u, e = .returned u ∧ memR w' u NS BS ∧ Below ((w.alloc (.cells (chip5 nm 5 b z (.slice da ld.length dc)) 24)).alloc (.cells #[.slice none 0 0, .slice none 0 0] 27)).heap.size ((w.alloc (.cells (chip5 nm 5 b z (.slice da ld.length dc)) 24)).alloc (.cells #[.slice none 0 0, .slice none 0 0] 27)) w') := by
    refine ⟨_, _, rfl, rfl, (srNew_any _).mono ?_⟩
    rintro e w' ⟨u, rfl, hu, hb⟩
    exact ⟨u, rfl, hu.mem (by show (8 : Nat) ≤ 9223372036854775807; decide), hb⟩
  obtain ⟨NS, BS, e1, e2, hf⟩ := hf
  rw [← e1, ← e2]
  clear e1 e2 hm hL
  dsimp only [chip5] at *
  have k0 : rowB _ _ _ _ := k0
  have k2 : rowB _ _ _ _ := k2
  obtain ⟨c0, c1, c2, c3, c4⟩ := ccells k0
  go_enter Tryz.func26, Tryz.ntmps26
  go_wp2_with (first
    | (go_at_call 70; refine hf.mono ?_; rintro e w2 ⟨u, rfl, hu, hb⟩; obtain ⟨a2, c2', p2, d2, rfl, u1, u2⟩ := hu.open; have t2 := rowB_below k2 hb (rowB_lt k2); have bY := bW.trans (hb.mono bW.size))
    | (refine wpList_storeR rfl 27 _ _ rfl (w.heap.size + 1) rfl #[.slice a2 NS.length c2', .slice p2 BS.length d2] rfl (dev2_one _ _ _ _ _ _) 27 #[.slice none 0 0, .slice none 0 0] rfl ?_ agDv ?_; with_reducible exact t2))
  refine bodyPost_ret (resultsR rfl (w.heap.size + 1) _ rfl (rowB_row t2 _) agDv) rfl ?_
  exact ⟨_, rfl, memR.box t2 u1 u2 _, below_rowR bY _ (by omega)⟩
set_option maxHeartbeats 1000000 in
theorem chNew6_any (nm : ByteArray) (b z : Int) (vd : Value) (ld : List Int) (w : World) (hm : isByt w vd ld) (hL : ld.length ≤ 140737488351232) :
    Calls Tryz.prog 26 #[.agg (chip5 nm 6 b z vd)] w fun e w' => ∃ u, e = .returned u ∧ memR w' u [2559, 0] zeros32 ∧ Below w.heap.size w w' := by
  obtain ⟨da, dc, rfl, _⟩ := isByt_form hm
  obtain ⟨k0, k2, bW, sW⟩ := boxes2 w (.cells (chip5 nm 6 b z (.slice da ld.length dc)) 24) (.cells #[.slice none 0 0, .slice none 0 0] 27)
  have hf : ∃ NS BS, NS = [2559, 0] ∧ BS = zeros32 ∧ Calls Tryz.prog 71 #[] ((w.alloc (.cells (chip5 nm 6 b z (.slice da ld.length dc)) 24)).alloc (.cells #[.slice none 0 0, .slice none 0 0] 27)) (fun e w' => ∃ u, e = .returned u ∧ memR w' u NS BS ∧ Below ((w.alloc (.cells (chip5 nm 6 b z (.slice da ld.length dc)) 24)).alloc (.cells #[.slice none 0 0, .slice none 0 0] 27)).heap.size ((w.alloc (.cells (chip5 nm 6 b z (.slice da ld.length dc)) 24)).alloc (.cells #[.slice none 0 0, .slice none 0 0] 27)) w') := by
    refine ⟨_, _, rfl, rfl, (vidNew_any _).mono ?_⟩
    rintro e w' ⟨u, rfl, hu, hb⟩
    exact ⟨u, rfl, hu.mem (by exact ⟨⟨by decide, by decide⟩, ⟨by decide, by decide⟩, by decide, fun i => Vd.reg_bd (by decide) i⟩), hb⟩
  obtain ⟨NS, BS, e1, e2, hf⟩ := hf
  rw [← e1, ← e2]
  clear e1 e2 hm hL
  dsimp only [chip5] at *
  have k0 : rowB _ _ _ _ := k0
  have k2 : rowB _ _ _ _ := k2
  obtain ⟨c0, c1, c2, c3, c4⟩ := ccells k0
  go_enter Tryz.func26, Tryz.ntmps26
  go_wp2_with (first
    | (go_at_call 71; refine hf.mono ?_; rintro e w2 ⟨u, rfl, hu, hb⟩; obtain ⟨a2, c2', p2, d2, rfl, u1, u2⟩ := hu.open; have t2 := rowB_below k2 hb (rowB_lt k2); have bY := bW.trans (hb.mono bW.size))
    | (refine wpList_storeR rfl 27 _ _ rfl (w.heap.size + 1) rfl #[.slice a2 NS.length c2', .slice p2 BS.length d2] rfl (dev2_one _ _ _ _ _ _) 27 #[.slice none 0 0, .slice none 0 0] rfl ?_ agDv ?_; with_reducible exact t2))
  refine bodyPost_ret (resultsR rfl (w.heap.size + 1) _ rfl (rowB_row t2 _) agDv) rfl ?_
  exact ⟨_, rfl, memR.box t2 u1 u2 _, below_rowR bY _ (by omega)⟩
set_option maxHeartbeats 1000000 in
theorem chNew7_any (nm : ByteArray) (b z : Int) (vd : Value) (ld : List Int) (w : World) (hm : isByt w vd ld) (hL : ld.length ≤ 140737488351232) :
    Calls Tryz.prog 26 #[.agg (chip5 nm 7 b z vd)] w fun e w' => ∃ u, e = .returned u ∧ memR w' u [0, 0, 0, 0, 0, 0, 0, 0, 0, 0, 0, 0] [] ∧ Below w.heap.size w w' := by
  obtain ⟨da, dc, rfl, _⟩ := isByt_form hm
  obtain ⟨k0, k2, bW, sW⟩ := boxes2 w (.cells (chip5 nm 7 b z (.slice da ld.length dc)) 24) (.cells #[.slice none 0 0, .slice none 0 0] 27)
  have hf : ∃ NS BS, NS = [0, 0, 0, 0, 0, 0, 0, 0, 0, 0, 0, 0] ∧ BS = [] ∧ Calls Tryz.prog 72 #[] ((w.alloc (.cells (chip5 nm 7 b z (.slice da ld.length dc)) 24)).alloc (.cells #[.slice none 0 0, .slice none 0 0] 27)) (fun e w' => ∃ u, e = .returned u ∧ memR w' u NS BS ∧ Below ((w.alloc (.cells (chip5 nm 7 b z (.slice da ld.length dc)) 24)).alloc (.cells #[.slice none 0 0, .slice none 0 0] 27)).heap.size ((w.alloc (.cells (chip5 nm 7 b z (.slice da ld.length dc)) 24)).alloc (.cells #[.slice none 0 0, .slice none 0 0] 27)) w') := by
    refine ⟨_, _, rfl, rfl, (sndNew_any _).mono ?_⟩
    rintro e w' ⟨u, rfl, hu, hb⟩
    exact ⟨u, rfl, hu.mem (by show (12 : Nat) ≤ 9223372036854775807; decide), hb⟩
  obtain ⟨NS, BS, e1, e2, hf⟩ := hf
  rw [← e1, ← e2]
  clear e1 e2 hm hL
  dsimp only [chip5] at *
  have k0 : rowB _ _ _ _ := k0
  have k2 : rowB _ _ _ _ := k2
  obtain ⟨c0, c1, c2, c3, c4⟩ := ccells k0
  go_enter Tryz.func26, Tryz.ntmps26
  go_wp2_with (first
    | (go_at_call 72; refine hf.mono ?_; rintro e w2 ⟨u, rfl, hu, hb⟩; obtain ⟨a2, c2', p2, d2, rfl, u1, u2⟩ := hu.open; have t2 := rowB_below k2 hb (rowB_lt k2); have bY := bW.trans (hb.mono bW.size))
    | (refine wpList_storeR rfl 27 _ _ rfl (w.heap.size + 1) rfl #[.slice a2 NS.length c2', .slice p2 BS.length d2] rfl (dev2_one _ _ _ _ _ _) 27 #[.slice none 0 0, .slice none 0 0] rfl ?_ agDv ?_; with_reducible exact t2))
  refine bodyPost_ret (resultsR rfl (w.heap.size + 1) _ rfl (rowB_row t2 _) agDv) rfl ?_
  exact ⟨_, rfl, memR.box t2 u1 u2 _, below_rowR bY _ (by omega)⟩
set_option maxHeartbeats 1000000 in
theorem chNew8_any (nm : ByteArray) (b z : Int) (vd : Value) (ld : List Int) (w : World) (hm : isByt w vd ld) (hL : ld.length ≤ 140737488351232) :
    Calls Tryz.prog 26 #[.agg (chip5 nm 8 b z vd)] w fun e w' => ∃ u, e = .returned u ∧ memR w' u (Dr.of [] ld).ns (Dr.of [] ld).m ∧ Below w.heap.size w w' := by
  obtain ⟨da, dc, rfl, _⟩ := isByt_form hm
  obtain ⟨k0, k2, bW, sW⟩ := boxes2 w (.cells (chip5 nm 8 b z (.slice da ld.length dc)) 24) (.cells #[.slice none 0 0, .slice none 0 0] 27)
  have hf : ∃ NS BS, NS = (Dr.of [] ld).ns ∧ BS = (Dr.of [] ld).m ∧ Calls Tryz.prog 73 #[.slice da ld.length dc] ((w.alloc (.cells (chip5 nm 8 b z (.slice da ld.length dc)) 24)).alloc (.cells #[.slice none 0 0, .slice none 0 0] 27)) (fun e w' => ∃ u, e = .returned u ∧ memR w' u NS BS ∧ Below ((w.alloc (.cells (chip5 nm 8 b z (.slice da ld.length dc)) 24)).alloc (.cells #[.slice none 0 0, .slice none 0 0] 27)).heap.size ((w.alloc (.cells (chip5 nm 8 b z (.slice da ld.length dc)) 24)).alloc (.cells #[.slice none 0 0, .slice none 0 0] 27)) w') := by
    refine ⟨_, _, rfl, rfl, (drvNew_any _ ld _ (isByt_below hm bW (Nat.le_refl _)) hL).mono ?_⟩
    rintro e w' ⟨u, rfl, hu, hb⟩
    exact ⟨u, rfl, hu.mem, hb⟩
  obtain ⟨NS, BS, e1, e2, hf⟩ := hf
  rw [← e1, ← e2]
  clear e1 e2 hm hL
  dsimp only [chip5] at *
  have k0 : rowB _ _ _ _ := k0
  have k2 : rowB _ _ _ _ := k2
  obtain ⟨c0, c1, c2, c3, c4⟩ := ccells k0
  go_enter Tryz.func26, Tryz.ntmps26
  go_wp2_with (first
    | (go_at_call 73; refine hf.mono ?_; rintro e w2 ⟨u, rfl, hu, hb⟩; obtain ⟨a2, c2', p2, d2, rfl, u1, u2⟩ := hu.open; have t2 := rowB_below k2 hb (rowB_lt k2); have bY := bW.trans (hb.mono bW.size))
    | (refine wpList_storeR rfl 27 _ _ rfl (w.heap.size + 1) rfl #[.slice a2 NS.length c2', .slice p2 BS.length d2] rfl (dev2_one _ _ _ _ _ _) 27 #[.slice none 0 0, .slice none 0 0] rfl ?_ agDv ?_; with_reducible exact t2))
  refine bodyPost_ret (resultsR rfl (w.heap.size + 1) _ rfl (rowB_row t2 _) agDv) rfl ?_
  exact ⟨_, rfl, memR.box t2 u1 u2 _, below_rowR bY _ (by omega)⟩
set_option maxHeartbeats 1000000 in
theorem chNewN_any (nm : ByteArray) (k b z : Int) (dat : Value) (hk : k < 0 ∨ 8 < k) (w : World) :
    Calls Tryz.prog 26 #[.agg (chip5 nm k b z dat)] w fun e w' => ∃ u, e = .returned u ∧ memR w' u [] [] ∧ Below w.heap.size w w' := by
  have q0 : (k == 0) = false := beq_eq_false_iff_ne.2 (by omega)
  have q1 : (k == 1) = false := beq_eq_false_iff_ne.2 (by omega)
  have q2 : (k == 2) = false := beq_eq_false_iff_ne.2 (by omega)
  have q3 : (k == 3) = false := beq_eq_false_iff_ne.2 (by omega)
  have q4 : (k == 4) = false := beq_eq_false_iff_ne.2 (by omega)
  have q5 : (k == 5) = false := beq_eq_false_iff_ne.2 (by omega)
  have q6 : (k == 6) = false := beq_eq_false_iff_ne.2 (by omega)
  have q7 : (k == 7) = false := beq_eq_false_iff_ne.2 (by omega)
  have q8 : (k == 8) = false := beq_eq_false_iff_ne.2 (by omega)
  clear hk
  dsimp only [chip5]
  obtain ⟨k0, k2, bW, sW⟩ := boxes2 w (.cells #[.string nm, .int .i64 k, .int .i64 b, .int .i64 z, dat] 24) (.cells #[.slice none 0 0, .slice none 0 0] 27)
  have k0 : rowB _ _ _ _ := k0
  have k2 : rowB _ _ _ _ := k2
  obtain ⟨c0, c1, c2, c3, c4⟩ := ccells k0
  go_enter Tryz.func26, Tryz.ntmps26
  go_wp2_with (refine wpList_storeR rfl 27 _ _ rfl (w.heap.size + 1) rfl #[.slice none 0 0, .slice none 0 0] rfl (dev2_one _ _ _ _ _ _) 27 #[.slice none 0 0, .slice none 0 0] rfl ?_ agDv ?_; with_reducible exact k2)
  refine bodyPost_ret (resultsR rfl (w.heap.size + 1) _ rfl (rowB_row k2 _) agDv) rfl ?_
  exact ⟨_, rfl, ⟨_, _, rfl, .inl ⟨none, 0, rfl, rfl⟩, .inl ⟨none, 0, rfl, rfl⟩⟩, below_rowR bW _ (by omega)⟩
theorem chNew_any (nm : ByteArray) (k b z : Int) (vd : Value) (ld : List Int) (w : World) (hm : isByt w vd ld) (hL : ld.length ≤ 140737488351232) (hz : -9223372036854775808 ≤ z ∧ z ≤ 9223372036854775807) :
    Calls Tryz.prog 26 #[.agg (chip5 nm k b z vd)] w fun e w' => ∃ u, e = .returned u ∧ memR w' u (nwNs k z ld) (nwBs k z ld) ∧ Below w.heap.size w w' := by
  rcases (by omega : k = 0 ∨ k = 1 ∨ k = 2 ∨ k = 3 ∨ k = 4 ∨ k = 5 ∨ k = 6 ∨ k = 7 ∨ k = 8 ∨ (k < 0 ∨ 8 < k)) with rfl | rfl | rfl | rfl | rfl | rfl | rfl | rfl | rfl | hk
  · rw [nwNs_not 0 z ld (by decide), nwBs_not 0 z ld (by decide), memNs_of (by decide), memBs_of (by decide), if_neg (by decide)]
    exact chNew0_any nm b z vd ld w hm hL hz
  · rw [nwNs_not 1 z ld (by decide), nwBs_not 1 z ld (by decide), memNs_of (by decide), memBs_of (by decide), if_neg (by decide)]
    exact chNew1_any nm b z vd ld w hm hL hz
  · rw [nwNs_not 2 z ld (by decide), nwBs_not 2 z ld (by decide), memNs_of (by decide), memBs_of (by decide), if_pos rfl]
    exact chNew2_any nm b z vd ld w hm hL hz
  · rw [nwNs3, nwBs_not 3 z ld (by decide), memBs_chip (by decide)]
    exact chNew3_any nm b z vd ld w hm hL
  · rw [nwNs4, nwBs_not 4 z ld (by decide), memBs_chip (by decide)]
    exact chNew4_any nm b z vd ld w hm hL
  · rw [nwNs5, nwBs_not 5 z ld (by decide), memBs_chip (by decide)]
    exact chNew5_any nm b z vd ld w hm hL
  · rw [nwNs6, nwBs6]
    exact chNew6_any nm b z vd ld w hm hL
  · rw [nwNs7, nwBs_not 7 z ld (by decide), memBs_chip (by decide)]
    exact chNew7_any nm b z vd ld w hm hL
  · rw [nwNs8, nwBs8]
    exact chNew8_any nm b z vd ld w hm hL
  · rw [nwNs_not k z ld (by omega), nwBs_not k z ld (by omega), (memSt_none hk z _ _ ld).1, (memSt_none hk z _ [] ld).2]
    exact chNewN_any nm k b z vd hk w
end Go.Proofs.YtakaebjojgeehaaGreat
