/- A part of the proof of ChipBanks: ChNw. -/
import Derived.Test.YtakaebjojgeehaaChipBanksK01
import Derived.Test.YtakaebjojgeehaaChipBanksK02
import Derived.Test.YtakaebjojgeehaaChipBanksK03
import Derived.Test.YtakaebjojgeehaaChipBanksK04
import Derived.Test.YtakaebjojgeehaaChipBanksK05
import Derived.Test.YtakaebjojgeehaaChipBanksK06
import Derived.Test.YtakaebjojgeehaaChipBanksK07
import Derived.Test.YtakaebjojgeehaaChipBanksK08
import Derived.Test.YtakaebjojgeehaaChipBanksK09
import Derived.Test.YtakaebjojgeehaaChipBanksK10
import Derived.Test.YtakaebjojgeehaaChipBanksK11
import Derived.Test.YtakaebjojgeehaaChipBanksK15
import Derived.Test.YtakaebjojgeehaaChipBanksK16
import Derived.Test.YtakaebjojgeehaaChipBanksK17
import Derived.Test.YtakaebjojgeehaaChipBanksK18
import Derived.Test.YtakaebjojgeehaaChipBanksK19
import Derived.Test.YtakaebjojgeehaaChipBanksK20
import Derived.Test.YtakaebjojgeehaaChipBanksK21
import Derived.Test.YtakaebjojgeehaaChipBanksK22
import Derived.Test.YtakaebjojgeehaaChipBanksK23
import Derived.Test.YtakaebjojgeehaaChipBanksK24
import Derived.Test.YtakaebjojgeehaaChipBanksK25
import Derived.Test.YtakaebjojgeehaaChipBanksK26
import Derived.Test.YtakaebjojgeehaaChipBanksK27
import Derived.Test.YtakaebjojgeehaaChipBanksK28
import Derived.Test.YtakaebjojgeehaaChipBanksK29
import Derived.Test.YtakaebjojgeehaaChipBanksK30
import Derived.Test.YtakaebjojgeehaaChipBanksK31
import Derived.Test.YtakaebjojgeehaaChipBanksK32
import Derived.Test.YtakaebjojgeehaaChipBanksK33
import Derived.Test.YtakaebjojgeehaaChipBanksK34
import Derived.Test.YtakaebjojgeehaaChipBanksK35
import Derived.Test.YtakaebjojgeehaaChipBanksK36
import Derived.Test.YtakaebjojgeehaaChipBanksK37
import Derived.Test.YtakaebjojgeehaaChipBanksK38
import Derived.Test.YtakaebjojgeehaaChipBanksK39
import Derived.Test.YtakaebjojgeehaaChipBanksK40
import Derived.Test.YtakaebjojgeehaaChipBanksK41
import Derived.Test.YtakaebjojgeehaaChipBanksK42
import Derived.Test.YtakaebjojgeehaaChipBanksK43
import Derived.Test.YtakaebjojgeehaaChipBanksK44
import Derived.Test.YtakaebjojgeehaaChipBanksK45
import Derived.Test.YtakaebjojgeehaaChipBanksK46
import Derived.Test.YtakaebjojgeehaaChipBanksK47
import Derived.Test.YtakaebjojgeehaaChipBanksK48
import Derived.Test.YtakaebjojgeehaaChipBanksK49
import Derived.Below
import Derived.BigQuiet
import Derived.ChangeMaps5
import Derived.Deep.AppendSrc
import Derived.Deep.DeepAppendWide
import Derived.Deep.DeepCutAuto
import Derived.Deep.Draws
import Derived.Deep.MidRow
import Derived.Deep.OwnRows
import Derived.Deep.QuietTactic
import Derived.Deep.RegionHeld3
import Derived.Deep.RegionWith
import Derived.Deep.Slices
import Derived.Deep.WholeRow
import Derived.Laws.CopyOwn
import Derived.Laws.OwnMore
import Derived.Lib.Hide
import Derived.Lib.SmallJoins
import Derived.Maps.AppendAt
import Derived.OpenShut
import Derived.OrdersHeld
import Derived.OwnWalk
import Derived.RowKit3
import Derived.Shelf.Abstract
import Derived.StillTactics
import Derived.StillTail
import Derived.StillTailTactics
import Derived.Test.YtakaebjojgeehaaChecked
import Derived.WalkKit
namespace Go.Proofs.Ytakaebjojgeehaa
open Go.RowKit
set_option maxRecDepth 100000
set_option linter.unusedVariables false
set_option maxHeartbeats 1000000 in
theorem chNew0_any (nm : ByteArray) (b z : Int) (vd : Value) (ld : List Int) (w : World) (hm : isByt w vd ld) (hL : ld.length ≤ 140737488351232) (hz : -9223372036854775808 ≤ z ∧ z ≤ 9223372036854775807) :
    Calls Try.prog 11 #[.agg (chip5 nm 0 b z vd)] w fun e w' => ∃ u, e = .returned u ∧ memR w' u [] (pad (memSize 0 z ld.length) ld) ∧ Below w.heap.size w w' := by
  obtain ⟨da, dc, rfl, _⟩ := isByt_form hm
  obtain ⟨k0, k2, bW, sW⟩ := boxes2 w (.cells (chip5 nm 0 b z (.slice da ld.length dc)) 24) (.cells #[.slice none 0 0, .slice none 0 0] 34)
  have hload := mmLoad_any nm 0 b z da ld.length dc _ _ [] ld _ (isArg_none _) (isByt_below hm bW (Nat.le_refl _)) (fun x hx => by cases hx) hL hz
  dsimp only [chip5] at *
  have k0 : rowB _ _ _ _ := k0
  have k2 : rowB _ _ _ _ := k2
  generalize bankOf 0 z ld.length [] = BK at *
  generalize pad (memSize 0 z ld.length) ld = BS at *
  obtain ⟨NS, hNS⟩ : ∃ NS : List Int, [] = NS := ⟨_, rfl⟩
  rw [hNS]
  have HNS := Lib.hid hNS
  clear hNS hm hz
  obtain ⟨c0, c1, c2, c3, c4⟩ := ccells k0
  go_enter Try.func11, Try.ntmps11
  go_wp2_with (first
    | (refine wpList_loadR rfl 24 _ rfl w.heap.size rfl 24 #[.string nm, .int .i64 0, .int .i64 b, .int .i64 z, .slice da ld.length dc] ?_ agCh ?_; with_reducible exact k0)
    | (go_at_call 26; refine hload.mono ?_; rintro e w2 ⟨y, q, rfl, hst, hb⟩; have t1 := rowB_below k2 hb (rowB_lt k2); have b1 := bW.trans (hb.mono bW.size))
    | (go_at_call 27; refine (mmDevF_any hst hL (by decide)).mono ?_; rintro e w5 ⟨u, rfl, hu, hb5⟩; rw [HNS.out] at hu; obtain ⟨a2, c2', p2, d2, rfl, u1, u2⟩ := hu.open; have t2 := rowB_below t1 hb5 (rowB_lt t1); have bY := b1.trans (hb5.mono b1.size))
    | (refine wpList_storeR rfl 34 _ _ rfl (w.heap.size + 1) rfl #[.slice a2 NS.length c2', .slice p2 BS.length d2] rfl (dev2_one _ _ _ _ _ _) 34 #[.slice none 0 0, .slice none 0 0] rfl ?_ agDv ?_; with_reducible exact t2))
  refine bodyPost_ret (resultsR rfl (w.heap.size + 1) _ rfl (rowB_row t2 _) agDv) rfl ?_
  exact ⟨_, rfl, memR.box t2 u1 u2 _, below_rowR bY _ (by omega)⟩
set_option maxHeartbeats 1000000 in
theorem chNew1_any (nm : ByteArray) (b z : Int) (vd : Value) (ld : List Int) (w : World) (hm : isByt w vd ld) (hL : ld.length ≤ 140737488351232) (hz : -9223372036854775808 ≤ z ∧ z ≤ 9223372036854775807) :
    Calls Try.prog 11 #[.agg (chip5 nm 1 b z vd)] w fun e w' => ∃ u, e = .returned u ∧ memR w' u [] (pad (memSize 1 z ld.length) ld) ∧ Below w.heap.size w w' := by
  obtain ⟨da, dc, rfl, _⟩ := isByt_form hm
  obtain ⟨k0, k2, bW, sW⟩ := boxes2 w (.cells (chip5 nm 1 b z (.slice da ld.length dc)) 24) (.cells #[.slice none 0 0, .slice none 0 0] 34)
  have hload := mmLoad_any nm 1 b z da ld.length dc _ _ [] ld _ (isArg_none _) (isByt_below hm bW (Nat.le_refl _)) (fun x hx => by cases hx) hL hz
  dsimp only [chip5] at *
  have k0 : rowB _ _ _ _ := k0
  have k2 : rowB _ _ _ _ := k2
  generalize bankOf 1 z ld.length [] = BK at *
  generalize pad (memSize 1 z ld.length) ld = BS at *
  obtain ⟨NS, hNS⟩ : ∃ NS : List Int, [] = NS := ⟨_, rfl⟩
  rw [hNS]
  have HNS := Lib.hid hNS
  clear hNS hm hz
  obtain ⟨c0, c1, c2, c3, c4⟩ := ccells k0
  go_enter Try.func11, Try.ntmps11
  go_wp2_with (first
    | (refine wpList_loadR rfl 24 _ rfl w.heap.size rfl 24 #[.string nm, .int .i64 1, .int .i64 b, .int .i64 z, .slice da ld.length dc] ?_ agCh ?_; with_reducible exact k0)
    | (go_at_call 26; refine hload.mono ?_; rintro e w2 ⟨y, q, rfl, hst, hb⟩; have t1 := rowB_below k2 hb (rowB_lt k2); have b1 := bW.trans (hb.mono bW.size))
    | (go_at_call 27; refine (mmDevF_any hst hL (by decide)).mono ?_; rintro e w5 ⟨u, rfl, hu, hb5⟩; rw [HNS.out] at hu; obtain ⟨a2, c2', p2, d2, rfl, u1, u2⟩ := hu.open; have t2 := rowB_below t1 hb5 (rowB_lt t1); have bY := b1.trans (hb5.mono b1.size))
    | (refine wpList_storeR rfl 34 _ _ rfl (w.heap.size + 1) rfl #[.slice a2 NS.length c2', .slice p2 BS.length d2] rfl (dev2_one _ _ _ _ _ _) 34 #[.slice none 0 0, .slice none 0 0] rfl ?_ agDv ?_; with_reducible exact t2))
  refine bodyPost_ret (resultsR rfl (w.heap.size + 1) _ rfl (rowB_row t2 _) agDv) rfl ?_
  exact ⟨_, rfl, memR.box t2 u1 u2 _, below_rowR bY _ (by omega)⟩
set_option maxHeartbeats 1000000 in
theorem chNew2_any (nm : ByteArray) (b z : Int) (vd : Value) (ld : List Int) (w : World) (hm : isByt w vd ld) (hL : ld.length ≤ 140737488351232) (hz : -9223372036854775808 ≤ z ∧ z ≤ 9223372036854775807) :
    Calls Try.prog 11 #[.agg (chip5 nm 2 b z vd)] w fun e w' => ∃ u, e = .returned u ∧ memR w' u [bankOf 2 z ld.length []] (pad (memSize 2 z ld.length) ld) ∧ Below w.heap.size w w' := by
  obtain ⟨da, dc, rfl, _⟩ := isByt_form hm
  obtain ⟨k0, k2, bW, sW⟩ := boxes2 w (.cells (chip5 nm 2 b z (.slice da ld.length dc)) 24) (.cells #[.slice none 0 0, .slice none 0 0] 34)
  have hload := mmLoad_any nm 2 b z da ld.length dc _ _ [] ld _ (isArg_none _) (isByt_below hm bW (Nat.le_refl _)) (fun x hx => by cases hx) hL hz
  dsimp only [chip5] at *
  have k0 : rowB _ _ _ _ := k0
  have k2 : rowB _ _ _ _ := k2
  generalize bankOf 2 z ld.length [] = BK at *
  generalize pad (memSize 2 z ld.length) ld = BS at *
  obtain ⟨NS, hNS⟩ : ∃ NS : List Int, [BK] = NS := ⟨_, rfl⟩
  rw [hNS]
  have HNS := Lib.hid hNS
  clear hNS hm hz
  obtain ⟨c0, c1, c2, c3, c4⟩ := ccells k0
  go_enter Try.func11, Try.ntmps11
  go_wp2_with (first
    | (refine wpList_loadR rfl 24 _ rfl w.heap.size rfl 24 #[.string nm, .int .i64 2, .int .i64 b, .int .i64 z, .slice da ld.length dc] ?_ agCh ?_; with_reducible exact k0)
    | (go_at_call 26; refine hload.mono ?_; rintro e w2 ⟨y, q, rfl, hst, hb⟩; have t1 := rowB_below k2 hb (rowB_lt k2); have b1 := bW.trans (hb.mono bW.size))
    | (go_at_call 27; refine (mmDevT_any hst hL).mono ?_; rintro e w5 ⟨u, rfl, hu, hb5⟩; rw [HNS.out] at hu; obtain ⟨a2, c2', p2, d2, rfl, u1, u2⟩ := hu.open; have t2 := rowB_below t1 hb5 (rowB_lt t1); have bY := b1.trans (hb5.mono b1.size))
    | (refine wpList_storeR rfl 34 _ _ rfl (w.heap.size + 1) rfl #[.slice a2 NS.length c2', .slice p2 BS.length d2] rfl (dev2_one _ _ _ _ _ _) 34 #[.slice none 0 0, .slice none 0 0] rfl ?_ agDv ?_; with_reducible exact t2))
  refine bodyPost_ret (resultsR rfl (w.heap.size + 1) _ rfl (rowB_row t2 _) agDv) rfl ?_
  exact ⟨_, rfl, memR.box t2 u1 u2 _, below_rowR bY _ (by omega)⟩
set_option maxHeartbeats 1000000 in
theorem chNew3_any (nm : ByteArray) (b z : Int) (vd : Value) (ld : List Int) (w : World) (hm : isByt w vd ld) (hL : ld.length ≤ 140737488351232) :
    Calls Try.prog 11 #[.agg (chip5 nm 3 b z vd)] w fun e w' => ∃ u, e = .returned u ∧ memR w' u [0, 0, 0, 0] [] ∧ Below w.heap.size w w' := by
  obtain ⟨da, dc, rfl, _⟩ := isByt_form hm
  obtain ⟨k0, k2, bW, sW⟩ := boxes2 w (.cells (chip5 nm 3 b z (.slice da ld.length dc)) 24) (.cells #[.slice none 0 0, .slice none 0 0] 34)
  have hf : ∃ NS BS, NS = [0, 0, 0, 0] ∧ BS = [] ∧ Calls Try.prog 28 #[] ((w.alloc (.cells (chip5 nm 3 b z (.slice da ld.length dc)) 24)).alloc (.cells #[.slice none 0 0, .slice none 0 0] 34)) (fun e w' => ∃ u, e = .returned u ∧ memR w' u NS BS ∧ Below ((w.alloc (.cells (chip5 nm 3 b z (.slice da ld.length dc)) 24)).alloc (.cells #[.slice none 0 0, .slice none 0 0] 34)).heap.size ((w.alloc (.cells (chip5 nm 3 b z (.slice da ld.length dc)) 24)).alloc (.cells #[.slice none 0 0, .slice none 0 0] 34)) w') := by
    refine ⟨_, _, rfl, rfl, (tmNew_any _).mono ?_⟩
    rintro e w' ⟨u, rfl, hu, hb⟩
    exact ⟨u, rfl, hu.mem (by show (4 : Nat) ≤ 9223372036854775807; decide), hb⟩
  obtain ⟨NS, BS, e1, e2, hf⟩ := hf
  rw [← e1, ← e2]
  clear e1 e2 hm hL
  dsimp only [chip5] at *
  have k0 : rowB _ _ _ _ := k0
  have k2 : rowB _ _ _ _ := k2
  obtain ⟨c0, c1, c2, c3, c4⟩ := ccells k0
  go_enter Try.func11, Try.ntmps11
  go_wp2_with (first
    | (go_at_call 28; refine hf.mono ?_; rintro e w2 ⟨u, rfl, hu, hb⟩; obtain ⟨a2, c2', p2, d2, rfl, u1, u2⟩ := hu.open; have t2 := rowB_below k2 hb (rowB_lt k2); have bY := bW.trans (hb.mono bW.size))
    | (refine wpList_storeR rfl 34 _ _ rfl (w.heap.size + 1) rfl #[.slice a2 NS.length c2', .slice p2 BS.length d2] rfl (dev2_one _ _ _ _ _ _) 34 #[.slice none 0 0, .slice none 0 0] rfl ?_ agDv ?_; with_reducible exact t2))
  refine bodyPost_ret (resultsR rfl (w.heap.size + 1) _ rfl (rowB_row t2 _) agDv) rfl ?_
  exact ⟨_, rfl, memR.box t2 u1 u2 _, below_rowR bY _ (by omega)⟩
set_option maxHeartbeats 1000000 in
theorem chNew4_any (nm : ByteArray) (b z : Int) (vd : Value) (ld : List Int) (w : World) (hm : isByt w vd ld) (hL : ld.length ≤ 140737488351232) :
    Calls Try.prog 11 #[.agg (chip5 nm 4 b z vd)] w fun e w' => ∃ u, e = .returned u ∧ memR w' u [255, 0, 0] [] ∧ Below w.heap.size w w' := by
  obtain ⟨da, dc, rfl, _⟩ := isByt_form hm
  obtain ⟨k0, k2, bW, sW⟩ := boxes2 w (.cells (chip5 nm 4 b z (.slice da ld.length dc)) 24) (.cells #[.slice none 0 0, .slice none 0 0] 34)
  have hf : ∃ NS BS, NS = [255, 0, 0] ∧ BS = [] ∧ Calls Try.prog 29 #[] ((w.alloc (.cells (chip5 nm 4 b z (.slice da ld.length dc)) 24)).alloc (.cells #[.slice none 0 0, .slice none 0 0] 34)) (fun e w' => ∃ u, e = .returned u ∧ memR w' u NS BS ∧ Below ((w.alloc (.cells (chip5 nm 4 b z (.slice da ld.length dc)) 24)).alloc (.cells #[.slice none 0 0, .slice none 0 0] 34)).heap.size ((w.alloc (.cells (chip5 nm 4 b z (.slice da ld.length dc)) 24)).alloc (.cells #[.slice none 0 0, .slice none 0 0] 34)) w') := by
    refine ⟨_, _, rfl, rfl, (ptNew_any _).mono ?_⟩
    rintro e w' ⟨u, rfl, hu, hb⟩
    exact ⟨u, rfl, hu.mem (by show (3 : Nat) ≤ 9223372036854775807; decide), hb⟩
  obtain ⟨NS, BS, e1, e2, hf⟩ := hf
  rw [← e1, ← e2]
  clear e1 e2 hm hL
  dsimp only [chip5] at *
  have k0 : rowB _ _ _ _ := k0
  have k2 : rowB _ _ _ _ := k2
  obtain ⟨c0, c1, c2, c3, c4⟩ := ccells k0
  go_enter Try.func11, Try.ntmps11
  go_wp2_with (first
    | (go_at_call 29; refine hf.mono ?_; rintro e w2 ⟨u, rfl, hu, hb⟩; obtain ⟨a2, c2', p2, d2, rfl, u1, u2⟩ := hu.open; have t2 := rowB_below k2 hb (rowB_lt k2); have bY := bW.trans (hb.mono bW.size))
    | (refine wpList_storeR rfl 34 _ _ rfl (w.heap.size + 1) rfl #[.slice a2 NS.length c2', .slice p2 BS.length d2] rfl (dev2_one _ _ _ _ _ _) 34 #[.slice none 0 0, .slice none 0 0] rfl ?_ agDv ?_; with_reducible exact t2))
  refine bodyPost_ret (resultsR rfl (w.heap.size + 1) _ rfl (rowB_row t2 _) agDv) rfl ?_
  exact ⟨_, rfl, memR.box t2 u1 u2 _, below_rowR bY _ (by omega)⟩
set_option maxHeartbeats 1000000 in
theorem chNew5_any (nm : ByteArray) (b z : Int) (vd : Value) (ld : List Int) (w : World) (hm : isByt w vd ld) (hL : ld.length ≤ 140737488351232) :
    Calls Try.prog 11 #[.agg (chip5 nm 5 b z vd)] w fun e w' => ∃ u, e = .returned u ∧ memR w' u [0, 0, 0, 0, 0, 0, 0, 0] [] ∧ Below w.heap.size w w' := by
  obtain ⟨da, dc, rfl, _⟩ := isByt_form hm
  obtain ⟨k0, k2, bW, sW⟩ := boxes2 w (.cells (chip5 nm 5 b z (.slice da ld.length dc)) 24) (.cells #[.slice none 0 0, .slice none 0 0] 34)
  have hf : ∃ NS BS, NS = [0, 0, 0, 0, 0, 0, 0, 0] ∧ BS = [] ∧ Calls Try.prog 30 #[] ((w.alloc (.cells (chip5 nm 5 b z (.slice da ld.length dc)) 24)).alloc (.cells #[.slice none 0 0, .slice none 0 0] 34)) (fun e w' => ∃ u, e = .returned u ∧ memR w' u NS BS ∧ Below ((w.alloc (.cells (chip5 nm 5 b z (.slice da ld.length dc)) 24)).alloc (.cells #[.slice none 0 0, .slice none 0 0] 34)).heap.size ((w.alloc (.cells (chip5 nm 5 b z (.slice da ld.length dc)) 24)).alloc (.cells #[.slice none 0 0, .slice none 0 0] 34)) w') := by
    refine ⟨_, _, rfl, rfl, (srNew_any _).mono ?_⟩
    rintro e w' ⟨u, rfl, hu, hb⟩
    exact ⟨u, rfl, hu.mem (by show (8 : Nat) ≤ 9223372036854775807; decide), hb⟩
  obtain ⟨NS, BS, e1, e2, hf⟩ := hf
  rw [← e1, ← e2]
  clear e1 e2 hm hL
  dsimp only [chip5] at *
  have k0 : rowB _ _ _ _ := k0
  have k2 : rowB _ _ _ _ := k2
  obtain ⟨c0, c1, c2, c3, c4⟩ := ccells k0
  go_enter Try.func11, Try.ntmps11
  go_wp2_with (first
    | (go_at_call 30; refine hf.mono ?_; rintro e w2 ⟨u, rfl, hu, hb⟩; obtain ⟨a2, c2', p2, d2, rfl, u1, u2⟩ := hu.open; have t2 := rowB_below k2 hb (rowB_lt k2); have bY := bW.trans (hb.mono bW.size))
    | (refine wpList_storeR rfl 34 _ _ rfl (w.heap.size + 1) rfl #[.slice a2 NS.length c2', .slice p2 BS.length d2] rfl (dev2_one _ _ _ _ _ _) 34 #[.slice none 0 0, .slice none 0 0] rfl ?_ agDv ?_; with_reducible exact t2))
  refine bodyPost_ret (resultsR rfl (w.heap.size + 1) _ rfl (rowB_row t2 _) agDv) rfl ?_
  exact ⟨_, rfl, memR.box t2 u1 u2 _, below_rowR bY _ (by omega)⟩
set_option maxHeartbeats 1000000 in
theorem chNew6_any (nm : ByteArray) (b z : Int) (vd : Value) (ld : List Int) (w : World) (hm : isByt w vd ld) (hL : ld.length ≤ 140737488351232) :
    Calls Try.prog 11 #[.agg (chip5 nm 6 b z vd)] w fun e w' => ∃ u, e = .returned u ∧ memR w' u [2559, 0] zeros32 ∧ Below w.heap.size w w' := by
  obtain ⟨da, dc, rfl, _⟩ := isByt_form hm
  obtain ⟨k0, k2, bW, sW⟩ := boxes2 w (.cells (chip5 nm 6 b z (.slice da ld.length dc)) 24) (.cells #[.slice none 0 0, .slice none 0 0] 34)
  have hf : ∃ NS BS, NS = [2559, 0] ∧ BS = zeros32 ∧ Calls Try.prog 31 #[] ((w.alloc (.cells (chip5 nm 6 b z (.slice da ld.length dc)) 24)).alloc (.cells #[.slice none 0 0, .slice none 0 0] 34)) (fun e w' => ∃ u, e = .returned u ∧ memR w' u NS BS ∧ Below ((w.alloc (.cells (chip5 nm 6 b z (.slice da ld.length dc)) 24)).alloc (.cells #[.slice none 0 0, .slice none 0 0] 34)).heap.size ((w.alloc (.cells (chip5 nm 6 b z (.slice da ld.length dc)) 24)).alloc (.cells #[.slice none 0 0, .slice none 0 0] 34)) w') := by
    refine ⟨_, _, rfl, rfl, (vidNew_any _).mono ?_⟩
    rintro e w' ⟨u, rfl, hu, hb⟩
    exact ⟨u, rfl, hu.mem (by exact ⟨⟨by decide, by decide⟩, ⟨by decide, by decide⟩, by decide, fun i => Vd.reg_bd (by decide) i⟩), hb⟩
  obtain ⟨NS, BS, e1, e2, hf⟩ := hf
  rw [← e1, ← e2]
  clear e1 e2 hm hL
  dsimp only [chip5] at *
  have k0 : rowB _ _ _ _ := k0
  have k2 : rowB _ _ _ _ := k2
  obtain ⟨c0, c1, c2, c3, c4⟩ := ccells k0
  go_enter Try.func11, Try.ntmps11
  go_wp2_with (first
    | (go_at_call 31; refine hf.mono ?_; rintro e w2 ⟨u, rfl, hu, hb⟩; obtain ⟨a2, c2', p2, d2, rfl, u1, u2⟩ := hu.open; have t2 := rowB_below k2 hb (rowB_lt k2); have bY := bW.trans (hb.mono bW.size))
    | (refine wpList_storeR rfl 34 _ _ rfl (w.heap.size + 1) rfl #[.slice a2 NS.length c2', .slice p2 BS.length d2] rfl (dev2_one _ _ _ _ _ _) 34 #[.slice none 0 0, .slice none 0 0] rfl ?_ agDv ?_; with_reducible exact t2))
  refine bodyPost_ret (resultsR rfl (w.heap.size + 1) _ rfl (rowB_row t2 _) agDv) rfl ?_
  exact ⟨_, rfl, memR.box t2 u1 u2 _, below_rowR bY _ (by omega)⟩
set_option maxHeartbeats 1000000 in
theorem chNew7_any (nm : ByteArray) (b z : Int) (vd : Value) (ld : List Int) (w : World) (hm : isByt w vd ld) (hL : ld.length ≤ 140737488351232) :
    Calls Try.prog 11 #[.agg (chip5 nm 7 b z vd)] w fun e w' => ∃ u, e = .returned u ∧ memR w' u [0, 0, 0, 0, 0, 0, 0, 0, 0, 0, 0, 0] [] ∧ Below w.heap.size w w' := by
  obtain ⟨da, dc, rfl, _⟩ := isByt_form hm
  obtain ⟨k0, k2, bW, sW⟩ := boxes2 w (.cells (chip5 nm 7 b z (.slice da ld.length dc)) 24) (.cells #[.slice none 0 0, .slice none 0 0] 34)
  have hf : ∃ NS BS, NS = [0, 0, 0, 0, 0, 0, 0, 0, 0, 0, 0, 0] ∧ BS = [] ∧ Calls Try.prog 32 #[] ((w.alloc (.cells (chip5 nm 7 b z (.slice da ld.length dc)) 24)).alloc (.cells #[.slice none 0 0, .slice none 0 0] 34)) (fun e w' => ∃ u, e = .returned u ∧ memR w' u NS BS ∧ Below ((w.alloc (.cells (chip5 nm 7 b z (.slice da ld.length dc)) 24)).alloc (.cells #[.slice none 0 0, .slice none 0 0] 34)).heap.size ((w.alloc (.cells (chip5 nm 7 b z (.slice da ld.length dc)) 24)).alloc (.cells #[.slice none 0 0, .slice none 0 0] 34)) w') := by
    refine ⟨_, _, rfl, rfl, (sndNew_any _).mono ?_⟩
    rintro e w' ⟨u, rfl, hu, hb⟩
    exact ⟨u, rfl, hu.mem (by show (12 : Nat) ≤ 9223372036854775807; decide), hb⟩
  obtain ⟨NS, BS, e1, e2, hf⟩ := hf
  rw [← e1, ← e2]
  clear e1 e2 hm hL
  dsimp only [chip5] at *
  have k0 : rowB _ _ _ _ := k0
  have k2 : rowB _ _ _ _ := k2
  obtain ⟨c0, c1, c2, c3, c4⟩ := ccells k0
  go_enter Try.func11, Try.ntmps11
  go_wp2_with (first
    | (go_at_call 32; refine hf.mono ?_; rintro e w2 ⟨u, rfl, hu, hb⟩; obtain ⟨a2, c2', p2, d2, rfl, u1, u2⟩ := hu.open; have t2 := rowB_below k2 hb (rowB_lt k2); have bY := bW.trans (hb.mono bW.size))
    | (refine wpList_storeR rfl 34 _ _ rfl (w.heap.size + 1) rfl #[.slice a2 NS.length c2', .slice p2 BS.length d2] rfl (dev2_one _ _ _ _ _ _) 34 #[.slice none 0 0, .slice none 0 0] rfl ?_ agDv ?_; with_reducible exact t2))
  refine bodyPost_ret (resultsR rfl (w.heap.size + 1) _ rfl (rowB_row t2 _) agDv) rfl ?_
  exact ⟨_, rfl, memR.box t2 u1 u2 _, below_rowR bY _ (by omega)⟩
set_option maxHeartbeats 1000000 in
theorem chNew8_any (nm : ByteArray) (b z : Int) (vd : Value) (ld : List Int) (w : World) (hm : isByt w vd ld) (hL : ld.length ≤ 140737488351232) :
    Calls Try.prog 11 #[.agg (chip5 nm 8 b z vd)] w fun e w' => ∃ u, e = .returned u ∧ memR w' u (Dr.of [] ld).ns (Dr.of [] ld).m ∧ Below w.heap.size w w' := by
  obtain ⟨da, dc, rfl, _⟩ := isByt_form hm
  obtain ⟨k0, k2, bW, sW⟩ := boxes2 w (.cells (chip5 nm 8 b z (.slice da ld.length dc)) 24) (.cells #[.slice none 0 0, .slice none 0 0] 34)
  have hf : ∃ NS BS, NS = (Dr.of [] ld).ns ∧ BS = (Dr.of [] ld).m ∧ Calls Try.prog 33 #[.slice da ld.length dc] ((w.alloc (.cells (chip5 nm 8 b z (.slice da ld.length dc)) 24)).alloc (.cells #[.slice none 0 0, .slice none 0 0] 34)) (fun e w' => ∃ u, e = .returned u ∧ memR w' u NS BS ∧ Below ((w.alloc (.cells (chip5 nm 8 b z (.slice da ld.length dc)) 24)).alloc (.cells #[.slice none 0 0, .slice none 0 0] 34)).heap.size ((w.alloc (.cells (chip5 nm 8 b z (.slice da ld.length dc)) 24)).alloc (.cells #[.slice none 0 0, .slice none 0 0] 34)) w') := by
    refine ⟨_, _, rfl, rfl, (drvNew_any _ ld _ (isByt_below hm bW (Nat.le_refl _)) hL).mono ?_⟩
    rintro e w' ⟨u, rfl, hu, hb⟩
    exact ⟨u, rfl, hu.mem, hb⟩
  obtain ⟨NS, BS, e1, e2, hf⟩ := hf
  rw [← e1, ← e2]
  clear e1 e2 hm hL
  dsimp only [chip5] at *
  have k0 : rowB _ _ _ _ := k0
  have k2 : rowB _ _ _ _ := k2
  obtain ⟨c0, c1, c2, c3, c4⟩ := ccells k0
  go_enter Try.func11, Try.ntmps11
  go_wp2_with (first
    | (go_at_call 33; refine hf.mono ?_; rintro e w2 ⟨u, rfl, hu, hb⟩; obtain ⟨a2, c2', p2, d2, rfl, u1, u2⟩ := hu.open; have t2 := rowB_below k2 hb (rowB_lt k2); have bY := bW.trans (hb.mono bW.size))
    | (refine wpList_storeR rfl 34 _ _ rfl (w.heap.size + 1) rfl #[.slice a2 NS.length c2', .slice p2 BS.length d2] rfl (dev2_one _ _ _ _ _ _) 34 #[.slice none 0 0, .slice none 0 0] rfl ?_ agDv ?_; with_reducible exact t2))
  refine bodyPost_ret (resultsR rfl (w.heap.size + 1) _ rfl (rowB_row t2 _) agDv) rfl ?_
  exact ⟨_, rfl, memR.box t2 u1 u2 _, below_rowR bY _ (by omega)⟩
set_option maxHeartbeats 1000000 in
theorem chNewN_any (nm : ByteArray) (k b z : Int) (dat : Value) (hk : k < 0 ∨ 8 < k) (w : World) :
    Calls Try.prog 11 #[.agg (chip5 nm k b z dat)] w fun e w' => ∃ u, e = .returned u ∧ memR w' u [] [] ∧ Below w.heap.size w w' := by
  have q0 : (k == 0) = false := beq_eq_false_iff_ne.2 (by omega)
  have q1 : (k == 1) = false := beq_eq_false_iff_ne.2 (by omega)
  have q2 : (k == 2) = false := beq_eq_false_iff_ne.2 (by omega)
  have q3 : (k == 3) = false := beq_eq_false_iff_ne.2 (by omega)
  have q4 : (k == 4) = false := beq_eq_false_iff_ne.2 (by omega)
  have q5 : (k == 5) = false := beq_eq_false_iff_ne.2 (by omega)
  have q6 : (k == 6) = false := beq_eq_false_iff_ne.2 (by omega)
  have q7 : (k == 7) = false := beq_eq_false_iff_ne.2 (by omega)
  have q8 : (k == 8) = false := beq_eq_false_iff_ne.2 (by omega)
  clear hk
  dsimp only [chip5]
  obtain ⟨k0, k2, bW, sW⟩ := boxes2 w (.cells #[.string nm, .int .i64 k, .int .i64 b, .int .i64 z, dat] 24) (.cells #[.slice none 0 0, .slice none 0 0] 34)
  have k0 : rowB _ _ _ _ := k0
  have k2 : rowB _ _ _ _ := k2
  obtain ⟨c0, c1, c2, c3, c4⟩ := ccells k0
  go_enter Try.func11, Try.ntmps11
  go_wp2_with (refine wpList_storeR rfl 34 _ _ rfl (w.heap.size + 1) rfl #[.slice none 0 0, .slice none 0 0] rfl (dev2_one _ _ _ _ _ _) 34 #[.slice none 0 0, .slice none 0 0] rfl ?_ agDv ?_; with_reducible exact k2)
  refine bodyPost_ret (resultsR rfl (w.heap.size + 1) _ rfl (rowB_row k2 _) agDv) rfl ?_
  exact ⟨_, rfl, ⟨_, _, rfl, .inl ⟨none, 0, rfl, rfl⟩, .inl ⟨none, 0, rfl, rfl⟩⟩, below_rowR bW _ (by omega)⟩
theorem chNew_any (nm : ByteArray) (k b z : Int) (vd : Value) (ld : List Int) (w : World) (hm : isByt w vd ld) (hL : ld.length ≤ 140737488351232) (hz : -9223372036854775808 ≤ z ∧ z ≤ 9223372036854775807) :
    Calls Try.prog 11 #[.agg (chip5 nm k b z vd)] w fun e w' => ∃ u, e = .returned u ∧ memR w' u (nwNs k z ld) (nwBs k z ld) ∧ Below w.heap.size w w' := by
  rcases (by omega : k = 0 ∨ k = 1 ∨ k = 2 ∨ k = 3 ∨ k = 4 ∨ k = 5 ∨ k = 6 ∨ k = 7 ∨ k = 8 ∨ (k < 0 ∨ 8 < k)) with rfl | rfl | rfl | rfl | rfl | rfl | rfl | rfl | rfl | hk
  · rw [nwNs_not 0 z ld (by decide), nwBs_not 0 z ld (by decide), memNs_of (by decide), memBs_of (by decide), if_neg (by decide)]
    exact chNew0_any nm b z vd ld w hm hL hz
  · rw [nwNs_not 1 z ld (by decide), nwBs_not 1 z ld (by decide), memNs_of (by decide), memBs_of (by decide), if_neg (by decide)]
    exact chNew1_any nm b z vd ld w hm hL hz
  · rw [nwNs_not 2 z ld (by decide), nwBs_not 2 z ld (by decide), memNs_of (by decide), memBs_of (by decide), if_pos rfl]
    exact chNew2_any nm b z vd ld w hm hL hz
  · rw [nwNs3, nwBs_not 3 z ld (by decide), memBs_chip (by decide)]
    exact chNew3_any nm b z vd ld w hm hL
  · rw [nwNs4, nwBs_not 4 z ld (by decide), memBs_chip (by decide)]
    exact chNew4_any nm b z vd ld w hm hL
  · rw [nwNs5, nwBs_not 5 z ld (by decide), memBs_chip (by decide)]
    exact chNew5_any nm b z vd ld w hm hL
  · rw [nwNs6, nwBs6]
    exact chNew6_any nm b z vd ld w hm hL
  · rw [nwNs7, nwBs_not 7 z ld (by decide), memBs_chip (by decide)]
    exact chNew7_any nm b z vd ld w hm hL
  · rw [nwNs8, nwBs8]
    exact chNew8_any nm b z vd ld w hm hL
  · rw [nwNs_not k z ld (by omega), nwBs_not k z ld (by omega), (memSt_none hk z _ _ ld).1, (memSt_none hk z _ [] ld).2]
    exact chNewN_any nm k b z vd hk w
end Go.Proofs.Ytakaebjojgeehaa
