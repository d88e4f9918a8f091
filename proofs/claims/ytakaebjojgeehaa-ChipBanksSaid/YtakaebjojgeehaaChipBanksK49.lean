/- A part of the proof of ChipBanks: ChRd. -/
import Derived.Test.YtakaebjojgeehaaChipBanksK01
import Derived.Test.YtakaebjojgeehaaChipBanksK02
import Derived.Test.YtakaebjojgeehaaChipBanksK03
import Derived.Test.YtakaebjojgeehaaChipBanksK04
import Derived.Test.YtakaebjojgeehaaChipBanksK05
import Derived.Test.YtakaebjojgeehaaChipBanksK06
import Derived.Test.YtakaebjojgeehaaChipBanksK07
import Derived.Test.YtakaebjojgeehaaChipBanksK08
import Derived.Test.YtakaebjojgeehaaChipBanksK09
import Derived.Test.YtakaebjojgeehaaChipBanksK10
import Derived.Test.YtakaebjojgeehaaChipBanksK11
import Derived.Test.YtakaebjojgeehaaChipBanksK15
import Derived.Test.YtakaebjojgeehaaChipBanksK16
import Derived.Test.YtakaebjojgeehaaChipBanksK17
import Derived.Test.YtakaebjojgeehaaChipBanksK18
import Derived.Test.YtakaebjojgeehaaChipBanksK19
import Derived.Test.YtakaebjojgeehaaChipBanksK20
import Derived.Test.YtakaebjojgeehaaChipBanksK21
import Derived.Test.YtakaebjojgeehaaChipBanksK22
import Derived.Test.YtakaebjojgeehaaChipBanksK23
import Derived.Test.YtakaebjojgeehaaChipBanksK24
import Derived.Test.YtakaebjojgeehaaChipBanksK25
import Derived.Test.YtakaebjojgeehaaChipBanksK26
import Derived.Test.YtakaebjojgeehaaChipBanksK27
import Derived.Test.YtakaebjojgeehaaChipBanksK28
import Derived.Test.YtakaebjojgeehaaChipBanksK29
import Derived.Test.YtakaebjojgeehaaChipBanksK30
import Derived.Test.YtakaebjojgeehaaChipBanksK31
import Derived.Test.YtakaebjojgeehaaChipBanksK32
import Derived.Test.YtakaebjojgeehaaChipBanksK33
import Derived.Test.YtakaebjojgeehaaChipBanksK34
import Derived.Test.YtakaebjojgeehaaChipBanksK35
import Derived.Test.YtakaebjojgeehaaChipBanksK36
import Derived.Test.YtakaebjojgeehaaChipBanksK37
import Derived.Test.YtakaebjojgeehaaChipBanksK38
import Derived.Test.YtakaebjojgeehaaChipBanksK39
import Derived.Test.YtakaebjojgeehaaChipBanksK40
import Derived.Test.YtakaebjojgeehaaChipBanksK41
import Derived.Test.YtakaebjojgeehaaChipBanksK42
import Derived.Test.YtakaebjojgeehaaChipBanksK43
import Derived.Test.YtakaebjojgeehaaChipBanksK44
import Derived.Test.YtakaebjojgeehaaChipBanksK45
import Derived.Test.YtakaebjojgeehaaChipBanksK46
import Derived.Test.YtakaebjojgeehaaChipBanksK47
import Derived.Test.YtakaebjojgeehaaChipBanksK48
import Derived.Below
import Derived.BigQuiet
import Derived.ChangeMaps5
import Derived.Deep.AppendSrc
import Derived.Deep.DeepAppendWide
import Derived.Deep.DeepCutAuto
import Derived.Deep.Draws
import Derived.Deep.MidRow
import Derived.Deep.OwnRows
import Derived.Deep.QuietTactic
import Derived.Deep.RegionHeld3
import Derived.Deep.RegionWith
import Derived.Deep.Slices
import Derived.Deep.WholeRow
import Derived.Laws.CopyOwn
import Derived.Laws.OwnMore
import Derived.Lib.Hide
import Derived.Lib.SmallJoins
import Derived.Maps.AppendAt
import Derived.OpenShut
import Derived.OrdersHeld
import Derived.OwnWalk
import Derived.RowKit3
import Derived.Shelf.Abstract
import Derived.StillTactics
import Derived.StillTail
import Derived.StillTailTactics
import Derived.Test.YtakaebjojgeehaaChecked
import Derived.WalkKit
namespace Go.Proofs.Ytakaebjojgeehaa
open Go.RowKit
set_option maxRecDepth 100000
set_option linter.unusedVariables false
theorem memNs_port (z : Int) (nd : Nat) (l : List Int) : memNs 4 z nd l = (Pt.of l).ns := by
  unfold memNs
  rw [if_neg (by decide), if_pos rfl]
theorem memBs_chip {k : Int} (hk : ¬ (k = 0 ∨ k = 1 ∨ k = 2)) (z : Int) (nd : Nat) (lb : List Int) : memBs k z nd lb = [] := if_neg hk
set_option maxHeartbeats 1000000 in
theorem chRead0_any (nm : ByteArray) (b z : Int) (da : Option Addr) (nd dc : Nat) (v vm : Value) (l lb : List Int) (a : Int) (ha : -1 ≤ a ∧ a ≤ 4611686018427387904) (w : World) (h : isArg w v l) (hm : isByt w vm lb) (hwf : ∀ x ∈ l, (Lit.int .i64 x).wf = true) (hbb : ∀ x ∈ lb, 0 ≤ x ∧ x < 256) (hL : (0 : Int) = 8 → lb.length ≤ 140737488351232) (hd : nd ≤ 140737488351232) (hz : -9223372036854775808 ≤ z ∧ z ≤ 9223372036854775807) :
    Calls Try.prog 15 #[.agg (chip5 nm 0 b z (.slice da nd dc)), .agg #[v, vm], .int .i64 a] w fun e w' => ∃ u, e = .returned (.tuple #[u, .int .i64 (memRd 0 z (bankOf 0 z nd l) (pad (memSize 0 z nd) lb) a)]) ∧ memR w' u [] (pad (memSize 0 z nd) lb) ∧ Below w.heap.size w w' := by
  have hpb := pad_bd hbb (memSize 0 z nd)
  obtain ⟨va, vc, rfl, _⟩ := isArg_form h
  obtain ⟨ma, mc, rfl, _⟩ := isByt_form hm
  dsimp only [chip5]
  obtain ⟨k0, k1, k2, bW, sW⟩ := boxes3 w (.cells #[.string nm, .int .i64 0, .int .i64 b, .int .i64 z, .slice da nd dc] 24) (.cells #[.slice va l.length vc, .slice ma lb.length mc] 34) (.cells #[.slice none 0 0, .slice none 0 0] 34)
  have k0 : rowB _ _ _ _ := k0
  have k1 : rowB _ _ _ _ := k1
  have k2 : rowB _ _ _ _ := k2
  have hload := mmLoad_any nm 0 b z da nd dc _ _ l lb _ (isArg_below h bW (Nat.le_refl _)) (isByt_below hm bW (Nat.le_refl _)) hwf hd hz
  dsimp only [chip5] at hload
  generalize bankOf 0 z nd l = BK at *
  generalize pad (memSize 0 z nd) lb = PM at *
  obtain ⟨c0, c1, c2, c3, c4⟩ := ccells k0
  obtain ⟨VAL, hV⟩ : ∃ VAL, memRd 0 z BK PM a = VAL := ⟨_, rfl⟩
  rw [hV]
  have HV := Lib.hid hV
  obtain ⟨NS, hNS⟩ : ∃ NS : List Int, [] = NS := ⟨_, rfl⟩
  rw [hNS]
  have HNS := Lib.hid hNS
  clear hV hNS h hm hwf hbb hL
  go_enter Try.func15, Try.ntmps15
  go_upto_region 6 with (first
    | (refine wpList_loadR rfl 24 _ rfl w.heap.size rfl 24 #[.string nm, .int .i64 0, .int .i64 b, .int .i64 z, .slice da nd dc] ?_ agCh ?_; with_reducible exact k0)
    | (refine wpList_loadR rfl 34 _ rfl (w.heap.size + 1) rfl 34 #[.slice va l.length vc, .slice ma lb.length mc] ?_ agDv ?_; with_reducible exact k1)
    | (go_at_call 26; refine hload.mono ?_; rintro e w2 ⟨y, q, rfl, hst, hb⟩))
  replace k2 := rowB_below k2 hb (rowB_lt k2)
  have bY := bW.trans (hb.mono bW.size)
  have hsz := hb.size
  have hly := hst.ly
  rw [sW] at hsz hly
  clear hload hb k0 k1 c0 c1 c2 c3 c4 bW
  go_wp2_with (first
    | (go_at_call 27; refine (mmDevF_any hst hd (by decide)).mono ?_; rintro e w5 ⟨u, rfl, hu, hb5⟩; rw [HNS.out] at hu; obtain ⟨a2, c2', p2, d2, rfl, u1, u2⟩ := hu.open; have t2 := rowB_below k2 hb5 (rowB_lt k2); have b5 := bY.trans (hb5.mono bY.size))
    | (go_at_call 42; refine (mmRead_any (hst.below hb5) hpb a ha hd hz).mono ?_; rintro e w6 ⟨rfl, hb6⟩; rw [HV.out]; have t3 := rowB_below t2 hb6 (rowB_lt t2); have u3 := isArg_below u1 hb6 (Nat.le_refl _); have u4 := isByt_below u2 hb6 (Nat.le_refl _); have b6 := b5.trans (hb6.mono b5.size))
    | (refine wpList_storeR rfl 34 _ _ rfl (w.heap.size + 2) rfl #[.slice a2 NS.length c2', .slice p2 PM.length d2] rfl (dev2_one _ _ _ _ _ _) 34 #[.slice none 0 0, .slice none 0 0] rfl ?_ agDv ?_; with_reducible exact t3))
  refine bodyPost_ret (resultsRT rfl (w.heap.size + 2) _ rfl (rowB_row t3 _) agDv rfl) rfl ?_
  exact ⟨_, rfl, memR.box t3 u3 u4 _, below_rowR b6 _ (by omega)⟩
set_option maxHeartbeats 1000000 in
theorem chRead1_any (nm : ByteArray) (b z : Int) (da : Option Addr) (nd dc : Nat) (v vm : Value) (l lb : List Int) (a : Int) (ha : -1 ≤ a ∧ a ≤ 4611686018427387904) (w : World) (h : isArg w v l) (hm : isByt w vm lb) (hwf : ∀ x ∈ l, (Lit.int .i64 x).wf = true) (hbb : ∀ x ∈ lb, 0 ≤ x ∧ x < 256) (hL : (1 : Int) = 8 → lb.length ≤ 140737488351232) (hd : nd ≤ 140737488351232) (hz : -9223372036854775808 ≤ z ∧ z ≤ 9223372036854775807) :
    Calls Try.prog 15 #[.agg (chip5 nm 1 b z (.slice da nd dc)), .agg #[v, vm], .int .i64 a] w fun e w' => ∃ u, e = .returned (.tuple #[u, .int .i64 (memRd 1 z (bankOf 1 z nd l) (pad (memSize 1 z nd) lb) a)]) ∧ memR w' u [] (pad (memSize 1 z nd) lb) ∧ Below w.heap.size w w' := by
  have hpb := pad_bd hbb (memSize 1 z nd)
  obtain ⟨va, vc, rfl, _⟩ := isArg_form h
  obtain ⟨ma, mc, rfl, _⟩ := isByt_form hm
  dsimp only [chip5]
  obtain ⟨k0, k1, k2, bW, sW⟩ := boxes3 w (.cells #[.string nm, .int .i64 1, .int .i64 b, .int .i64 z, .slice da nd dc] 24) (.cells #[.slice va l.length vc, .slice ma lb.length mc] 34) (.cells #[.slice none 0 0, .slice none 0 0] 34)
  have k0 : rowB _ _ _ _ := k0
  have k1 : rowB _ _ _ _ := k1
  have k2 : rowB _ _ _ _ := k2
  have hload := mmLoad_any nm 1 b z da nd dc _ _ l lb _ (isArg_below h bW (Nat.le_refl _)) (isByt_below hm bW (Nat.le_refl _)) hwf hd hz
  dsimp only [chip5] at hload
  generalize bankOf 1 z nd l = BK at *
  generalize pad (memSize 1 z nd) lb = PM at *
  obtain ⟨c0, c1, c2, c3, c4⟩ := ccells k0
  obtain ⟨VAL, hV⟩ : ∃ VAL, memRd 1 z BK PM a = VAL := ⟨_, rfl⟩
  rw [hV]
  have HV := Lib.hid hV
  obtain ⟨NS, hNS⟩ : ∃ NS : List Int, [] = NS := ⟨_, rfl⟩
  rw [hNS]
  have HNS := Lib.hid hNS
  clear hV hNS h hm hwf hbb hL
  go_enter Try.func15, Try.ntmps15
  go_upto_region 6 with (first
    | (refine wpList_loadR rfl 24 _ rfl w.heap.size rfl 24 #[.string nm, .int .i64 1, .int .i64 b, .int .i64 z, .slice da nd dc] ?_ agCh ?_; with_reducible exact k0)
    | (refine wpList_loadR rfl 34 _ rfl (w.heap.size + 1) rfl 34 #[.slice va l.length vc, .slice ma lb.length mc] ?_ agDv ?_; with_reducible exact k1)
    | (go_at_call 26; refine hload.mono ?_; rintro e w2 ⟨y, q, rfl, hst, hb⟩))
  replace k2 := rowB_below k2 hb (rowB_lt k2)
  have bY := bW.trans (hb.mono bW.size)
  have hsz := hb.size
  have hly := hst.ly
  rw [sW] at hsz hly
  clear hload hb k0 k1 c0 c1 c2 c3 c4 bW
  go_wp2_with (first
    | (go_at_call 27; refine (mmDevF_any hst hd (by decide)).mono ?_; rintro e w5 ⟨u, rfl, hu, hb5⟩; rw [HNS.out] at hu; obtain ⟨a2, c2', p2, d2, rfl, u1, u2⟩ := hu.open; have t2 := rowB_below k2 hb5 (rowB_lt k2); have b5 := bY.trans (hb5.mono bY.size))
    | (go_at_call 42; refine (mmRead_any (hst.below hb5) hpb a ha hd hz).mono ?_; rintro e w6 ⟨rfl, hb6⟩; rw [HV.out]; have t3 := rowB_below t2 hb6 (rowB_lt t2); have u3 := isArg_below u1 hb6 (Nat.le_refl _); have u4 := isByt_below u2 hb6 (Nat.le_refl _); have b6 := b5.trans (hb6.mono b5.size))
    | (refine wpList_storeR rfl 34 _ _ rfl (w.heap.size + 2) rfl #[.slice a2 NS.length c2', .slice p2 PM.length d2] rfl (dev2_one _ _ _ _ _ _) 34 #[.slice none 0 0, .slice none 0 0] rfl ?_ agDv ?_; with_reducible exact t3))
  refine bodyPost_ret (resultsRT rfl (w.heap.size + 2) _ rfl (rowB_row t3 _) agDv rfl) rfl ?_
  exact ⟨_, rfl, memR.box t3 u3 u4 _, below_rowR b6 _ (by omega)⟩
set_option maxHeartbeats 1000000 in
theorem chRead2_any (nm : ByteArray) (b z : Int) (da : Option Addr) (nd dc : Nat) (v vm : Value) (l lb : List Int) (a : Int) (ha : -1 ≤ a ∧ a ≤ 4611686018427387904) (w : World) (h : isArg w v l) (hm : isByt w vm lb) (hwf : ∀ x ∈ l, (Lit.int .i64 x).wf = true) (hbb : ∀ x ∈ lb, 0 ≤ x ∧ x < 256) (hL : (2 : Int) = 8 → lb.length ≤ 140737488351232) (hd : nd ≤ 140737488351232) (hz : -9223372036854775808 ≤ z ∧ z ≤ 9223372036854775807) :
    Calls Try.prog 15 #[.agg (chip5 nm 2 b z (.slice da nd dc)), .agg #[v, vm], .int .i64 a] w fun e w' => ∃ u, e = .returned (.tuple #[u, .int .i64 (memRd 2 z (bankOf 2 z nd l) (pad (memSize 2 z nd) lb) a)]) ∧ memR w' u [bankOf 2 z nd l] (pad (memSize 2 z nd) lb) ∧ Below w.heap.size w w' := by
  have hpb := pad_bd hbb (memSize 2 z nd)
  obtain ⟨va, vc, rfl, _⟩ := isArg_form h
  obtain ⟨ma, mc, rfl, _⟩ := isByt_form hm
  dsimp only [chip5]
  obtain ⟨k0, k1, k2, bW, sW⟩ := boxes3 w (.cells #[.string nm, .int .i64 2, .int .i64 b, .int .i64 z, .slice da nd dc] 24) (.cells #[.slice va l.length vc, .slice ma lb.length mc] 34) (.cells #[.slice none 0 0, .slice none 0 0] 34)
  have k0 : rowB _ _ _ _ := k0
  have k1 : rowB _ _ _ _ := k1
  have k2 : rowB _ _ _ _ := k2
  have hload := mmLoad_any nm 2 b z da nd dc _ _ l lb _ (isArg_below h bW (Nat.le_refl _)) (isByt_below hm bW (Nat.le_refl _)) hwf hd hz
  dsimp only [chip5] at hload
  generalize bankOf 2 z nd l = BK at *
  generalize pad (memSize 2 z nd) lb = PM at *
  obtain ⟨c0, c1, c2, c3, c4⟩ := ccells k0
  obtain ⟨VAL, hV⟩ : ∃ VAL, memRd 2 z BK PM a = VAL := ⟨_, rfl⟩
  rw [hV]
  have HV := Lib.hid hV
  obtain ⟨NS, hNS⟩ : ∃ NS : List Int, [BK] = NS := ⟨_, rfl⟩
  rw [hNS]
  have HNS := Lib.hid hNS
  clear hV hNS h hm hwf hbb hL
  go_enter Try.func15, Try.ntmps15
  go_upto_region 6 with (first
    | (refine wpList_loadR rfl 24 _ rfl w.heap.size rfl 24 #[.string nm, .int .i64 2, .int .i64 b, .int .i64 z, .slice da nd dc] ?_ agCh ?_; with_reducible exact k0)
    | (refine wpList_loadR rfl 34 _ rfl (w.heap.size + 1) rfl 34 #[.slice va l.length vc, .slice ma lb.length mc] ?_ agDv ?_; with_reducible exact k1)
    | (go_at_call 26; refine hload.mono ?_; rintro e w2 ⟨y, q, rfl, hst, hb⟩))
  replace k2 := rowB_below k2 hb (rowB_lt k2)
  have bY := bW.trans (hb.mono bW.size)
  have hsz := hb.size
  have hly := hst.ly
  rw [sW] at hsz hly
  clear hload hb k0 k1 c0 c1 c2 c3 c4 bW
  go_wp2_with (first
    | (go_at_call 27; refine (mmDevT_any hst hd).mono ?_; rintro e w5 ⟨u, rfl, hu, hb5⟩; rw [HNS.out] at hu; obtain ⟨a2, c2', p2, d2, rfl, u1, u2⟩ := hu.open; have t2 := rowB_below k2 hb5 (rowB_lt k2); have b5 := bY.trans (hb5.mono bY.size))
    | (go_at_call 42; refine (mmRead_any (hst.below hb5) hpb a ha hd hz).mono ?_; rintro e w6 ⟨rfl, hb6⟩; rw [HV.out]; have t3 := rowB_below t2 hb6 (rowB_lt t2); have u3 := isArg_below u1 hb6 (Nat.le_refl _); have u4 := isByt_below u2 hb6 (Nat.le_refl _); have b6 := b5.trans (hb6.mono b5.size))
    | (refine wpList_storeR rfl 34 _ _ rfl (w.heap.size + 2) rfl #[.slice a2 NS.length c2', .slice p2 PM.length d2] rfl (dev2_one _ _ _ _ _ _) 34 #[.slice none 0 0, .slice none 0 0] rfl ?_ agDv ?_; with_reducible exact t3))
  refine bodyPost_ret (resultsRT rfl (w.heap.size + 2) _ rfl (rowB_row t3 _) agDv rfl) rfl ?_
  exact ⟨_, rfl, memR.box t3 u3 u4 _, below_rowR b6 _ (by omega)⟩
set_option maxHeartbeats 1000000 in
theorem chRead3_any (nm : ByteArray) (b z : Int) (da : Option Addr) (nd dc : Nat) (v vm : Value) (l lb : List Int) (a : Int) (w : World) (h : isArg w v l) (hm : isByt w vm lb) (hwf : ∀ x ∈ l, (Lit.int .i64 x).wf = true) (hbb : ∀ x ∈ lb, 0 ≤ x ∧ x < 256) (hL : (3 : Int) = 8 → lb.length ≤ 140737488351232) (hd : nd ≤ 140737488351232) (hz : -9223372036854775808 ≤ z ∧ z ≤ 9223372036854775807) :
    Calls Try.prog 15 #[.agg (chip5 nm 3 b z (.slice da nd dc)), .agg #[v, vm], .int .i64 a] w fun e w' => ∃ u, e = .returned (.tuple #[u, .int .i64 ((Tm.of l).reg a)]) ∧ memR w' u ((Tm.of l).read a).ns [] ∧ Below w.heap.size w w' := by
  obtain ⟨VAL, hV⟩ : ∃ VAL, (Tm.of l).reg a = VAL := ⟨_, rfl⟩
  dsimp only [chip5]
  obtain ⟨k0, k1, k2, bW, sW⟩ := boxes3 w (.cells #[.string nm, .int .i64 3, .int .i64 b, .int .i64 z, .slice da nd dc] 24) (.cells #[v, vm] 34) (.cells #[.slice none 0 0, .slice none 0 0] 34)
  have k0 : rowB _ _ _ _ := k0
  have k1 : rowB _ _ _ _ := k1
  have k2 : rowB _ _ _ _ := k2
  have hA := isArg_below h bW (Nat.le_refl _)
  have hM := isByt_below hm bW (Nat.le_refl _)
  have hf : ∃ NS BS, NS = ((Tm.of l).read a).ns ∧ BS = [] ∧ Calls Try.prog 43 #[.agg #[v, vm], .int .i64 a] (((w.alloc (.cells #[.string nm, .int .i64 3, .int .i64 b, .int .i64 z, .slice da nd dc] 24)).alloc (.cells #[v, vm] 34)).alloc (.cells #[.slice none 0 0, .slice none 0 0] 34)) (fun e w' => ∃ u, e = .returned (.tuple #[u, .int .i64 ((Tm.of l).reg a)]) ∧ memR w' u NS BS ∧ Below (((w.alloc (.cells #[.string nm, .int .i64 3, .int .i64 b, .int .i64 z, .slice da nd dc] 24)).alloc (.cells #[v, vm] 34)).alloc (.cells #[.slice none 0 0, .slice none 0 0] 34)).heap.size (((w.alloc (.cells #[.string nm, .int .i64 3, .int .i64 b, .int .i64 z, .slice da nd dc] 24)).alloc (.cells #[v, vm] 34)).alloc (.cells #[.slice none 0 0, .slice none 0 0] 34)) w') := by
    refine ⟨_, _, rfl, rfl, (tmRead_any v vm l a _ hA).mono ?_⟩
    rintro e w' ⟨u, rfl, hu, hb⟩
    exact ⟨u, rfl, hu.mem (by show (4 : Nat) ≤ 9223372036854775807; decide), hb⟩
  obtain ⟨NS, BS, e1, e2, hf⟩ := hf
  rw [← e1, ← e2]
  rw [hV] at hf
  rw [hV]
  clear hV
  clear e1 e2 hA hM h hm hwf hbb hL hd hz
  obtain ⟨c0, c1, c2, c3, c4⟩ := ccells k0
  go_enter Try.func15, Try.ntmps15
  go_wp2_with (first
    | (refine wpList_loadR rfl 34 _ rfl (w.heap.size + 1) rfl 34 #[v, vm] ?_ agDv ?_; with_reducible exact k1)
    | (go_at_call 43; refine hf.mono ?_; rintro e w2 ⟨u, rfl, hu, hb⟩; obtain ⟨a2, c2', p2, d2, rfl, u1, u2⟩ := hu.open; have t2 := rowB_below k2 hb (rowB_lt k2); have bY := bW.trans (hb.mono bW.size))
    | (refine wpList_storeR rfl 34 _ _ rfl (w.heap.size + 2) rfl #[.slice a2 NS.length c2', .slice p2 BS.length d2] rfl (dev2_one _ _ _ _ _ _) 34 #[.slice none 0 0, .slice none 0 0] rfl ?_ agDv ?_; with_reducible exact t2))
  refine bodyPost_ret (resultsRT rfl (w.heap.size + 2) _ rfl (rowB_row t2 _) agDv rfl) rfl ?_
  exact ⟨_, rfl, memR.box t2 u1 u2 _, below_rowR bY _ (by omega)⟩
set_option maxHeartbeats 1000000 in
theorem chRead4_any (nm : ByteArray) (b z : Int) (da : Option Addr) (nd dc : Nat) (v vm : Value) (l lb : List Int) (a : Int) (w : World) (h : isArg w v l) (hm : isByt w vm lb) (hwf : ∀ x ∈ l, (Lit.int .i64 x).wf = true) (hbb : ∀ x ∈ lb, 0 ≤ x ∧ x < 256) (hL : (4 : Int) = 8 → lb.length ≤ 140737488351232) (hd : nd ≤ 140737488351232) (hz : -9223372036854775808 ≤ z ∧ z ≤ 9223372036854775807) :
    Calls Try.prog 15 #[.agg (chip5 nm 4 b z (.slice da nd dc)), .agg #[v, vm], .int .i64 a] w fun e w' => ∃ u, e = .returned (.tuple #[u, .int .i64 ((Pt.of l).reg a)]) ∧ memR w' u (Pt.of l).ns [] ∧ Below w.heap.size w w' := by
  obtain ⟨VAL, hV⟩ : ∃ VAL, (Pt.of l).reg a = VAL := ⟨_, rfl⟩
  dsimp only [chip5]
  obtain ⟨k0, k1, k2, bW, sW⟩ := boxes3 w (.cells #[.string nm, .int .i64 4, .int .i64 b, .int .i64 z, .slice da nd dc] 24) (.cells #[v, vm] 34) (.cells #[.slice none 0 0, .slice none 0 0] 34)
  have k0 : rowB _ _ _ _ := k0
  have k1 : rowB _ _ _ _ := k1
  have k2 : rowB _ _ _ _ := k2
  have hA := isArg_below h bW (Nat.le_refl _)
  have hM := isByt_below hm bW (Nat.le_refl _)
  have hf : ∃ NS BS, NS = (Pt.of l).ns ∧ BS = [] ∧ Calls Try.prog 44 #[.agg #[v, vm], .int .i64 a] (((w.alloc (.cells #[.string nm, .int .i64 4, .int .i64 b, .int .i64 z, .slice da nd dc] 24)).alloc (.cells #[v, vm] 34)).alloc (.cells #[.slice none 0 0, .slice none 0 0] 34)) (fun e w' => ∃ u, e = .returned (.tuple #[u, .int .i64 ((Pt.of l).reg a)]) ∧ memR w' u NS BS ∧ Below (((w.alloc (.cells #[.string nm, .int .i64 4, .int .i64 b, .int .i64 z, .slice da nd dc] 24)).alloc (.cells #[v, vm] 34)).alloc (.cells #[.slice none 0 0, .slice none 0 0] 34)).heap.size (((w.alloc (.cells #[.string nm, .int .i64 4, .int .i64 b, .int .i64 z, .slice da nd dc] 24)).alloc (.cells #[v, vm] 34)).alloc (.cells #[.slice none 0 0, .slice none 0 0] 34)) w') := by
    refine ⟨_, _, rfl, rfl, (ptRead_any v vm l a _ hA).mono ?_⟩
    rintro e w' ⟨u, rfl, hu, hb⟩
    exact ⟨u, rfl, hu.mem (by show (3 : Nat) ≤ 9223372036854775807; decide), hb⟩
  obtain ⟨NS, BS, e1, e2, hf⟩ := hf
  rw [← e1, ← e2]
  rw [hV] at hf
  rw [hV]
  clear hV
  clear e1 e2 hA hM h hm hwf hbb hL hd hz
  obtain ⟨c0, c1, c2, c3, c4⟩ := ccells k0
  go_enter Try.func15, Try.ntmps15
  go_wp2_with (first
    | (refine wpList_loadR rfl 34 _ rfl (w.heap.size + 1) rfl 34 #[v, vm] ?_ agDv ?_; with_reducible exact k1)
    | (go_at_call 44; refine hf.mono ?_; rintro e w2 ⟨u, rfl, hu, hb⟩; obtain ⟨a2, c2', p2, d2, rfl, u1, u2⟩ := hu.open; have t2 := rowB_below k2 hb (rowB_lt k2); have bY := bW.trans (hb.mono bW.size))
    | (refine wpList_storeR rfl 34 _ _ rfl (w.heap.size + 2) rfl #[.slice a2 NS.length c2', .slice p2 BS.length d2] rfl (dev2_one _ _ _ _ _ _) 34 #[.slice none 0 0, .slice none 0 0] rfl ?_ agDv ?_; with_reducible exact t2))
  refine bodyPost_ret (resultsRT rfl (w.heap.size + 2) _ rfl (rowB_row t2 _) agDv rfl) rfl ?_
  exact ⟨_, rfl, memR.box t2 u1 u2 _, below_rowR bY _ (by omega)⟩
set_option maxHeartbeats 1000000 in
theorem chRead5_any (nm : ByteArray) (b z : Int) (da : Option Addr) (nd dc : Nat) (v vm : Value) (l lb : List Int) (a : Int) (w : World) (h : isArg w v l) (hm : isByt w vm lb) (hwf : ∀ x ∈ l, (Lit.int .i64 x).wf = true) (hbb : ∀ x ∈ lb, 0 ≤ x ∧ x < 256) (hL : (5 : Int) = 8 → lb.length ≤ 140737488351232) (hd : nd ≤ 140737488351232) (hz : -9223372036854775808 ≤ z ∧ z ≤ 9223372036854775807) :
    Calls Try.prog 15 #[.agg (chip5 nm 5 b z (.slice da nd dc)), .agg #[v, vm], .int .i64 a] w fun e w' => ∃ u, e = .returned (.tuple #[u, .int .i64 ((Sr.of l).reg a)]) ∧ memR w' u ((Sr.of l).read a).ns [] ∧ Below w.heap.size w w' := by
  obtain ⟨VAL, hV⟩ : ∃ VAL, (Sr.of l).reg a = VAL := ⟨_, rfl⟩
  dsimp only [chip5]
  obtain ⟨k0, k1, k2, bW, sW⟩ := boxes3 w (.cells #[.string nm, .int .i64 5, .int .i64 b, .int .i64 z, .slice da nd dc] 24) (.cells #[v, vm] 34) (.cells #[.slice none 0 0, .slice none 0 0] 34)
  have k0 : rowB _ _ _ _ := k0
  have k1 : rowB _ _ _ _ := k1
  have k2 : rowB _ _ _ _ := k2
  have hA := isArg_below h bW (Nat.le_refl _)
  have hM := isByt_below hm bW (Nat.le_refl _)
  have hf : ∃ NS BS, NS = ((Sr.of l).read a).ns ∧ BS = [] ∧ Calls Try.prog 45 #[.agg #[v, vm], .int .i64 a] (((w.alloc (.cells #[.string nm, .int .i64 5, .int .i64 b, .int .i64 z, .slice da nd dc] 24)).alloc (.cells #[v, vm] 34)).alloc (.cells #[.slice none 0 0, .slice none 0 0] 34)) (fun e w' => ∃ u, e = .returned (.tuple #[u, .int .i64 ((Sr.of l).reg a)]) ∧ memR w' u NS BS ∧ Below (((w.alloc (.cells #[.string nm, .int .i64 5, .int .i64 b, .int .i64 z, .slice da nd dc] 24)).alloc (.cells #[v, vm] 34)).alloc (.cells #[.slice none 0 0, .slice none 0 0] 34)).heap.size (((w.alloc (.cells #[.string nm, .int .i64 5, .int .i64 b, .int .i64 z, .slice da nd dc] 24)).alloc (.cells #[v, vm] 34)).alloc (.cells #[.slice none 0 0, .slice none 0 0] 34)) w') := by
    refine ⟨_, _, rfl, rfl, (srRead_any v vm l a _ hA).mono ?_⟩
    rintro e w' ⟨u, rfl, hu, hb⟩
    exact ⟨u, rfl, hu.mem (by show (8 : Nat) ≤ 9223372036854775807; decide), hb⟩
  obtain ⟨NS, BS, e1, e2, hf⟩ := hf
  rw [← e1, ← e2]
  rw [hV] at hf
  rw [hV]
  clear hV
  clear e1 e2 hA hM h hm hwf hbb hL hd hz
  obtain ⟨c0, c1, c2, c3, c4⟩ := ccells k0
  go_enter Try.func15, Try.ntmps15
  go_wp2_with (first
    | (refine wpList_loadR rfl 34 _ rfl (w.heap.size + 1) rfl 34 #[v, vm] ?_ agDv ?_; with_reducible exact k1)
    | (go_at_call 45; refine hf.mono ?_; rintro e w2 ⟨u, rfl, hu, hb⟩; obtain ⟨a2, c2', p2, d2, rfl, u1, u2⟩ := hu.open; have t2 := rowB_below k2 hb (rowB_lt k2); have bY := bW.trans (hb.mono bW.size))
    | (refine wpList_storeR rfl 34 _ _ rfl (w.heap.size + 2) rfl #[.slice a2 NS.length c2', .slice p2 BS.length d2] rfl (dev2_one _ _ _ _ _ _) 34 #[.slice none 0 0, .slice none 0 0] rfl ?_ agDv ?_; with_reducible exact t2))
  refine bodyPost_ret (resultsRT rfl (w.heap.size + 2) _ rfl (rowB_row t2 _) agDv rfl) rfl ?_
  exact ⟨_, rfl, memR.box t2 u1 u2 _, below_rowR bY _ (by omega)⟩
set_option maxHeartbeats 1000000 in
theorem chRead6_any (nm : ByteArray) (b z : Int) (da : Option Addr) (nd dc : Nat) (v vm : Value) (l lb : List Int) (a : Int) (w : World) (h : isArg w v l) (hm : isByt w vm lb) (hwf : ∀ x ∈ l, (Lit.int .i64 x).wf = true) (hbb : ∀ x ∈ lb, 0 ≤ x ∧ x < 256) (hL : (6 : Int) = 8 → lb.length ≤ 140737488351232) (hd : nd ≤ 140737488351232) (hz : -9223372036854775808 ≤ z ∧ z ≤ 9223372036854775807) :
    Calls Try.prog 15 #[.agg (chip5 nm 6 b z (.slice da nd dc)), .agg #[v, vm], .int .i64 a] w fun e w' => ∃ u, e = .returned (.tuple #[u, .int .i64 ((Vd.ofN l lb).reg a)]) ∧ memR w' u [((Vd.ofN l lb).read a).p, ((Vd.ofN l lb).read a).h] ((Vd.ofN l lb).read a).m ∧ Below w.heap.size w w' := by
  obtain ⟨VAL, hV⟩ : ∃ VAL, (Vd.ofN l lb).reg a = VAL := ⟨_, rfl⟩
  dsimp only [chip5]
  obtain ⟨k0, k1, k2, bW, sW⟩ := boxes3 w (.cells #[.string nm, .int .i64 6, .int .i64 b, .int .i64 z, .slice da nd dc] 24) (.cells #[v, vm] 34) (.cells #[.slice none 0 0, .slice none 0 0] 34)
  have k0 : rowB _ _ _ _ := k0
  have k1 : rowB _ _ _ _ := k1
  have k2 : rowB _ _ _ _ := k2
  have hA := isArg_below h bW (Nat.le_refl _)
  have hM := isByt_below hm bW (Nat.le_refl _)
  have hf : ∃ NS BS, NS = [((Vd.ofN l lb).read a).p, ((Vd.ofN l lb).read a).h] ∧ BS = ((Vd.ofN l lb).read a).m ∧ Calls Try.prog 46 #[.agg #[v, vm], .int .i64 a] (((w.alloc (.cells #[.string nm, .int .i64 6, .int .i64 b, .int .i64 z, .slice da nd dc] 24)).alloc (.cells #[v, vm] 34)).alloc (.cells #[.slice none 0 0, .slice none 0 0] 34)) (fun e w' => ∃ u, e = .returned (.tuple #[u, .int .i64 ((Vd.ofN l lb).reg a)]) ∧ memR w' u NS BS ∧ Below (((w.alloc (.cells #[.string nm, .int .i64 6, .int .i64 b, .int .i64 z, .slice da nd dc] 24)).alloc (.cells #[v, vm] 34)).alloc (.cells #[.slice none 0 0, .slice none 0 0] 34)).heap.size (((w.alloc (.cells #[.string nm, .int .i64 6, .int .i64 b, .int .i64 z, .slice da nd dc] 24)).alloc (.cells #[v, vm] 34)).alloc (.cells #[.slice none 0 0, .slice none 0 0] 34)) w') := by
    refine ⟨_, _, rfl, rfl, (vidRead_any v vm l lb a _ hA hM hbb).mono ?_⟩
    rintro e w' ⟨u, rfl, hu, hb⟩
    exact ⟨u, rfl, hu.mem (Vd.read_fit (Vd.ofN_fit l lb hbb) a), hb⟩
  obtain ⟨NS, BS, e1, e2, hf⟩ := hf
  rw [← e1, ← e2]
  rw [hV] at hf
  rw [hV]
  clear hV
  clear e1 e2 hA hM h hm hwf hbb hL hd hz
  obtain ⟨c0, c1, c2, c3, c4⟩ := ccells k0
  go_enter Try.func15, Try.ntmps15
  go_wp2_with (first
    | (refine wpList_loadR rfl 34 _ rfl (w.heap.size + 1) rfl 34 #[v, vm] ?_ agDv ?_; with_reducible exact k1)
    | (go_at_call 46; refine hf.mono ?_; rintro e w2 ⟨u, rfl, hu, hb⟩; obtain ⟨a2, c2', p2, d2, rfl, u1, u2⟩ := hu.open; have t2 := rowB_below k2 hb (rowB_lt k2); have bY := bW.trans (hb.mono bW.size))
    | (refine wpList_storeR rfl 34 _ _ rfl (w.heap.size + 2) rfl #[.slice a2 NS.length c2', .slice p2 BS.length d2] rfl (dev2_one _ _ _ _ _ _) 34 #[.slice none 0 0, .slice none 0 0] rfl ?_ agDv ?_; with_reducible exact t2))
  refine bodyPost_ret (resultsRT rfl (w.heap.size + 2) _ rfl (rowB_row t2 _) agDv rfl) rfl ?_
  exact ⟨_, rfl, memR.box t2 u1 u2 _, below_rowR bY _ (by omega)⟩
set_option maxHeartbeats 1000000 in
theorem chRead7_any (nm : ByteArray) (b z : Int) (da : Option Addr) (nd dc : Nat) (v vm : Value) (l lb : List Int) (a : Int) (w : World) (h : isArg w v l) (hm : isByt w vm lb) (hwf : ∀ x ∈ l, (Lit.int .i64 x).wf = true) (hbb : ∀ x ∈ lb, 0 ≤ x ∧ x < 256) (hL : (7 : Int) = 8 → lb.length ≤ 140737488351232) (hd : nd ≤ 140737488351232) (hz : -9223372036854775808 ≤ z ∧ z ≤ 9223372036854775807) :
    Calls Try.prog 15 #[.agg (chip5 nm 7 b z (.slice da nd dc)), .agg #[v, vm], .int .i64 a] w fun e w' => ∃ u, e = .returned (.tuple #[u, .int .i64 ((Sn.of l).reg a)]) ∧ memR w' u (Sn.of l).ns [] ∧ Below w.heap.size w w' := by
  obtain ⟨VAL, hV⟩ : ∃ VAL, (Sn.of l).reg a = VAL := ⟨_, rfl⟩
  dsimp only [chip5]
  obtain ⟨k0, k1, k2, bW, sW⟩ := boxes3 w (.cells #[.string nm, .int .i64 7, .int .i64 b, .int .i64 z, .slice da nd dc] 24) (.cells #[v, vm] 34) (.cells #[.slice none 0 0, .slice none 0 0] 34)
  have k0 : rowB _ _ _ _ := k0
  have k1 : rowB _ _ _ _ := k1
  have k2 : rowB _ _ _ _ := k2
  have hA := isArg_below h bW (Nat.le_refl _)
  have hM := isByt_below hm bW (Nat.le_refl _)
  have hf : ∃ NS BS, NS = (Sn.of l).ns ∧ BS = [] ∧ Calls Try.prog 47 #[.agg #[v, vm], .int .i64 a] (((w.alloc (.cells #[.string nm, .int .i64 7, .int .i64 b, .int .i64 z, .slice da nd dc] 24)).alloc (.cells #[v, vm] 34)).alloc (.cells #[.slice none 0 0, .slice none 0 0] 34)) (fun e w' => ∃ u, e = .returned (.tuple #[u, .int .i64 ((Sn.of l).reg a)]) ∧ memR w' u NS BS ∧ Below (((w.alloc (.cells #[.string nm, .int .i64 7, .int .i64 b, .int .i64 z, .slice da nd dc] 24)).alloc (.cells #[v, vm] 34)).alloc (.cells #[.slice none 0 0, .slice none 0 0] 34)).heap.size (((w.alloc (.cells #[.string nm, .int .i64 7, .int .i64 b, .int .i64 z, .slice da nd dc] 24)).alloc (.cells #[v, vm] 34)).alloc (.cells #[.slice none 0 0, .slice none 0 0] 34)) w') := by
    refine ⟨_, _, rfl, rfl, (sndRead_any v vm l a _ hA).mono ?_⟩
    rintro e w' ⟨u, rfl, hu, hb⟩
    exact ⟨u, rfl, hu.mem (by show (12 : Nat) ≤ 9223372036854775807; decide), hb⟩
  obtain ⟨NS, BS, e1, e2, hf⟩ := hf
  rw [← e1, ← e2]
  rw [hV] at hf
  rw [hV]
  clear hV
  clear e1 e2 hA hM h hm hwf hbb hL hd hz
  obtain ⟨c0, c1, c2, c3, c4⟩ := ccells k0
  go_enter Try.func15, Try.ntmps15
  go_wp2_with (first
    | (refine wpList_loadR rfl 34 _ rfl (w.heap.size + 1) rfl 34 #[v, vm] ?_ agDv ?_; with_reducible exact k1)
    | (go_at_call 47; refine hf.mono ?_; rintro e w2 ⟨u, rfl, hu, hb⟩; obtain ⟨a2, c2', p2, d2, rfl, u1, u2⟩ := hu.open; have t2 := rowB_below k2 hb (rowB_lt k2); have bY := bW.trans (hb.mono bW.size))
    | (refine wpList_storeR rfl 34 _ _ rfl (w.heap.size + 2) rfl #[.slice a2 NS.length c2', .slice p2 BS.length d2] rfl (dev2_one _ _ _ _ _ _) 34 #[.slice none 0 0, .slice none 0 0] rfl ?_ agDv ?_; with_reducible exact t2))
  refine bodyPost_ret (resultsRT rfl (w.heap.size + 2) _ rfl (rowB_row t2 _) agDv rfl) rfl ?_
  exact ⟨_, rfl, memR.box t2 u1 u2 _, below_rowR bY _ (by omega)⟩
set_option maxHeartbeats 1000000 in
theorem chRead8_any (nm : ByteArray) (b z : Int) (da : Option Addr) (nd dc : Nat) (v vm : Value) (l lb : List Int) (a : Int) (w : World) (h : isArg w v l) (hm : isByt w vm lb) (hwf : ∀ x ∈ l, (Lit.int .i64 x).wf = true) (hbb : ∀ x ∈ lb, 0 ≤ x ∧ x < 256) (hL : (8 : Int) = 8 → lb.length ≤ 140737488351232) (hd : nd ≤ 140737488351232) (hz : -9223372036854775808 ≤ z ∧ z ≤ 9223372036854775807) :
    Calls Try.prog 15 #[.agg (chip5 nm 8 b z (.slice da nd dc)), .agg #[v, vm], .int .i64 a] w fun e w' => ∃ u, e = .returned (.tuple #[u, .int .i64 ((Dr.of l lb).reg a)]) ∧ memR w' u ((Dr.of l lb).read a).ns ((Dr.of l lb).read a).m ∧ Below w.heap.size w w' := by
  obtain ⟨VAL, hV⟩ : ∃ VAL, (Dr.of l lb).reg a = VAL := ⟨_, rfl⟩
  dsimp only [chip5]
  obtain ⟨k0, k1, k2, bW, sW⟩ := boxes3 w (.cells #[.string nm, .int .i64 8, .int .i64 b, .int .i64 z, .slice da nd dc] 24) (.cells #[v, vm] 34) (.cells #[.slice none 0 0, .slice none 0 0] 34)
  have k0 : rowB _ _ _ _ := k0
  have k1 : rowB _ _ _ _ := k1
  have k2 : rowB _ _ _ _ := k2
  have hA := isArg_below h bW (Nat.le_refl _)
  have hM := isByt_below hm bW (Nat.le_refl _)
  have hf : ∃ NS BS, NS = ((Dr.of l lb).read a).ns ∧ BS = ((Dr.of l lb).read a).m ∧ Calls Try.prog 48 #[.agg #[v, vm], .int .i64 a] (((w.alloc (.cells #[.string nm, .int .i64 8, .int .i64 b, .int .i64 z, .slice da nd dc] 24)).alloc (.cells #[v, vm] 34)).alloc (.cells #[.slice none 0 0, .slice none 0 0] 34)) (fun e w' => ∃ u, e = .returned (.tuple #[u, .int .i64 ((Dr.of l lb).reg a)]) ∧ memR w' u NS BS ∧ Below (((w.alloc (.cells #[.string nm, .int .i64 8, .int .i64 b, .int .i64 z, .slice da nd dc] 24)).alloc (.cells #[v, vm] 34)).alloc (.cells #[.slice none 0 0, .slice none 0 0] 34)).heap.size (((w.alloc (.cells #[.string nm, .int .i64 8, .int .i64 b, .int .i64 z, .slice da nd dc] 24)).alloc (.cells #[v, vm] 34)).alloc (.cells #[.slice none 0 0, .slice none 0 0] 34)) w') := by
    refine ⟨_, _, rfl, rfl, (drvRead_any v vm l lb a _ hA hM hbb (hL rfl)).mono ?_⟩
    rintro e w' ⟨u, rfl, hu, hb⟩
    exact ⟨u, rfl, hu.mem, hb⟩
  obtain ⟨NS, BS, e1, e2, hf⟩ := hf
  rw [← e1, ← e2]
  rw [hV] at hf
  rw [hV]
  clear hV
  clear e1 e2 hA hM h hm hwf hbb hL hd hz
  obtain ⟨c0, c1, c2, c3, c4⟩ := ccells k0
  go_enter Try.func15, Try.ntmps15
  go_wp2_with (first
    | (refine wpList_loadR rfl 34 _ rfl (w.heap.size + 1) rfl 34 #[v, vm] ?_ agDv ?_; with_reducible exact k1)
    | (go_at_call 48; refine hf.mono ?_; rintro e w2 ⟨u, rfl, hu, hb⟩; obtain ⟨a2, c2', p2, d2, rfl, u1, u2⟩ := hu.open; have t2 := rowB_below k2 hb (rowB_lt k2); have bY := bW.trans (hb.mono bW.size))
    | (refine wpList_storeR rfl 34 _ _ rfl (w.heap.size + 2) rfl #[.slice a2 NS.length c2', .slice p2 BS.length d2] rfl (dev2_one _ _ _ _ _ _) 34 #[.slice none 0 0, .slice none 0 0] rfl ?_ agDv ?_; with_reducible exact t2))
  refine bodyPost_ret (resultsRT rfl (w.heap.size + 2) _ rfl (rowB_row t2 _) agDv rfl) rfl ?_
  exact ⟨_, rfl, memR.box t2 u1 u2 _, below_rowR bY _ (by omega)⟩
set_option maxHeartbeats 1000000 in
theorem chReadN_any (nm : ByteArray) (k b z : Int) (da : Option Addr) (nd dc : Nat) (v vm : Value) (hk : k < 0 ∨ 8 < k) (a : Int) (w : World) :
    Calls Try.prog 15 #[.agg (chip5 nm k b z (.slice da nd dc)), .agg #[v, vm], .int .i64 a] w fun e w' => ∃ u, e = .returned (.tuple #[u, .int .i64 0]) ∧ memR w' u [] [] ∧ Below w.heap.size w w' := by
  have q0 : (k == 0) = false := beq_eq_false_iff_ne.2 (by omega)
  have q1 : (k == 1) = false := beq_eq_false_iff_ne.2 (by omega)
  have q2 : (k == 2) = false := beq_eq_false_iff_ne.2 (by omega)
  have q3 : (k == 3) = false := beq_eq_false_iff_ne.2 (by omega)
  have q4 : (k == 4) = false := beq_eq_false_iff_ne.2 (by omega)
  have q5 : (k == 5) = false := beq_eq_false_iff_ne.2 (by omega)
  have q6 : (k == 6) = false := beq_eq_false_iff_ne.2 (by omega)
  have q7 : (k == 7) = false := beq_eq_false_iff_ne.2 (by omega)
  have q8 : (k == 8) = false := beq_eq_false_iff_ne.2 (by omega)
  clear hk
  dsimp only [chip5]
  obtain ⟨k0, k1, k2, bW, sW⟩ := boxes3 w (.cells #[.string nm, .int .i64 k, .int .i64 b, .int .i64 z, .slice da nd dc] 24) (.cells #[v, vm] 34) (.cells #[.slice none 0 0, .slice none 0 0] 34)
  have k0 : rowB _ _ _ _ := k0
  have k2 : rowB _ _ _ _ := k2
  obtain ⟨c0, c1, c2, c3, c4⟩ := ccells k0
  go_enter Try.func15, Try.ntmps15
  go_wp2_with (refine wpList_storeR rfl 34 _ _ rfl (w.heap.size + 2) rfl #[.slice none 0 0, .slice none 0 0] rfl (dev2_one _ _ _ _ _ _) 34 #[.slice none 0 0, .slice none 0 0] rfl ?_ agDv ?_; with_reducible exact k2)
  refine bodyPost_ret (resultsRT rfl (w.heap.size + 2) _ rfl (rowB_row k2 _) agDv rfl) rfl ?_
  exact ⟨_, rfl, ⟨_, _, rfl, .inl ⟨none, 0, rfl, rfl⟩, .inl ⟨none, 0, rfl, rfl⟩⟩, below_rowR bW _ (by omega)⟩
theorem chRead_any (nm : ByteArray) (k b z : Int) (da : Option Addr) (nd dc : Nat) (v vm : Value) (l lb : List Int) (a : Int) (ha : -1 ≤ a ∧ a ≤ 4611686018427387904) (w : World) (h : isArg w v l) (hm : isByt w vm lb) (hwf : ∀ x ∈ l, (Lit.int .i64 x).wf = true) (hbb : ∀ x ∈ lb, 0 ≤ x ∧ x < 256) (hL : k = 8 → lb.length ≤ 140737488351232) (hd : nd ≤ 140737488351232) (hz : -9223372036854775808 ≤ z ∧ z ≤ 9223372036854775807) :
    Calls Try.prog 15 #[.agg (chip5 nm k b z (.slice da nd dc)), .agg #[v, vm], .int .i64 a] w fun e w' => ∃ u, e = .returned (.tuple #[u, .int .i64 (rdVal k z nd l lb a)]) ∧ memR w' u (rdNs k z nd l lb a) (rdBs k z nd l lb a) ∧ Below w.heap.size w w' := by
  rcases (by omega : k = 0 ∨ k = 1 ∨ k = 2 ∨ k = 3 ∨ k = 4 ∨ k = 5 ∨ k = 6 ∨ k = 7 ∨ k = 8 ∨ (k < 0 ∨ 8 < k)) with rfl | rfl | rfl | rfl | rfl | rfl | rfl | rfl | rfl | hk
  · rw [rdVal_not 0 z nd l lb a (by decide), rdNs_not 0 z nd l lb a (by decide), rdBs_not 0 z nd l lb a (by decide), if_pos (by decide), memNs_of (by decide), memBs_of (by decide), if_neg (by decide)]
    exact chRead0_any nm b z da nd dc v vm l lb a ha w h hm hwf hbb hL hd hz
  · rw [rdVal_not 1 z nd l lb a (by decide), rdNs_not 1 z nd l lb a (by decide), rdBs_not 1 z nd l lb a (by decide), if_pos (by decide), memNs_of (by decide), memBs_of (by decide), if_neg (by decide)]
    exact chRead1_any nm b z da nd dc v vm l lb a ha w h hm hwf hbb hL hd hz
  · rw [rdVal_not 2 z nd l lb a (by decide), rdNs_not 2 z nd l lb a (by decide), rdBs_not 2 z nd l lb a (by decide), if_pos (by decide), memNs_of (by decide), memBs_of (by decide), if_pos rfl]
    exact chRead2_any nm b z da nd dc v vm l lb a ha w h hm hwf hbb hL hd hz
  · rw [rdVal3, rdNs3, rdBs_not 3 z nd l lb a (by decide), memBs_chip (by decide)]
    exact chRead3_any nm b z da nd dc v vm l lb a w h hm hwf hbb hL hd hz
  · rw [rdVal4, rdNs_not 4 z nd l lb a (by decide), memNs_port, rdBs_not 4 z nd l lb a (by decide), memBs_chip (by decide)]
    exact chRead4_any nm b z da nd dc v vm l lb a w h hm hwf hbb hL hd hz
  · rw [rdVal5, rdNs5, rdBs_not 5 z nd l lb a (by decide), memBs_chip (by decide)]
    exact chRead5_any nm b z da nd dc v vm l lb a w h hm hwf hbb hL hd hz
  · rw [rdVal6, rdNs6, rdBs6]
    exact chRead6_any nm b z da nd dc v vm l lb a w h hm hwf hbb hL hd hz
  · rw [rdVal7, rdNs7, rdBs_not 7 z nd l lb a (by decide), memBs_chip (by decide)]
    exact chRead7_any nm b z da nd dc v vm l lb a w h hm hwf hbb hL hd hz
  · rw [rdVal8, rdNs8, rdBs8]
    exact chRead8_any nm b z da nd dc v vm l lb a w h hm hwf hbb hL hd hz
  · rw [rdVal_not k z nd l lb a (by omega), rdNs_not k z nd l lb a (by omega), rdBs_not k z nd l lb a (by omega), if_neg (by omega), (memSt_none hk z nd l lb).1, (memSt_none hk z nd l lb).2]
    exact chReadN_any nm k b z da nd dc v vm hk a w
end Go.Proofs.Ytakaebjojgeehaa
