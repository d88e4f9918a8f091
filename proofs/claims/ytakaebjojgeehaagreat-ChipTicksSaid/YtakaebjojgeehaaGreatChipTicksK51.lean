/- A part of the proof of ChipTicks: ChRf, DrvC, ChipOpen. -/
import Derived.Test.YtakaebjojgeehaaGreatChipTicksK01
import Derived.Test.YtakaebjojgeehaaGreatChipTicksK02
import Derived.Test.YtakaebjojgeehaaGreatChipTicksK03
import Derived.Test.YtakaebjojgeehaaGreatChipTicksK04
import Derived.Test.YtakaebjojgeehaaGreatChipTicksK05
import Derived.Test.YtakaebjojgeehaaGreatChipTicksK06
import Derived.Test.YtakaebjojgeehaaGreatChipTicksK07
import Derived.Test.YtakaebjojgeehaaGreatChipTicksK08
import Derived.Test.YtakaebjojgeehaaGreatChipTicksK09
import Derived.Test.YtakaebjojgeehaaGreatChipTicksK12
import Derived.Test.YtakaebjojgeehaaGreatChipTicksK13
import Derived.Test.YtakaebjojgeehaaGreatChipTicksK14
import Derived.Test.YtakaebjojgeehaaGreatChipTicksK15
import Derived.Test.YtakaebjojgeehaaGreatChipTicksK16
import Derived.Test.YtakaebjojgeehaaGreatChipTicksK17
import Derived.Test.YtakaebjojgeehaaGreatChipTicksK18
import Derived.Test.YtakaebjojgeehaaGreatChipTicksK19
import Derived.Test.YtakaebjojgeehaaGreatChipTicksK20
import Derived.Test.YtakaebjojgeehaaGreatChipTicksK21
import Derived.Test.YtakaebjojgeehaaGreatChipTicksK22
import Derived.Test.YtakaebjojgeehaaGreatChipTicksK23
import Derived.Test.YtakaebjojgeehaaGreatChipTicksK24
import Derived.Test.YtakaebjojgeehaaGreatChipTicksK25
import Derived.Test.YtakaebjojgeehaaGreatChipTicksK28
import Derived.Test.YtakaebjojgeehaaGreatChipTicksK29
import Derived.Test.YtakaebjojgeehaaGreatChipTicksK30
import Derived.Test.YtakaebjojgeehaaGreatChipTicksK31
import Derived.Test.YtakaebjojgeehaaGreatChipTicksK32
import Derived.Test.YtakaebjojgeehaaGreatChipTicksK33
import Derived.Test.YtakaebjojgeehaaGreatChipTicksK34
import Derived.Test.YtakaebjojgeehaaGreatChipTicksK35
import Derived.Test.YtakaebjojgeehaaGreatChipTicksK42
import Derived.Test.YtakaebjojgeehaaGreatChipTicksK45
import Derived.Test.YtakaebjojgeehaaGreatChipTicksK46
import Derived.Test.YtakaebjojgeehaaGreatChipTicksK47
import Derived.Test.YtakaebjojgeehaaGreatChipTicksK48
import Derived.Test.YtakaebjojgeehaaGreatChipTicksK49
import Derived.Test.YtakaebjojgeehaaGreatChipTicksK50
import Derived.Below
import Derived.BigQuiet
import Derived.ChangeMaps5
import Derived.Deep.AppendSrc
import Derived.Deep.DeepAppendWide
import Derived.Deep.DeepCutAuto
import Derived.Deep.Draws
import Derived.Deep.MidRow
import Derived.Deep.OwnRows
import Derived.Deep.QuietTactic
import Derived.Deep.RegionHeld3
import Derived.Deep.RegionWith
import Derived.Deep.Slices
import Derived.Deep.WholeRow
import Derived.Laws.CopyOwn
import Derived.Laws.OwnMore
import Derived.Lib.Hide
import Derived.Lib.SmallJoins
import Derived.Maps.AppendAt
import Derived.OpenShut
import Derived.OrdersHeld
import Derived.OwnWalk
import Derived.RowKit3
import Derived.Shelf.Abstract
import Derived.StillTactics
import Derived.StillTail
import Derived.StillTailTactics
import Derived.Test.YtakaebjojgeehaaGreatChecked
import Derived.WalkKit
namespace Go.Proofs.YtakaebjojgeehaaGreat
open Go.RowKit
set_option maxRecDepth 100000
set_option linter.unusedVariables false
theorem len_le (n : Nat) (hn : n ≤ 12) : n ≤ 9223372036854775807 := by omega
/-- Kinds that stay as they are: what Formed gives. -/
theorem refStill_any (nm : ByteArray) (k b z : Int) (da : Option Addr) (nd dc : Nat) (v vm : Value) (l lb : List Int) (hk : isStill k) (w : World) (h : isArg w v l) (hm : isByt w vm lb) (hbb : ∀ x ∈ lb, 0 ≤ x ∧ x < 256) (hL : k = 8 → lb.length ≤ 140737488351232) (hd : nd ≤ 140737488351232) (hz : -9223372036854775808 ≤ z ∧ z ≤ 9223372036854775807) :
    Calls Tryz.prog 6 #[.agg (chip5 nm k b z (.slice da nd dc)), .agg #[v, vm]] w fun e w' => ∃ u, e = .returned u ∧ memR w' u (memNs k z nd l) (memBs k z nd lb) ∧ Below w.heap.size w w' := by
  rcases (by unfold isStill at hk; omega : k = 0 ∨ k = 1 ∨ k = 2 ∨ k = 4 ∨ (k < 0 ∨ 8 < k)) with rfl | rfl | rfl | rfl | hk
  · exact formedRam_any nm 0 b z (.inl rfl) _ v vm l lb w h hm
  · exact formedRam_any nm 1 b z (.inr rfl) _ v vm l lb w h hm
  · exact formedBank_any nm b z da nd dc hd hz v vm l lb w h hm
  · refine (formedPort_any nm b z _ v vm l w h).mono ?_
    rintro e w' ⟨u, rfl, hu, hb⟩
    exact ⟨u, rfl, hu.mem (len_le 3 (by decide)), hb⟩
  · rw [(memSt_none hk z nd l lb).1, (memSt_none hk z nd l lb).2]
    exact formedNone_any nm k b z hk _ v vm l lb w h hm
theorem refForm_any (nm : ByteArray) (k b z : Int) (da : Option Addr) (nd dc : Nat) (v vm : Value) (l lb : List Int) (w : World) (h : isArg w v l) (hm : isByt w vm lb) (hbb : ∀ x ∈ lb, 0 ≤ x ∧ x < 256) (hL : k = 8 → lb.length ≤ 140737488351232) (hd : nd ≤ 140737488351232) (hz : -9223372036854775808 ≤ z ∧ z ≤ 9223372036854775807) :
    Calls Tryz.prog 6 #[.agg (chip5 nm k b z (.slice da nd dc)), .agg #[v, vm]] w fun e w' => ∃ u, e = .returned u ∧ memR w' u (chNs k z nd l lb 0) (chBs k z nd l lb 0) ∧ Below w.heap.size w w' := by
  rcases kinds_of k with rfl | rfl | rfl | rfl | rfl | hk
  · rw [chNs3, chBs_none (by omega), Tm.skip_none0 _ (by decide)]
    refine (formedTim_any nm b z _ v vm l w h).mono ?_
    rintro e w' ⟨u, rfl, hu, hb⟩
    exact ⟨u, rfl, hu.mem (len_le 4 (by decide)), hb⟩
  · rw [chNs5, chBs_none (by omega), Sr.skip_none (by omega)]
    refine (formedSer_any nm b z _ v vm l w h).mono ?_
    rintro e w' ⟨u, rfl, hu, hb⟩
    exact ⟨u, rfl, hu.mem (len_le 8 (by decide)), hb⟩
  · rw [chNs6, chBs6]
    refine (formedV_any nm b z _ v vm l lb w h hm).mono ?_
    rintro e w' ⟨u, rfl, hu, hb⟩
    exact ⟨u, rfl, hu.mem (Vd.ofN_fit l lb hbb), hb⟩
  · rw [chNs7, chBs_none (by omega)]
    refine (formedSnd_any nm b z _ v vm l w h).mono ?_
    rintro e w' ⟨u, rfl, hu, hb⟩
    exact ⟨u, rfl, hu.mem (len_le 12 (by decide)), hb⟩
  · rw [chNs8, chBs8]
    refine (formedDrv_any nm b z _ v vm l lb w h hm (hL rfl)).mono ?_
    rintro e w' ⟨u, rfl, hu, hb⟩
    refine ⟨u, rfl, (hu.toA ?_).mem, hb⟩
    show (drM lb).length ≤ _
    have := hL rfl
    rw [drM_len]
    omega
  · rw [chNs_still hk, chBs_still hk]
    exact refStill_any nm k b z da nd dc v vm l lb hk w h hm hbb hL hd hz
theorem refTick_any (nm : ByteArray) (k b z : Int) (da : Option Addr) (nd dc : Nat) (v vm : Value) (l lb : List Int) (w : World) (h : isArg w v l) (hm : isByt w vm lb) (hbb : ∀ x ∈ lb, 0 ≤ x ∧ x < 256) (hL : k = 8 → lb.length ≤ 140737488351232) (hd : nd ≤ 140737488351232) (hz : -9223372036854775808 ≤ z ∧ z ≤ 9223372036854775807) :
    Calls Tryz.prog 7 #[.agg (chip5 nm k b z (.slice da nd dc)), .agg #[v, vm]] w fun e w' => ∃ u, e = .returned u ∧ memR w' u (chNs k z nd l lb 1) (chBs k z nd l lb 1) ∧ Below w.heap.size w w' := by
  rcases kinds_of k with rfl | rfl | rfl | rfl | rfl | hk
  · rw [chNs3, chBs_none (by omega)]
    refine (tickedTim_any nm b z _ v vm l w h).mono ?_
    rintro e w' ⟨u, rfl, hu, hb⟩
    exact ⟨u, rfl, hu.mem (len_le 4 (by decide)), hb⟩
  · rw [chNs5, chBs_none (by omega)]
    refine (tickedSer_any nm b z _ v vm l w h).mono ?_
    rintro e w' ⟨u, rfl, hu, hb⟩
    exact ⟨u, rfl, hu.mem (len_le 8 (by decide)), hb⟩
  · rw [chNs6, chBs6]
    refine (tickedVid_any nm b z _ v vm l lb w h hm hbb).mono ?_
    rintro e w' ⟨u, rfl, hu, hb⟩
    exact ⟨u, rfl, hu.mem (Vd.tick_fit (Vd.ofN_fit l lb hbb)), hb⟩
  · rw [chNs7, chBs_none (by omega)]
    refine (tickedSnd_any nm b z _ v vm l w h).mono ?_
    rintro e w' ⟨u, rfl, hu, hb⟩
    exact ⟨u, rfl, hu.mem (len_le 12 (by decide)), hb⟩
  · rw [chNs8, chBs8]
    refine (tickedDrv_any nm b z _ v vm l lb w h hm hbb (hL rfl)).mono ?_
    rintro e w' ⟨u, rfl, hu, hb⟩
    refine ⟨u, rfl, (hu.toA ?_).mem, hb⟩
    have e : (Dr.of l lb).tick.m.length = (Dr.of l lb).m.length := Dr.ticks_len (Dr.of l lb) 1
    rw [e]
    show (drM lb).length ≤ _
    have := hL rfl
    rw [drM_len]
    omega
  · rw [chNs_still hk, chBs_still hk]
    refine tickedMem_any nm k b z _ v vm l lb _ _ w h hm hk ?_
    intro w' hb
    exact refStill_any nm k b z da nd dc v vm l lb hk w' (isArg_below h hb (Nat.le_refl _)) (isByt_below hm hb (Nat.le_refl _)) hbb hL hd hz
end Go.Proofs.YtakaebjojgeehaaGreat
namespace Go.Proofs.YtakaebjojgeehaaGreat
open Go.RowKit
set_option maxRecDepth 100000
theorem drvSkip_any (v vm : Value) (l lb : List Int) (k : Int) (w : World) (h : isArg w v l) (hm : isByt w vm lb) (hbb : ∀ x ∈ lb, 0 ≤ x ∧ x < 256) (hL : lb.length ≤ 140737488351232) (hk : -9223372036854775808 ≤ k ∧ k ≤ 9223372036854775807) :
    Calls Tryz.prog 34 #[.agg #[v, vm], .int .i64 k] w fun e w' => ∃ u, e = .returned u ∧ devA w' u ((Dr.of l lb).ticks k.toNat) ∧ Below w.heap.size w w' := by
  refine (drvSkip_from v vm l lb k w h hm hbb hL hk).mono ?_
  rintro e w' ⟨u, e1, e2, e3⟩
  exact ⟨u, e1, e2.toA, e3⟩
end Go.Proofs.YtakaebjojgeehaaGreat
namespace Go.Proofs.YtakaebjojgeehaaGreat
open Go.RowKit Go.ChangeShapes Go.WideShapes
set_option maxRecDepth 100000
theorem five_of {α : Type} (l : List α) (h : l.length = 5) : ∃ a b c d e, l = [a, b, c, d, e] := by
  match l, h with
  | [a, b, c, d, e], _ => exact ⟨a, b, c, d, e, rfl⟩
section
variable {H : Type} {enc : TypeId × Value → H} {w : World} {base : Nat} {held : Bool}
theorem open_chip_sized (fuel : Nat) (cs : List Value) (x : DataW H × List MemPlace) (h : DataW.trod enc Tryz.prog w base (fun _ => true) held fuel 24 cs = some x) :
    ∃ (nm : ByteArray) (k b z : Int) (vd : Value) (ld : List Int), cs = [.string nm, .int .i64 k, .int .i64 b, .int .i64 z, vd] ∧ nm.size ≤ maxLen ∧ (Lit.int .i64 k).wf = true ∧ (Lit.int .i64 b).wf = true ∧ (Lit.int .i64 z).wf = true ∧ (isByt w vd ld ∧ ∀ x ∈ ld, (Lit.int .u8 x).wf = true) ∧
      (ld.length = 0 ∨ ∃ parts elems spare, x.1 = .agg parts ∧ parts[4]? = some (.slice elems spare) ∧ ld.length ≤ elems.length + spare.length) := by
  obtain ⟨xs, n, _, hx, hl, hlen, hf⟩ := DataW.trod_struct Tryz.underlying24 h
  have hc : Tryz.prog.cellsOf 24 = 5 := by kernel_rfl
  have h1 : Tryz.prog.cellsOf 9 = 1 := by kernel_rfl
  have h2 : Tryz.prog.cellsOf 3 = 1 := by kernel_rfl
  have h3 : Tryz.prog.cellsOf 22 = 1 := by kernel_rfl
  obtain ⟨c0, c1, c2, c3, c4, rfl⟩ := five_of cs (hl.trans hc)
  have e : ∀ i, i < 5 → xs[i]? = some (xs[i]?.getD (.nil, [])) := fun i hi => by
    rw [List.getElem?_eq_getElem (by rw [hlen]; exact hi)]; rfl
  have f0 : DataW.trod enc Tryz.prog w base (fun _ => true) held n 9 ((([c0, c1, c2, c3, c4] : List Value).drop 0).take (Tryz.prog.cellsOf 9)) = some (xs[0]?.getD (.nil, [])) := (hf 0 _ rfl).trans (e 0 (by decide))
  have f1 : DataW.trod enc Tryz.prog w base (fun _ => true) held n 3 ((([c0, c1, c2, c3, c4] : List Value).drop 1).take (Tryz.prog.cellsOf 3)) = some (xs[1]?.getD (.nil, [])) := (hf 1 _ rfl).trans (e 1 (by decide))
  have f2 : DataW.trod enc Tryz.prog w base (fun _ => true) held n 3 ((([c0, c1, c2, c3, c4] : List Value).drop 2).take (Tryz.prog.cellsOf 3)) = some (xs[2]?.getD (.nil, [])) := (hf 2 _ rfl).trans (e 2 (by decide))
  have f3 : DataW.trod enc Tryz.prog w base (fun _ => true) held n 3 ((([c0, c1, c2, c3, c4] : List Value).drop 3).take (Tryz.prog.cellsOf 3)) = some (xs[3]?.getD (.nil, [])) := (hf 3 _ rfl).trans (e 3 (by decide))
  have f4 : DataW.trod enc Tryz.prog w base (fun _ => true) held n 22 ((([c0, c1, c2, c3, c4] : List Value).drop 4).take (Tryz.prog.cellsOf 22)) = some (xs[4]?.getD (.nil, [])) := (hf 4 _ rfl).trans (e 4 (by decide))
  simp only [h1, h2, h3, List.drop, List.take] at f0 f1 f2 f3 f4
  obtain ⟨s0, g0, _, hs⟩ := DataW.trod_string Tryz.underlying9 f0
  obtain ⟨a1, g1, _, w1⟩ := DataW.trod_int Tryz.underlying3 f1
  obtain ⟨a2, g2, _, w2⟩ := DataW.trod_int Tryz.underlying3 f2
  obtain ⟨a3, g3, _, w3⟩ := DataW.trod_int Tryz.underlying3 f3
  obtain ⟨vd, ld, g4, r4, hz⟩ := open_byts n _ _ f4
  simp at g0 g1 g2 g3 g4
  subst g0 g1 g2 g3 g4
  refine ⟨s0, a1, a2, a3, _, ld, rfl, hs, w1, w2, w3, r4, ?_⟩
  rcases hz with h0 | ⟨elems, spare, hd, hsum⟩
  · exact .inl h0
  · refine .inr ⟨_, elems, spare, by rw [hx], ?_, hsum⟩
    rw [List.getElem?_map, e 4 (by decide)]
    exact congrArg some hd
end
end Go.Proofs.YtakaebjojgeehaaGreat
