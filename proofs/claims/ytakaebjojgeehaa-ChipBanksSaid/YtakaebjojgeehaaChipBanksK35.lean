/- A part of the proof of ChipBanks: ChKm. -/
import Derived.Test.YtakaebjojgeehaaChipBanksK01
import Derived.Test.YtakaebjojgeehaaChipBanksK02
import Derived.Test.YtakaebjojgeehaaChipBanksK03
import Derived.Test.YtakaebjojgeehaaChipBanksK04
import Derived.Test.YtakaebjojgeehaaChipBanksK05
import Derived.Test.YtakaebjojgeehaaChipBanksK06
import Derived.Test.YtakaebjojgeehaaChipBanksK07
import Derived.Test.YtakaebjojgeehaaChipBanksK08
import Derived.Test.YtakaebjojgeehaaChipBanksK09
import Derived.Test.YtakaebjojgeehaaChipBanksK10
import Derived.Test.YtakaebjojgeehaaChipBanksK11
import Derived.Test.YtakaebjojgeehaaChipBanksK15
import Derived.Test.YtakaebjojgeehaaChipBanksK16
import Derived.Test.YtakaebjojgeehaaChipBanksK17
import Derived.Test.YtakaebjojgeehaaChipBanksK18
import Derived.Test.YtakaebjojgeehaaChipBanksK19
import Derived.Test.YtakaebjojgeehaaChipBanksK20
import Derived.Test.YtakaebjojgeehaaChipBanksK21
import Derived.Test.YtakaebjojgeehaaChipBanksK22
import Derived.Test.YtakaebjojgeehaaChipBanksK23
import Derived.Test.YtakaebjojgeehaaChipBanksK24
import Derived.Test.YtakaebjojgeehaaChipBanksK25
import Derived.Test.YtakaebjojgeehaaChipBanksK26
import Derived.Test.YtakaebjojgeehaaChipBanksK27
import Derived.Test.YtakaebjojgeehaaChipBanksK28
import Derived.Test.YtakaebjojgeehaaChipBanksK29
import Derived.Test.YtakaebjojgeehaaChipBanksK30
import Derived.Test.YtakaebjojgeehaaChipBanksK31
import Derived.Test.YtakaebjojgeehaaChipBanksK32
import Derived.Test.YtakaebjojgeehaaChipBanksK33
import Derived.Test.YtakaebjojgeehaaChipBanksK34
import Derived.Below
import Derived.BigQuiet
import Derived.ChangeMaps5
import Derived.Deep.AppendSrc
import Derived.Deep.DeepAppendWide
import Derived.Deep.DeepCutAuto
import Derived.Deep.Draws
import Derived.Deep.MidRow
import Derived.Deep.OwnRows
import Derived.Deep.QuietTactic
import Derived.Deep.RegionHeld3
import Derived.Deep.RegionWith
import Derived.Deep.Slices
import Derived.Deep.WholeRow
import Derived.Laws.CopyOwn
import Derived.Laws.OwnMore
import Derived.Lib.Hide
import Derived.Lib.SmallJoins
import Derived.Maps.AppendAt
import Derived.OpenShut
import Derived.OrdersHeld
import Derived.OwnWalk
import Derived.RowKit3
import Derived.Shelf.Abstract
import Derived.StillTactics
import Derived.StillTail
import Derived.StillTailTactics
import Derived.Test.YtakaebjojgeehaaChecked
import Derived.WalkKit
namespace Go.Proofs.Ytakaebjojgeehaa
open Go.RowKit
set_option maxRecDepth 100000
theorem devO.mem {lo : Nat} {w : World} {v : Value} {ns : List Int} (h : devO lo w v ns) (hl : ns.length ≤ 9223372036854775807) : memR w v ns [] := by
  obtain ⟨g, rfl, _, hr⟩ := h
  exact ⟨_, _, rfl, numB_arg hr hl, .inl ⟨none, 0, rfl, rfl⟩⟩
theorem devV.mem {lo : Nat} {w : World} {v : Value} {s : Vd} (h : devV lo w v s) (hs : s.fit) : memR w v [s.p, s.h] s.m := h.arg hs
theorem devA.mem {w : World} {v : Value} {s : Dr} (h : devA w v s) : memR w v s.ns s.m := h
theorem memR.below {w w' : World} {v : Value} {ns m : List Int} (h : memR w v ns m) (hb : Below w.heap.size w w') : memR w' v ns m := by
  obtain ⟨vx, vm, e, h1, h2⟩ := h
  exact ⟨vx, vm, e, isArg_below h1 hb (Nat.le_refl _), isByt_below h2 hb (Nat.le_refl _)⟩
theorem mmDevT_any {lo y q : Nat} {nm : ByteArray} {b z : Int} {da : Option Addr} {nd dc : Nat} {bk : Int} {m : List Int} {w : World} (h : stM lo w y q nm 2 b z da nd dc bk m) (hd : nd ≤ 140737488351232) :
    Calls Try.prog 27 #[.pointer (some ⟨y, 0, none⟩)] w fun e w' => ∃ u, e = .returned u ∧ memR w' u [bk] m ∧ Below w.heap.size w w' := by
  have := mmDev_any h hd
  rwa [if_pos rfl] at this
theorem mmDevF_any {lo y q : Nat} {nm : ByteArray} {k b z : Int} {da : Option Addr} {nd dc : Nat} {bk : Int} {m : List Int} {w : World} (h : stM lo w y q nm k b z da nd dc bk m) (hd : nd ≤ 140737488351232) (hk : k ≠ 2) :
    Calls Try.prog 27 #[.pointer (some ⟨y, 0, none⟩)] w fun e w' => ∃ u, e = .returned u ∧ memR w' u [] m ∧ Below w.heap.size w w' := by
  have := mmDev_any h hd
  rwa [if_neg hk] at this
def rdNs (k z : Int) (nd : Nat) (l lb : List Int) (a : Int) : List Int := if k = 3 then ((Tm.of l).read a).ns else if k = 5 then ((Sr.of l).read a).ns else if k = 6 then [((Vd.ofN l lb).read a).p, ((Vd.ofN l lb).read a).h] else if k = 7 then (Sn.of l).ns else if k = 8 then ((Dr.of l lb).read a).ns else memNs k z nd l
theorem rdNs3 (z : Int) (nd : Nat) (l lb : List Int) (a : Int) : rdNs 3 z nd l lb a = ((Tm.of l).read a).ns := by
  unfold rdNs
  rw [if_pos rfl]
theorem rdNs5 (z : Int) (nd : Nat) (l lb : List Int) (a : Int) : rdNs 5 z nd l lb a = ((Sr.of l).read a).ns := by
  unfold rdNs
  rw [if_neg (by decide), if_pos rfl]
theorem rdNs6 (z : Int) (nd : Nat) (l lb : List Int) (a : Int) : rdNs 6 z nd l lb a = [((Vd.ofN l lb).read a).p, ((Vd.ofN l lb).read a).h] := by
  unfold rdNs
  rw [if_neg (by decide), if_neg (by decide), if_pos rfl]
theorem rdNs7 (z : Int) (nd : Nat) (l lb : List Int) (a : Int) : rdNs 7 z nd l lb a = (Sn.of l).ns := by
  unfold rdNs
  rw [if_neg (by decide), if_neg (by decide), if_neg (by decide), if_pos rfl]
theorem rdNs8 (z : Int) (nd : Nat) (l lb : List Int) (a : Int) : rdNs 8 z nd l lb a = ((Dr.of l lb).read a).ns := by
  unfold rdNs
  rw [if_neg (by decide), if_neg (by decide), if_neg (by decide), if_neg (by decide), if_pos rfl]
theorem rdNs_not (k z : Int) (nd : Nat) (l lb : List Int) (a : Int) (hk : k ≠ 3 ∧ k ≠ 5 ∧ k ≠ 6 ∧ k ≠ 7 ∧ k ≠ 8) : rdNs k z nd l lb a = memNs k z nd l := by
  unfold rdNs
  rw [if_neg hk.1, if_neg hk.2.1, if_neg hk.2.2.1, if_neg hk.2.2.2.1, if_neg hk.2.2.2.2]
def rdBs (k z : Int) (nd : Nat) (l lb : List Int) (a : Int) : List Int := if k = 6 then ((Vd.ofN l lb).read a).m else if k = 8 then ((Dr.of l lb).read a).m else memBs k z nd lb
theorem rdBs6 (z : Int) (nd : Nat) (l lb : List Int) (a : Int) : rdBs 6 z nd l lb a = ((Vd.ofN l lb).read a).m := by
  unfold rdBs
  rw [if_pos rfl]
theorem rdBs8 (z : Int) (nd : Nat) (l lb : List Int) (a : Int) : rdBs 8 z nd l lb a = ((Dr.of l lb).read a).m := by
  unfold rdBs
  rw [if_neg (by decide), if_pos rfl]
theorem rdBs_not (k z : Int) (nd : Nat) (l lb : List Int) (a : Int) (hk : k ≠ 6 ∧ k ≠ 8) : rdBs k z nd l lb a = memBs k z nd lb := by
  unfold rdBs
  rw [if_neg hk.1, if_neg hk.2]
def rdVal (k z : Int) (nd : Nat) (l lb : List Int) (a : Int) : Int := if k = 3 then (Tm.of l).reg a else if k = 4 then (Pt.of l).reg a else if k = 5 then (Sr.of l).reg a else if k = 6 then (Vd.ofN l lb).reg a else if k = 7 then (Sn.of l).reg a else if k = 8 then (Dr.of l lb).reg a else (if k = 0 ∨ k = 1 ∨ k = 2 then memRd k z (bankOf k z nd l) (pad (memSize k z nd) lb) a else 0)
theorem rdVal3 (z : Int) (nd : Nat) (l lb : List Int) (a : Int) : rdVal 3 z nd l lb a = (Tm.of l).reg a := by
  unfold rdVal
  rw [if_pos rfl]
theorem rdVal4 (z : Int) (nd : Nat) (l lb : List Int) (a : Int) : rdVal 4 z nd l lb a = (Pt.of l).reg a := by
  unfold rdVal
  rw [if_neg (by decide), if_pos rfl]
theorem rdVal5 (z : Int) (nd : Nat) (l lb : List Int) (a : Int) : rdVal 5 z nd l lb a = (Sr.of l).reg a := by
  unfold rdVal
  rw [if_neg (by decide), if_neg (by decide), if_pos rfl]
theorem rdVal6 (z : Int) (nd : Nat) (l lb : List Int) (a : Int) : rdVal 6 z nd l lb a = (Vd.ofN l lb).reg a := by
  unfold rdVal
  rw [if_neg (by decide), if_neg (by decide), if_neg (by decide), if_pos rfl]
theorem rdVal7 (z : Int) (nd : Nat) (l lb : List Int) (a : Int) : rdVal 7 z nd l lb a = (Sn.of l).reg a := by
  unfold rdVal
  rw [if_neg (by decide), if_neg (by decide), if_neg (by decide), if_neg (by decide), if_pos rfl]
theorem rdVal8 (z : Int) (nd : Nat) (l lb : List Int) (a : Int) : rdVal 8 z nd l lb a = (Dr.of l lb).reg a := by
  unfold rdVal
  rw [if_neg (by decide), if_neg (by decide), if_neg (by decide), if_neg (by decide), if_neg (by decide), if_pos rfl]
theorem rdVal_not (k z : Int) (nd : Nat) (l lb : List Int) (a : Int) (hk : k ≠ 3 ∧ k ≠ 4 ∧ k ≠ 5 ∧ k ≠ 6 ∧ k ≠ 7 ∧ k ≠ 8) : rdVal k z nd l lb a = (if k = 0 ∨ k = 1 ∨ k = 2 then memRd k z (bankOf k z nd l) (pad (memSize k z nd) lb) a else 0) := by
  unfold rdVal
  rw [if_neg hk.1, if_neg hk.2.1, if_neg hk.2.2.1, if_neg hk.2.2.2.1, if_neg hk.2.2.2.2.1, if_neg hk.2.2.2.2.2]
def wrNs (k z : Int) (nd : Nat) (l lb : List Int) (a d : Int) : List Int := if k = 3 then ((Tm.of l).write a d).ns else if k = 4 then ((Pt.of l).write a d).ns else if k = 5 then ((Sr.of l).write a d).ns else if k = 6 then [((Vd.ofN l lb).write a d).p, ((Vd.ofN l lb).write a d).h] else if k = 7 then ((Sn.of l).write a d).ns else if k = 8 then ((Dr.of l lb).write a d).ns else if k = 2 then [memWb k z nd (bankOf k z nd l) a d] else []
theorem wrNs3 (z : Int) (nd : Nat) (l lb : List Int) (a d : Int) : wrNs 3 z nd l lb a d = ((Tm.of l).write a d).ns := by
  unfold wrNs
  rw [if_pos rfl]
theorem wrNs4 (z : Int) (nd : Nat) (l lb : List Int) (a d : Int) : wrNs 4 z nd l lb a d = ((Pt.of l).write a d).ns := by
  unfold wrNs
  rw [if_neg (by decide), if_pos rfl]
theorem wrNs5 (z : Int) (nd : Nat) (l lb : List Int) (a d : Int) : wrNs 5 z nd l lb a d = ((Sr.of l).write a d).ns := by
  unfold wrNs
  rw [if_neg (by decide), if_neg (by decide), if_pos rfl]
theorem wrNs6 (z : Int) (nd : Nat) (l lb : List Int) (a d : Int) : wrNs 6 z nd l lb a d = [((Vd.ofN l lb).write a d).p, ((Vd.ofN l lb).write a d).h] := by
  unfold wrNs
  rw [if_neg (by decide), if_neg (by decide), if_neg (by decide), if_pos rfl]
theorem wrNs7 (z : Int) (nd : Nat) (l lb : List Int) (a d : Int) : wrNs 7 z nd l lb a d = ((Sn.of l).write a d).ns := by
  unfold wrNs
  rw [if_neg (by decide), if_neg (by decide), if_neg (by decide), if_neg (by decide), if_pos rfl]
theorem wrNs8 (z : Int) (nd : Nat) (l lb : List Int) (a d : Int) : wrNs 8 z nd l lb a d = ((Dr.of l lb).write a d).ns := by
  unfold wrNs
  rw [if_neg (by decide), if_neg (by decide), if_neg (by decide), if_neg (by decide), if_neg (by decide), if_pos rfl]
theorem wrNs2 (z : Int) (nd : Nat) (l lb : List Int) (a d : Int) : wrNs 2 z nd l lb a d = [memWb 2 z nd (bankOf 2 z nd l) a d] := by
  unfold wrNs
  rw [if_neg (by decide), if_neg (by decide), if_neg (by decide), if_neg (by decide), if_neg (by decide), if_neg (by decide), if_pos rfl]
theorem wrNs_not (k z : Int) (nd : Nat) (l lb : List Int) (a d : Int) (hk : k ≠ 3 ∧ k ≠ 4 ∧ k ≠ 5 ∧ k ≠ 6 ∧ k ≠ 7 ∧ k ≠ 8 ∧ k ≠ 2) : wrNs k z nd l lb a d = [] := by
  unfold wrNs
  rw [if_neg hk.1, if_neg hk.2.1, if_neg hk.2.2.1, if_neg hk.2.2.2.1, if_neg hk.2.2.2.2.1, if_neg hk.2.2.2.2.2.1, if_neg hk.2.2.2.2.2.2]
def wrBs (k z : Int) (nd : Nat) (l lb : List Int) (a d : Int) : List Int := if k = 6 then ((Vd.ofN l lb).write a d).m else if k = 8 then ((Dr.of l lb).write a d).m else (if k = 0 ∨ k = 1 ∨ k = 2 then memWm k z (bankOf k z nd l) (pad (memSize k z nd) lb) a d else [])
theorem wrBs6 (z : Int) (nd : Nat) (l lb : List Int) (a d : Int) : wrBs 6 z nd l lb a d = ((Vd.ofN l lb).write a d).m := by
  unfold wrBs
  rw [if_pos rfl]
theorem wrBs8 (z : Int) (nd : Nat) (l lb : List Int) (a d : Int) : wrBs 8 z nd l lb a d = ((Dr.of l lb).write a d).m := by
  unfold wrBs
  rw [if_neg (by decide), if_pos rfl]
theorem wrBs_not (k z : Int) (nd : Nat) (l lb : List Int) (a d : Int) (hk : k ≠ 6 ∧ k ≠ 8) : wrBs k z nd l lb a d = (if k = 0 ∨ k = 1 ∨ k = 2 then memWm k z (bankOf k z nd l) (pad (memSize k z nd) lb) a d else []) := by
  unfold wrBs
  rw [if_neg hk.1, if_neg hk.2]
def nwNs (k z : Int) (ld : List Int) : List Int := if k = 3 then [0, 0, 0, 0] else if k = 4 then [255, 0, 0] else if k = 5 then [0, 0, 0, 0, 0, 0, 0, 0] else if k = 6 then [2559, 0] else if k = 7 then [0, 0, 0, 0, 0, 0, 0, 0, 0, 0, 0, 0] else if k = 8 then (Dr.of [] ld).ns else memNs k z ld.length []
theorem nwNs3 (z : Int) (ld : List Int) : nwNs 3 z ld = [0, 0, 0, 0] := by
  unfold nwNs
  rw [if_pos rfl]
theorem nwNs4 (z : Int) (ld : List Int) : nwNs 4 z ld = [255, 0, 0] := by
  unfold nwNs
  rw [if_neg (by decide), if_pos rfl]
theorem nwNs5 (z : Int) (ld : List Int) : nwNs 5 z ld = [0, 0, 0, 0, 0, 0, 0, 0] := by
  unfold nwNs
  rw [if_neg (by decide), if_neg (by decide), if_pos rfl]
theorem nwNs6 (z : Int) (ld : List Int) : nwNs 6 z ld = [2559, 0] := by
  unfold nwNs
  rw [if_neg (by decide), if_neg (by decide), if_neg (by decide), if_pos rfl]
theorem nwNs7 (z : Int) (ld : List Int) : nwNs 7 z ld = [0, 0, 0, 0, 0, 0, 0, 0, 0, 0, 0, 0] := by
  unfold nwNs
  rw [if_neg (by decide), if_neg (by decide), if_neg (by decide), if_neg (by decide), if_pos rfl]
theorem nwNs8 (z : Int) (ld : List Int) : nwNs 8 z ld = (Dr.of [] ld).ns := by
  unfold nwNs
  rw [if_neg (by decide), if_neg (by decide), if_neg (by decide), if_neg (by decide), if_neg (by decide), if_pos rfl]
theorem nwNs_not (k z : Int) (ld : List Int) (hk : k ≠ 3 ∧ k ≠ 4 ∧ k ≠ 5 ∧ k ≠ 6 ∧ k ≠ 7 ∧ k ≠ 8) : nwNs k z ld = memNs k z ld.length [] := by
  unfold nwNs
  rw [if_neg hk.1, if_neg hk.2.1, if_neg hk.2.2.1, if_neg hk.2.2.2.1, if_neg hk.2.2.2.2.1, if_neg hk.2.2.2.2.2]
def nwBs (k z : Int) (ld : List Int) : List Int := if k = 6 then zeros32 else if k = 8 then (Dr.of [] ld).m else memBs k z ld.length ld
theorem nwBs6 (z : Int) (ld : List Int) : nwBs 6 z ld = zeros32 := by
  unfold nwBs
  rw [if_pos rfl]
theorem nwBs8 (z : Int) (ld : List Int) : nwBs 8 z ld = (Dr.of [] ld).m := by
  unfold nwBs
  rw [if_neg (by decide), if_pos rfl]
theorem nwBs_not (k z : Int) (ld : List Int) (hk : k ≠ 6 ∧ k ≠ 8) : nwBs k z ld = memBs k z ld.length ld := by
  unfold nwBs
  rw [if_neg hk.1, if_neg hk.2]
theorem memBs_of {k : Int} (hk : k = 0 ∨ k = 1 ∨ k = 2) (z : Int) (nd : Nat) (lb : List Int) : memBs k z nd lb = pad (memSize k z nd) lb := if_pos hk
theorem memNs_of {k : Int} (hk : k = 0 ∨ k = 1 ∨ k = 2) (z : Int) (nd : Nat) (l : List Int) : memNs k z nd l = if k = 2 then [bankOf k z nd l] else [] := by
  unfold memNs bankOf
  by_cases h : k = 2
  · rw [if_pos h, if_pos h, if_pos h]
  · rw [if_neg h, if_neg h, if_neg (by omega)]
theorem memSt_none {k : Int} (hk : k < 0 ∨ 8 < k) (z : Int) (nd : Nat) (l lb : List Int) : memNs k z nd l = [] ∧ memBs k z nd lb = [] := by
  unfold memNs memBs
  exact ⟨by rw [if_neg (by omega), if_neg (by omega)], if_neg (by omega)⟩
end Go.Proofs.Ytakaebjojgeehaa
