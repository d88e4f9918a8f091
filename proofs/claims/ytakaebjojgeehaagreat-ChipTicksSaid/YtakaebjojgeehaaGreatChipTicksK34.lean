/- A part of the proof of ChipTicks: ChMath, ChKm. -/
import Derived.Test.YtakaebjojgeehaaGreatChipTicksK01
import Derived.Test.YtakaebjojgeehaaGreatChipTicksK02
import Derived.Test.YtakaebjojgeehaaGreatChipTicksK03
import Derived.Test.YtakaebjojgeehaaGreatChipTicksK04
import Derived.Test.YtakaebjojgeehaaGreatChipTicksK05
import Derived.Test.YtakaebjojgeehaaGreatChipTicksK06
import Derived.Test.YtakaebjojgeehaaGreatChipTicksK07
import Derived.Test.YtakaebjojgeehaaGreatChipTicksK08
import Derived.Test.YtakaebjojgeehaaGreatChipTicksK09
import Derived.Test.YtakaebjojgeehaaGreatChipTicksK12
import Derived.Test.YtakaebjojgeehaaGreatChipTicksK13
import Derived.Test.YtakaebjojgeehaaGreatChipTicksK14
import Derived.Test.YtakaebjojgeehaaGreatChipTicksK15
import Derived.Test.YtakaebjojgeehaaGreatChipTicksK16
import Derived.Test.YtakaebjojgeehaaGreatChipTicksK17
import Derived.Test.YtakaebjojgeehaaGreatChipTicksK18
import Derived.Test.YtakaebjojgeehaaGreatChipTicksK19
import Derived.Test.YtakaebjojgeehaaGreatChipTicksK22
import Derived.Test.YtakaebjojgeehaaGreatChipTicksK23
import Derived.Test.YtakaebjojgeehaaGreatChipTicksK25
import Derived.Test.YtakaebjojgeehaaGreatChipTicksK28
import Derived.Test.YtakaebjojgeehaaGreatChipTicksK29
import Derived.Test.YtakaebjojgeehaaGreatChipTicksK30
import Derived.Test.YtakaebjojgeehaaGreatChipTicksK31
import Derived.Test.YtakaebjojgeehaaGreatChipTicksK32
import Derived.Test.YtakaebjojgeehaaGreatChipTicksK33
import Derived.Below
import Derived.BigQuiet
import Derived.ChangeMaps5
import Derived.Deep.AppendSrc
import Derived.Deep.DeepAppendWide
import Derived.Deep.DeepCutAuto
import Derived.Deep.Draws
import Derived.Deep.MidRow
import Derived.Deep.OwnRows
import Derived.Deep.QuietTactic
import Derived.Deep.RegionHeld3
import Derived.Deep.RegionWith
import Derived.Deep.Slices
import Derived.Deep.WholeRow
import Derived.Laws.CopyOwn
import Derived.Laws.OwnMore
import Derived.Lib.Hide
import Derived.Lib.SmallJoins
import Derived.Maps.AppendAt
import Derived.OpenShut
import Derived.OrdersHeld
import Derived.OwnWalk
import Derived.RowKit3
import Derived.Shelf.Abstract
import Derived.StillTactics
import Derived.StillTail
import Derived.StillTailTactics
import Derived.Test.YtakaebjojgeehaaGreatChecked
import Derived.WalkKit
namespace Go.Proofs.YtakaebjojgeehaaGreat
open Go.RowKit
def memNs (k z : Int) (nd : Nat) (l : List Int) : List Int := if k = 2 then [l.getD 0 0 % mbank nd (mwin z)] else if k = 4 then (Pt.of l).ns else []

def memBs (k z : Int) (nd : Nat) (lb : List Int) : List Int := if k = 0 ∨ k = 1 ∨ k = 2 then pad (memSize k z nd) lb else []
/-- The numbers and the bytes of a chip so many cycles later. -/
def chNs (k z : Int) (nd : Nat) (l lb : List Int) (j : Int) : List Int :=
  if k = 3 then ((Tm.of l).skip j).ns else if k = 5 then ((Sr.of l).skip j).ns
  else if k = 6 then [((Vd.ofN l lb).ticks j.toNat).p, ((Vd.ofN l lb).ticks j.toNat).h]
  else if k = 7 then ((Sn.of l).ticks j.toNat).ns else if k = 8 then ((Dr.of l lb).ticks j.toNat).ns else memNs k z nd l
def chBs (k z : Int) (nd : Nat) (l lb : List Int) (j : Int) : List Int :=
  if k = 6 then ((Vd.ofN l lb).ticks j.toNat).m else if k = 8 then ((Dr.of l lb).ticks j.toNat).m else memBs k z nd lb
/-- Kinds that stay as they are. -/
def isStill (k : Int) : Prop := k ≠ 3 ∧ k ≠ 5 ∧ k ≠ 6 ∧ k ≠ 7 ∧ k ≠ 8
theorem kinds_of (k : Int) : k = 3 ∨ k = 5 ∨ k = 6 ∨ k = 7 ∨ k = 8 ∨ isStill k := by unfold isStill; omega
theorem chNs_still {k : Int} (h : isStill k) (z : Int) (nd : Nat) (l lb : List Int) (j : Int) : chNs k z nd l lb j = memNs k z nd l := by
  obtain ⟨h1, h2, h3, h4, h5⟩ := h
  unfold chNs
  rw [if_neg h1, if_neg h2, if_neg h3, if_neg h4, if_neg h5]
theorem chBs_still {k : Int} (h : isStill k) (z : Int) (nd : Nat) (l lb : List Int) (j : Int) : chBs k z nd l lb j = memBs k z nd lb := by
  obtain ⟨h1, h2, h3, h4, h5⟩ := h
  unfold chBs
  rw [if_neg h3, if_neg h5]
theorem chBs_none {k : Int} (h : k = 3 ∨ k = 5 ∨ k = 7) (z : Int) (nd : Nat) (l lb : List Int) (j : Int) : chBs k z nd l lb j = [] := by
  rcases h with rfl | rfl | rfl <;> rfl
theorem chNs3 (z : Int) (nd : Nat) (l lb : List Int) (j : Int) : chNs 3 z nd l lb j = ((Tm.of l).skip j).ns := by
  unfold chNs
  rw [if_pos rfl]
theorem chNs5 (z : Int) (nd : Nat) (l lb : List Int) (j : Int) : chNs 5 z nd l lb j = ((Sr.of l).skip j).ns := by
  unfold chNs
  rw [if_neg (by decide), if_pos rfl]
theorem chNs6 (z : Int) (nd : Nat) (l lb : List Int) (j : Int) : chNs 6 z nd l lb j = [((Vd.ofN l lb).ticks j.toNat).p, ((Vd.ofN l lb).ticks j.toNat).h] := by
  unfold chNs
  rw [if_neg (by decide), if_neg (by decide), if_pos rfl]
theorem chNs7 (z : Int) (nd : Nat) (l lb : List Int) (j : Int) : chNs 7 z nd l lb j = ((Sn.of l).ticks j.toNat).ns := by
  unfold chNs
  rw [if_neg (by decide), if_neg (by decide), if_neg (by decide), if_pos rfl]
theorem chNs8 (z : Int) (nd : Nat) (l lb : List Int) (j : Int) : chNs 8 z nd l lb j = ((Dr.of l lb).ticks j.toNat).ns := by
  unfold chNs
  rw [if_neg (by decide), if_neg (by decide), if_neg (by decide), if_neg (by decide), if_pos rfl]
theorem chBs6 (z : Int) (nd : Nat) (l lb : List Int) (j : Int) : chBs 6 z nd l lb j = ((Vd.ofN l lb).ticks j.toNat).m := by
  unfold chBs
  rw [if_pos rfl]
theorem chBs8 (z : Int) (nd : Nat) (l lb : List Int) (j : Int) : chBs 8 z nd l lb j = ((Dr.of l lb).ticks j.toNat).m := by
  unfold chBs
  rw [if_neg (by decide), if_pos rfl]
theorem Tm.skip_none0 (s : Tm) {j : Int} (h : j ≤ 0) : s.skip j = s := Tm.skip_none (by omega)
theorem Tm.ticks_add (s : Tm) (a b : Nat) : s.ticks (a + b) = (s.ticks a).ticks b := by
  induction b with
  | zero => rfl
  | succ b ih => show (s.ticks (a + b)).skip 1 = _; rw [ih]; rfl
theorem Sr.ticks_add (s : Sr) (a b : Nat) : s.ticks (a + b) = (s.ticks a).ticks b := by
  induction b with
  | zero => rfl
  | succ b ih => show (s.ticks (a + b)).skip 1 = _; rw [ih]; rfl
theorem Vd.ticks_add (s : Vd) (a b : Nat) : s.ticks (a + b) = (s.ticks a).ticks b := by
  induction b with
  | zero => rfl
  | succ b ih => show (s.ticks (a + b)).tick = _; rw [ih]; rfl
theorem Sn.ticks_add (s : Sn) (a b : Nat) : s.ticks (a + b) = (s.ticks a).ticks b := by
  induction b with
  | zero => rfl
  | succ b ih => show (s.ticks (a + b)).tick = _; rw [ih]; rfl
theorem mem_again (k z : Int) (nd : Nat) (l lb : List Int) : memNs k z nd (memNs k z nd l) = memNs k z nd l ∧ memBs k z nd (memBs k z nd lb) = memBs k z nd lb := by
  constructor
  · unfold memNs
    split
    · show [_ % _ % _] = _
      rw [Int.emod_emod_of_dvd _ (Int.dvd_refl _)]
    · split
      · rw [Pt.of_ns (Pt.of_fit l)]
      · rfl
  · unfold memBs
    split
    · exact pad_self (pad_len _ _)
    · rfl
/-- So many cycles, and so many more. -/
theorem ch_add (k z : Int) (nd : Nat) (l lb : List Int) (hb : ∀ x ∈ lb, 0 ≤ x ∧ x < 256) {i j : Int} (hi : 0 ≤ i) (hj : 0 ≤ j) :
    chNs k z nd (chNs k z nd l lb i) (chBs k z nd l lb i) j = chNs k z nd l lb (i + j) ∧ chBs k z nd (chNs k z nd l lb i) (chBs k z nd l lb i) j = chBs k z nd l lb (i + j) := by
  obtain ⟨a, rfl⟩ : ∃ a : Nat, i = a := ⟨i.toNat, by omega⟩
  obtain ⟨b, rfl⟩ : ∃ b : Nat, j = b := ⟨j.toNat, by omega⟩
  have e : (a : Int) + (b : Int) = ((a + b : Nat) : Int) := by omega
  rw [e]
  rcases kinds_of k with rfl | rfl | rfl | rfl | rfl | hk
  · refine ⟨?_, (chBs_none (by omega) _ _ _ _ _).trans (chBs_none (by omega) _ _ _ _ _).symm⟩
    show ((Tm.of ((Tm.of l).skip a).ns).skip b).ns = ((Tm.of l).skip ((a + b : Nat) : Int)).ns
    have hf := Tm.of_fit l
    rw [Tm.of_ns (Tm.skip_fit hf _), ← Tm.ticks_skip hf a, ← Tm.ticks_skip (Tm.ticks_fit hf a) b, ← Tm.ticks_skip hf, Tm.ticks_add]
  · refine ⟨?_, (chBs_none (by omega) _ _ _ _ _).trans (chBs_none (by omega) _ _ _ _ _).symm⟩
    show ((Sr.of ((Sr.of l).skip a).ns).skip b).ns = ((Sr.of l).skip ((a + b : Nat) : Int)).ns
    have hf := Sr.of_fit l
    rw [Sr.of_ns (Sr.skip_fit hf _), ← Sr.ticks_skip hf a, ← Sr.ticks_skip (Sr.ticks_fit hf a) b, ← Sr.ticks_skip hf, Sr.ticks_add]
  · have hf := Vd.ofN_fit l lb hb
    have h : Vd.ofN [((Vd.ofN l lb).ticks a).p, ((Vd.ofN l lb).ticks a).h] ((Vd.ofN l lb).ticks a).m = (Vd.ofN l lb).ticks a := Vd.ofN_self (Vd.ticks_fit hf a)
    refine ⟨?_, ?_⟩
    · show [((Vd.ofN [((Vd.ofN l lb).ticks a).p, ((Vd.ofN l lb).ticks a).h] ((Vd.ofN l lb).ticks a).m).ticks b).p, ((Vd.ofN [((Vd.ofN l lb).ticks a).p, ((Vd.ofN l lb).ticks a).h] ((Vd.ofN l lb).ticks a).m).ticks b).h] = [((Vd.ofN l lb).ticks (a + b)).p, ((Vd.ofN l lb).ticks (a + b)).h]
      rw [h, Vd.ticks_add]
    · show ((Vd.ofN [((Vd.ofN l lb).ticks a).p, ((Vd.ofN l lb).ticks a).h] ((Vd.ofN l lb).ticks a).m).ticks b).m = ((Vd.ofN l lb).ticks (a + b)).m
      rw [h, Vd.ticks_add]
  · refine ⟨?_, (chBs_none (by omega) _ _ _ _ _).trans (chBs_none (by omega) _ _ _ _ _).symm⟩
    show ((Sn.of ((Sn.of l).ticks a).ns).ticks b).ns = ((Sn.of l).ticks (a + b)).ns
    rw [Sn.of_ns (Sn.ticks_fit (Sn.of_fit l) a), Sn.ticks_add]
  · have h : Dr.of ((Dr.of l lb).ticks a).ns ((Dr.of l lb).ticks a).m = (Dr.of l lb).ticks a := Dr.of_ns (Dr.ticks_fit (Dr.of_fit l lb hb) a)
    refine ⟨?_, ?_⟩
    · show ((Dr.of ((Dr.of l lb).ticks a).ns ((Dr.of l lb).ticks a).m).ticks b).ns = ((Dr.of l lb).ticks (a + b)).ns
      rw [h, Dr.ticks_add]
    · show ((Dr.of ((Dr.of l lb).ticks a).ns ((Dr.of l lb).ticks a).m).ticks b).m = ((Dr.of l lb).ticks (a + b)).m
      rw [h, Dr.ticks_add]
  · rw [chNs_still hk, chBs_still hk, chNs_still hk, chNs_still hk, chBs_still hk, chBs_still hk]
    exact mem_again k z nd l lb
/-- No cycles, or fewer. -/
theorem ch_neg (k z : Int) (nd : Nat) (l lb : List Int) {j : Int} (hj : j ≤ 0) : chNs k z nd l lb j = chNs k z nd l lb 0 ∧ chBs k z nd l lb j = chBs k z nd l lb 0 := by
  have e : j.toNat = (0 : Int).toNat := by omega
  have e1 : (Tm.of l).skip j = (Tm.of l).skip 0 := by rw [Tm.skip_none0 _ hj, Tm.skip_none0 _ (Int.le_refl 0)]
  have e2 : (Sr.of l).skip j = (Sr.of l).skip 0 := by rw [Sr.skip_none (by omega), Sr.skip_none (by omega)]
  unfold chNs chBs
  rw [e, e1, e2]
  exact ⟨rfl, rfl⟩
/-- The bytes stay bytes; a drive's do not grow. -/
theorem pad_bd {lb : List Int} (hb : ∀ x ∈ lb, 0 ≤ x ∧ x < 256) (k : Nat) : ∀ x ∈ pad k lb, 0 ≤ x ∧ x < 256 := fun x hx => by
  unfold pad at hx
  obtain ⟨i, _, rfl⟩ := List.mem_map.1 hx
  exact Vd.reg_bd hb i
theorem ch_bytes (k z : Int) (nd : Nat) (l lb : List Int) (hb : ∀ x ∈ lb, 0 ≤ x ∧ x < 256) (j : Int) : ∀ x ∈ chBs k z nd l lb j, 0 ≤ x ∧ x < 256 := by
  unfold chBs
  split
  · exact Vd.fit_mem (Vd.ticks_fit (Vd.ofN_fit l lb hb) _)
  · split
    · exact (Dr.ticks_fit (Dr.of_fit l lb hb) _).y
    · unfold memBs
      split
      · exact pad_bd hb _
      · exact fun x hx => by simp at hx
theorem ch_len (z : Int) (nd : Nat) (l lb : List Int) (j : Int) : (chBs 8 z nd l lb j).length ≤ lb.length := by
  show ((Dr.of l lb).ticks j.toNat).m.length ≤ _
  rw [Dr.ticks_len]
  show (drM lb).length ≤ _
  rw [drM_len]
  omega
end Go.Proofs.YtakaebjojgeehaaGreat
namespace Go.Proofs.YtakaebjojgeehaaGreat
open Go.RowKit
set_option maxRecDepth 100000
theorem devO.mem {lo : Nat} {w : World} {v : Value} {ns : List Int} (h : devO lo w v ns) (hl : ns.length ≤ 9223372036854775807) : memR w v ns [] := by
  obtain ⟨g, rfl, _, hr⟩ := h
  exact ⟨_, _, rfl, numB_arg hr hl, .inl ⟨none, 0, rfl, rfl⟩⟩
theorem devV.mem {lo : Nat} {w : World} {v : Value} {s : Vd} (h : devV lo w v s) (hs : s.fit) : memR w v [s.p, s.h] s.m := h.arg hs
theorem devA.mem {w : World} {v : Value} {s : Dr} (h : devA w v s) : memR w v s.ns s.m := h
theorem memR.below {w w' : World} {v : Value} {ns m : List Int} (h : memR w v ns m) (hb : Below w.heap.size w w') : memR w' v ns m := by
  obtain ⟨vx, vm, e, h1, h2⟩ := h
  exact ⟨vx, vm, e, isArg_below h1 hb (Nat.le_refl _), isByt_below h2 hb (Nat.le_refl _)⟩
theorem mmDevT_any {lo y q : Nat} {nm : ByteArray} {b z : Int} {da : Option Addr} {nd dc : Nat} {bk : Int} {m : List Int} {w : World} (h : stM lo w y q nm 2 b z da nd dc bk m) (hd : nd ≤ 140737488351232) :
    Calls Tryz.prog 53 #[.pointer (some ⟨y, 0, none⟩)] w fun e w' => ∃ u, e = .returned u ∧ memR w' u [bk] m ∧ Below w.heap.size w w' := by
  have := mmDev_any h hd
  rwa [if_pos rfl] at this
theorem mmDevF_any {lo y q : Nat} {nm : ByteArray} {k b z : Int} {da : Option Addr} {nd dc : Nat} {bk : Int} {m : List Int} {w : World} (h : stM lo w y q nm k b z da nd dc bk m) (hd : nd ≤ 140737488351232) (hk : k ≠ 2) :
    Calls Tryz.prog 53 #[.pointer (some ⟨y, 0, none⟩)] w fun e w' => ∃ u, e = .returned u ∧ memR w' u [] m ∧ Below w.heap.size w w' := by
  have := mmDev_any h hd
  rwa [if_neg hk] at this
theorem Sn.skip_of {s : Sn} (h : s.fit) (j : Int) (hj : j ≤ 10000000) : s.skip j = s.ticks j.toNat := by
  by_cases h0 : j ≤ 0
  · rw [Sn.skip_neg h0, show j.toNat = 0 by omega]; rfl
  · have := Sn.skip_ticks h j.toNat (by omega)
    rwa [Int.toNat_of_nonneg (by omega)] at this
def rdNs (k z : Int) (nd : Nat) (l lb : List Int) (a : Int) : List Int := if k = 3 then ((Tm.of l).read a).ns else if k = 5 then ((Sr.of l).read a).ns else if k = 6 then [((Vd.ofN l lb).read a).p, ((Vd.ofN l lb).read a).h] else if k = 7 then (Sn.of l).ns else if k = 8 then ((Dr.of l lb).read a).ns else memNs k z nd l
theorem rdNs3 (z : Int) (nd : Nat) (l lb : List Int) (a : Int) : rdNs 3 z nd l lb a = ((Tm.of l).read a).ns := by
  unfold rdNs
  rw [if_pos rfl]
theorem rdNs5 (z : Int) (nd : Nat) (l lb : List Int) (a : Int) : rdNs 5 z nd l lb a = ((Sr.of l).read a).ns := by
  unfold rdNs
  rw [if_neg (by decide), if_pos rfl]
theorem rdNs6 (z : Int) (nd : Nat) (l lb : List Int) (a : Int) : rdNs 6 z nd l lb a = [((Vd.ofN l lb).read a).p, ((Vd.ofN l lb).read a).h] := by
  unfold rdNs
  rw [if_neg (by decide), if_neg (by decide), if_pos rfl]
theorem rdNs7 (z : Int) (nd : Nat) (l lb : List Int) (a : Int) : rdNs 7 z nd l lb a = (Sn.of l).ns := by
  unfold rdNs
  rw [if_neg (by decide), if_neg (by decide), if_neg (by decide), if_pos rfl]
theorem rdNs8 (z : Int) (nd : Nat) (l lb : List Int) (a : Int) : rdNs 8 z nd l lb a = ((Dr.of l lb).read a).ns := by
  unfold rdNs
  rw [if_neg (by decide), if_neg (by decide), if_neg (by decide), if_neg (by decide), if_pos rfl]
theorem rdNs_not (k z : Int) (nd : Nat) (l lb : List Int) (a : Int) (hk : k ≠ 3 ∧ k ≠ 5 ∧ k ≠ 6 ∧ k ≠ 7 ∧ k ≠ 8) : rdNs k z nd l lb a = memNs k z nd l := by
  unfold rdNs
  rw [if_neg hk.1, if_neg hk.2.1, if_neg hk.2.2.1, if_neg hk.2.2.2.1, if_neg hk.2.2.2.2]
def rdBs (k z : Int) (nd : Nat) (l lb : List Int) (a : Int) : List Int := if k = 6 then ((Vd.ofN l lb).read a).m else if k = 8 then ((Dr.of l lb).read a).m else memBs k z nd lb
theorem rdBs6 (z : Int) (nd : Nat) (l lb : List Int) (a : Int) : rdBs 6 z nd l lb a = ((Vd.ofN l lb).read a).m := by
  unfold rdBs
  rw [if_pos rfl]
theorem rdBs8 (z : Int) (nd : Nat) (l lb : List Int) (a : Int) : rdBs 8 z nd l lb a = ((Dr.of l lb).read a).m := by
  unfold rdBs
  rw [if_neg (by decide), if_pos rfl]
theorem rdBs_not (k z : Int) (nd : Nat) (l lb : List Int) (a : Int) (hk : k ≠ 6 ∧ k ≠ 8) : rdBs k z nd l lb a = memBs k z nd lb := by
  unfold rdBs
  rw [if_neg hk.1, if_neg hk.2]
def rdVal (k z : Int) (nd : Nat) (l lb : List Int) (a : Int) : Int := if k = 3 then (Tm.of l).reg a else if k = 4 then (Pt.of l).reg a else if k = 5 then (Sr.of l).reg a else if k = 6 then (Vd.ofN l lb).reg a else if k = 7 then (Sn.of l).reg a else if k = 8 then (Dr.of l lb).reg a else (if k = 0 ∨ k = 1 ∨ k = 2 then memRd k z (bankOf k z nd l) (pad (memSize k z nd) lb) a else 0)
theorem rdVal3 (z : Int) (nd : Nat) (l lb : List Int) (a : Int) : rdVal 3 z nd l lb a = (Tm.of l).reg a := by
  unfold rdVal
  rw [if_pos rfl]
theorem rdVal4 (z : Int) (nd : Nat) (l lb : List Int) (a : Int) : rdVal 4 z nd l lb a = (Pt.of l).reg a := by
  unfold rdVal
  rw [if_neg (by decide), if_pos rfl]
theorem rdVal5 (z : Int) (nd : Nat) (l lb : List Int) (a : Int) : rdVal 5 z nd l lb a = (Sr.of l).reg a := by
  unfold rdVal
  rw [if_neg (by decide), if_neg (by decide), if_pos rfl]
theorem rdVal6 (z : Int) (nd : Nat) (l lb : List Int) (a : Int) : rdVal 6 z nd l lb a = (Vd.ofN l lb).reg a := by
  unfold rdVal
  rw [if_neg (by decide), if_neg (by decide), if_neg (by decide), if_pos rfl]
theorem rdVal7 (z : Int) (nd : Nat) (l lb : List Int) (a : Int) : rdVal 7 z nd l lb a = (Sn.of l).reg a := by
  unfold rdVal
  rw [if_neg (by decide), if_neg (by decide), if_neg (by decide), if_neg (by decide), if_pos rfl]
theorem rdVal8 (z : Int) (nd : Nat) (l lb : List Int) (a : Int) : rdVal 8 z nd l lb a = (Dr.of l lb).reg a := by
  unfold rdVal
  rw [if_neg (by decide), if_neg (by decide), if_neg (by decide), if_neg (by decide), if_neg (by decide), if_pos rfl]
theorem rdVal_not (k z : Int) (nd : Nat) (l lb : List Int) (a : Int) (hk : k ≠ 3 ∧ k ≠ 4 ∧ k ≠ 5 ∧ k ≠ 6 ∧ k ≠ 7 ∧ k ≠ 8) : rdVal k z nd l lb a = (if k = 0 ∨ k = 1 ∨ k = 2 then memRd k z (bankOf k z nd l) (pad (memSize k z nd) lb) a else 0) := by
  unfold rdVal
  rw [if_neg hk.1, if_neg hk.2.1, if_neg hk.2.2.1, if_neg hk.2.2.2.1, if_neg hk.2.2.2.2.1, if_neg hk.2.2.2.2.2]
def wrNs (k z : Int) (nd : Nat) (l lb : List Int) (a d : Int) : List Int := if k = 3 then ((Tm.of l).write a d).ns else if k = 4 then ((Pt.of l).write a d).ns else if k = 5 then ((Sr.of l).write a d).ns else if k = 6 then [((Vd.ofN l lb).write a d).p, ((Vd.ofN l lb).write a d).h] else if k = 7 then ((Sn.of l).write a d).ns else if k = 8 then ((Dr.of l lb).write a d).ns else if k = 2 then [memWb k z nd (bankOf k z nd l) a d] else []
theorem wrNs3 (z : Int) (nd : Nat) (l lb : List Int) (a d : Int) : wrNs 3 z nd l lb a d = ((Tm.of l).write a d).ns := by
  unfold wrNs
  rw [if_pos rfl]
theorem wrNs4 (z : Int) (nd : Nat) (l lb : List Int) (a d : Int) : wrNs 4 z nd l lb a d = ((Pt.of l).write a d).ns := by
  unfold wrNs
  rw [if_neg (by decide), if_pos rfl]
theorem wrNs5 (z : Int) (nd : Nat) (l lb : List Int) (a d : Int) : wrNs 5 z nd l lb a d = ((Sr.of l).write a d).ns := by
  unfold wrNs
  rw [if_neg (by decide), if_neg (by decide), if_pos rfl]
theorem wrNs6 (z : Int) (nd : Nat) (l lb : List Int) (a d : Int) : wrNs 6 z nd l lb a d = [((Vd.ofN l lb).write a d).p, ((Vd.ofN l lb).write a d).h] := by
  unfold wrNs
  rw [if_neg (by decide), if_neg (by decide), if_neg (by decide), if_pos rfl]
theorem wrNs7 (z : Int) (nd : Nat) (l lb : List Int) (a d : Int) : wrNs 7 z nd l lb a d = ((Sn.of l).write a d).ns := by
  unfold wrNs
  rw [if_neg (by decide), if_neg (by decide), if_neg (by decide), if_neg (by decide), if_pos rfl]
theorem wrNs8 (z : Int) (nd : Nat) (l lb : List Int) (a d : Int) : wrNs 8 z nd l lb a d = ((Dr.of l lb).write a d).ns := by
  unfold wrNs
  rw [if_neg (by decide), if_neg (by decide), if_neg (by decide), if_neg (by decide), if_neg (by decide), if_pos rfl]
theorem wrNs2 (z : Int) (nd : Nat) (l lb : List Int) (a d : Int) : wrNs 2 z nd l lb a d = [memWb 2 z nd (bankOf 2 z nd l) a d] := by
  unfold wrNs
  rw [if_neg (by decide), if_neg (by decide), if_neg (by decide), if_neg (by decide), if_neg (by decide), if_neg (by decide), if_pos rfl]
theorem wrNs_not (k z : Int) (nd : Nat) (l lb : List Int) (a d : Int) (hk : k ≠ 3 ∧ k ≠ 4 ∧ k ≠ 5 ∧ k ≠ 6 ∧ k ≠ 7 ∧ k ≠ 8 ∧ k ≠ 2) : wrNs k z nd l lb a d = [] := by
  unfold wrNs
  rw [if_neg hk.1, if_neg hk.2.1, if_neg hk.2.2.1, if_neg hk.2.2.2.1, if_neg hk.2.2.2.2.1, if_neg hk.2.2.2.2.2.1, if_neg hk.2.2.2.2.2.2]
def wrBs (k z : Int) (nd : Nat) (l lb : List Int) (a d : Int) : List Int := if k = 6 then ((Vd.ofN l lb).write a d).m else if k = 8 then ((Dr.of l lb).write a d).m else (if k = 0 ∨ k = 1 ∨ k = 2 then memWm k z (bankOf k z nd l) (pad (memSize k z nd) lb) a d else [])
theorem wrBs6 (z : Int) (nd : Nat) (l lb : List Int) (a d : Int) : wrBs 6 z nd l lb a d = ((Vd.ofN l lb).write a d).m := by
  unfold wrBs
  rw [if_pos rfl]
theorem wrBs8 (z : Int) (nd : Nat) (l lb : List Int) (a d : Int) : wrBs 8 z nd l lb a d = ((Dr.of l lb).write a d).m := by
  unfold wrBs
  rw [if_neg (by decide), if_pos rfl]
theorem wrBs_not (k z : Int) (nd : Nat) (l lb : List Int) (a d : Int) (hk : k ≠ 6 ∧ k ≠ 8) : wrBs k z nd l lb a d = (if k = 0 ∨ k = 1 ∨ k = 2 then memWm k z (bankOf k z nd l) (pad (memSize k z nd) lb) a d else []) := by
  unfold wrBs
  rw [if_neg hk.1, if_neg hk.2]
def nwNs (k z : Int) (ld : List Int) : List Int := if k = 3 then [0, 0, 0, 0] else if k = 4 then [255, 0, 0] else if k = 5 then [0, 0, 0, 0, 0, 0, 0, 0] else if k = 6 then [2559, 0] else if k = 7 then [0, 0, 0, 0, 0, 0, 0, 0, 0, 0, 0, 0] else if k = 8 then (Dr.of [] ld).ns else memNs k z ld.length []
theorem nwNs3 (z : Int) (ld : List Int) : nwNs 3 z ld = [0, 0, 0, 0] := by
  unfold nwNs
  rw [if_pos rfl]
theorem nwNs4 (z : Int) (ld : List Int) : nwNs 4 z ld = [255, 0, 0] := by
  unfold nwNs
  rw [if_neg (by decide), if_pos rfl]
theorem nwNs5 (z : Int) (ld : List Int) : nwNs 5 z ld = [0, 0, 0, 0, 0, 0, 0, 0] := by
  unfold nwNs
  rw [if_neg (by decide), if_neg (by decide), if_pos rfl]
theorem nwNs6 (z : Int) (ld : List Int) : nwNs 6 z ld = [2559, 0] := by
  unfold nwNs
  rw [if_neg (by decide), if_neg (by decide), if_neg (by decide), if_pos rfl]
theorem nwNs7 (z : Int) (ld : List Int) : nwNs 7 z ld = [0, 0, 0, 0, 0, 0, 0, 0, 0, 0, 0, 0] := by
  unfold nwNs
  rw [if_neg (by decide), if_neg (by decide), if_neg (by decide), if_neg (by decide), if_pos rfl]
theorem nwNs8 (z : Int) (ld : List Int) : nwNs 8 z ld = (Dr.of [] ld).ns := by
  unfold nwNs
  rw [if_neg (by decide), if_neg (by decide), if_neg (by decide), if_neg (by decide), if_neg (by decide), if_pos rfl]
theorem nwNs_not (k z : Int) (ld : List Int) (hk : k ≠ 3 ∧ k ≠ 4 ∧ k ≠ 5 ∧ k ≠ 6 ∧ k ≠ 7 ∧ k ≠ 8) : nwNs k z ld = memNs k z ld.length [] := by
  unfold nwNs
  rw [if_neg hk.1, if_neg hk.2.1, if_neg hk.2.2.1, if_neg hk.2.2.2.1, if_neg hk.2.2.2.2.1, if_neg hk.2.2.2.2.2]
def nwBs (k z : Int) (ld : List Int) : List Int := if k = 6 then zeros32 else if k = 8 then (Dr.of [] ld).m else memBs k z ld.length ld
theorem nwBs6 (z : Int) (ld : List Int) : nwBs 6 z ld = zeros32 := by
  unfold nwBs
  rw [if_pos rfl]
theorem nwBs8 (z : Int) (ld : List Int) : nwBs 8 z ld = (Dr.of [] ld).m := by
  unfold nwBs
  rw [if_neg (by decide), if_pos rfl]
theorem nwBs_not (k z : Int) (ld : List Int) (hk : k ≠ 6 ∧ k ≠ 8) : nwBs k z ld = memBs k z ld.length ld := by
  unfold nwBs
  rw [if_neg hk.1, if_neg hk.2]
theorem memBs_of {k : Int} (hk : k = 0 ∨ k = 1 ∨ k = 2) (z : Int) (nd : Nat) (lb : List Int) : memBs k z nd lb = pad (memSize k z nd) lb := if_pos hk
theorem memNs_of {k : Int} (hk : k = 0 ∨ k = 1 ∨ k = 2) (z : Int) (nd : Nat) (l : List Int) : memNs k z nd l = if k = 2 then [bankOf k z nd l] else [] := by
  unfold memNs bankOf
  by_cases h : k = 2
  · rw [if_pos h, if_pos h, if_pos h]
  · rw [if_neg h, if_neg h, if_neg (by omega)]
theorem memSt_none {k : Int} (hk : k < 0 ∨ 8 < k) (z : Int) (nd : Nat) (l lb : List Int) : memNs k z nd l = [] ∧ memBs k z nd lb = [] := by
  unfold memNs memBs
  exact ⟨by rw [if_neg (by omega), if_neg (by omega)], if_neg (by omega)⟩
end Go.Proofs.YtakaebjojgeehaaGreat
