/- A chip's state that comes in by value, opened. No function is named here. -/
import Derived.Test.YtmjddoboogccoaaChecked
import Derived.Test.YtmjddoboogccoaaDevEq
import Derived.Test.YtmjddoboogccoaaShape
import Derived.Below
import Derived.BigQuiet
import Derived.ChangeMaps5
import Derived.Deep.DeepCutAuto
import Derived.Deep.Draws
import Derived.Deep.MidRow
import Derived.Deep.OwnRows
import Derived.Deep.QuietTactic
import Derived.Deep.RegionHeld3
import Derived.Deep.RegionWith
import Derived.Deep.Slices
import Derived.Deep.WholeRow
import Derived.Lib.Hide
import Derived.Lib.SmallJoins
import Derived.OpenShut
import Derived.OrdersHeld
import Derived.OwnWalk
import Derived.RowKit3
import Derived.StillTactics
import Derived.StillTail
import Derived.StillTailTactics
import Derived.WalkKit
namespace Go.Proofs.Ytmjddoboogccoaa
open Go.RowKit Go.ChangeShapes Go.WideShapes
set_option maxRecDepth 100000

def numR (k : IntKind) (_ : World) (cs : List Value) (x : Int) : Prop := cs = [.int k x] ∧ (Lit.int k x).wf = true
theorem isArr_arg {w : World} {v : Value} {l : List Int} (h : isArr 1 (numR .i64) w v l) : isArg w v l ∧ ∀ x ∈ l, (Lit.int .i64 x).wf = true := by
  rcases h with ⟨a, cap, rfl, rfl⟩ | ⟨b, off, cap, rfl, h1, h2, h3, h4⟩
  · exact ⟨.inl ⟨_, _, rfl, rfl⟩, fun x hx => by simp at hx⟩
  · refine ⟨.inr ⟨b, off, cap, rfl, h1, h2, h3, fun j hj => ?_⟩, fun x hx => ?_⟩
    · obtain ⟨cs, _, c2, rfl, _⟩ := h4 j _ (List.getElem?_eq_getElem hj)
      have := c2 0 (by decide)
      rw [Nat.mul_one, Nat.add_zero] at this
      rw [this, List.getD_eq_getElem?_getD, List.getElem?_eq_getElem hj]
      rfl
    · obtain ⟨i, hi⟩ := List.mem_iff_getElem?.1 hx
      obtain ⟨cs, _, _, _, hw⟩ := h4 i x hi
      exact hw
theorem isArr_byt {w : World} {v : Value} {l : List Int} (h : isArr 1 (numR .u8) w v l) : isByt w v l ∧ ∀ x ∈ l, (Lit.int .u8 x).wf = true := by
  rcases h with ⟨a, cap, rfl, rfl⟩ | ⟨b, off, cap, rfl, h1, h2, h3, h4⟩
  · exact ⟨.inl ⟨_, _, rfl, rfl⟩, fun x hx => by simp at hx⟩
  · refine ⟨.inr ⟨b, off, cap, rfl, h1, h2, h3, fun j hj => ?_⟩, fun x hx => ?_⟩
    · obtain ⟨cs, _, c2, rfl, _⟩ := h4 j _ (List.getElem?_eq_getElem hj)
      have := c2 0 (by decide)
      rw [Nat.mul_one, Nat.add_zero] at this
      rw [this, List.getD_eq_getElem?_getD, List.getElem?_eq_getElem hj]
      rfl
    · obtain ⟨i, hi⟩ := List.mem_iff_getElem?.1 hx
      obtain ⟨cs, _, _, _, hw⟩ := h4 i x hi
      exact hw
theorem two_of {α : Type} (l : List α) (h : l.length = 2) : ∃ a b, l = [a, b] := by
  match l, h with
  | [a, b], _ => exact ⟨a, b, rfl⟩
section
variable {H : Type} {enc : TypeId × Value → H} {w : World} {base : Nat} {held : Bool}
theorem open_num (t : TypeId) (k : IntKind) (ht : Try.prog.underlying t = some (.int k)) (fuel : Nat) (cs : List Value) (x : DataW H × List MemPlace) (h : DataW.trod enc Try.prog w base (fun _ => true) held fuel t cs = some x) : ∃ y, numR k w cs y := by
  obtain ⟨a, g, _, hw⟩ := DataW.trod_int ht h
  exact ⟨a, g, hw⟩
theorem open_dev_sized (fuel : Nat) (cs : List Value) (x : DataW H × List MemPlace) (h : DataW.trod enc Try.prog w base (fun _ => true) held fuel 25 cs = some x) :
    ∃ (vn vm : Value) (ln lb : List Int), cs = [vn, vm] ∧ (isArg w vn ln ∧ ∀ x ∈ ln, (Lit.int .i64 x).wf = true) ∧ (isByt w vm lb ∧ ∀ x ∈ lb, (Lit.int .u8 x).wf = true) ∧
      (lb.length = 0 ∨ ∃ parts elems spare, x.1 = .agg parts ∧ parts[1]? = some (.slice elems spare) ∧ lb.length ≤ elems.length + spare.length) := by
  obtain ⟨xs, n, _, hx, hl, hlen, hf⟩ := DataW.trod_struct Try.underlying25 h
  have hc : Try.prog.cellsOf 25 = 2 := by kernel_rfl
  have h1 : Try.prog.cellsOf 22 = 1 := by kernel_rfl
  have h2 : Try.prog.cellsOf 23 = 1 := by kernel_rfl
  obtain ⟨c0, c1, rfl⟩ := two_of cs (hl.trans hc)
  have e : ∀ i, i < 2 → xs[i]? = some (xs[i]?.getD (.nil, [])) := fun i hi => by
    rw [List.getElem?_eq_getElem (by rw [hlen]; exact hi)]; rfl
  have f0 : DataW.trod enc Try.prog w base (fun _ => true) held n 22 ((([c0, c1] : List Value).drop 0).take (Try.prog.cellsOf 22)) = some (xs[0]?.getD (.nil, [])) := (hf 0 _ rfl).trans (e 0 (by decide))
  have f1 : DataW.trod enc Try.prog w base (fun _ => true) held n 23 ((([c0, c1] : List Value).drop 1).take (Try.prog.cellsOf 23)) = some (xs[1]?.getD (.nil, [])) := (hf 1 _ rfl).trans (e 1 (by decide))
  simp only [h1, h2, List.drop, List.take] at f0 f1
  obtain ⟨a1, l1, k1, z1, g1, r1, _⟩ := open_arr (k := 1) (R := numR .i64) Try.underlying22 (by kernel_rfl) (by decide) (fun fuel cs x h => open_num 3 .i64 Try.underlying3 fuel cs x h) f0
  obtain ⟨a2, l2, k2, z2, g2, r2, hz2, hle2, hcap2⟩ := open_arr (k := 1) (R := numR .u8) Try.underlying23 (by kernel_rfl) (by decide) (fun fuel cs x h => open_num 5 .u8 Try.underlying5 fuel cs x h) f1
  simp at g1 g2
  subst g1 g2
  refine ⟨_, _, z1, z2, rfl, isArr_arg r1, isArr_byt r2, ?_⟩
  rcases hcap2 with h0 | ⟨elems, spare, hd, hsum⟩
  · exact .inl (by omega)
  · refine .inr ⟨_, elems, spare, by rw [hx], ?_, by omega⟩
    rw [List.getElem?_map, e 1 (by decide)]
    exact congrArg some hd
/-- Bytes that come in. -/
theorem open_byts (fuel : Nat) (cs : List Value) (x : DataW H × List MemPlace) (h : DataW.trod enc Try.prog w base (fun _ => true) held fuel 23 cs = some x) :
    ∃ (vm : Value) (lb : List Int), cs = [vm] ∧ (isByt w vm lb ∧ ∀ x ∈ lb, (Lit.int .u8 x).wf = true) ∧ (lb.length = 0 ∨ ∃ elems spare, x.1 = .slice elems spare ∧ lb.length ≤ elems.length + spare.length) := by
  obtain ⟨a2, l2, k2, z2, g2, r2, hz2, hle2, hcap2⟩ := open_arr (k := 1) (R := numR .u8) Try.underlying23 (by kernel_rfl) (by decide) (fun fuel cs x h => open_num 5 .u8 Try.underlying5 fuel cs x h) h
  refine ⟨_, z2, g2, isArr_byt r2, ?_⟩
  rcases hcap2 with h0 | ⟨elems, spare, hd, hsum⟩
  · exact .inl (by omega)
  · exact .inr ⟨elems, spare, hd, by omega⟩
theorem open_dev (fuel : Nat) (cs : List Value) (x : DataW H × List MemPlace) (h : DataW.trod enc Try.prog w base (fun _ => true) held fuel 25 cs = some x) :
    ∃ (vn vm : Value) (ln lb : List Int), cs = [vn, vm] ∧ (isArg w vn ln ∧ ∀ x ∈ ln, (Lit.int .i64 x).wf = true) ∧ (isByt w vm lb ∧ ∀ x ∈ lb, (Lit.int .u8 x).wf = true) := by
  obtain ⟨vn, vm, ln, lb, h1, h2, h3, _⟩ := open_dev_sized fuel cs x h
  exact ⟨vn, vm, ln, lb, h1, h2, h3⟩
end
end Go.Proofs.Ytmjddoboogccoaa
