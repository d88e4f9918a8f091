/- A step and registers that come in by value, opened. No function is named here. -/
import Derived.Test.YthhihmggaddlmaaChecked
import Derived.Test.YthhihmggaddlmaaRegs
import Derived.Below
import Derived.BigQuiet
import Derived.Deep.Draws
import Derived.Deep.OwnRows
import Derived.Deep.QuietTactic
import Derived.Deep.WholeRow
import Derived.Lib.Hide
import Derived.OpenShut
import Derived.OwnWalk
import Derived.RowKit3
import Derived.WalkKit
namespace Go.Proofs.Ythhihmggaddlmaa
set_option maxRecDepth 100000
open Go.RowKit Go.ChangeShapes Go.WideShapes

theorem okWide_array9 {P : Program} {W : World} {r : Reach} {base : Nat} {t e : TypeId} {v : Value} (ht : P.underlying t = some (.array 9 e)) (h : Value.okWide P W r base t v) : ∃ cs, v = .agg cs ∧ cs.size = P.cellsOf t := by
  simp only [Value.okWide, ht] at h
  obtain ⟨cs, h1, h2, _⟩ := h
  exact ⟨cs, h1, h2⟩
theorem four_of {α : Type} (l : List α) (h : l.length = 4) : ∃ a b c d, l = [a, b, c, d] := by
  match l, h with
  | [a, b, c, d], _ => exact ⟨a, b, c, d, rfl⟩
def numOf (o : Option Value) : Int := match o with
  | some (.int _ n) => n
  | _ => 0

section
variable {H : Type} {enc : TypeId × Value → H} {w : World} {base : Nat} {held : Bool}
theorem open_regs (fuel : Nat) (cs : List Value) (x : DataW H × List MemPlace) (h : DataW.trod enc Try.prog w base (fun _ => true) held fuel 27 cs = some x) : ∃ f : Nat → Int, cs = (arr9 f).toList := by
  obtain ⟨xs, n, _, _, hl, hlen, hf⟩ := DataW.trod_array Try.underlying27 h
  have hc : Try.prog.cellsOf 27 = 9 := by kernel_rfl
  have h1 : Try.prog.cellsOf 3 = 1 := by kernel_rfl
  rw [hc] at hl
  have cell : ∀ j, j < 9 → ∃ v : Int, cs[j]? = some (.int .i64 v) := fun j hj => by
    have h10 := hf j hj
    rw [h1, Nat.mul_one] at h10
    obtain ⟨v, h11, _, _⟩ := DataW.trod_int Try.underlying3 (h10.trans (List.getElem?_eq_getElem (by omega)))
    refine ⟨v, ?_⟩
    have h12 : (cs.drop j)[0]? = some (.int .i64 v) := by
      have := congrArg (·[0]?) h11
      simpa using this
    rw [List.getElem?_drop] at h12
    simpa using h12
  refine ⟨fun j => numOf cs[j]?, List.ext_getElem? fun j => ?_⟩
  by_cases hj : j < 9
  · obtain ⟨v, hv⟩ := cell j hj
    have e := arr9_get (fun j => numOf cs[j]?) j hj
    have e2 : (arr9 fun j => numOf cs[j]?).toList[j]? = (arr9 fun j => numOf cs[j]?)[j]? := Array.getElem?_toList
    rw [e2, e, hv]
    rfl
  · have e2 : (arr9 fun j => numOf cs[j]?).toList[j]? = (arr9 fun j => numOf cs[j]?)[j]? := Array.getElem?_toList
    rw [List.getElem?_eq_none (by omega), e2, Array.getElem?_eq_none (by rw [arr9_size]; omega)]
theorem open_stepA (fuel : Nat) (cs : List Value) (x : DataW H × List MemPlace) (h : DataW.trod enc Try.prog w base (fun _ => true) held fuel 100 cs = some x) : ∃ a b c d : Int, cs = [.int .i64 a, .int .i64 b, .int .i64 c, .int .i64 d] := by
  obtain ⟨xs, n, _, _, hl, hlen, hf⟩ := DataW.trod_struct Try.underlying100 h
  have hc : Try.prog.cellsOf 100 = 4 := by kernel_rfl
  have h1 : Try.prog.cellsOf 3 = 1 := by kernel_rfl
  obtain ⟨c0, c1, c2, c3, rfl⟩ := four_of cs (hl.trans hc)
  have e : ∀ i, i < 4 → xs[i]? = some (xs[i]?.getD (.nil, [])) := fun i hi => by
    rw [List.getElem?_eq_getElem (by rw [hlen]; exact hi)]; rfl
  have f0 : DataW.trod enc Try.prog w base (fun _ => true) held n 3 ((([c0, c1, c2, c3] : List Value).drop 0).take (Try.prog.cellsOf 3)) = some (xs[0]?.getD (.nil, [])) := (hf 0 _ rfl).trans (e 0 (by decide))
  have f1 : DataW.trod enc Try.prog w base (fun _ => true) held n 3 ((([c0, c1, c2, c3] : List Value).drop 1).take (Try.prog.cellsOf 3)) = some (xs[1]?.getD (.nil, [])) := (hf 1 _ rfl).trans (e 1 (by decide))
  have f2 : DataW.trod enc Try.prog w base (fun _ => true) held n 3 ((([c0, c1, c2, c3] : List Value).drop 2).take (Try.prog.cellsOf 3)) = some (xs[2]?.getD (.nil, [])) := (hf 2 _ rfl).trans (e 2 (by decide))
  have f3 : DataW.trod enc Try.prog w base (fun _ => true) held n 3 ((([c0, c1, c2, c3] : List Value).drop 3).take (Try.prog.cellsOf 3)) = some (xs[3]?.getD (.nil, [])) := (hf 3 _ rfl).trans (e 3 (by decide))
  simp only [h1, List.drop, List.take] at f0 f1 f2 f3
  obtain ⟨a0, g0, _, _⟩ := DataW.trod_int Try.underlying3 f0
  obtain ⟨a1, g1, _, _⟩ := DataW.trod_int Try.underlying3 f1
  obtain ⟨a2, g2, _, _⟩ := DataW.trod_int Try.underlying3 f2
  obtain ⟨a3, g3, _, _⟩ := DataW.trod_int Try.underlying3 f3
  simp at g0 g1 g2 g3
  subst g0 g1 g2 g3
  exact ⟨a0, a1, a2, a3, rfl⟩
end
end Go.Proofs.Ythhihmggaddlmaa
