/- An instruction that comes in, opened, and how many cycles it may have. -/
import Derived.Test.YtdiajkgebicnnaaChecked
import Derived.Test.YtdiajkgebicnnaaShape
import Derived.Test.YtdiajkgebicnnaaTabArg
import Derived.Test.YtdiajkgebicnnaaTabMath
import Derived.Below
import Derived.BigQuiet
import Derived.ChangeMaps5
import Derived.Deep.Draws
import Derived.Deep.OwnRows
import Derived.Deep.QuietTactic
import Derived.Deep.Slices
import Derived.Lib.Hide
import Derived.Lib.SmallJoins
import Derived.OpenShut
import Derived.OwnWalk
import Derived.RowKit3
import Derived.SizedLaws
import Derived.WalkKit
namespace Go.Proofs.Ytdiajkgebicnnaa
open Go.RowKit Go.ChangeShapes Go.WideShapes

section
variable {H : Type} {enc : TypeId × Value → H} {w : World} {base : Nat} {held : Bool}
theorem open_ins (fuel : Nat) (cs : List Value) (x : DataW H × List MemPlace) (h : DataW.trod enc Try.prog w base (fun _ => true) held fuel 78 cs = some x) :
    ∃ (op : Int) (nm : ByteArray) (md : Int) (l : List Cy) (v : Value), cs = [.int .i64 op, .string nm, .int .i64 md, v] ∧ isArr 4 cycleR w v l ∧
      (l.length = 0 ∨ ∃ parts elems spare, x.1 = .agg parts ∧ parts[3]? = some (.slice elems spare) ∧ l.length ≤ elems.length + spare.length) := by
  obtain ⟨xs, n, _, hx, hl, hlen, hf⟩ := DataW.trod_struct Try.underlying78 h
  have hc : Try.prog.cellsOf 78 = 4 := by kernel_rfl
  have h1 : Try.prog.cellsOf 3 = 1 := by kernel_rfl
  have h2 : Try.prog.cellsOf 9 = 1 := by kernel_rfl
  have h3 : Try.prog.cellsOf 68 = 1 := by kernel_rfl
  obtain ⟨c0, c1, c2, c3, rfl⟩ := list4 cs (hl.trans hc)
  have e : ∀ i, i < 4 → xs[i]? = some (xs[i]?.getD (.nil, [])) := fun i hi => by
    rw [List.getElem?_eq_getElem (by rw [hlen]; exact hi)]; rfl
  have f0 : DataW.trod enc Try.prog w base (fun _ => true) held n 3 ((([c0, c1, c2, c3] : List Value).drop 0).take (Try.prog.cellsOf 3)) = some (xs[0]?.getD (.nil, [])) := (hf 0 _ rfl).trans (e 0 (by decide))
  have f1 : DataW.trod enc Try.prog w base (fun _ => true) held n 9 ((([c0, c1, c2, c3] : List Value).drop 1).take (Try.prog.cellsOf 9)) = some (xs[1]?.getD (.nil, [])) := (hf 1 _ rfl).trans (e 1 (by decide))
  have f2 : DataW.trod enc Try.prog w base (fun _ => true) held n 3 ((([c0, c1, c2, c3] : List Value).drop 2).take (Try.prog.cellsOf 3)) = some (xs[2]?.getD (.nil, [])) := (hf 2 _ rfl).trans (e 2 (by decide))
  have f3 : DataW.trod enc Try.prog w base (fun _ => true) held n 68 ((([c0, c1, c2, c3] : List Value).drop 3).take (Try.prog.cellsOf 68)) = some (xs[3]?.getD (.nil, [])) := (hf 3 _ rfl).trans (e 3 (by decide))
  simp only [h1, h2, h3, List.drop, List.take] at f0 f1 f2 f3
  obtain ⟨a0, g0, _, _⟩ := DataW.trod_int Try.underlying3 f0
  obtain ⟨s1, g1, _, _⟩ := DataW.trod_string Try.underlying9 f1
  obtain ⟨a2, g2, _, _⟩ := DataW.trod_int Try.underlying3 f2
  obtain ⟨sa, sl, sc, l, g3, hl3, hz3, hle3, hcap3⟩ := open_arr (k := 4) Try.underlying68 (by kernel_rfl) (by decide) open_cycle f3
  simp at g0 g1 g2 g3
  subst g0 g1 g2 g3
  refine ⟨a0, s1, a2, l, _, rfl, hl3, ?_⟩
  rcases hcap3 with h0 | ⟨elems, spare, hd, hsum⟩
  · exact .inl (by omega)
  · refine .inr ⟨_, elems, spare, by rw [hx], ?_, by omega⟩
    rw [List.getElem?_map, e 3 (by decide)]
    exact congrArg some hd
end
end Go.Proofs.Ytdiajkgebicnnaa
