/- A processor that comes in, opened: from what a proof's frame says of an argument to what the walks ask. -/
import Derived.Test.YthhihmggaddlmaaChecked
import Derived.Test.YthhihmggaddlmaaTabIns
import Derived.Below
import Derived.BigQuiet
import Derived.ChangeMaps5
import Derived.Deep.Draws
import Derived.Deep.OwnRows
import Derived.Deep.QuietTactic
import Derived.Deep.Slices
import Derived.Lib.Hide
import Derived.Lib.SmallJoins
import Derived.OpenShut
import Derived.OwnWalk
import Derived.RowKit3
import Derived.SizedLaws
import Derived.WalkKit
namespace Go.Proofs.Ythhihmggaddlmaa
open Go.RowKit Go.ChangeShapes Go.WideShapes

theorem list4 {α : Type} (l : List α) (h : l.length = 4) : ∃ a b c d, l = [a, b, c, d] := by
  match l, h with
  | [a, b, c, d], _ => exact ⟨a, b, c, d, rfl⟩
theorem list5 {α : Type} (l : List α) (h : l.length = 5) : ∃ a b c d e, l = [a, b, c, d, e] := by
  match l, h with
  | [a, b, c, d, e], _ => exact ⟨a, b, c, d, e, rfl⟩

section
variable {H : Type} {enc : TypeId × Value → H} {w : World} {base : Nat} {held : Bool}

theorem open_step (fuel : Nat) (cs : List Value) (x : DataW H × List MemPlace) (h : DataW.trod enc Try.prog w base (fun _ => true) held fuel 100 cs = some x) : ∃ y, stepR w cs y := by
  obtain ⟨xs, n, _, _, hl, hlen, hf⟩ := DataW.trod_struct Try.underlying100 h
  have hc : Try.prog.cellsOf 100 = 4 := by kernel_rfl
  have h1 : Try.prog.cellsOf 3 = 1 := by kernel_rfl
  obtain ⟨c0, c1, c2, c3, rfl⟩ := list4 cs (hl.trans hc)
  have e : ∀ i, i < 4 → xs[i]? = some (xs[i]?.getD (.nil, [])) := fun i hi => by
    rw [List.getElem?_eq_getElem (by rw [hlen]; exact hi)]; rfl
  have f0 : DataW.trod enc Try.prog w base (fun _ => true) held n 3 ((([c0, c1, c2, c3] : List Value).drop 0).take (Try.prog.cellsOf 3)) = some (xs[0]?.getD (.nil, [])) := (hf 0 _ rfl).trans (e 0 (by decide))
  have f1 : DataW.trod enc Try.prog w base (fun _ => true) held n 3 ((([c0, c1, c2, c3] : List Value).drop 1).take (Try.prog.cellsOf 3)) = some (xs[1]?.getD (.nil, [])) := (hf 1 _ rfl).trans (e 1 (by decide))
  have f2 : DataW.trod enc Try.prog w base (fun _ => true) held n 3 ((([c0, c1, c2, c3] : List Value).drop 2).take (Try.prog.cellsOf 3)) = some (xs[2]?.getD (.nil, [])) := (hf 2 _ rfl).trans (e 2 (by decide))
  have f3 : DataW.trod enc Try.prog w base (fun _ => true) held n 3 ((([c0, c1, c2, c3] : List Value).drop 3).take (Try.prog.cellsOf 3)) = some (xs[3]?.getD (.nil, [])) := (hf 3 _ rfl).trans (e 3 (by decide))
  simp only [h1, List.drop, List.take] at f0 f1 f2 f3
  obtain ⟨a0, g0, _, _⟩ := DataW.trod_int Try.underlying3 f0
  obtain ⟨a1, g1, _, _⟩ := DataW.trod_int Try.underlying3 f1
  obtain ⟨a2, g2, _, _⟩ := DataW.trod_int Try.underlying3 f2
  obtain ⟨a3, g3, _, _⟩ := DataW.trod_int Try.underlying3 f3
  simp at g0 g1 g2 g3
  subst g0 g1 g2 g3
  exact ⟨⟨a0, a1, a2, a3⟩, rfl⟩

theorem open_cycle (fuel : Nat) (cs : List Value) (x : DataW H × List MemPlace) (h : DataW.trod enc Try.prog w base (fun _ => true) held fuel 84 cs = some x) : ∃ y, cycleR w cs y := by
  obtain ⟨xs, n, _, _, hl, hlen, hf⟩ := DataW.trod_struct Try.underlying84 h
  have hc : Try.prog.cellsOf 84 = 4 := by kernel_rfl
  have h1 : Try.prog.cellsOf 3 = 1 := by kernel_rfl
  have h2 : Try.prog.cellsOf 82 = 1 := by kernel_rfl
  obtain ⟨c0, c1, c2, c3, rfl⟩ := list4 cs (hl.trans hc)
  have e : ∀ i, i < 4 → xs[i]? = some (xs[i]?.getD (.nil, [])) := fun i hi => by
    rw [List.getElem?_eq_getElem (by rw [hlen]; exact hi)]; rfl
  have f0 : DataW.trod enc Try.prog w base (fun _ => true) held n 3 ((([c0, c1, c2, c3] : List Value).drop 0).take (Try.prog.cellsOf 3)) = some (xs[0]?.getD (.nil, [])) := (hf 0 _ rfl).trans (e 0 (by decide))
  have f1 : DataW.trod enc Try.prog w base (fun _ => true) held n 3 ((([c0, c1, c2, c3] : List Value).drop 1).take (Try.prog.cellsOf 3)) = some (xs[1]?.getD (.nil, [])) := (hf 1 _ rfl).trans (e 1 (by decide))
  have f2 : DataW.trod enc Try.prog w base (fun _ => true) held n 3 ((([c0, c1, c2, c3] : List Value).drop 2).take (Try.prog.cellsOf 3)) = some (xs[2]?.getD (.nil, [])) := (hf 2 _ rfl).trans (e 2 (by decide))
  have f3 : DataW.trod enc Try.prog w base (fun _ => true) held n 82 ((([c0, c1, c2, c3] : List Value).drop 3).take (Try.prog.cellsOf 82)) = some (xs[3]?.getD (.nil, [])) := (hf 3 _ rfl).trans (e 3 (by decide))
  simp only [h1, h2, List.drop, List.take] at f0 f1 f2 f3
  obtain ⟨a0, g0, _, _⟩ := DataW.trod_int Try.underlying3 f0
  obtain ⟨a1, g1, _, _⟩ := DataW.trod_int Try.underlying3 f1
  obtain ⟨a2, g2, _, _⟩ := DataW.trod_int Try.underlying3 f2
  obtain ⟨sa, sl, sc, l, g3, hl3, _⟩ := open_arr (k := 4) Try.underlying82 (by kernel_rfl) (by decide) open_step f3
  simp at g0 g1 g2 g3
  subst g0 g1 g2 g3
  exact ⟨⟨a0, a1, a2, l⟩, _, rfl, hl3⟩

theorem open_instr (fuel : Nat) (cs : List Value) (x : DataW H × List MemPlace) (h : DataW.trod enc Try.prog w base (fun _ => true) held fuel 86 cs = some x) : ∃ y, insR w cs y := by
  obtain ⟨xs, n, _, _, hl, hlen, hf⟩ := DataW.trod_struct Try.underlying86 h
  have hc : Try.prog.cellsOf 86 = 4 := by kernel_rfl
  have h1 : Try.prog.cellsOf 3 = 1 := by kernel_rfl
  have h2 : Try.prog.cellsOf 9 = 1 := by kernel_rfl
  have h3 : Try.prog.cellsOf 23 = 1 := by kernel_rfl
  obtain ⟨c0, c1, c2, c3, rfl⟩ := list4 cs (hl.trans hc)
  have e : ∀ i, i < 4 → xs[i]? = some (xs[i]?.getD (.nil, [])) := fun i hi => by
    rw [List.getElem?_eq_getElem (by rw [hlen]; exact hi)]; rfl
  have f0 : DataW.trod enc Try.prog w base (fun _ => true) held n 3 ((([c0, c1, c2, c3] : List Value).drop 0).take (Try.prog.cellsOf 3)) = some (xs[0]?.getD (.nil, [])) := (hf 0 _ rfl).trans (e 0 (by decide))
  have f1 : DataW.trod enc Try.prog w base (fun _ => true) held n 9 ((([c0, c1, c2, c3] : List Value).drop 1).take (Try.prog.cellsOf 9)) = some (xs[1]?.getD (.nil, [])) := (hf 1 _ rfl).trans (e 1 (by decide))
  have f2 : DataW.trod enc Try.prog w base (fun _ => true) held n 3 ((([c0, c1, c2, c3] : List Value).drop 2).take (Try.prog.cellsOf 3)) = some (xs[2]?.getD (.nil, [])) := (hf 2 _ rfl).trans (e 2 (by decide))
  have f3 : DataW.trod enc Try.prog w base (fun _ => true) held n 23 ((([c0, c1, c2, c3] : List Value).drop 3).take (Try.prog.cellsOf 23)) = some (xs[3]?.getD (.nil, [])) := (hf 3 _ rfl).trans (e 3 (by decide))
  simp only [h1, h2, h3, List.drop, List.take] at f0 f1 f2 f3
  obtain ⟨a0, g0, _, _⟩ := DataW.trod_int Try.underlying3 f0
  obtain ⟨s1, g1, _, hs⟩ := DataW.trod_string Try.underlying9 f1
  obtain ⟨a2, g2, _, hw⟩ := DataW.trod_int Try.underlying3 f2
  obtain ⟨sa, sl, sc, l, g3, hl3, _⟩ := open_arr (k := 4) Try.underlying23 (by kernel_rfl) (by decide) open_cycle f3
  simp at g0 g1 g2 g3
  subst g0 g1 g2 g3
  exact ⟨⟨a0, s1, a2, l⟩, _, rfl, hl3, by simpa [maxLen] using hs, hw⟩

/-- What the walks ask of a processor that comes in as '.agg #[name, v0, v1, v2, v3]'. -/
def cpuArg (w : World) (v0 v1 v2 v3 : Value) (c : Cp) : Prop :=
  isArr 4 insR w v0 c.instrs ∧ isArr 4 cycleR w v1 c.res ∧ isArr 4 cycleR w v2 c.irq ∧ isArr 4 cycleR w v3 c.nmi ∧ c.name.size ≤ 9223372036854775807

theorem open_cpu_sized (fuel : Nat) (cs : List Value) (x : DataW H × List MemPlace) (h : DataW.trod enc Try.prog w base (fun _ => true) held fuel 25 cs = some x) :
    ∃ (c : Cp) (v0 v1 v2 v3 : Value), cs = [.string c.name, v0, v1, v2, v3] ∧ cpuArg w v0 v1 v2 v3 c ∧
      (c.instrs.length = 0 ∨ ∃ parts elems spare, x.1 = .agg parts ∧ parts[1]? = some (.slice elems spare) ∧ c.instrs.length ≤ elems.length + spare.length) := by
  obtain ⟨xs, n, _, hx, hl, hlen, hf⟩ := DataW.trod_struct Try.underlying25 h
  have hc : Try.prog.cellsOf 25 = 5 := by kernel_rfl
  have h2 : Try.prog.cellsOf 9 = 1 := by kernel_rfl
  have h3 : Try.prog.cellsOf 23 = 1 := by kernel_rfl
  have h4 : Try.prog.cellsOf 22 = 1 := by kernel_rfl
  obtain ⟨c0, c1, c2, c3, c4, rfl⟩ := list5 cs (hl.trans hc)
  have e : ∀ i, i < 5 → xs[i]? = some (xs[i]?.getD (.nil, [])) := fun i hi => by
    rw [List.getElem?_eq_getElem (by rw [hlen]; exact hi)]; rfl
  have f0 : DataW.trod enc Try.prog w base (fun _ => true) held n 9 ((([c0, c1, c2, c3, c4] : List Value).drop 0).take (Try.prog.cellsOf 9)) = some (xs[0]?.getD (.nil, [])) := (hf 0 _ rfl).trans (e 0 (by decide))
  have f1 : DataW.trod enc Try.prog w base (fun _ => true) held n 22 ((([c0, c1, c2, c3, c4] : List Value).drop 1).take (Try.prog.cellsOf 22)) = some (xs[1]?.getD (.nil, [])) := (hf 1 _ rfl).trans (e 1 (by decide))
  have f2 : DataW.trod enc Try.prog w base (fun _ => true) held n 23 ((([c0, c1, c2, c3, c4] : List Value).drop 2).take (Try.prog.cellsOf 23)) = some (xs[2]?.getD (.nil, [])) := (hf 2 _ rfl).trans (e 2 (by decide))
  have f3 : DataW.trod enc Try.prog w base (fun _ => true) held n 23 ((([c0, c1, c2, c3, c4] : List Value).drop 3).take (Try.prog.cellsOf 23)) = some (xs[3]?.getD (.nil, [])) := (hf 3 _ rfl).trans (e 3 (by decide))
  have f4 : DataW.trod enc Try.prog w base (fun _ => true) held n 23 ((([c0, c1, c2, c3, c4] : List Value).drop 4).take (Try.prog.cellsOf 23)) = some (xs[4]?.getD (.nil, [])) := (hf 4 _ rfl).trans (e 4 (by decide))
  simp only [h2, h3, h4, List.drop, List.take] at f0 f1 f2 f3 f4
  obtain ⟨s0, g0, _, hs⟩ := DataW.trod_string Try.underlying9 f0
  obtain ⟨a1, l1, k1, z1, g1, r1, hz1, hle1, hcap1⟩ := open_arr (k := 4) Try.underlying22 (by kernel_rfl) (by decide) open_instr f1
  obtain ⟨a2, l2, k2, z2, g2, r2, _⟩ := open_arr (k := 4) Try.underlying23 (by kernel_rfl) (by decide) open_cycle f2
  obtain ⟨a3, l3, k3, z3, g3, r3, _⟩ := open_arr (k := 4) Try.underlying23 (by kernel_rfl) (by decide) open_cycle f3
  obtain ⟨a4, l4, k4, z4, g4, r4, _⟩ := open_arr (k := 4) Try.underlying23 (by kernel_rfl) (by decide) open_cycle f4
  simp at g0 g1 g2 g3 g4
  subst g0 g1 g2 g3 g4
  refine ⟨⟨s0, z1, z2, z3, z4⟩, _, _, _, _, rfl, ⟨r1, r2, r3, r4, by simpa [maxLen] using hs⟩, ?_⟩
  rcases hcap1 with h0 | ⟨elems, spare, hd, hsum⟩
  · exact .inl (by show z1.length = 0; omega)
  · refine .inr ⟨_, elems, spare, by rw [hx], ?_, by show z1.length ≤ _; omega⟩
    rw [List.getElem?_map, e 1 (by decide)]
    exact congrArg some hd
theorem open_cpu (fuel : Nat) (cs : List Value) (x : DataW H × List MemPlace) (h : DataW.trod enc Try.prog w base (fun _ => true) held fuel 25 cs = some x) :
    ∃ (c : Cp) (v0 v1 v2 v3 : Value), cs = [.string c.name, v0, v1, v2, v3] ∧ cpuArg w v0 v1 v2 v3 c := by
  obtain ⟨c, v0, v1, v2, v3, e, a, _⟩ := open_cpu_sized fuel cs x h
  exact ⟨c, v0, v1, v2, v3, e, a⟩
end

theorem cpuArg_below {B : Nat} {w w' : World} {v0 v1 v2 v3 : Value} {c : Cp} (h : cpuArg w v0 v1 v2 v3 c) (hb : Below B w w') (hB : w.heap.size ≤ B) : cpuArg w' v0 v1 v2 v3 c :=
  ⟨isArr_below ins_keeps h.1 hb hB, isArr_below cycle_keeps h.2.1 hb hB, isArr_below cycle_keeps h.2.2.1 hb hB, isArr_below cycle_keeps h.2.2.2.1 hb hB, h.2.2.2.2⟩
theorem cpuArg_alloc {w : World} {v0 v1 v2 v3 : Value} {c : Cp} (h : cpuArg w v0 v1 v2 v3 c) (o : Obj) : cpuArg (w.alloc o) v0 v1 v2 v3 c :=
  cpuArg_below h (Below.alloc (Below.refl _ w) (Nat.le_refl _) o) (Nat.le_refl _)
/-- A processor that has nothing but a name. -/
theorem cpuArg_bare (w : World) (s : ByteArray) (h : s.size ≤ 9223372036854775807) : cpuArg w (.slice none 0 0) (.slice none 0 0) (.slice none 0 0) (.slice none 0 0) ⟨s, [], [], [], []⟩ :=
  ⟨.inl ⟨_, _, rfl, rfl⟩, .inl ⟨_, _, rfl, rfl⟩, .inl ⟨_, _, rfl, rfl⟩, .inl ⟨_, _, rfl, rfl⟩, h⟩

/-- A slice in a struct that came in lies within the form's reach. -/
theorem sized_field {H : Type} {P : Program} {ts : List TypeId} {ds : List (DataW H)} (h : (DataW.weightsEach P ts ds).all (· ≤ reachBytes) = true) {j m : Nat} {t ft e : TypeId} {fs : Array Field} {parts elems spare : List (DataW H)}
    (ht : ts[j]? = some t) (hd : ds[j]? = some (.agg parts)) (hu : P.underlying t = some (.struct fs)) (hf : (fs.toList.map (·.type))[m]? = some ft) (hp : parts[m]? = some (.slice elems spare)) (he : P.underlying ft = some (.slice e)) :
    (elems.length + spare.length) * P.bytesOf e ≤ reachBytes := by
  have := List.all_eq_true.1 h _ (DataW.weights_mem_each ht hd ((elems.length + spare.length) * P.bytesOf e) (by
    simp only [DataW.weights, hu]
    exact DataW.weights_mem_each hf hp _ (by simp [DataW.weights, he])))
  simpa using this
end Go.Proofs.Ythhihmggaddlmaa
