/- A processor that comes in, opened with all its slices: how much they hold lies within the form's reach. -/
import Derived.Test.YtcenflbadhjlhaaTabFind
namespace Go.Proofs.Ytcenflbadhjlhaa
open Go.RowKit Go.ChangeShapes Go.WideShapes

theorem open_arrQ {H : Type} {enc : TypeId × Value → H} {P : Program} {w : World} {base : Nat} {held : Bool} {t e : TypeId} {α : Type} [Inhabited α] {k : Nat} {R : World → List Value → α → Prop} {Q : α → DataW H → Prop}
    (ht : P.underlying t = some (.slice e)) (ce : P.cellsOf e = k) (hk : 0 < k)
    (hR : ∀ fuel cs x, DataW.trod enc P w base (fun _ => true) held fuel e cs = some x → ∃ y, R w cs y ∧ Q y x.1)
    {fuel : Nat} {cs : List Value} {x : DataW H × List MemPlace} (h : DataW.trod enc P w base (fun _ => true) held fuel t cs = some x) :
    ∃ a len cap l, cs = [.slice a len cap] ∧ isArr k R w (.slice a len cap) l ∧ l.length = len ∧ len ≤ cap ∧ (cap = 0 ∨ ∃ elems spare, x.1 = .slice elems spare ∧ elems.length + spare.length = cap ∧ ∀ (i : Nat) (y : α), l[i]? = some y → ∃ d, elems[i]? = some d ∧ Q y d) := by
  rcases Go.Deep.open_slice ht h with ⟨rfl, _⟩ | ⟨y, l, c, m, n, D, Pl, rfl, _, hl, hm, hmm, hx, hi⟩
  · exact ⟨none, 0, 0, [], rfl, .inl ⟨_, _, rfl, rfl⟩, rfl, Nat.le_refl _, .inl rfl⟩
  · have hm2 : m = c := by simpa using hmm
    subst hm2
    have hfacts : ∀ i, i < l → ∃ q : α, ∃ cs, cs.length = k ∧ (∀ j, j < k → w.cell? ((y.add (i * k)).add j) = cs[j]?) ∧ R w cs q ∧ Q q (D i) := fun i hi2 => by
      obtain ⟨cs, h1, h2⟩ := hi i (by omega)
      rw [ce] at h1
      obtain ⟨_, h4, h5⟩ := World.cells?_some h1
      obtain ⟨q, hq, hQ⟩ := hR n cs _ h2
      exact ⟨q, cs, h4, h5, hq, hQ⟩
    obtain ⟨Y, hY⟩ := Go.Deep.choose_lt hfacts
    refine ⟨some y, l, m, (List.range l).map Y, rfl, ?_, by simp, hl, .inr ⟨(List.range l).map D, (List.range (m - l)).map fun j => D (l + j), by rw [hx], by simp; omega, fun i z hz => ?_⟩⟩
    rotate_left
    · have hil : i < l := by
        have := (List.getElem?_eq_some_iff.1 hz).1
        simpa using this
      have hze : Y i = z := by
        rw [List.getElem?_map, List.getElem?_range hil] at hz
        simpa using hz
      obtain ⟨_, _, _, _, hQ⟩ := hY i hil
      exact ⟨D i, by rw [List.getElem?_map, List.getElem?_range hil]; rfl, hze ▸ hQ⟩
    by_cases h0 : l = 0
    · subst h0; exact .inl ⟨_, _, rfl, rfl⟩
    · obtain ⟨cs0, a1, a2, _⟩ := hY 0 (by omega)
      have e0 : (y.add (0 * k)).add 0 = y := by simp [Addr.add]
      have hv0 := a2 0 hk
      rw [e0, List.getElem?_eq_getElem (by omega)] at hv0
      obtain ⟨hb, hs⟩ := cell_block hv0
      obtain ⟨b, off, sp⟩ := y
      have hs' : sp = none := hs
      subst hs'
      refine .inr ⟨b, off, m, by simp, hb, by simpa using hl, by simpa [maxLen] using hm, fun i x hx => ?_⟩
      have hil : i < l := by
        have := (List.getElem?_eq_some_iff.1 hx).1
        simpa using this
      have hxe : Y i = x := by
        rw [List.getElem?_map, List.getElem?_range hil] at hx
        simpa using hx
      obtain ⟨cs, b1, b2, b3, _⟩ := hY i hil
      refine ⟨cs, b1, fun j hj => ?_, hxe ▸ b3⟩
      have e1 : ((⟨b, off, none⟩ : Addr).add (i * k)).add j = ⟨b, off + i * k + j, none⟩ := by rw [Addr.add_lit, Addr.add_lit]
      rw [← e1]
      exact b2 j hj

/-- What the datum of a cycle, of an instruction says of the lengths. -/
def deepC {H : Type} (c : Cy) (d : DataW H) : Prop := c.steps.length = 0 ∨ ∃ parts elems spare, d = .agg parts ∧ parts[3]? = some (.slice elems spare) ∧ c.steps.length ≤ elems.length + spare.length
def deepI {H : Type} (x : In) (d : DataW H) : Prop := x.cycles = [] ∨ ∃ parts elems spare, d = .agg parts ∧ parts[3]? = some (.slice elems spare) ∧ x.cycles.length ≤ elems.length + spare.length ∧ ∀ (i : Nat) (y : Cy), x.cycles[i]? = some y → ∃ d, elems[i]? = some d ∧ deepC y d
section
variable {H : Type} {enc : TypeId × Value → H} {w : World} {base : Nat} {held : Bool}

theorem open_cycleQ (fuel : Nat) (cs : List Value) (x : DataW H × List MemPlace) (h : DataW.trod enc Try.prog w base (fun _ => true) held fuel 68 cs = some x) : ∃ y, cycleR w cs y ∧ deepC y x.1 := by
  obtain ⟨xs, n, _, hx, hl, hlen, hf⟩ := DataW.trod_struct Try.underlying68 h
  have hc : Try.prog.cellsOf 68 = 4 := by kernel_rfl
  have h1 : Try.prog.cellsOf 3 = 1 := by kernel_rfl
  have h2 : Try.prog.cellsOf 66 = 1 := by kernel_rfl
  obtain ⟨c0, c1, c2, c3, rfl⟩ := list4 cs (hl.trans hc)
  have e : ∀ i, i < 4 → xs[i]? = some (xs[i]?.getD (.nil, [])) := fun i hi => by
    rw [List.getElem?_eq_getElem (by rw [hlen]; exact hi)]; rfl
  have f0 : DataW.trod enc Try.prog w base (fun _ => true) held n 3 ((([c0, c1, c2, c3] : List Value).drop 0).take (Try.prog.cellsOf 3)) = some (xs[0]?.getD (.nil, [])) := (hf 0 _ rfl).trans (e 0 (by decide))
  have f1 : DataW.trod enc Try.prog w base (fun _ => true) held n 3 ((([c0, c1, c2, c3] : List Value).drop 1).take (Try.prog.cellsOf 3)) = some (xs[1]?.getD (.nil, [])) := (hf 1 _ rfl).trans (e 1 (by decide))
  have f2 : DataW.trod enc Try.prog w base (fun _ => true) held n 3 ((([c0, c1, c2, c3] : List Value).drop 2).take (Try.prog.cellsOf 3)) = some (xs[2]?.getD (.nil, [])) := (hf 2 _ rfl).trans (e 2 (by decide))
  have f3 : DataW.trod enc Try.prog w base (fun _ => true) held n 66 ((([c0, c1, c2, c3] : List Value).drop 3).take (Try.prog.cellsOf 66)) = some (xs[3]?.getD (.nil, [])) := (hf 3 _ rfl).trans (e 3 (by decide))
  simp only [h1, h2, List.drop, List.take] at f0 f1 f2 f3
  obtain ⟨a0, g0, _, _⟩ := DataW.trod_int Try.underlying3 f0
  obtain ⟨a1, g1, _, _⟩ := DataW.trod_int Try.underlying3 f1
  obtain ⟨a2, g2, _, _⟩ := DataW.trod_int Try.underlying3 f2
  obtain ⟨sa, sl, sc, l, g3, hl3, hz1, hle1, hcap1⟩ := open_arr (k := 4) Try.underlying66 (by kernel_rfl) (by decide) open_step f3
  simp at g0 g1 g2 g3
  subst g0 g1 g2 g3
  refine ⟨⟨a0, a1, a2, l⟩, ⟨_, rfl, hl3⟩, ?_⟩
  rcases hcap1 with h0 | ⟨elems, spare, hd, hsum⟩
  · exact .inl (by show l.length = 0; omega)
  · refine .inr ⟨_, elems, spare, by rw [hx], ?_, by show l.length ≤ _; omega⟩
    rw [List.getElem?_map, e 3 (by decide)]
    exact congrArg some hd

theorem open_instrQ (fuel : Nat) (cs : List Value) (x : DataW H × List MemPlace) (h : DataW.trod enc Try.prog w base (fun _ => true) held fuel 34 cs = some x) : ∃ y, insR w cs y ∧ deepI y x.1 := by
  obtain ⟨xs, n, _, hx, hl, hlen, hf⟩ := DataW.trod_struct Try.underlying34 h
  have hc : Try.prog.cellsOf 34 = 4 := by kernel_rfl
  have h1 : Try.prog.cellsOf 3 = 1 := by kernel_rfl
  have h2 : Try.prog.cellsOf 9 = 1 := by kernel_rfl
  have h3 : Try.prog.cellsOf 23 = 1 := by kernel_rfl
  obtain ⟨c0, c1, c2, c3, rfl⟩ := list4 cs (hl.trans hc)
  have e : ∀ i, i < 4 → xs[i]? = some (xs[i]?.getD (.nil, [])) := fun i hi => by
    rw [List.getElem?_eq_getElem (by rw [hlen]; exact hi)]; rfl
  have f0 : DataW.trod enc Try.prog w base (fun _ => true) held n 3 ((([c0, c1, c2, c3] : List Value).drop 0).take (Try.prog.cellsOf 3)) = some (xs[0]?.getD (.nil, [])) := (hf 0 _ rfl).trans (e 0 (by decide))
  have f1 : DataW.trod enc Try.prog w base (fun _ => true) held n 9 ((([c0, c1, c2, c3] : List Value).drop 1).take (Try.prog.cellsOf 9)) = some (xs[1]?.getD (.nil, [])) := (hf 1 _ rfl).trans (e 1 (by decide))
  have f2 : DataW.trod enc Try.prog w base (fun _ => true) held n 3 ((([c0, c1, c2, c3] : List Value).drop 2).take (Try.prog.cellsOf 3)) = some (xs[2]?.getD (.nil, [])) := (hf 2 _ rfl).trans (e 2 (by decide))
  have f3 : DataW.trod enc Try.prog w base (fun _ => true) held n 23 ((([c0, c1, c2, c3] : List Value).drop 3).take (Try.prog.cellsOf 23)) = some (xs[3]?.getD (.nil, [])) := (hf 3 _ rfl).trans (e 3 (by decide))
  simp only [h1, h2, h3, List.drop, List.take] at f0 f1 f2 f3
  obtain ⟨a0, g0, _, _⟩ := DataW.trod_int Try.underlying3 f0
  obtain ⟨s1, g1, _, hs⟩ := DataW.trod_string Try.underlying9 f1
  obtain ⟨a2, g2, _, hw⟩ := DataW.trod_int Try.underlying3 f2
  obtain ⟨sa, sl, sc, l, g3, hl3, hz1, hle1, hcap1⟩ := open_arrQ (Q := deepC) (k := 4) Try.underlying23 (by kernel_rfl) (by decide) open_cycleQ f3
  simp at g0 g1 g2 g3
  subst g0 g1 g2 g3
  refine ⟨⟨a0, s1, a2, l⟩, ⟨_, rfl, hl3, by simpa [maxLen] using hs, hw⟩, ?_⟩
  rcases hcap1 with h0 | ⟨elems, spare, hd, hsum, hQ⟩
  · exact .inl (List.eq_nil_of_length_eq_zero (by show l.length = 0; omega))
  · refine .inr ⟨_, elems, spare, by rw [hx], ?_, by show l.length ≤ _; omega, hQ⟩
    rw [List.getElem?_map, e 3 (by decide)]
    exact congrArg some hd

theorem open_cpu_deep (fuel : Nat) (cs : List Value) (x : DataW H × List MemPlace) (h : DataW.trod enc Try.prog w base (fun _ => true) held fuel 25 cs = some x) :
    ∃ (c : Cp) (v0 v1 v2 v3 : Value), cs = [.string c.name, v0, v1, v2, v3] ∧ cpuArg w v0 v1 v2 v3 c ∧
      (c.instrs = [] ∨ ∃ parts elems spare, x.1 = .agg parts ∧ parts[1]? = some (.slice elems spare) ∧ c.instrs.length ≤ elems.length + spare.length ∧ ∀ (i : Nat) (y : In), c.instrs[i]? = some y → ∃ d, elems[i]? = some d ∧ deepI y d) := by
  obtain ⟨xs, n, _, hx, hl, hlen, hf⟩ := DataW.trod_struct Try.underlying25 h
  have hc : Try.prog.cellsOf 25 = 5 := by kernel_rfl
  have h2 : Try.prog.cellsOf 9 = 1 := by kernel_rfl
  have h3 : Try.prog.cellsOf 23 = 1 := by kernel_rfl
  have h4 : Try.prog.cellsOf 22 = 1 := by kernel_rfl
  obtain ⟨c0, c1, c2, c3, c4, rfl⟩ := list5 cs (hl.trans hc)
  have e : ∀ i, i < 5 → xs[i]? = some (xs[i]?.getD (.nil, [])) := fun i hi => by
    rw [List.getElem?_eq_getElem (by rw [hlen]; exact hi)]; rfl
  have f0 : DataW.trod enc Try.prog w base (fun _ => true) held n 9 ((([c0, c1, c2, c3, c4] : List Value).drop 0).take (Try.prog.cellsOf 9)) = some (xs[0]?.getD (.nil, [])) := (hf 0 _ rfl).trans (e 0 (by decide))
  have f1 : DataW.trod enc Try.prog w base (fun _ => true) held n 22 ((([c0, c1, c2, c3, c4] : List Value).drop 1).take (Try.prog.cellsOf 22)) = some (xs[1]?.getD (.nil, [])) := (hf 1 _ rfl).trans (e 1 (by decide))
  have f2 : DataW.trod enc Try.prog w base (fun _ => true) held n 23 ((([c0, c1, c2, c3, c4] : List Value).drop 2).take (Try.prog.cellsOf 23)) = some (xs[2]?.getD (.nil, [])) := (hf 2 _ rfl).trans (e 2 (by decide))
  have f3 : DataW.trod enc Try.prog w base (fun _ => true) held n 23 ((([c0, c1, c2, c3, c4] : List Value).drop 3).take (Try.prog.cellsOf 23)) = some (xs[3]?.getD (.nil, [])) := (hf 3 _ rfl).trans (e 3 (by decide))
  have f4 : DataW.trod enc Try.prog w base (fun _ => true) held n 23 ((([c0, c1, c2, c3, c4] : List Value).drop 4).take (Try.prog.cellsOf 23)) = some (xs[4]?.getD (.nil, [])) := (hf 4 _ rfl).trans (e 4 (by decide))
  simp only [h2, h3, h4, List.drop, List.take] at f0 f1 f2 f3 f4
  obtain ⟨s0, g0, _, hs⟩ := DataW.trod_string Try.underlying9 f0
  obtain ⟨a1, l1, k1, z1, g1, r1, hz1, hle1, hcap1⟩ := open_arrQ (Q := deepI) (k := 4) Try.underlying22 (by kernel_rfl) (by decide) open_instrQ f1
  obtain ⟨a2, l2, k2, z2, g2, r2, _⟩ := open_arr (k := 4) Try.underlying23 (by kernel_rfl) (by decide) open_cycle f2
  obtain ⟨a3, l3, k3, z3, g3, r3, _⟩ := open_arr (k := 4) Try.underlying23 (by kernel_rfl) (by decide) open_cycle f3
  obtain ⟨a4, l4, k4, z4, g4, r4, _⟩ := open_arr (k := 4) Try.underlying23 (by kernel_rfl) (by decide) open_cycle f4
  simp at g0 g1 g2 g3 g4
  subst g0 g1 g2 g3 g4
  refine ⟨⟨s0, z1, z2, z3, z4⟩, _, _, _, _, rfl, ⟨r1, r2, r3, r4, by simpa [maxLen] using hs⟩, ?_⟩
  rcases hcap1 with h0 | ⟨elems, spare, hd, hsum, hQ⟩
  · exact .inl (List.eq_nil_of_length_eq_zero (by show z1.length = 0; omega))
  · refine .inr ⟨_, elems, spare, by rw [hx], ?_, by show z1.length ≤ _; omega, hQ⟩
    rw [List.getElem?_map, e 1 (by decide)]
    exact congrArg some hd
end

theorem weights_all {H : Type} {P : Program} {e : TypeId} : ∀ {ds : List (DataW H)} {i : Nat} {d : DataW H}, ds[i]? = some d → ∀ n ∈ d.weights P e, n ∈ DataW.weightsAll P e ds
  | d0 :: ds, 0, d, h, n, hn => by
    simp only [List.getElem?_cons_zero, Option.some.injEq] at h
    subst h
    simp only [DataW.weightsAll, List.mem_append]
    exact .inl hn
  | d0 :: ds, i + 1, d, h, n, hn => by
    simp only [List.getElem?_cons_succ] at h
    simp only [DataW.weightsAll, List.mem_append]
    exact .inr (weights_all h n hn)
theorem weights_slice {H : Type} {P : Program} {t e : TypeId} (ht : P.underlying t = some (.slice e)) (elems spare : List (DataW H)) : (elems.length + spare.length) * P.bytesOf e ∈ (DataW.slice elems spare).weights P t ∧ ∀ (i : Nat) (d : DataW H), elems[i]? = some d → ∀ n ∈ d.weights P e, n ∈ (DataW.slice elems spare).weights P t := by
  constructor
  · simp [DataW.weights, ht]
  · intro i d hd n hn
    simp only [DataW.weights, ht, List.mem_cons, List.mem_append]
    exact .inr (.inl (weights_all hd n hn))
theorem weights_field {H : Type} {P : Program} {t ft : TypeId} {fs : Array Field} {parts : List (DataW H)} {m : Nat} {d : DataW H} (hu : P.underlying t = some (.struct fs)) (hf : (fs.toList.map (·.type))[m]? = some ft) (hp : parts[m]? = some d) : ∀ n ∈ d.weights P ft, n ∈ (DataW.agg parts).weights P t := by
  intro n hn
  simp only [DataW.weights, hu]
  exact DataW.weights_mem_each hf hp n hn

/-- A processor's instructions, where all that came in lies within the reach. -/
theorem sized_deep {H : Type} {x : DataW H} {l : List In} (hx : l = [] ∨ ∃ parts elems spare, x = .agg parts ∧ parts[1]? = some (.slice elems spare) ∧ l.length ≤ elems.length + spare.length ∧ ∀ (i : Nat) (y : In), l[i]? = some y → ∃ d, elems[i]? = some d ∧ deepI y d)
    (hw : ∀ n ∈ x.weights Try.prog 25, n ≤ 140737488351232) : ∀ y ∈ l, sizedIn y := by
  intro y hy
  rcases hx with rfl | ⟨parts, elems, spare, rfl, hp, _, hQ⟩
  · cases hy
  · obtain ⟨i, hi⟩ := List.getElem?_of_mem hy
    obtain ⟨d, hd, hI⟩ := hQ i y hi
    have h1 : ∀ n ∈ d.weights Try.prog 34, n ≤ 140737488351232 := fun n hn =>
      hw n (weights_field Try.underlying25 rfl hp n ((weights_slice Try.underlying22 elems spare).2 i d hd n hn))
    rcases hI with h0 | ⟨parts', elems', spare', rfl, hp', hle, hQ'⟩
    · refine ⟨by rw [h0]; decide, fun c hc => ?_⟩
      rw [h0] at hc
      cases hc
    · have h2 : ∀ n ∈ (DataW.slice elems' spare').weights Try.prog 23, n ≤ 140737488351232 := fun n hn => h1 n (weights_field Try.underlying34 rfl hp' n hn)
      have hb := h2 _ (weights_slice Try.underlying23 elems' spare').1
      have hby : Try.prog.bytesOf 68 = 48 := by kernel_rfl
      rw [hby] at hb
      refine ⟨by omega, fun c hc => ?_⟩
      obtain ⟨j, hj⟩ := List.getElem?_of_mem hc
      obtain ⟨d', hd', hC⟩ := hQ' j c hj
      have h3 : ∀ n ∈ d'.weights Try.prog 68, n ≤ 140737488351232 := fun n hn => h2 n ((weights_slice Try.underlying23 elems' spare').2 j d' hd' n hn)
      rcases hC with h0 | ⟨parts'', elems'', spare'', rfl, hp'', hle''⟩
      · rw [h0]; decide
      · have hb2 := h3 _ (weights_field Try.underlying68 rfl hp'' _ (weights_slice Try.underlying66 elems'' spare'').1)
        have hby2 : Try.prog.bytesOf 75 = 32 := by kernel_rfl
        rw [hby2] at hb2
        omega
theorem reach_arg {H : Type} {P : Program} {ts : List TypeId} {ds : List (DataW H)} (h : (DataW.weightsEach P ts ds).all (· ≤ reachBytes) = true) {j : Nat} {t : TypeId} {d : DataW H} (ht : ts[j]? = some t) (hd : ds[j]? = some d) :
    ∀ n ∈ d.weights P t, n ≤ 140737488351232 := fun n hn => by
  have := List.all_eq_true.1 h _ (DataW.weights_mem_each ht hd n hn)
  have h2 : n ≤ reachBytes := by simpa using this
  simp only [reachBytes] at h2
  omega
end Go.Proofs.Ytcenflbadhjlhaa
