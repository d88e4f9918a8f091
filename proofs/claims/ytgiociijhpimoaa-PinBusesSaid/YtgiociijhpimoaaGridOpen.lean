/- A slice of arrays of eight numbers that came in, opened. No function is named here. -/
import Derived.Test.YtgiociijhpimoaaArr8
import Derived.OpenShut
import Derived.Deep.Slices
namespace Go.Proofs.Ytgiociijhpimoaa
open Go.RowKit Go.ChangeShapes Go.WideShapes

def num (o : Option Value) : Int := match o with
  | some (.int _ n) => n
  | _ => 0

theorem open_grid {H : Type} {enc : TypeId × Value → H} {P : Program} {w : World} {base : Nat} {held : Bool} {t e q : TypeId} {fuel : Nat} {a : Option Addr} {len cap : Nat} {x : DataW H × List MemPlace}
    (ht : P.underlying t = some (.slice e)) (he : P.underlying e = some (.array 8 q)) (hq : P.underlying q = some (.int .i64)) (ce : P.cellsOf e = 8) (cq : P.cellsOf q = 1)
    (h : DataW.trod enc P w base (fun _ => true) held fuel t [.slice a len cap] = some x) :
    ∃ F, (isGrid w (.slice a len cap) len F ∧ len ≤ cap) ∧ (cap = 0 ∨ ∃ elems spare, x.1 = .slice elems spare ∧ elems.length + spare.length = cap) := by
  rcases Go.Deep.open_slice ht h with ⟨hcs, _⟩ | ⟨y, l, c, m, n, D, Pl, hcs, _, hl, hm, hmm, hx, hi⟩
  · simp at hcs
    obtain ⟨rfl, rfl, rfl⟩ := hcs
    exact ⟨fun _ _ => 0, ⟨.inl ⟨_, _, rfl, rfl⟩, Nat.le_refl _⟩, .inl rfl⟩
  · simp at hcs
    obtain ⟨rfl, rfl, rfl⟩ := hcs
    have hm2 : m = cap := by simpa using hmm
    subst hm2
    have hfacts : ∀ i, i < len → ∀ j, j < 8 → ∃ v, w.cell? ((y.add (i * 8)).add j) = some (.int .i64 v) := fun i hi2 j hj => by
      obtain ⟨cs, h1, h2⟩ := hi i (by omega)
      rw [ce] at h1
      obtain ⟨_, h4, h5⟩ := World.cells?_some h1
      obtain ⟨xs, f2, _, _, _, h8, h9⟩ := DataW.trod_array he h2
      have h10 := h9 j hj
      rw [cq, Nat.mul_one] at h10
      obtain ⟨v, h11, _, _⟩ := DataW.trod_int hq (h10.trans (List.getElem?_eq_getElem (by omega)))
      refine ⟨v, ?_⟩
      rw [h5 j hj]
      have h12 : (cs.drop j)[0]? = some (.int .i64 v) := by
        have := congrArg (·[0]?) h11
        simpa using this
      rw [List.getElem?_drop] at h12
      simpa using h12
    refine ⟨fun i j => num (w.cell? ((y.add (i * 8)).add j)), ⟨?_, hl⟩, .inr ⟨(List.range len).map D, (List.range (m - len)).map fun j => D (len + j), by rw [hx], by simp; omega⟩⟩
    by_cases h0 : len = 0
    · subst h0; exact .inl ⟨_, _, rfl, rfl⟩
    · obtain ⟨v0, hv0⟩ := hfacts 0 (by omega) 0 (by decide)
      have e0 : (y.add (0 * 8)).add 0 = y := by simp [Addr.add]
      rw [e0] at hv0
      obtain ⟨hb, hs⟩ := cell_block hv0
      obtain ⟨b, off, sp⟩ := y
      have hs' : sp = none := hs
      subst hs'
      refine .inr ⟨b, off, m, rfl, hb, hl, by simpa [maxLen] using hm, fun i hi2 j hj => ?_⟩
      obtain ⟨v, hv⟩ := hfacts i hi2 j hj
      have e1 : ((⟨b, off, none⟩ : Addr).add (i * 8)).add j = ⟨b, off + i * 8 + j, none⟩ := by rw [Addr.add_lit, Addr.add_lit]
      simp only [e1] at hv ⊢
      rw [hv]; rfl
end Go.Proofs.Ytgiociijhpimoaa
