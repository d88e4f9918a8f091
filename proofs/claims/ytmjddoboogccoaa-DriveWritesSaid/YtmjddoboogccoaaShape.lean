/- Data that come in: a slice whose elements take k cells each, by what is said of one element's cells. No function is named here. -/
import Derived.Test.YtmjddoboogccoaaRefArgs
import Derived.Below
import Derived.BigQuiet
import Derived.ChangeMaps5
import Derived.Deep.Draws
import Derived.Deep.OwnRows
import Derived.Deep.QuietTactic
import Derived.Deep.Slices
import Derived.Lib.Hide
import Derived.Lib.SmallJoins
import Derived.OpenShut
import Derived.OwnWalk
import Derived.RowKit3
import Derived.WalkKit
namespace Go.Proofs.Ytmjddoboogccoaa
open Go.RowKit Go.ChangeShapes Go.WideShapes

/-- The slice v reads as the list l: R tells what the k cells of an element are. -/
def isArr {α : Type} (k : Nat) (R : World → List Value → α → Prop) (w : World) (v : Value) (l : List α) : Prop :=
  (∃ a cap, v = .slice a 0 cap ∧ l = []) ∨
  ∃ b off cap, v = .slice (some ⟨b, off, none⟩) l.length cap ∧ b < w.heap.size ∧ l.length ≤ cap ∧ cap ≤ 9223372036854775807 ∧
    ∀ i x, l[i]? = some x → ∃ cs, cs.length = k ∧ (∀ j, j < k → w.cell? ⟨b, off + i * k + j, none⟩ = cs[j]?) ∧ R w cs x

/-- What is said of cells stays true where blocks are added. -/
def keeps {α : Type} (R : World → List Value → α → Prop) : Prop := ∀ (w w' : World) (B : Nat), Below B w w' → w.heap.size ≤ B → ∀ cs x, R w cs x → R w' cs x

theorem isArr_below {α : Type} {k : Nat} {R : World → List Value → α → Prop} (hR : keeps R) {B : Nat} {w w' : World} {v : Value} {l : List α} (h : isArr k R w v l) (hb : Below B w w') (hB : w.heap.size ≤ B) : isArr k R w' v l := by
  rcases h with h | ⟨b, off, cap, rfl, h1, h2, h3, h4⟩
  · exact .inl h
  · refine .inr ⟨b, off, cap, rfl, Nat.lt_of_lt_of_le h1 hb.size, h2, h3, fun i x hx => ?_⟩
    obtain ⟨cs, c1, c2, c3⟩ := h4 i x hx
    refine ⟨cs, c1, fun j hj => ?_, hR w w' B hb hB cs x c3⟩
    rw [hb.cell (p := ⟨b, off + i * k + j, none⟩) (by show b < B; omega)]
    exact c2 j hj

theorem isArr_form {α : Type} {k : Nat} {R : World → List Value → α → Prop} {w : World} {v : Value} {l : List α} (h : isArr k R w v l) :
    ∃ a cap, v = .slice a l.length cap ∧ (0 < l.length → l.length ≤ 9223372036854775807) ∧ ∀ i x, l[i]? = some x → ∃ b off, a = some ⟨b, off, none⟩ ∧ b < w.heap.size ∧ l.length ≤ cap ∧ cap ≤ 9223372036854775807 ∧
      ∃ cs, cs.length = k ∧ (∀ j, j < k → w.cell? ⟨b, off + i * k + j, none⟩ = cs[j]?) ∧ R w cs x := by
  rcases h with ⟨a, cap, rfl, rfl⟩ | ⟨b, off, cap, rfl, h1, h2, h3, h4⟩
  · refine ⟨a, cap, rfl, ?_, ?_⟩
    · intro hp; cases hp
    · intro i x hx; simp at hx
  · refine ⟨some ⟨b, off, none⟩, cap, rfl, ?_, ?_⟩
    · intro _; omega
    · intro i x hx; exact ⟨b, off, rfl, h1, h2, h3, h4 i x hx⟩

theorem open_arr {H : Type} {enc : TypeId × Value → H} {P : Program} {w : World} {base : Nat} {held : Bool} {t e : TypeId} {α : Type} [Inhabited α] {k : Nat} {R : World → List Value → α → Prop}
    (ht : P.underlying t = some (.slice e)) (ce : P.cellsOf e = k) (hk : 0 < k)
    (hR : ∀ fuel cs x, DataW.trod enc P w base (fun _ => true) held fuel e cs = some x → ∃ y, R w cs y)
    {fuel : Nat} {cs : List Value} {x : DataW H × List MemPlace} (h : DataW.trod enc P w base (fun _ => true) held fuel t cs = some x) :
    ∃ a len cap l, cs = [.slice a len cap] ∧ isArr k R w (.slice a len cap) l ∧ l.length = len ∧ len ≤ cap ∧ (cap = 0 ∨ ∃ elems spare, x.1 = .slice elems spare ∧ elems.length + spare.length = cap) := by
  rcases Go.Deep.open_slice ht h with ⟨rfl, _⟩ | ⟨y, l, c, m, n, D, Pl, rfl, _, hl, hm, hmm, hx, hi⟩
  · exact ⟨none, 0, 0, [], rfl, .inl ⟨_, _, rfl, rfl⟩, rfl, Nat.le_refl _, .inl rfl⟩
  · have hm2 : m = c := by simpa using hmm
    subst hm2
    have hfacts : ∀ i, i < l → ∃ q : α, ∃ cs, cs.length = k ∧ (∀ j, j < k → w.cell? ((y.add (i * k)).add j) = cs[j]?) ∧ R w cs q := fun i hi2 => by
      obtain ⟨cs, h1, h2⟩ := hi i (by omega)
      rw [ce] at h1
      obtain ⟨_, h4, h5⟩ := World.cells?_some h1
      obtain ⟨q, hq⟩ := hR n cs _ h2
      exact ⟨q, cs, h4, h5, hq⟩
    obtain ⟨Y, hY⟩ := Go.Deep.choose_lt hfacts
    refine ⟨some y, l, m, (List.range l).map Y, rfl, ?_, by simp, hl, .inr ⟨(List.range l).map D, (List.range (m - l)).map fun j => D (l + j), by rw [hx], by simp; omega⟩⟩
    by_cases h0 : l = 0
    · subst h0; exact .inl ⟨_, _, rfl, rfl⟩
    · obtain ⟨cs0, a1, a2, _⟩ := hY 0 (by omega)
      have e0 : (y.add (0 * k)).add 0 = y := by simp [Addr.add]
      have hv0 := a2 0 hk
      rw [e0, List.getElem?_eq_getElem (by omega)] at hv0
      obtain ⟨hb, hs⟩ := cell_block hv0
      obtain ⟨b, off, sp⟩ := y
      have hs' : sp = none := hs
      subst hs'
      refine .inr ⟨b, off, m, by simp, hb, by simpa using hl, by simpa [maxLen] using hm, fun i x hx => ?_⟩
      have hil : i < l := by
        have := (List.getElem?_eq_some_iff.1 hx).1
        simpa using this
      have hxe : Y i = x := by
        rw [List.getElem?_map, List.getElem?_range hil] at hx
        simpa using hx
      obtain ⟨cs, b1, b2, b3⟩ := hY i hil
      refine ⟨cs, b1, fun j hj => ?_, hxe ▸ b3⟩
      have e1 : ((⟨b, off, none⟩ : Addr).add (i * k)).add j = ⟨b, off + i * k + j, none⟩ := by rw [Addr.add_lit, Addr.add_lit]
      rw [← e1]
      exact b2 j hj
end Go.Proofs.Ytmjddoboogccoaa
