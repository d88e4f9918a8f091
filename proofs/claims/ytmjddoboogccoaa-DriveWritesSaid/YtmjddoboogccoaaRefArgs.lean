/- Slices of numbers that come in as arguments: what is said of them. No function is named here. -/
import Derived.Test.YtmjddoboogccoaaRefRows
import Derived.Below
import Derived.BigQuiet
import Derived.Deep.Draws
import Derived.Deep.OwnRows
import Derived.Deep.QuietTactic
import Derived.Lib.Hide
import Derived.OwnWalk
import Derived.RowKit3
import Derived.WalkKit
namespace Go.Proofs.Ytmjddoboogccoaa
open Go.RowKit

/-- The slice v reads as the list; of an empty one nothing more is known. -/
def isArg (w : World) (v : Value) (l : List Int) : Prop :=
  (∃ a cap, v = .slice a 0 cap ∧ l = []) ∨
  ∃ b off cap, v = .slice (some ⟨b, off, none⟩) l.length cap ∧ b < w.heap.size ∧ l.length ≤ cap ∧ cap ≤ 9223372036854775807 ∧ ∀ j, j < l.length → w.cell? ⟨b, off + j, none⟩ = some (.int .i64 (l.getD j 0))

theorem isArg_row {w : World} {v : Value} {l : List Int} (h : isRow w v l) : isArg w v l := by
  rcases h with ⟨rfl, rfl⟩ | h
  · exact .inl ⟨_, _, rfl, rfl⟩
  · exact .inr h
theorem isArg_below {B : Nat} {w w' : World} {v : Value} {l : List Int} (h : isArg w v l) (hb : Below B w w') (hB : w.heap.size ≤ B) : isArg w' v l := by
  rcases h with h | ⟨b, off, cap, rfl, h1, h2, h3, h4⟩
  · exact .inl h
  · refine .inr ⟨b, off, cap, rfl, Nat.lt_of_lt_of_le h1 hb.size, h2, h3, fun j hj => ?_⟩
    rw [hb.cell (p := ⟨b, off + j, none⟩) (by show b < B; omega)]; exact h4 j hj
theorem isArg_alloc {w : World} {v : Value} {l : List Int} (h : isArg w v l) (o : Obj) : isArg (w.alloc o) v l := isArg_below h ((Below.refl _ _).alloc (Nat.le_refl _) o) (Nat.le_refl _)
theorem cell_block {w : World} {a : Addr} {v : Value} (h : w.cell? a = some v) : a.block < w.heap.size ∧ a.spot = none := by
  unfold World.cell? at h
  split at h
  · rename_i hg
    split at h
    · cases h
    · rename_i hs
      refine ⟨(Array.getElem?_eq_some_iff.1 hg).1, ?_⟩
      cases e : a.spot with
      | none => rfl
      | some _ => rw [e] at hs; simp at hs
  · cases h
/-- From what a proof's frame says of a slice that came in. -/
theorem isArg_of {w : World} {a : Option Addr} {len cap : Nat} {zs : List Int}
    (h : (a = none ∧ len = 0 ∧ cap = 0 ∧ zs = []) ∨ ∃ x, a = some x ∧ len ≤ cap ∧ cap ≤ maxLen ∧ zs.length = cap ∧ (∀ i, i < zs.length → w.cell? (x.add i) = some (.int .i64 (zs.getD i 0))) ∧ ∀ n ∈ zs, (Lit.int .i64 n).wf = true) :
    isArg w (.slice a len cap) (zs.take len) ∧ (zs.take len).length = len := by
  rcases h with ⟨rfl, rfl, rfl, rfl⟩ | ⟨x, rfl, h1, h2, h3, h4, _⟩
  · exact ⟨.inl ⟨_, _, rfl, rfl⟩, rfl⟩
  · have hl : (zs.take len).length = len := by rw [List.length_take]; omega
    refine ⟨?_, hl⟩
    cases len with
    | zero => exact .inl ⟨_, _, rfl, rfl⟩
    | succ m =>
      obtain ⟨hb, hs⟩ := cell_block (h4 0 (by omega))
      obtain ⟨b, off, sp⟩ := x
      have hs' : sp = none := hs
      subst hs'
      refine .inr ⟨b, off, cap, by rw [hl], hb, by rw [hl]; exact h1, h2, fun j hj => ?_⟩
      rw [hl] at hj
      have e : (zs.take (m + 1)).getD j 0 = zs.getD j 0 := by
        simp only [List.getD_eq_getElem?_getD]
        rw [List.getElem?_take_of_lt hj]
      have ha : (⟨b, off, none⟩ : Addr).add j = ⟨b, off + j, none⟩ := by unfold Addr.add; split <;> simp_all
      rw [e, ← ha]
      exact h4 j (by omega)
end Go.Proofs.Ytmjddoboogccoaa
