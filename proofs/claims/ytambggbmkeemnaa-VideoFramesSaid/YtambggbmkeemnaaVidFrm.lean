/- What a video chip shows later, as plain data. -/
import Derived.Test.YtambggbmkeemnaaChecked
import Derived.Test.YtambggbmkeemnaaVidNext
import Derived.Below
import Derived.BigQuiet
import Derived.ChangeMaps5
import Derived.Deep.DeepCutAuto
import Derived.Deep.Draws
import Derived.Deep.MidRow
import Derived.Deep.OwnRows
import Derived.Deep.QuietTactic
import Derived.Deep.RegionHeld3
import Derived.Deep.RegionWith
import Derived.Deep.Slices
import Derived.Deep.WholeRow
import Derived.Laws.CopyOwn
import Derived.Lib.Hide
import Derived.Lib.SmallJoins
import Derived.OpenShut
import Derived.OrdersHeld
import Derived.OwnWalk
import Derived.RowKit3
import Derived.Shelf.Abstract
import Derived.StillTactics
import Derived.StillTail
import Derived.StillTailTactics
import Derived.WalkKit
namespace Go.Proofs.Ytambggbmkeemnaa

theorem firstR_ex (p : Int) (is : Int → Bool) (n : Nat) : ∃ K, firstR p is n K := by
  induction n with
  | zero => exact ⟨0, .inl ⟨rfl, fun j h1 h2 => by omega⟩⟩
  | succ n ih =>
    obtain ⟨K, h⟩ := ih
    rcases h with ⟨rfl, h⟩ | ⟨⟨h1, h2⟩, h3, h4⟩
    · cases hi : is ((p + ((n : Int) + 1)) % 2560) with
      | true => exact ⟨(n : Int) + 1, .inr ⟨⟨by omega, by omega⟩, hi, fun j h1 h2 => h j h1 (by omega)⟩⟩
      | false =>
        refine ⟨0, .inl ⟨rfl, fun j h1 h2 => ?_⟩⟩
        by_cases e : j = (n : Int) + 1
        · rw [e]; exact hi
        · exact h j h1 (by omega)
    · exact ⟨K, .inr ⟨⟨h1, by omega⟩, h3, h4⟩⟩
theorem Vd.next_is {s : Vd} (hs : s.fit) : (s.next = 100000 ∧ ∀ j : Int, 0 ≤ j → j ≤ 2560 → vcol s.m ((s.p + j) % 2560) = vcol s.m s.p) ∨
    ((0 ≤ s.next ∧ s.next < 2559) ∧ vcol s.m ((s.p + (s.next + 1)) % 2560) ≠ vcol s.m s.p ∧ ∀ j : Int, 0 ≤ j → j ≤ s.next → vcol s.m ((s.p + j) % 2560) = vcol s.m s.p) := by
  obtain ⟨K, hK⟩ := firstR_ex s.p (fun q => vcol s.m q != vcol s.m s.p) 2559
  have e := Vd.next_first hs hK
  have hp := hs.p
  rcases hK with ⟨rfl, h⟩ | ⟨⟨h1, h2⟩, h3, h4⟩
  · refine .inl ⟨e, fun j h1 h2 => ?_⟩
    by_cases e0 : j = 0 ∨ j = 2560
    · rw [show (s.p + j) % 2560 = s.p by omega]
    · have := h j (by omega) (by omega)
      simpa using this
  · rw [if_neg (by omega)] at e
    rw [e]
    refine .inr ⟨by omega, by rw [show s.p + (K - 1 + 1) = s.p + K by omega]; simpa using h3, fun j h5 h6 => ?_⟩
    by_cases e0 : j = 0
    · rw [e0, show (s.p + 0) % 2560 = s.p by omega]
    · have := h4 j (by omega) (by omega)
      simpa using this
theorem Vd.out_ticks {s : Vd} (hs : s.fit) (n : Int) (hn : 0 ≤ n) : (s.ticks n.toNat).out = vcol s.m ((s.p + n) % 2560) := by
  unfold Vd.out
  rw [Vd.ticks_m, Vd.ticks_p hs, Int.toNat_of_nonneg hn]
/-- A frame later, and for as long as Next says so, the color is the same; then it is another one. -/
theorem Vd.later {s : Vd} (hs : s.fit) : (s.ticks (2560 : Int).toNat).out = s.out ∧
    ((s.next = 100000 ∧ ∀ j : Int, 0 ≤ j → j ≤ 2560 → (s.ticks j.toNat).out = s.out) ∨
     ((0 ≤ s.next ∧ s.next < 2559) ∧ (s.ticks (s.next + 1).toNat).out ≠ s.out ∧ ∀ j : Int, 0 ≤ j → j ≤ s.next → (s.ticks j.toNat).out = s.out)) := by
  have hp := hs.p
  refine ⟨?_, ?_⟩
  · rw [Vd.out_ticks hs 2560 (by decide), show (s.p + 2560) % 2560 = s.p by omega]
    rfl
  · rcases Vd.next_is hs with ⟨e, h⟩ | ⟨h1, h2, h3⟩
    · exact .inl ⟨e, fun j h5 h6 => (Vd.out_ticks hs j h5).trans (h j h5 h6)⟩
    · exact .inr ⟨h1, by rw [Vd.out_ticks hs _ (by omega)]; exact h2, fun j h5 h6 => (Vd.out_ticks hs j h5).trans (h3 j h5 h6)⟩
end Go.Proofs.Ytambggbmkeemnaa
