/- A part of the proof of ChipBanks: LinM. -/
import Derived.Test.YtakaebjojgeehaaChipBanksK09
import Derived.OrdersHeld
import Derived.StillTactics
import Derived.StillTail
namespace Go.Proofs.Ytakaebjojgeehaa
open Go
section
variable {P : Program} {Q : Exit → Act → World → Prop} {md : Region.Mode} {S : World → Prop} {R N : Nat → Bool}
def notOf (m : Nat) (j : Nat) : Bool := !m.testBit j
def mixM (md : Region.Mode) (ops : Array Oper) (R N : Nat → Bool) : List (Nat × Nat × Nat) → Array Bool → Bool
  | [], listed => (Region.ready md ops listed).isEmpty
  | (i, 0, m) :: rest, listed => (Region.ready md ops listed).contains i && Region.free md ops listed i && R i && blkB md ops (notOf m) listed i && okB ops (notOf m) R listed && mixM md ops R N rest (listed.setIfInBounds i true)
  | (i, 1, m) :: rest, listed => (Region.ready md ops listed).contains i && Region.free md ops listed i && R i && blkB md ops (notOf m) listed i && okB ops (notOf m) (fun j => R j || N j) listed && mixM md ops R N rest (listed.setIfInBounds i true)
  | (i, k + 2, _) :: rest, listed => decide (Region.ready md ops listed = [i]) && !R i && (!N i || decide (k = 1)) && mixM md ops R N rest (listed.setIfInBounds i true)
theorem X_mixM {l : List Oper} (hs : Region.noSelect l.toArray = true) (hQ : ∀ c a w d v, Q (.panic c) (a.put d v) w → Q (.panic c) a w) :
    ∀ (st : List (Nat × Nat × Nat)) (listed : Array Bool) (a : Act) (w : World), listed.size = l.toArray.size → mixM md l.toArray R N st listed = true →
    wpMix P l.toArray Q S (st.map fun x => (opOf l x.1, x.2.1)) a w → wpAnyX P md l.toArray Q S R N st.length listed a w
  | [], listed, a, w, _, hB, h => ⟨by simpa [mixM] using hB, h⟩
  | (i, 0, m) :: rest, listed, a, w, hz, hB, h => by
    simp only [mixM, Bool.and_eq_true] at hB
    obtain ⟨⟨⟨⟨⟨hr, hf⟩, hR⟩, hK⟩, hO⟩, hB⟩ := hB
    have hz' : (listed.setIfInBounds i true).size = l.toArray.size := by simpa using hz
    have ho := opOf_some hr
    have hri : i ∈ Region.ready md l.toArray listed := by simpa using hr
    have hst : stOp P l.toArray w i (fun a' => wpMix P l.toArray Q S (rest.map fun x => (opOf l x.1, x.2.1)) a' w) a := by
      unfold stOp; simp only [ho]; exact h
    obtain ⟨v, hy, h⟩ := yieldsAt_of_stOp ho hst
    exact X_takeR ho (Region.noSelect_spec hs) hR _ _ listed a w (blk_of_B hK) (ok_of_B hz hO) (Region.free_spec ho hf) hri hy (X_mixM hs hQ rest _ _ w hz' hB h)
  | (i, 1, m) :: rest, listed, a, w, hz, hB, h => by
    simp only [mixM, Bool.and_eq_true] at hB
    obtain ⟨⟨⟨⟨⟨hr, hf⟩, hR⟩, hK⟩, hO⟩, hB⟩ := hB
    have hz' : (listed.setIfInBounds i true).size = l.toArray.size := by simpa using hz
    have ho := opOf_some hr
    have hri : i ∈ Region.ready md l.toArray listed := by simpa using hr
    obtain ⟨hS, v, hy, h⟩ := h
    exact X_takeH ho (Region.noSelect_spec hs) hR _ (fun c a w => hQ c a w _ _) _ listed a w (blk_of_B hK) (ok_of_B hz hO) (Region.free_spec ho hf) hri hy hS (X_mixM hs hQ rest _ _ w hz' hB h)
  | (i, k + 2, _) :: rest, listed, a, w, hz, hB, h => by
    simp only [mixM, Bool.and_eq_true, decide_eq_true_eq, Bool.not_eq_true', Bool.or_eq_true] at hB
    obtain ⟨⟨⟨hr, hR⟩, hN⟩, hB⟩ := hB
    have hz' : (listed.setIfInBounds i true).size = l.toArray.size := by simpa using hz
    refine ⟨fun h1 => (by rw [hr] at h1; cases h1), fun j hj => ?_⟩
    rw [hr] at hj
    obtain rfl : j = i := by simpa using hj
    refine ⟨fun h1 => (by rw [hR] at h1; cases h1), fun _ => ?_⟩
    have ho : l.toArray[j]? = some (opOf l j) := opOf_some (md := md) (listed := listed) (by rw [hr]; simp)
    refine wpOp_mono (fun a' w' h' => ⟨fun hNj => h'.1 ?_, X_mixM hs hQ rest _ a' w' hz' hB h'.2⟩) (wpOp_of_list ho h)
    rcases hN with hN | hN
    · rw [hN] at hNj; cases hNj
    · exact hN
/-- A region that draws, in the order 'st': each operation's number, its mark, the bits of those that wait for it. -/
theorem wp_region_mixM {id : Nat} {a : Act} {w : World} {l : List Oper} (S : World → Prop) (R N : Nat) (st : List (Nat × Nat × Nat)) (hm : P.follows .mixedOrders = true)
    (hB : (Region.noSelect l.toArray && decide (st.length = l.length) && mixM .any l.toArray R.testBit N.testBit st (Array.replicate l.length false)) = true)
    (hQ : ∀ c a w t v, Q (.panic c) (a.put (some t) v) w → Q (.panic c) a w)
    (h : wpMix P l.toArray Q S (st.map fun x => (opOf l x.1, x.2.1)) a { w with drawn := w.drawn + 1 }) :
    (Code.region id l.toArray true).wp P Q a w := by
  simp only [Bool.and_eq_true, decide_eq_true_eq] at hB
  obtain ⟨⟨hs, hl⟩, hB⟩ := hB
  refine wp_region_any hm ?_
  have hQ' : ∀ c a w d v, Q (.panic c) (a.put d v) w → Q (.panic c) a w := fun c a w d v hh => by
    cases d with
    | none => exact hh
    | some t => exact hQ c a w t v hh
  have := wpAny_of_X _ _ _ _ (X_mixM (Q := Q) hs hQ' st _ a _ (by simp) hB h)
  rw [hl] at this
  simpa using this
end
end Go.Proofs.Ytakaebjojgeehaa
