/- A part of the proof of ChipBanks: LinF. -/
import Derived.Test.YtakaebjojgeehaaChipBanksK09
import Derived.OrdersHeld
import Derived.StillTactics
import Derived.StillTail
namespace Go.Proofs.Ytakaebjojgeehaa
open Go
section
variable {P : Program} {ops : Array Oper} {Q : Exit → Act → World → Prop} {md : Region.Mode} {S : World → Prop} {R N : Nat → Bool}
/-- 'wpMix' with an operation al that floats: ahead of each writing operation of 'pre' it may come up; behind 'pre' it does. -/
def wpFloat (P : Program) (ops : Array Oper) (Q : Exit → Act → World → Prop) (S : World → Prop) (al : Oper) (post : List (Oper × Nat)) : List (Oper × Nat) → Act → World → Prop
  | [], a, w => wpList P ops (Exit.then (fun a' w' => S w' ∧ wpMix P ops Q S post a' w') Q) [al] a w
  | (_, 0) :: _, _, _ => False
  | (o, 1) :: rest, a, w => S w ∧ ∃ v, YieldsC P ops S o v a ∧ wpFloat P ops Q S al post rest (a.put o.dst v) w
  | (o, k + 2) :: rest, a, w => wpList P ops (Exit.then (fun a' w' => (k = 1 → S w') ∧ wpFloat P ops Q S al post rest a' w') Q) [o] a w ∧
      wpList P ops (Exit.then (fun a' w' => S w' ∧ wpMix P ops Q S ((o, k + 2) :: rest ++ post) a' w') Q) [al] a w
def floatB (md : Region.Mode) (ops : Array Oper) (R N : Nat → Bool) (al : Nat) (post : List (Nat × Nat)) : List (Nat × Nat) → Array Bool → Bool
  | [], listed => decide (Region.ready md ops listed = [al]) && !R al && mixB md ops R N post (listed.setIfInBounds al true)
  | (_, 0) :: _, _ => false
  | (i, 1) :: rest, listed => (Region.ready md ops listed).contains i && Region.free md ops listed i && R i && blkB md ops (aheadB md ops i) listed i && okB ops (aheadB md ops i) (fun j => R j || N j) listed && floatB md ops R N al post rest (listed.setIfInBounds i true)
  | (i, k + 2) :: rest, listed => decide (Region.ready md ops listed = [i, al]) && !R i && !R al && (!N i || decide (k = 1)) && floatB md ops R N al post rest (listed.setIfInBounds i true) && mixB md ops R N ((i, k + 2) :: rest ++ post) (listed.setIfInBounds al true)
theorem X_float {l : List Oper} (hs : Region.noSelect l.toArray = true) (hQ : ∀ c a w d v, Q (.panic c) (a.put d v) w → Q (.panic c) a w) (al : Nat) (post : List (Nat × Nat)) :
    ∀ (st : List (Nat × Nat)) (listed : Array Bool) (a : Act) (w : World), listed.size = l.toArray.size → floatB md l.toArray R N al post st listed = true →
    wpFloat P l.toArray Q S (opOf l al) (post.map fun x => (opOf l x.1, x.2)) (st.map fun x => (opOf l x.1, x.2)) a w → wpAnyX P md l.toArray Q S R N (st.length + post.length + 1) listed a w
  | [], listed, a, w, hz, hB, h => by
    simp only [floatB, Bool.and_eq_true, decide_eq_true_eq, Bool.not_eq_true'] at hB
    obtain ⟨⟨hr, hR⟩, hB⟩ := hB
    have hz' : (listed.setIfInBounds al true).size = l.toArray.size := by simpa using hz
    rw [List.length_nil, Nat.zero_add]
    refine ⟨fun h1 => (by rw [hr] at h1; cases h1), fun j hj => ?_⟩
    rw [hr] at hj
    obtain rfl : j = al := by simpa using hj
    refine ⟨fun h1 => (by rw [hR] at h1; cases h1), fun _ => ?_⟩
    have ho : l.toArray[j]? = some (opOf l j) := opOf_some (md := md) (listed := listed) (by rw [hr]; simp)
    exact wpOp_mono (fun a' w' h' => ⟨fun _ => h'.1, X_mix hs hQ post _ a' w' hz' hB h'.2⟩) (wpOp_of_list ho h)
  | (i, 0) :: rest, listed, a, w, hz, hB, h => h.elim
  | (i, 1) :: rest, listed, a, w, hz, hB, h => by
    simp only [floatB, Bool.and_eq_true] at hB
    obtain ⟨⟨⟨⟨⟨hr, hf⟩, hR⟩, hK⟩, hO⟩, hB⟩ := hB
    have hz' : (listed.setIfInBounds i true).size = l.toArray.size := by simpa using hz
    have ho := opOf_some hr
    have hri : i ∈ Region.ready md l.toArray listed := by simpa using hr
    obtain ⟨hS, v, hy, h⟩ := h
    rw [show ((i, 1) :: rest).length + post.length + 1 = (rest.length + post.length + 1) + 1 by simp; omega]
    exact X_takeH ho (Region.noSelect_spec hs) hR _ (fun c a w => hQ c a w _ _) _ listed a w (blk_of_B hK) (ok_of_B hz hO) (Region.free_spec ho hf) hri hy hS (X_float hs hQ al post rest _ _ w hz' hB h)
  | (i, k + 2) :: rest, listed, a, w, hz, hB, h => by
    simp only [floatB, Bool.and_eq_true, decide_eq_true_eq, Bool.not_eq_true', Bool.or_eq_true] at hB
    obtain ⟨⟨⟨⟨⟨hr, hR⟩, hRa⟩, hN⟩, hB⟩, hM⟩ := hB
    have hz' : (listed.setIfInBounds i true).size = l.toArray.size := by simpa using hz
    have hz2 : (listed.setIfInBounds al true).size = l.toArray.size := by simpa using hz
    rw [show ((i, k + 2) :: rest).length + post.length + 1 = (rest.length + post.length + 1) + 1 by simp; omega]
    refine ⟨fun h1 => (by rw [hr] at h1; cases h1), fun j hj => ?_⟩
    rw [hr] at hj
    rcases (by simpa using hj : j = i ∨ j = al) with rfl | rfl
    · refine ⟨fun h1 => (by rw [hR] at h1; cases h1), fun _ => ?_⟩
      have ho : l.toArray[j]? = some (opOf l j) := opOf_some (md := md) (listed := listed) (by rw [hr]; simp)
      refine wpOp_mono (fun a' w' h' => ⟨fun hNj => h'.1 ?_, X_float hs hQ al post rest _ a' w' hz' hB h'.2⟩) (wpOp_of_list ho h.1)
      rcases hN with hN | hN
      · rw [hN] at hNj; cases hNj
      · exact hN
    · refine ⟨fun h1 => (by rw [hRa] at h1; cases h1), fun _ => ?_⟩
      have ho : l.toArray[j]? = some (opOf l j) := opOf_some (md := md) (listed := listed) (by rw [hr]; simp)
      refine wpOp_mono (fun a' w' h' => ⟨fun _ => h'.1, ?_⟩) (wpOp_of_list ho h.2)
      have := X_mix (Q := Q) (S := S) hs hQ ((i, k + 2) :: rest ++ post) _ a' w' hz2 hM (by simpa using h'.2)
      rwa [show ((i, k + 2) :: rest ++ post).length = rest.length + post.length + 1 by simp] at this
/-- A region that draws, in the order 'pre', al, 'post', al anywhere ahead of 'post'. -/
theorem wp_region_float {id : Nat} {a : Act} {w : World} {l : List Oper} (S : World → Prop) (pre : List (Nat × Nat)) (al : Nat) (post : List (Nat × Nat)) (hm : P.follows .mixedOrders = true)
    (hB : (Region.noSelect l.toArray && decide (pre.length + post.length + 1 = l.length) && floatB .any l.toArray (fun j => (pre ++ post).any (fun x => x.1 == j && (x.2 == 0 || x.2 == 1))) (fun j => j == al || (pre ++ post).any (fun x => x.1 == j && x.2 == 3)) al post pre (Array.replicate l.length false)) = true)
    (hQ : ∀ c a w t v, Q (.panic c) (a.put (some t) v) w → Q (.panic c) a w)
    (h : wpFloat P l.toArray Q S (opOf l al) (post.map fun x => (opOf l x.1, x.2)) (pre.map fun x => (opOf l x.1, x.2)) a { w with drawn := w.drawn + 1 }) :
    (Code.region id l.toArray true).wp P Q a w := by
  simp only [Bool.and_eq_true, decide_eq_true_eq] at hB
  obtain ⟨⟨hs, hl⟩, hB⟩ := hB
  refine wp_region_any hm ?_
  have hQ' : ∀ c a w d v, Q (.panic c) (a.put d v) w → Q (.panic c) a w := fun c a w d v hh => by
    cases d with
    | none => exact hh
    | some t => exact hQ c a w t v hh
  have := wpAny_of_X _ _ _ _ (X_float (Q := Q) hs hQ' al post pre _ a _ (by simp) hB h)
  rw [hl] at this
  simpa using this
theorem wpFloat_held {a : Act} {w : World} {al o : Oper} {post rest : List (Oper × Nat)} (v : Value) (hw : Region.wanted o (yielded ops a.tmps) = true) (hS : S w) (hy : ∀ w', S w' → (execOp a.eval o).run P w' = .ok (.value v) w')
    (h : wpFloat P ops Q S al post rest (a.put o.dst v) w) : wpFloat P ops Q S al post ((o, 1) :: rest) a w := ⟨hS, v, .inl ⟨hw, fun w' hw' => .inl (hy w' hw')⟩, h⟩
theorem wpFloat_call {a : Act} {w : World} {al o : Oper} {post rest : List (Oper × Nat)} {k : Nat} (h : wpList P ops (Exit.then (fun a' w' => (k = 1 → S w') ∧ wpFloat P ops Q S al post rest a' w') Q) [o] a w)
    (g : wpList P ops (Exit.then (fun a' w' => S w' ∧ wpMix P ops Q S ((o, k + 2) :: rest ++ post) a' w') Q) [al] a w) : wpFloat P ops Q S al post ((o, k + 2) :: rest) a w := ⟨h, g⟩
theorem wpFloat_nil {a : Act} {w : World} {al : Oper} {post : List (Oper × Nat)} (h : wpList P ops (Exit.then (fun a' w' => S w' ∧ wpMix P ops Q S post a' w') Q) [al] a w) : wpFloat P ops Q S al post [] a w := h
end
end Go.Proofs.Ytakaebjojgeehaa
