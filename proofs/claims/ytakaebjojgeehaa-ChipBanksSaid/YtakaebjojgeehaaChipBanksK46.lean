/- A part of the proof of ChipBanks: LinT. -/
import Derived.Test.YtakaebjojgeehaaChipBanksK09
import Derived.OrdersHeld
import Derived.StillTactics
import Derived.StillTail
namespace Go.Proofs.Ytakaebjojgeehaa
open Go
/-- The orders: 'rd', what yields in every world that meets S; 'one', 'two', 'three', the operations that may come up, S behind each; 'mix', the rest in one order. -/
inductive Tr where
  | mix (st : List (Nat × Nat))
  | rd (i : Nat) (t : Tr)
  | one (i : Nat) (t : Tr)
  | two (i : Nat) (t : Tr) (j : Nat) (u : Tr)
  | three (i : Nat) (t : Tr) (j : Nat) (u : Tr) (k : Nat) (v : Tr)
/-- .. with the operations themselves. -/
inductive TrO where
  | mix (st : List (Oper × Nat))
  | rd (o : Oper) (t : TrO)
  | one (o : Oper) (t : TrO)
  | two (o : Oper) (t : TrO) (p : Oper) (u : TrO)
  | three (o : Oper) (t : TrO) (p : Oper) (u : TrO) (q : Oper) (v : TrO)
def Tr.put (l : List Oper) : Tr → TrO
  | .mix st => .mix (st.map fun x => (opOf l x.1, x.2))
  | .rd i t => .rd (opOf l i) (t.put l)
  | .one i t => .one (opOf l i) (t.put l)
  | .two i t j u => .two (opOf l i) (t.put l) (opOf l j) (u.put l)
  | .three i t j u k v => .three (opOf l i) (t.put l) (opOf l j) (u.put l) (opOf l k) (v.put l)
def Tr.len : Tr → Nat
  | .mix st => st.length
  | .rd _ t => t.len + 1
  | .one _ t => t.len + 1
  | .two _ t _ _ => t.len + 1
  | .three _ t _ _ _ _ => t.len + 1
section
variable {P : Program} {ops : Array Oper} {Q : Exit → Act → World → Prop} {md : Region.Mode} {S : World → Prop} {R N : Nat → Bool}
def wpTr (P : Program) (ops : Array Oper) (Q : Exit → Act → World → Prop) (S : World → Prop) : TrO → Act → World → Prop
  | .mix st, a, w => wpMix P ops Q S st a w
  | .rd o t, a, w => S w ∧ ∃ v, YieldsC P ops S o v a ∧ wpTr P ops Q S t (a.put o.dst v) w
  | .one o t, a, w => wpList P ops (Exit.then (fun a' w' => S w' ∧ wpTr P ops Q S t a' w') Q) [o] a w
  | .two o t p u, a, w => wpList P ops (Exit.then (fun a' w' => S w' ∧ wpTr P ops Q S t a' w') Q) [o] a w ∧ wpList P ops (Exit.then (fun a' w' => S w' ∧ wpTr P ops Q S u a' w') Q) [p] a w
  | .three o t p u q v, a, w => wpList P ops (Exit.then (fun a' w' => S w' ∧ wpTr P ops Q S t a' w') Q) [o] a w ∧ wpList P ops (Exit.then (fun a' w' => S w' ∧ wpTr P ops Q S u a' w') Q) [p] a w ∧ wpList P ops (Exit.then (fun a' w' => S w' ∧ wpTr P ops Q S v a' w') Q) [q] a w
def trB (md : Region.Mode) (ops : Array Oper) (R N : Nat → Bool) : Tr → Array Bool → Bool
  | .mix st, listed => mixB md ops R N st listed
  | .rd i t, listed => (Region.ready md ops listed).contains i && Region.free md ops listed i && R i && blkB md ops (aheadB md ops i) listed i && okB ops (aheadB md ops i) (fun j => R j || N j) listed && trB md ops R N t (listed.setIfInBounds i true)
  | .one i t, listed => decide (Region.ready md ops listed = [i]) && !R i && trB md ops R N t (listed.setIfInBounds i true)
  | .two i t j u, listed => decide (Region.ready md ops listed = [i, j]) && !R i && !R j && decide (u.len = t.len) && trB md ops R N t (listed.setIfInBounds i true) && trB md ops R N u (listed.setIfInBounds j true)
  | .three i t j u k v, listed => decide (Region.ready md ops listed = [i, j, k]) && !R i && !R j && !R k && decide (u.len = t.len) && decide (v.len = t.len) && trB md ops R N t (listed.setIfInBounds i true) && trB md ops R N u (listed.setIfInBounds j true) && trB md ops R N v (listed.setIfInBounds k true)
theorem X_tr {l : List Oper} (hs : Region.noSelect l.toArray = true) (hQ : ∀ c a w d v, Q (.panic c) (a.put d v) w → Q (.panic c) a w) :
    ∀ (t : Tr) (listed : Array Bool) (a : Act) (w : World), listed.size = l.toArray.size → trB md l.toArray R N t listed = true → wpTr P l.toArray Q S (t.put l) a w → wpAnyX P md l.toArray Q S R N t.len listed a w
  | .mix st, listed, a, w, hz, hB, h => X_mix hs hQ st listed a w hz hB h
  | .rd i t, listed, a, w, hz, hB, h => by
    simp only [trB, Bool.and_eq_true] at hB
    obtain ⟨⟨⟨⟨⟨hr, hf⟩, hR⟩, hK⟩, hO⟩, hB⟩ := hB
    have hz' : (listed.setIfInBounds i true).size = l.toArray.size := by simpa using hz
    have ho := opOf_some hr
    have hri : i ∈ Region.ready md l.toArray listed := by simpa using hr
    obtain ⟨hS, v, hy, h⟩ := h
    exact X_takeH ho (Region.noSelect_spec hs) hR _ (fun c a w => hQ c a w _ _) _ listed a w (blk_of_B hK) (ok_of_B hz hO) (Region.free_spec ho hf) hri hy hS (X_tr hs hQ t _ _ w hz' hB h)
  | .one i t, listed, a, w, hz, hB, h => by
    simp only [trB, Bool.and_eq_true, decide_eq_true_eq, Bool.not_eq_true'] at hB
    obtain ⟨⟨hr, hR⟩, hB⟩ := hB
    have hz' : (listed.setIfInBounds i true).size = l.toArray.size := by simpa using hz
    refine ⟨fun h1 => (by rw [hr] at h1; cases h1), fun q hq => ?_⟩
    rw [hr] at hq
    obtain rfl : q = i := by simpa using hq
    refine ⟨fun h1 => (by rw [hR] at h1; cases h1), fun _ => ?_⟩
    have ho : l.toArray[q]? = some (opOf l q) := opOf_some (md := md) (listed := listed) (by rw [hr]; simp)
    exact wpOp_mono (fun a' w' h' => ⟨fun _ => h'.1, X_tr hs hQ t _ a' w' hz' hB h'.2⟩) (wpOp_of_list ho h)
  | .two i t j u, listed, a, w, hz, hB, h => by
    simp only [trB, Bool.and_eq_true, decide_eq_true_eq, Bool.not_eq_true'] at hB
    obtain ⟨⟨⟨⟨⟨hr, hR⟩, hR2⟩, hl⟩, hB⟩, hB2⟩ := hB
    have hz' : (listed.setIfInBounds i true).size = l.toArray.size := by simpa using hz
    have hz2 : (listed.setIfInBounds j true).size = l.toArray.size := by simpa using hz
    refine ⟨fun h1 => (by rw [hr] at h1; cases h1), fun q hq => ?_⟩
    rw [hr] at hq
    rcases (by simpa using hq : q = i ∨ q = j) with rfl | rfl
    · refine ⟨fun h1 => (by rw [hR] at h1; cases h1), fun _ => ?_⟩
      have ho : l.toArray[q]? = some (opOf l q) := opOf_some (md := md) (listed := listed) (by rw [hr]; simp)
      exact wpOp_mono (fun a' w' h' => ⟨fun _ => h'.1, X_tr hs hQ t _ a' w' hz' hB h'.2⟩) (wpOp_of_list ho h.1)
    · refine ⟨fun h1 => (by rw [hR2] at h1; cases h1), fun _ => ?_⟩
      have ho : l.toArray[q]? = some (opOf l q) := opOf_some (md := md) (listed := listed) (by rw [hr]; simp)
      exact wpOp_mono (fun a' w' h' => ⟨fun _ => h'.1, hl ▸ X_tr hs hQ u _ a' w' hz2 hB2 h'.2⟩) (wpOp_of_list ho h.2)
  | .three i t j u k v, listed, a, w, hz, hB, h => by
    simp only [trB, Bool.and_eq_true, decide_eq_true_eq, Bool.not_eq_true'] at hB
    obtain ⟨⟨⟨⟨⟨⟨⟨⟨hr, hR⟩, hR2⟩, hR3⟩, hl⟩, hl3⟩, hB⟩, hB2⟩, hB3⟩ := hB
    have hz' : (listed.setIfInBounds i true).size = l.toArray.size := by simpa using hz
    have hz2 : (listed.setIfInBounds j true).size = l.toArray.size := by simpa using hz
    have hz3 : (listed.setIfInBounds k true).size = l.toArray.size := by simpa using hz
    refine ⟨fun h1 => (by rw [hr] at h1; cases h1), fun q hq => ?_⟩
    rw [hr] at hq
    rcases (by simpa using hq : q = i ∨ q = j ∨ q = k) with rfl | rfl | rfl
    · refine ⟨fun h1 => (by rw [hR] at h1; cases h1), fun _ => ?_⟩
      have ho : l.toArray[q]? = some (opOf l q) := opOf_some (md := md) (listed := listed) (by rw [hr]; simp)
      exact wpOp_mono (fun a' w' h' => ⟨fun _ => h'.1, X_tr hs hQ t _ a' w' hz' hB h'.2⟩) (wpOp_of_list ho h.1)
    · refine ⟨fun h1 => (by rw [hR2] at h1; cases h1), fun _ => ?_⟩
      have ho : l.toArray[q]? = some (opOf l q) := opOf_some (md := md) (listed := listed) (by rw [hr]; simp)
      exact wpOp_mono (fun a' w' h' => ⟨fun _ => h'.1, hl ▸ X_tr hs hQ u _ a' w' hz2 hB2 h'.2⟩) (wpOp_of_list ho h.2.1)
    · refine ⟨fun h1 => (by rw [hR3] at h1; cases h1), fun _ => ?_⟩
      have ho : l.toArray[q]? = some (opOf l q) := opOf_some (md := md) (listed := listed) (by rw [hr]; simp)
      exact wpOp_mono (fun a' w' h' => ⟨fun _ => h'.1, hl3 ▸ X_tr hs hQ v _ a' w' hz3 hB3 h'.2⟩) (wpOp_of_list ho h.2.2)
/-- A region that draws, by the tree of its orders; rs: what leaves the world as it is. -/
theorem wp_region_tree {id : Nat} {a : Act} {w : World} {l : List Oper} (S : World → Prop) (rs : List Nat) (t : Tr) (hm : P.follows .mixedOrders = true)
    (hB : (Region.noSelect l.toArray && decide (t.len = l.length) && trB .any l.toArray (fun j => rs.contains j) (fun j => !rs.contains j) t (Array.replicate l.length false)) = true)
    (hQ : ∀ c a w t v, Q (.panic c) (a.put (some t) v) w → Q (.panic c) a w)
    (h : wpTr P l.toArray Q S (t.put l) a { w with drawn := w.drawn + 1 }) :
    (Code.region id l.toArray true).wp P Q a w := by
  simp only [Bool.and_eq_true, decide_eq_true_eq] at hB
  obtain ⟨⟨hs, hl⟩, hB⟩ := hB
  refine wp_region_any hm ?_
  have hQ' : ∀ c a w d v, Q (.panic c) (a.put d v) w → Q (.panic c) a w := fun c a w d v hh => by
    cases d with
    | none => exact hh
    | some t => exact hQ c a w t v hh
  have := wpAny_of_X _ _ _ _ (X_tr (Q := Q) hs hQ' t _ a _ (by simp) hB h)
  rw [hl] at this
  simpa using this
/-- .. with the operations behind which S holds named. -/
theorem wp_region_treeN {id : Nat} {a : Act} {w : World} {l : List Oper} (S : World → Prop) (rs ns : List Nat) (t : Tr) (hm : P.follows .mixedOrders = true)
    (hB : (Region.noSelect l.toArray && decide (t.len = l.length) && trB .any l.toArray (fun j => rs.contains j) (fun j => ns.contains j) t (Array.replicate l.length false)) = true)
    (hQ : ∀ c a w t v, Q (.panic c) (a.put (some t) v) w → Q (.panic c) a w)
    (h : wpTr P l.toArray Q S (t.put l) a { w with drawn := w.drawn + 1 }) :
    (Code.region id l.toArray true).wp P Q a w := by
  simp only [Bool.and_eq_true, decide_eq_true_eq] at hB
  obtain ⟨⟨hs, hl⟩, hB⟩ := hB
  refine wp_region_any hm ?_
  have hQ' : ∀ c a w d v, Q (.panic c) (a.put d v) w → Q (.panic c) a w := fun c a w d v hh => by
    cases d with
    | none => exact hh
    | some t => exact hQ c a w t v hh
  have := wpAny_of_X _ _ _ _ (X_tr (Q := Q) hs hQ' t _ a _ (by simp) hB h)
  rw [hl] at this
  simpa using this
theorem wpTr_held {a : Act} {w : World} {o : Oper} {t : TrO} (v : Value) (hw : Region.wanted o (yielded ops a.tmps) = true) (hS : S w) (hy : ∀ w', S w' → (execOp a.eval o).run P w' = .ok (.value v) w')
    (h : wpTr P ops Q S t (a.put o.dst v) w) : wpTr P ops Q S (.rd o t) a w := ⟨hS, v, .inl ⟨hw, fun w' hw' => .inl (hy w' hw')⟩, h⟩
theorem wpTr_one {a : Act} {w : World} {o : Oper} {t : TrO} (h : wpList P ops (Exit.then (fun a' w' => S w' ∧ wpTr P ops Q S t a' w') Q) [o] a w) : wpTr P ops Q S (.one o t) a w := h
theorem wpTr_two {a : Act} {w : World} {o p : Oper} {t u : TrO} (h : wpList P ops (Exit.then (fun a' w' => S w' ∧ wpTr P ops Q S t a' w') Q) [o] a w) (g : wpList P ops (Exit.then (fun a' w' => S w' ∧ wpTr P ops Q S u a' w') Q) [p] a w) : wpTr P ops Q S (.two o t p u) a w := ⟨h, g⟩
theorem wpTr_mix {a : Act} {w : World} {st : List (Oper × Nat)} (h : wpMix P ops Q S st a w) : wpTr P ops Q S (.mix st) a w := h
end
end Go.Proofs.Ytakaebjojgeehaa
