/- slices.Insert of one instruction into a slice that the call owns: what the result reads as. -/
import Derived.Test.YtnkplfimcehnmaaInsertI
namespace Go.Proofs.Ytnkplfimcehnmaa
open Go.RowKit Go.Lib

theorem insert_isArr {R : List Value → In → Prop} {l : List In} {f : Nat → List Value} (hf : ∀ i, i < l.length → (f i).length = 4) (hR : ∀ i x, l[i]? = some x → R (f i) x) {i : Nat} {x : In} {vs : List Value} (hi : i < l.length) (hvl : vs.length = 4) (hx : R vs x)
    {g c : Nat} {W : World} (hg : g < W.heap.size) (hc : l.length + 1 ≤ c) (hc2 : c ≤ 9223372036854775807)
    (h1 : ∀ p, p < i * 4 → W.cell? ⟨g, p, none⟩ = (flat f l.length)[p]?) (h2 : ∀ j, j < 4 → W.cell? ⟨g, i * 4 + j, none⟩ = vs[j]?) (h3 : ∀ p, i * 4 ≤ p → p < l.length * 4 → W.cell? ⟨g, p + 4, none⟩ = (flat f l.length)[p]?) :
    isArr 4 (fun _ => R) W (.slice (some ⟨g, 0, none⟩) (l.length + 1) c) (l.take i ++ x :: l.drop i) := by
  have hlen : (l.take i ++ x :: l.drop i).length = l.length + 1 := by simp; omega
  refine .inr ⟨g, 0, c, by rw [hlen], hg, by omega, hc2, fun k y hk => ?_⟩
  by_cases hki : k < i
  · rw [List.getElem?_append_left (by simp; omega), List.getElem?_take, if_pos hki] at hk
    have hkl : k < l.length := by omega
    exact ⟨f k, hf k hkl, fun j hj => by rw [Nat.zero_add, h1 (k * 4 + j) (by omega), flat_get hf hkl hj], hR k y hk⟩
  · rw [List.getElem?_append_right (by simp; omega), List.length_take, Nat.min_eq_left (by omega)] at hk
    by_cases hke : k = i
    · subst hke
      rw [Nat.sub_self, List.getElem?_cons_zero] at hk
      cases hk
      exact ⟨vs, hvl, fun j hj => by rw [Nat.zero_add]; exact h2 j hj, hx⟩
    · obtain ⟨d, rfl⟩ : ∃ d, k = i + d + 1 := ⟨k - i - 1, by omega⟩
      rw [show i + d + 1 - i = d + 1 by omega, List.getElem?_cons_succ, List.getElem?_drop] at hk
      have hkl := (List.getElem?_eq_some_iff.1 hk).1
      refine ⟨f (i + d), hf _ hkl, fun j hj => ?_, hR _ y hk⟩
      rw [Nat.zero_add, show (i + d + 1) * 4 + j = ((i + d) * 4 + j) + 4 by omega, h3 _ (by omega) (by omega), flat_get hf hkl hj]

theorem size_setCells (b : Nat) : ∀ (vs : List Value) (o : Nat) (w : World), (w.setCells b o vs).heap.size = w.heap.size
  | [], _, _ => rfl
  | v :: r, o, w => by rw [World.setCells, size_setCells b r]; simp [World.setCell]
theorem below_setCells {B b : Nat} (hb : B ≤ b) : ∀ (vs : List Value) (o : Nat) {a w : World}, Below B a w → Below B a (w.setCells b o vs)
  | [], _, _, _, h => h
  | v :: r, o, _, _, h => by rw [World.setCells]; exact below_setCells hb r _ (h.setCell hb _)
theorem setCells_at (b : Nat) (vs : List Value) (o : Nat) (w : World) (h : ∀ j, j < vs.length → (w.cell? ⟨b, o + j, none⟩).isSome = true) (p : Nat) (h1 : o ≤ p) (h2 : p < o + vs.length) : (w.setCells b o vs).cell? ⟨b, p, none⟩ = vs[p - o]? := by
  have := World.cell?_setCells_in b vs o w h (p - o) (by omega)
  rw [show o + (p - o) = p by omega] at this
  rw [this, List.getElem?_eq_getElem]
theorem setCells_off (b : Nat) (vs : List Value) (o : Nat) (w : World) (p : Nat) (h : p < o ∨ o + vs.length ≤ p) : (w.setCells b o vs).cell? ⟨b, p, none⟩ = w.cell? ⟨b, p, none⟩ :=
  World.cell?_setCells_out b vs o w _ (fun _ _ => h)

set_option maxHeartbeats 1000000 in
theorem insertI_own {R : List Value → In → Prop} (hone : ∀ cs x, R cs x → ∀ u ∈ cs, u.oneCell' = true) {B : Nat} (v : Value) (l : List In) (i : Nat) (x : In) (vb vc : Nat) (vs : List Value) (va : Array Value) (tA : TypeId) (w : World)
    (h : ownArr 4 R B 34 w v l) (hi : i < l.length) (hl : l.length ≤ 8) (hB : B ≤ w.heap.size) (hvl : vs.length = 4) (hx : R vs x) (hv : w.heap[vb]? = some (.cells va tA (0, 0))) (hvs : ∀ j v, vs[j]? = some v → w.cell? ⟨vb, j, none⟩ = some v) (hvb : ∀ b, v.ownBlock = some b → vb ≠ b) :
    Calls Try.prog 12 #[v, .int .i64 i, .slice (some ⟨vb, 0, none⟩) 1 vc] w fun e w' =>
      ∃ g c, e = .returned (.slice (some ⟨g, 0, none⟩) (l.length + 1) c) ∧ B ≤ g ∧ isArr 4 (fun _ => R) w' (.slice (some ⟨g, 0, none⟩) (l.length + 1) c) (l.take i ++ x :: l.drop i) ∧ Below B w w' := by
  obtain ⟨f, hf, hown, hR⟩ := h
  rcases hown.2 with ⟨rfl, hn⟩ | ⟨g, cap, cur, rfl, hb, hg, hn, hc, hs, ht⟩
  · omega
  have hc' : cap ≤ 9223372036854775807 := by simpa [maxLen] using hc
  have hcl : (flat f l.length).length = l.length * 4 := flat_length hf
  have hcs : ∀ j, j < l.length * 4 → w.cell? ⟨g, j, none⟩ = (flat f l.length)[j]? := fun j hj => World.ownsRow.cellAt hown j hj
  have hcs' : ∀ j v, (flat f l.length)[j]? = some v → w.cell? ⟨g, j, none⟩ = some v := fun j v hj => by
    rw [hcs j (by have := (List.getElem?_eq_some_iff.1 hj).1; omega)]; exact hj
  have h1c : ∀ v ∈ flat f l.length, v.oneCell' = true := fun u hu => by
    obtain ⟨j, hj, hu⟩ := flat_mem hu
    exact hone _ _ (hR j l[j] (List.getElem?_eq_getElem hj)) u hu
  have h1v := hone _ _ hx
  have hgw := (Array.getElem?_eq_some_iff.1 hg).1
  have hvg := hvb g rfl
  have hdl : ((flat f l.length).drop (i * 4)).length = (l.length - i) * 4 := by rw [List.length_drop, hcl]; omega
  by_cases hroom : l.length + 1 ≤ cap
  · refine (insertI_shift g l.length cap i vb vc (flat f l.length) vs cur va tA 34 w hi hroom hc' hvg hcl hvl hg hs hv hcs' hvs h1c h1v).mono ?_
    rintro e w' ⟨rfl, rfl⟩
    have hS : ∀ p, p < (l.length + 1) * 4 → (w.drew.cell? ⟨g, p, none⟩).isSome = true := fun p hp => by
      have hp2 : p < cur.size := by omega
      show (w.cell? ⟨g, p, none⟩).isSome = true
      simp [World.cell?, hg, hp2]
    have hS1 : ∀ p, p < (l.length + 1) * 4 → ((w.drew.setCells g ((i + 1) * 4) ((flat f l.length).drop (i * 4))).cell? ⟨g, p, none⟩).isSome = true := fun p hp =>
      isSome_setCells g _ _ _ (fun j hj => hS _ (by omega)) p (hS p hp)
    refine ⟨g, cap, rfl, hb, insert_isArr hf hR hi hvl hx (by rw [size_setCells, size_setCells]; exact hgw) hroom hc' (fun p hp => ?_) (fun j hj => ?_) (fun p hp hp2 => ?_), below_setCells hb _ _ (below_setCells hb _ _ (Below.refl _ _).drew)⟩
    · rw [setCells_off _ _ _ _ _ (.inl hp), setCells_off _ _ _ _ _ (.inl (by omega))]
      exact hcs p (by omega)
    · rw [setCells_at _ _ _ _ (fun t ht => hS1 _ (by omega)) _ (by omega) (by omega), Nat.add_sub_cancel_left]
    · rw [setCells_off _ _ _ _ _ (.inr (by omega)), setCells_at _ _ _ _ (fun t ht => hS _ (by omega)) _ (by omega) (by omega), List.getElem?_drop, show i * 4 + (p + 4 - (i + 1) * 4) = p by omega]
  · refine (insertI_grow g l.length cap i vb vc (flat f l.length) vs w hi hn (by omega) (by omega) hcl hvl hcs' hvs h1c h1v).mono ?_
    rintro e w' ⟨G, hG1, hG2, rfl, ROW, hRl, hRc, rfl⟩
    have hS : ∀ p, p < (l.length + 1) * 4 → ((w.alloc (.cells ROW 34)).drew.cell? ⟨w.heap.size, p, none⟩).isSome = true := fun p hp => by
      show ((w.alloc (.cells ROW 34)).cell? ⟨w.heap.size, p, none⟩).isSome = true
      rw [World.cell?_alloc_at ROW _ w.heap.size p rfl, Array.getElem?_eq_getElem (by omega)]; rfl
    have hS1 : ∀ p, p < (l.length + 1) * 4 → (((w.alloc (.cells ROW 34)).drew.setCells w.heap.size (i * 4) vs).drew.cell? ⟨w.heap.size, p, none⟩).isSome = true := fun p hp =>
      isSome_setCells w.heap.size vs (i * 4) (w.alloc (.cells ROW 34)).drew (fun j hj => hS _ (by omega)) p (hS p hp)
    refine ⟨w.heap.size, G, rfl, hB, insert_isArr hf hR hi hvl hx ?_ hG1 hG2 (fun p hp => ?_) (fun j hj => ?_) (fun p hp hp2 => ?_), below_setCells hB _ _ (below_setCells hB _ _ ((Below.refl _ _).alloc hB _).drew).drew⟩
    · rw [size_setCells]
      show w.heap.size < ((w.alloc (.cells ROW 34)).drew.setCells w.heap.size (i * 4) vs).heap.size
      rw [size_setCells]
      show w.heap.size < (w.alloc (.cells ROW 34)).heap.size
      simp
    · rw [setCells_off _ _ _ _ _ (.inl (by omega))]
      show ((w.alloc (.cells ROW 34)).drew.setCells w.heap.size (i * 4) vs).cell? ⟨w.heap.size, p, none⟩ = _
      rw [setCells_off _ _ _ _ _ (.inl hp)]
      show (w.alloc (.cells ROW 34)).cell? ⟨w.heap.size, p, none⟩ = _
      rw [World.cell?_alloc_at ROW _ w.heap.size p rfl]
      exact hRc p hp
    · rw [setCells_off _ _ _ _ _ (.inl (by omega))]
      show ((w.alloc (.cells ROW 34)).drew.setCells w.heap.size (i * 4) vs).cell? ⟨w.heap.size, i * 4 + j, none⟩ = _
      rw [setCells_at _ _ _ _ (fun t ht => hS _ (by omega)) _ (by omega) (by omega), Nat.add_sub_cancel_left]
    · rw [setCells_at _ _ _ _ (fun t ht => hS1 _ (by omega)) _ (by omega) (by omega), List.getElem?_drop, show i * 4 + (p + 4 - (i + 1) * 4) = p by omega]
end Go.Proofs.Ytnkplfimcehnmaa
