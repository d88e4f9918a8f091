/- A slice whose elements take k cells each and that the call owns; the append onto it. No function is named here. -/
import Derived.Test.YtmjddoboogccoaaShape
import Derived.Below
import Derived.BigQuiet
import Derived.ChangeMaps5
import Derived.Deep.DeepAppendWide
import Derived.Deep.Draws
import Derived.Deep.OwnRows
import Derived.Deep.QuietTactic
import Derived.Deep.Slices
import Derived.Laws.OwnMore
import Derived.Lib.Hide
import Derived.Lib.SmallJoins
import Derived.OpenShut
import Derived.OwnWalk
import Derived.RowKit3
import Derived.WalkKit
namespace Go.Proofs.Ytmjddoboogccoaa
open Go.RowKit

def flat (f : Nat → List Value) : Nat → List Value
  | 0 => []
  | n + 1 => flat f n ++ f n
theorem flat_length {k n : Nat} {f : Nat → List Value} (h : ∀ i, i < n → (f i).length = k) : (flat f n).length = n * k := by
  induction n with
  | zero => simp [flat]
  | succ n ih =>
    rw [flat, List.length_append, ih (fun i hi => h i (by omega)), h n (by omega), Nat.succ_mul]
theorem flat_get {k n : Nat} {f : Nat → List Value} (h : ∀ i, i < n → (f i).length = k) {i r : Nat} (hi : i < n) (hr : r < k) : (flat f n)[i * k + r]? = (f i)[r]? := by
  induction n with
  | zero => cases hi
  | succ n ih =>
    have hn := fun i hi => h i (Nat.lt_succ_of_lt hi)
    have hl := flat_length hn
    rw [flat]
    by_cases e : i < n
    · have hlt : i * k + r < (flat f n).length := by
        rw [hl]
        have : (i + 1) * k ≤ n * k := Nat.mul_le_mul_right k e
        rw [Nat.succ_mul] at this
        omega
      rw [List.getElem?_append_left hlt]
      exact ih hn e
    · obtain rfl : i = n := by omega
      rw [List.getElem?_append_right (by rw [hl]; omega), hl, Nat.add_sub_cancel_left]
theorem flat_mem {n : Nat} {f : Nat → List Value} {u : Value} (h : u ∈ flat f n) : ∃ i, i < n ∧ u ∈ f i := by
  induction n with
  | zero => cases h
  | succ n ih =>
    rw [flat, List.mem_append] at h
    rcases h with h | h
    · obtain ⟨i, hi, hu⟩ := ih h; exact ⟨i, by omega, hu⟩
    · exact ⟨n, by omega, h⟩
theorem flat_congr {n : Nat} {f g : Nat → List Value} (h : ∀ i, i < n → f i = g i) : flat f n = flat g n := by
  induction n with
  | zero => rfl
  | succ n ih => rw [flat, flat, ih (fun i hi => h i (by omega)), h n (by omega)]
/-- One family, then another. -/
def joinF (n : Nat) (f g : Nat → List Value) (i : Nat) : List Value := if i < n then f i else g (i - n)
theorem flat_join (n m : Nat) (f g : Nat → List Value) : flat (joinF n f g) (n + m) = flat f n ++ flat g m := by
  induction m with
  | zero =>
    rw [Nat.add_zero, flat, List.append_nil]
    exact flat_congr fun i hi => by unfold joinF; rw [if_pos hi]
  | succ m ih =>
    rw [Nat.add_succ, flat, ih, flat, List.append_assoc]
    unfold joinF
    rw [if_neg (by omega), Nat.add_sub_cancel_left]

/-- The slice v belongs to the call (its block has a number from B on) and holds the list: R tells what an element's cells are. -/
def ownArr {α : Type} (k : Nat) (R : List Value → α → Prop) (B : Nat) (e : TypeId) (w : World) (v : Value) (l : List α) : Prop :=
  ∃ f : Nat → List Value, (∀ i, i < l.length → (f i).length = k) ∧ w.ownsRow B e k v l.length (flat f l.length) ∧ ∀ i x, l[i]? = some x → R (f i) x

theorem ownArr_isArr {α : Type} {k : Nat} {R : List Value → α → Prop} {B : Nat} {e : TypeId} {w : World} {v : Value} {l : List α} (h : ownArr k R B e w v l) : isArr k (fun _ => R) w v l := by
  obtain ⟨f, hf, hown, hR⟩ := h
  rcases hown.2 with ⟨rfl, hn⟩ | ⟨g, cap, cur, rfl, hb, hg, hn, hc, hs, ht⟩
  · exact .inl ⟨_, _, rfl, List.eq_nil_of_length_eq_zero hn⟩
  · refine .inr ⟨g, 0, cap, rfl, (Array.getElem?_eq_some_iff.1 hg).1, hn, by simpa [maxLen] using hc, fun i x hx => ⟨f i, ?_, fun j hj => ?_, hR i x hx⟩⟩
    · exact hf i (List.getElem?_eq_some_iff.1 hx).1
    · have hi := (List.getElem?_eq_some_iff.1 hx).1
      have hlt : i * k + j < l.length * k := by
        have : (i + 1) * k ≤ l.length * k := Nat.mul_le_mul_right k hi
        rw [Nat.succ_mul] at this
        omega
      rw [Nat.zero_add, World.ownsRow.cellAt hown (i * k + j) hlt, flat_get hf hi hj]

theorem isArr_fix {α : Type} {k : Nat} {R : World → List Value → α → Prop} {w0 w : World} {B : Nat} {v : Value} {l : List α} (h : isArr k R w0 v l) (hb : Below B w0 w) (hB : w0.heap.size ≤ B) : isArr k (fun _ => R w0) w v l := by
  rcases h with h | ⟨b, off, cap, rfl, h1, h2, h3, h4⟩
  · exact .inl h
  · refine .inr ⟨b, off, cap, rfl, Nat.lt_of_lt_of_le h1 hb.size, h2, h3, fun i x hx => ?_⟩
    obtain ⟨cs, c1, c2, c3⟩ := h4 i x hx
    refine ⟨cs, c1, fun j hj => ?_, c3⟩
    rw [hb.cell (p := ⟨b, off + i * k + j, none⟩) (by show b < B; omega)]
    exact c2 j hj
theorem isArr_loose {α : Type} {k : Nat} {R : World → List Value → α → Prop} (hR : keeps R) {w0 w : World} {B : Nat} {v : Value} {l : List α} (h : isArr k (fun _ => R w0) w v l) (hb : Below B w0 w) (hB : w0.heap.size ≤ B) : isArr k R w v l := by
  rcases h with h | ⟨b, off, cap, rfl, h1, h2, h3, h4⟩
  · exact .inl h
  · refine .inr ⟨b, off, cap, rfl, h1, h2, h3, fun i x hx => ?_⟩
    obtain ⟨cs, c1, c2, c3⟩ := h4 i x hx
    exact ⟨cs, c1, c2, hR w0 w B hb hB cs x c3⟩

theorem ownArr_nil {α : Type} (k : Nat) (R : List Value → α → Prop) (B : Nat) (e : TypeId) (w : World) : ownArr k R B e w (.slice none 0 0) [] :=
  ⟨fun _ => [], (fun i hi => by cases hi), World.ownsRow_nil _ _ _ _, (fun i x hx => by simp at hx)⟩
theorem ownArr_made {α : Type} (k : Nat) (R : List Value → α → Prop) (B : Nat) (e : TypeId) (w : World) (hB : B ≤ w.heap.size) : ownArr k R B e (w.alloc (.cells #[] e)) (.slice (some ⟨w.heap.size, 0, none⟩) 0 0) ([] : List α) :=
  ⟨fun _ => [], (fun i hi => by cases hi), ⟨by simp [flat], .inr ⟨w.heap.size, 0, #[], rfl, hB, heap_alloc_new w _, Nat.le_refl _, by decide, by simp, by simp [flat]⟩⟩, (fun i x hx => by simp at hx)⟩
theorem ownArr_mono {α : Type} {k : Nat} {R : List Value → α → Prop} {B B' : Nat} {e : TypeId} {w : World} {v : Value} {l : List α} (h : ownArr k R B e w v l) (hB : B' ≤ B) : ownArr k R B' e w v l := by
  obtain ⟨f, hf, ⟨h1, h2⟩, hR⟩ := h
  refine ⟨f, hf, ⟨h1, ?_⟩, hR⟩
  rcases h2 with hn | ⟨g, cap, cur, hv, hb, r⟩
  · exact .inl hn
  · exact .inr ⟨g, cap, cur, hv, Nat.le_trans hB hb, r⟩
theorem ownArr_below {α : Type} {k : Nat} {R : List Value → α → Prop} {B C : Nat} {e : TypeId} {w w' : World} {v : Value} {l : List α} (h : ownArr k R B e w v l) (hb : Below C w w') (hC : w.heap.size ≤ C) : ownArr k R B e w' v l := by
  obtain ⟨f, hf, ⟨h1, h2⟩, hR⟩ := h
  refine ⟨f, hf, ⟨h1, ?_⟩, hR⟩
  rcases h2 with hn | ⟨g, cap, cur, hv, hB, hg, r⟩
  · exact .inl hn
  · refine .inr ⟨g, cap, cur, hv, hB, ?_, r⟩
    rw [hb.block g (Nat.lt_of_lt_of_le (Array.getElem?_eq_some_iff.1 hg).1 hC)]; exact hg

theorem run_append_arr {P : Program} {α : Type} (w : World) (t ty e : TypeId) (k bytes : Nat) (i : TypeInfo) (z : Value) (ht : P.underlying t = some (.slice e)) (hi : P.info? e = some i) (hz : i.zero = some z)
    (hsize : i.size = k) (hby : i.bytes = bytes) (hzs : z.cells.size = k) (hk : 0 < k)
    {R : List Value → α → Prop} (hone : ∀ cs x, R cs x → ∀ u ∈ cs, u.oneCell' = true) (B : Nat) (v u : Value) (l m : List α) (hown : ownArr k R B e w v l) (harr : isArr k (fun _ => R) w u m)
    (h63 : l.length + m.length ≤ maxLen) (hbytes : ((l.length + m.length) + (l.length + m.length) / 4 + 192) * bytes ≤ 281474976710656) (hB : B ≤ w.heap.size) :
    ∃ v' w', (Builtin.append_ #[t, t] ty #[v, u]).run P w = .ok v' w' ∧ ownArr k R B e w' v' (l ++ m) ∧ Below B w w' := by
  rcases harr with ⟨a, cap, rfl, rfl⟩ | ⟨b, off, cap, rfl, h1, h2, h3, h4⟩
  · rw [List.append_nil]
    refine ⟨v, w, ?_, hown, Below.refl _ _⟩
    obtain ⟨f, hf, ho, hR⟩ := hown
    rcases ho.2 with ⟨rfl, hn⟩ | ⟨g, cap', cur, rfl, hb, hg, hn, hcm, hs, htk⟩
    · cases a <;> simp [Builtin.append_, run_underlying ht, sizeOf, typeInfo, hi, Builtin.lenOf, Builtin.firstCells, loadCells, loadCellsFrom]
    · cases a <;> simp [Builtin.append_, run_underlying ht, sizeOf, typeInfo, hi, Builtin.lenOf, Builtin.firstCells, hn, storeCells, loadCells, loadCellsFrom]
  · obtain ⟨f, hf, ho, hR⟩ := hown
    have hch : ∀ i, i < m.length → ∃ cs : List Value, cs.length = k ∧ (∀ j, j < k → w.cell? ⟨b, off + i * k + j, none⟩ = cs[j]?) ∧ ∀ x, m[i]? = some x → R cs x := fun i hi => by
      obtain ⟨cs, c1, c2, c3⟩ := h4 i m[i] (List.getElem?_eq_getElem hi)
      exact ⟨cs, c1, c2, fun x hx => by rw [List.getElem?_eq_getElem hi] at hx; cases hx; exact c3⟩
    obtain ⟨g, hg⟩ := Go.Deep.choose_lt hch
    have hgl : ∀ i, i < m.length → (g i).length = k := fun i hi => (hg i hi).1
    have hnews : ∀ j x, (flat g m.length)[j]? = some x → w.cell? ((⟨b, off, none⟩ : Addr).add j) = some x := fun j x hx => by
      have hj := (List.getElem?_eq_some_iff.1 hx).1
      rw [flat_length hgl] at hj
      have hdiv : j / k < m.length := Nat.div_lt_of_lt_mul (by rw [Nat.mul_comm]; exact hj)
      have hmod : j % k < k := Nat.mod_lt _ hk
      have e1 : j = j / k * k + j % k := by rw [Nat.mul_comm]; exact (Nat.div_add_mod j k).symm
      have ha : (⟨b, off, none⟩ : Addr).add j = ⟨b, off + j / k * k + j % k, none⟩ := by rw [Addr.add_lit, Nat.add_assoc, ← e1]
      rw [ha, (hg _ hdiv).2.1 _ hmod, ← hx]
      have e2 := flat_get hgl hdiv hmod
      rw [← e1] at e2
      exact e2.symm
    have h1c : ∀ u ∈ flat g m.length, u.oneCell' = true := fun u hu => by
      obtain ⟨i, hi, hu⟩ := flat_mem hu
      exact hone _ _ ((hg i hi).2.2 m[i] (List.getElem?_eq_getElem hi)) u hu
    obtain ⟨v', w', hr, ho', hgr, _⟩ := run_append_own_wide (P := P) w B t ty e i z k bytes ht hi hz hsize hby hzs hk v l.length (flat f l.length) ho
      ⟨b, off, none⟩ m.length cap (flat g m.length) (flat_length hgl) hnews h1c h63 hbytes hB
    refine ⟨v', w', hr, ⟨joinF l.length f g, fun i hi => ?_, ?_, fun i x hx => ?_⟩, (Below.refl B w).grown hgr hB (fun k hk => (ho.lt k hk).1)⟩
    · unfold joinF
      rw [List.length_append] at hi
      split
      · exact hf i (by assumption)
      · exact hgl _ (by omega)
    · rw [List.length_append, flat_join]; exact ho'
    · unfold joinF
      have hi := (List.getElem?_eq_some_iff.1 hx).1
      rw [List.length_append] at hi
      split
      · rw [List.getElem?_append_left (by assumption)] at hx
        exact hR i x hx
      · rw [List.getElem?_append_right (by omega)] at hx
        exact (hg _ (by omega)).2.2 x hx

theorem wpList_append_arr {P : Program} {α : Type} {w : World} {ops : Array Oper} {rest : List Oper} {o : Oper} {a : Act} {Q : Exit → Act → World → Prop} (hgd : o.guard = none) (s x : Operand) (t : TypeId)
    (ho : o.op = .call { callee := .builtin .append, args := #[s, x], argTypes := #[t, t] }) (e : TypeId) (k bytes : Nat) (i : TypeInfo) (z : Value) (ht : P.underlying t = some (.slice e)) (hi : P.info? e = some i) (hz : i.zero = some z)
    (hsize : i.size = k) (hby : i.bytes = bytes) (hzs : z.cells.size = k) (hk : 0 < k)
    {R : List Value → α → Prop} (hone : ∀ cs x, R cs x → ∀ u ∈ cs, u.oneCell' = true) (B : Nat) (v u : Value) (hs : a.eval s = v) (hx : a.eval x = u) (l m : List α) (hown : ownArr k R B e w v l) (harr : isArr k (fun _ => R) w u m)
    (h63 : l.length + m.length ≤ maxLen) (hbytes : ((l.length + m.length) + (l.length + m.length) / 4 + 192) * bytes ≤ 281474976710656) (hB : B ≤ w.heap.size)
    (h : ∀ v' w', ownArr k R B e w' v' (l ++ m) → Below B w w' → wpList P ops Q rest (a.put o.dst v') w') : wpList P ops Q (o :: rest) a w := by
  refine wpList_plain hgd fun K hK => ?_
  obtain ⟨v', w', hr, h2, h3⟩ := run_append_arr (P := P) w t o.type e k bytes i z ht hi hz hsize hby hzs hk hone B v u l m hown harr h63 hbytes hB
  unfold Oper.wp execOp
  simp only [ho, resolve, invoke, builtin, Sem.run_bind, Sem.run_pure, Result.andThen_ok, List.map_toArray, List.map_cons, List.map_nil, hs, hx, hr]
  exact hK _ _ (h v' w' h2 h3)

/-- At a step of a region that draws its order. -/
theorem step_append_arr {P : Program} {α : Type} {w : World} {ops : Array Oper} {o : Oper} {a : Act} {K : Act → World → Prop} {Q : Exit → Act → World → Prop} {E : Prop} (hgd : o.guard = none) (s x : Operand) (t : TypeId)
    (ho : o.op = .call { callee := .builtin .append, args := #[s, x], argTypes := #[t, t] }) (e : TypeId) (k bytes : Nat) (i : TypeInfo) (z : Value) (ht : P.underlying t = some (.slice e)) (hi : P.info? e = some i) (hz : i.zero = some z)
    (hsize : i.size = k) (hby : i.bytes = bytes) (hzs : z.cells.size = k) (hk : 0 < k)
    {R : List Value → α → Prop} (hone : ∀ cs x, R cs x → ∀ u ∈ cs, u.oneCell' = true) (B : Nat) (v u : Value) (hs : a.eval s = v) (hx : a.eval x = u) (l m : List α) (hown : ownArr k R B e w v l) (harr : isArr k (fun _ => R) w u m)
    (h63 : l.length + m.length ≤ maxLen) (hbytes : ((l.length + m.length) + (l.length + m.length) / 4 + 192) * bytes ≤ 281474976710656) (hB : B ≤ w.heap.size)
    (h : ∀ v' w', ownArr k R B e w' v' (l ++ m) → Below B w w' → K (a.put o.dst v') w') :
    if Region.wanted o (yielded ops a.tmps) = true then Oper.wp P o a w K Q else E := by
  have hw : Region.wanted o (yielded ops a.tmps) = true := by simp [Region.wanted, hgd]
  rw [if_pos hw]
  obtain ⟨v', w', hr, h2, h3⟩ := run_append_arr (P := P) w t o.type e k bytes i z ht hi hz hsize hby hzs hk hone B v u l m hown harr h63 hbytes hB
  unfold Oper.wp execOp
  simp only [ho, resolve, invoke, builtin, Sem.run_bind, Sem.run_pure, Result.andThen_ok, List.map_toArray, List.map_cons, List.map_nil, hs, hx, hr]
  exact h v' w' h2 h3
end Go.Proofs.Ytmjddoboogccoaa
