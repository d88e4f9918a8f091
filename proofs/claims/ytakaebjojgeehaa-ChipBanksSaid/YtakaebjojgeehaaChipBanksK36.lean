/- A part of the proof of ChipBanks: ArrOwn2. -/
import Derived.Test.YtakaebjojgeehaaChipBanksK01
import Derived.Test.YtakaebjojgeehaaChipBanksK03
import Derived.Test.YtakaebjojgeehaaChipBanksK20
import Derived.Test.YtakaebjojgeehaaChipBanksK21
import Derived.Below
import Derived.BigQuiet
import Derived.ChangeMaps5
import Derived.Deep.DeepAppendWide
import Derived.Deep.Draws
import Derived.Deep.OwnRows
import Derived.Deep.QuietTactic
import Derived.Deep.Slices
import Derived.Laws.OwnMore
import Derived.Lib.Hide
import Derived.Lib.SmallJoins
import Derived.OpenShut
import Derived.OwnWalk
import Derived.RowKit3
import Derived.WalkKit
namespace Go.Proofs.Ytakaebjojgeehaa
open Go.RowKit
theorem run_append_arr2 {P : Program} {α : Type} (w : World) (t ty e : TypeId) (k bytes : Nat) (i : TypeInfo) (z : Value) (ht : P.underlying t = some (.slice e)) (hi : P.info? e = some i) (hz : i.zero = some z)
    (hsize : i.size = k) (hby : i.bytes = bytes) (hzs : z.cells.size = k) (hk : 0 < k)
    {R : List Value → α → Prop} (hone : ∀ cs x, R cs x → ∀ u ∈ cs, u.oneCell' = true) (B : Nat) (v u : Value) (l m : List α) (hown : ownArr k R B e w v l) (harr : isArr k (fun _ => R) w u m)
    (h63 : l.length + m.length ≤ maxLen) (hbytes : ((l.length + m.length) + (l.length + m.length) / 4 + 192) * bytes ≤ 281474976710656) (hB : B ≤ w.heap.size) :
    ∃ v' w', (Builtin.append_ #[t, t] ty #[v, u]).run P w = .ok v' w' ∧ ownArr k R B e w' v' (l ++ m) ∧ w.grownBy w' v.ownBlock := by
  rcases harr with ⟨a, cap, rfl, rfl⟩ | ⟨b, off, cap, rfl, h1, h2, h3, h4⟩
  · rw [List.append_nil]
    refine ⟨v, w, ?_, hown, World.grownBy.refl _ _⟩
    obtain ⟨f, hf, ho, hR⟩ := hown
    rcases ho.2 with ⟨rfl, hn⟩ | ⟨g, cap', cur, rfl, hb, hg, hn, hcm, hs, htk⟩
    · cases a <;> simp [Builtin.append_, run_underlying ht, sizeOf, typeInfo, hi, Builtin.lenOf, Builtin.firstCells, loadCells, loadCellsFrom]
    · cases a <;> simp [Builtin.append_, run_underlying ht, sizeOf, typeInfo, hi, Builtin.lenOf, Builtin.firstCells, hn, storeCells, loadCells, loadCellsFrom]
  · obtain ⟨f, hf, ho, hR⟩ := hown
    have hch : ∀ i, i < m.length → ∃ cs : List Value, cs.length = k ∧ (∀ j, j < k → w.cell? ⟨b, off + i * k + j, none⟩ = cs[j]?) ∧ ∀ x, m[i]? = some x → R cs x := fun i hi => by
      obtain ⟨cs, c1, c2, c3⟩ := h4 i m[i] (List.getElem?_eq_getElem hi)
      exact ⟨cs, c1, c2, fun x hx => by rw [List.getElem?_eq_getElem hi] at hx; cases hx; exact c3⟩
    obtain ⟨g, hg⟩ := Go.Deep.choose_lt hch
    have hgl : ∀ i, i < m.length → (g i).length = k := fun i hi => (hg i hi).1
    have hnews : ∀ j x, (flat g m.length)[j]? = some x → w.cell? ((⟨b, off, none⟩ : Addr).add j) = some x := fun j x hx => by
      have hj := (List.getElem?_eq_some_iff.1 hx).1
      rw [flat_length hgl] at hj
      have hdiv : j / k < m.length := Nat.div_lt_of_lt_mul (by rw [Nat.mul_comm]; exact hj)
      have hmod : j % k < k := Nat.mod_lt _ hk
      have e1 : j = j / k * k + j % k := by rw [Nat.mul_comm]; exact (Nat.div_add_mod j k).symm
      have ha : (⟨b, off, none⟩ : Addr).add j = ⟨b, off + j / k * k + j % k, none⟩ := by rw [Addr.add_lit, Nat.add_assoc, ← e1]
      rw [ha, (hg _ hdiv).2.1 _ hmod, ← hx]
      have e2 := flat_get hgl hdiv hmod
      rw [← e1] at e2
      exact e2.symm
    have h1c : ∀ u ∈ flat g m.length, u.oneCell' = true := fun u hu => by
      obtain ⟨i, hi, hu⟩ := flat_mem hu
      exact hone _ _ ((hg i hi).2.2 m[i] (List.getElem?_eq_getElem hi)) u hu
    obtain ⟨v', w', hr, ho', hgr, _⟩ := run_append_own_wide (P := P) w B t ty e i z k bytes ht hi hz hsize hby hzs hk v l.length (flat f l.length) ho
      ⟨b, off, none⟩ m.length cap (flat g m.length) (flat_length hgl) hnews h1c h63 hbytes hB
    refine ⟨v', w', hr, ⟨joinF l.length f g, fun i hi => ?_, ?_, fun i x hx => ?_⟩, hgr⟩
    · unfold joinF
      rw [List.length_append] at hi
      split
      · exact hf i (by assumption)
      · exact hgl _ (by omega)
    · rw [List.length_append, flat_join]; exact ho'
    · unfold joinF
      have hi := (List.getElem?_eq_some_iff.1 hx).1
      rw [List.length_append] at hi
      split
      · rw [List.getElem?_append_left (by assumption)] at hx
        exact hR i x hx
      · rw [List.getElem?_append_right (by omega)] at hx
        exact (hg _ (by omega)).2.2 x hx

theorem wpList_append_arr2 {P : Program} {α : Type} {w : World} {ops : Array Oper} {rest : List Oper} {o : Oper} {a : Act} {Q : Exit → Act → World → Prop} (hgd : o.guard = none) (s x : Operand) (t : TypeId)
    (ho : o.op = .call { callee := .builtin .append, args := #[s, x], argTypes := #[t, t] }) (e : TypeId) (k bytes : Nat) (i : TypeInfo) (z : Value) (ht : P.underlying t = some (.slice e)) (hi : P.info? e = some i) (hz : i.zero = some z)
    (hsize : i.size = k) (hby : i.bytes = bytes) (hzs : z.cells.size = k) (hk : 0 < k)
    {R : List Value → α → Prop} (hone : ∀ cs x, R cs x → ∀ u ∈ cs, u.oneCell' = true) (B : Nat) (v u : Value) (hs : a.eval s = v) (hx : a.eval x = u) (l m : List α) (hown : ownArr k R B e w v l) (harr : isArr k (fun _ => R) w u m)
    (h63 : l.length + m.length ≤ maxLen) (hbytes : ((l.length + m.length) + (l.length + m.length) / 4 + 192) * bytes ≤ 281474976710656) (hB : B ≤ w.heap.size)
    (h : ∀ v' w', ownArr k R B e w' v' (l ++ m) → w.grownBy w' v.ownBlock → wpList P ops Q rest (a.put o.dst v') w') : wpList P ops Q (o :: rest) a w := by
  refine wpList_plain hgd fun K hK => ?_
  obtain ⟨v', w', hr, h2, h3⟩ := run_append_arr2 (P := P) w t o.type e k bytes i z ht hi hz hsize hby hzs hk hone B v u l m hown harr h63 hbytes hB
  unfold Oper.wp execOp
  simp only [ho, resolve, invoke, builtin, Sem.run_bind, Sem.run_pure, Result.andThen_ok, List.map_toArray, List.map_cons, List.map_nil, hs, hx, hr]
  exact hK _ _ (h v' w' h2 h3)

/-- What an append changes lies from B on. -/
theorem own_grown {α : Type} {k : Nat} {R : List Value → α → Prop} {B : Nat} {e : TypeId} {w w' : World} {v : Value} {l : List α} (h : ownArr k R B e w v l) (hg : w.grownBy w' v.ownBlock) (hB : B ≤ w.heap.size) : Below B w w' :=
  (Below.refl B w).grown hg hB (fun k hk => (h.choose_spec.2.1.lt k hk).1)
end Go.Proofs.Ytakaebjojgeehaa
