/- The append onto one of several slices that the call owns: the others stay. No function is named here. -/
import Derived.Test.YtmjddoboogccoaaRefAppend
import Derived.Below
import Derived.BigQuiet
import Derived.Deep.Draws
import Derived.Deep.OwnRows
import Derived.Deep.QuietTactic
import Derived.Laws.OwnMore
import Derived.Lib.Hide
import Derived.Maps.AppendAt
import Derived.OwnWalk
import Derived.RowKit3
import Derived.WalkKit
namespace Go.Proofs.Ytmjddoboogccoaa
open Go.RowKit

theorem run_append_at {P : Program} (w : World) (t ty : TypeId) (ht : P.underlying t = some (.slice 3))
    (hinf : (P.info? 3).map (fun i => (i.zero, i.size, i.bytes)) = some (some (.int .i64 0), 1, 8))
    (B : Nat) (v u : Value) (l m : List Int) (hown : own B w v l) (hrow : isRow w u m) (hm : 0 < m.length) (hlen : l.length + m.length ≤ 17592186044416) (hB : B ≤ w.heap.size) :
    ∃ v' w', (Builtin.append_ #[t, t] ty #[v, u]).run P w = .ok v' w' ∧ own B w' v' (l ++ m) ∧ w.grownBy w' v.ownBlock ∧ (v'.ownBlock = v.ownBlock ∨ v'.ownBlock = some w.heap.size) := by
  obtain ⟨i0, hi, hz0, hz1, hz2⟩ := info_int hinf
  rcases hrow with ⟨rfl, rfl⟩ | ⟨b, off, cap, rfl, h1, h2, h3, hc⟩
  · simp at hm
  · have hl : (m.map (Value.int .i64)).length = m.length * 1 := by rw [List.length_map, Nat.mul_one]
    have hnews : ∀ j x, (m.map (Value.int .i64))[j]? = some x → w.cell? ((⟨b, off, none⟩ : Addr).add j) = some x := fun j x hx => by
      have hj : j < m.length := by
        have := (List.getElem?_eq_some_iff.1 hx).1
        simpa using this
      have ha : (⟨b, off, none⟩ : Addr).add j = ⟨b, off + j, none⟩ := by unfold Addr.add; split <;> simp_all
      rw [ha, hc j hj, ← hx, List.getElem?_map, List.getD_eq_getElem?_getD, List.getElem?_eq_getElem hj]; rfl
    obtain ⟨v', w', hr, ho, hg, _, hat⟩ := run_append_own_at (P := P) w B t ty 3 i0 (.int .i64 0) 1 8 ht hi hz0 hz1 hz2 rfl (by decide) v l.length (l.map (Value.int .i64)) hown
      ⟨b, off, none⟩ m.length cap (m.map (Value.int .i64)) hl hnews (ints_oneCell .i64 m) (by unfold maxLen; omega) (by omega) hB
    refine ⟨v', w', hr, ?_, hg, hat⟩
    unfold own
    rw [List.map_append, List.length_append]; exact ho

theorem wpList_append_at {P : Program} {w : World} {ops : Array Oper} {rest : List Oper} {o : Oper} {a : Act} {Q : Exit → Act → World → Prop} (hgd : o.guard = none) (s x : Operand) (t : TypeId)
    (ho : o.op = .call { callee := .builtin .append, args := #[s, x], argTypes := #[t, t] }) (ht : P.underlying t = some (.slice 3))
    (hinf : (P.info? 3).map (fun i => (i.zero, i.size, i.bytes)) = some (some (.int .i64 0), 1, 8))
    (B : Nat) (v u : Value) (hs : a.eval s = v) (hx : a.eval x = u) (l m : List Int) (hown : own B w v l) (hrow : isRow w u m) (hm : 0 < m.length) (hlen : l.length + m.length ≤ 17592186044416) (hB : B ≤ w.heap.size)
    (h : ∀ v' w', own B w' v' (l ++ m) → w.grownBy w' v.ownBlock → (v'.ownBlock = v.ownBlock ∨ v'.ownBlock = some w.heap.size) → wpList P ops Q rest (a.put o.dst v') w') : wpList P ops Q (o :: rest) a w := by
  refine wpList_plain hgd fun K hK => ?_
  obtain ⟨v', w', hr, h2, h3, h4⟩ := run_append_at (P := P) w t o.type ht hinf B v u l m hown hrow hm hlen hB
  unfold Oper.wp execOp
  simp only [ho, resolve, invoke, builtin, Sem.run_bind, Sem.run_pure, Result.andThen_ok, List.map_toArray, List.map_cons, List.map_nil, hs, hx, hr]
  exact hK _ _ (h v' w' h2 h3 h4)

/-- Two slices of the call's own in two blocks. -/
def apart (u v : Value) : Prop := ∀ g, u.ownBlock = some g → v.ownBlock ≠ some g
theorem apart.symm {u v : Value} (h : apart u v) : apart v u := fun g hv hu => h g hu hv
theorem apart_nil (v : Value) : apart (.slice none 0 0) v := fun g h => by simp [Value.ownBlock] at h
theorem own_kept {B : Nat} {w w' : World} {v u : Value} {l : List Int} (h : own B w v l) (hg : w.grownBy w' u.ownBlock) (ha : apart v u) : own B w' v l := by
  refine World.ownsRow.kept h hg ?_
  cases e : v.ownBlock with
  | none => exact .inl rfl
  | some g => exact .inr (fun he => ha g e he.symm)
theorem own_lt {B : Nat} {w : World} {v : Value} {l : List Int} (h : own B w v l) {g : Nat} (hg : v.ownBlock = some g) : B ≤ g ∧ g < w.heap.size := World.ownsRow.lt h g hg
theorem apart_next {B : Nat} {w : World} {v v' u : Value} {l : List Int} (hu : own B w u l) (ha : apart v u) (hat : v'.ownBlock = v.ownBlock ∨ v'.ownBlock = some w.heap.size) : apart v' u := fun g hv he => by
  rcases hat with h | h
  · exact ha g (h ▸ hv) he
  · have := (own_lt hu he).2
    rw [h] at hv
    cases hv
    omega
theorem below_grown {B : Nat} {a w w' : World} {v : Value} {l : List Int} (hb : Below B a w) (hown : own B w v l) (hg : w.grownBy w' v.ownBlock) (hB : B ≤ w.heap.size) : Below B a w' :=
  hb.grown hg hB (fun _ hk => (own_lt hown hk).1)

/-- Three slices of the call's own, each in a block of its own. -/
structure trio (B : Nat) (w : World) (d f c : Value) (x y z : List Int) : Prop where
  od : own B w d x
  of : own B w f y
  oc : own B w c z
  df : apart d f
  dc : apart d c
  fc : apart f c
theorem trio.alloc {B : Nat} {w : World} {d f c : Value} {x y z : List Int} (h : trio B w d f c x y z) (o : Obj) : trio B (w.alloc o) d f c x y z :=
  ⟨own_alloc h.od o, own_alloc h.of o, own_alloc h.oc o, h.df, h.dc, h.fc⟩
theorem trio.below {B C : Nat} {w w' : World} {d f c : Value} {x y z : List Int} (h : trio B w d f c x y z) (hb : Below C w w') (hC : w.heap.size ≤ C) : trio B w' d f c x y z :=
  ⟨own_below h.od hb hC, own_below h.of hb hC, own_below h.oc hb hC, h.df, h.dc, h.fc⟩
theorem trio.rot {B : Nat} {w : World} {d f c : Value} {x y z : List Int} (h : trio B w d f c x y z) : trio B w f c d y z x :=
  ⟨h.of, h.oc, h.od, h.fc, h.df.symm, h.dc.symm⟩
theorem trio.first {B : Nat} {w w' : World} {d f c d' : Value} {x y z x' : List Int} (h : trio B w d f c x y z) (ho : own B w' d' x') (hg : w.grownBy w' d.ownBlock) (hat : d'.ownBlock = d.ownBlock ∨ d'.ownBlock = some w.heap.size) :
    trio B w' d' f c x' y z :=
  ⟨ho, own_kept h.of hg h.df.symm, own_kept h.oc hg h.dc.symm, apart_next h.of h.df hat, apart_next h.oc h.dc hat, h.fc⟩
theorem trio.first' {B : Nat} {w w' : World} {d f c d' : Value} {x y z x' : List Int} {g : Nat} (h : trio B w d f c x y z) (ho : own B w' d' x') (hg : w.grownBy w' d.ownBlock) (hat : d'.ownBlock = d.ownBlock ∨ d'.ownBlock = some g) (e : w.heap.size = g) :
    trio B w' d' f c x' y z := h.first ho hg (e ▸ hat)
theorem trio_nil (B : Nat) (w : World) : trio B w (.slice none 0 0) (.slice none 0 0) (.slice none 0 0) [] [] [] :=
  ⟨own_nil _ _, own_nil _ _, own_nil _ _, apart_nil _, apart_nil _, apart_nil _⟩

/-- The last element of a slice of the call's own, written anew. -/
theorem own_last {B : Nat} {w : World} {v : Value} {l : List Int} {x : Int} (h : own B w v (l ++ [x])) :
    ∃ g cap, v = .slice (some ⟨g, 0, none⟩) (l.length + 1) cap ∧ B ≤ g ∧ w.cell? ⟨g, l.length, none⟩ = some (.int .i64 x) ∧ w.frozen? ⟨g, l.length, none⟩ = false ∧
      ∀ y : Int, own B (w.setCell ⟨g, l.length, none⟩ (.int .i64 y)) v (l ++ [y]) ∧ w.grownBy (w.setCell ⟨g, l.length, none⟩ (.int .i64 y)) v.ownBlock := by
  have e : (l ++ [x]).length = l.length + 1 := by simp
  have h0 := h
  rcases h.2 with ⟨rfl, h2⟩ | ⟨g, cap, cur, rfl, hb, hg, hn, hc, hs, ht⟩
  · rw [e] at h2; cases h2
  · unfold own at h0
    refine ⟨g, cap, by rw [e], hb, ?_, World.ownsRow.frozenAt h0 _, fun y => ?_⟩
    · rw [World.ownsRow.cellAt h0 l.length (by rw [e]; omega), List.getElem?_map, List.getElem?_append_right (Nat.le_refl _), Nat.sub_self]; rfl
    · obtain ⟨h1, h2⟩ := World.ownsRow.stored h0 l.length (.int .i64 y)
      refine ⟨?_, h2⟩
      have e2 : ((l ++ [x]).map (Value.int .i64)).set l.length (.int .i64 y) = (l ++ [y]).map (Value.int .i64) := by
        rw [List.map_append, List.map_append, List.set_append_right _ _ (by rw [List.length_map]; exact Nat.le_refl _), List.length_map, Nat.sub_self]; rfl
      rw [e2] at h1
      unfold own
      have e3 : (l ++ [y]).length = (l ++ [x]).length := by simp
      rw [e3]; exact h1
theorem trio.store {B : Nat} {w : World} {d f c : Value} {y z : List Int} {l : List Int} {x : Int} (h : trio B w d f c (l ++ [x]) y z) :
    ∃ g cap, d = .slice (some ⟨g, 0, none⟩) (l.length + 1) cap ∧ B ≤ g ∧ w.cell? ⟨g, l.length, none⟩ = some (.int .i64 x) ∧ w.frozen? ⟨g, l.length, none⟩ = false ∧
      ∀ q : Int, trio B (w.setCell ⟨g, l.length, none⟩ (.int .i64 q)) d f c (l ++ [q]) y z := by
  obtain ⟨g, cap, hd, hB, hc, hf, hs⟩ := own_last h.od
  exact ⟨g, cap, hd, hB, hc, hf, fun q => ⟨(hs q).1, own_kept h.of (hs q).2 h.df.symm, own_kept h.oc (hs q).2 h.dc.symm, h.df, h.dc, h.fc⟩⟩
theorem row_at (w : World) (x : Int) (g : Nat) (hg : w.heap.size = g) : isRow (w.alloc (.cells #[.int .i64 x] 3)) (.slice (some ⟨g, 0, none⟩) 1 1) [x] := by subst hg; exact row_one w x
end Go.Proofs.Ytmjddoboogccoaa
