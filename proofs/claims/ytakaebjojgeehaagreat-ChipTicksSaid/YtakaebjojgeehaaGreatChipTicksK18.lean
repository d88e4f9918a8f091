/- A part of the proof of ChipTicks: RefAppend2, DrvA, DrvTk, ArrOwn2, MemR, Sized. -/
import Derived.Test.YtakaebjojgeehaaGreatChipTicksK01
import Derived.Test.YtakaebjojgeehaaGreatChipTicksK02
import Derived.Test.YtakaebjojgeehaaGreatChipTicksK04
import Derived.Test.YtakaebjojgeehaaGreatChipTicksK05
import Derived.Test.YtakaebjojgeehaaGreatChipTicksK06
import Derived.Test.YtakaebjojgeehaaGreatChipTicksK09
import Derived.Test.YtakaebjojgeehaaGreatChipTicksK12
import Derived.Test.YtakaebjojgeehaaGreatChipTicksK13
import Derived.Test.YtakaebjojgeehaaGreatChipTicksK14
import Derived.Test.YtakaebjojgeehaaGreatChipTicksK16
import Derived.Test.YtakaebjojgeehaaGreatChipTicksK17
import Derived.Below
import Derived.BigQuiet
import Derived.ChangeMaps5
import Derived.Deep.AppendSrc
import Derived.Deep.DeepAppendWide
import Derived.Deep.DeepCutAuto
import Derived.Deep.Draws
import Derived.Deep.MidRow
import Derived.Deep.OwnRows
import Derived.Deep.QuietTactic
import Derived.Deep.RegionHeld3
import Derived.Deep.RegionWith
import Derived.Deep.Slices
import Derived.Deep.WholeRow
import Derived.Laws.CopyOwn
import Derived.Laws.OwnMore
import Derived.Lib.Hide
import Derived.Lib.SmallJoins
import Derived.Maps.AppendAt
import Derived.OpenShut
import Derived.OrdersHeld
import Derived.OwnWalk
import Derived.RowKit3
import Derived.SizedLaws
import Derived.StillTactics
import Derived.StillTail
import Derived.StillTailTactics
import Derived.Test.YtakaebjojgeehaaGreatChecked
import Derived.WalkKit
namespace Go.Proofs.YtakaebjojgeehaaGreat
open Go.RowKit
/-- Two slices of the call's own in two blocks. -/
def apart (u v : Value) : Prop := ∀ g, u.ownBlock = some g → v.ownBlock ≠ some g
theorem apart.symm {u v : Value} (h : apart u v) : apart v u := fun g hv hu => h g hu hv
end Go.Proofs.YtakaebjojgeehaaGreat
namespace Go.Proofs.YtakaebjojgeehaaGreat
open Go.RowKit
set_option maxRecDepth 100000
/-- The value v reads as the state s. -/
def devA (w : World) (v : Value) (s : Dr) : Prop := ∃ vx vm, v = .agg #[vx, vm] ∧ isArg w vx s.ns ∧ isByt w vm s.m
theorem devA.below {w w' : World} {v : Value} {s : Dr} (h : devA w v s) (hb : Below w.heap.size w w') : devA w' v s := by
  obtain ⟨vx, vm, e, h1, h2⟩ := h
  exact ⟨vx, vm, e, isArg_below h1 hb (Nat.le_refl _), isByt_below h2 hb (Nat.le_refl _)⟩
theorem devD.toA {lo : Nat} {w : World} {v : Value} {s : Dr} (h : devD lo w v s) (hm : s.m.length ≤ 9223372036854775807) : devA w v s := h.arg hm
theorem devA.open {w : World} {v : Value} {s : Dr} (h : devA w v s) : ∃ a c b d, v = .agg #[.slice a 10 c, .slice b s.m.length d] ∧ isArg w (.slice a 10 c) s.ns ∧ isByt w (.slice b s.m.length d) s.m := by
  obtain ⟨vx, vm, rfl, h1, h2⟩ := h
  obtain ⟨a, c, rfl, _⟩ := isArg_form h1
  obtain ⟨b, d, rfl, _⟩ := isByt_form h2
  exact ⟨a, c, b, d, rfl, h1, h2⟩
theorem isArg_one {w : World} {v : Value} {l : List Int} (h : isArg w v l) : v.oneCell' = true := by
  obtain ⟨a, cap, rfl, _⟩ := isArg_form h
  rfl
theorem isByt_one {w : World} {v : Value} {l : List Int} (h : isByt w v l) : v.oneCell' = true := by
  obtain ⟨a, cap, rfl, _⟩ := isByt_form h
  rfl
theorem two_one {a b : Value} (h : a.oneCell' = true) (h2 : b.oneCell' = true) : (#[a, b] : Array Value).all (·.oneCell') = true := by simp [h, h2]
/-- A box that holds two values which are no numbers may be written anew: what is read elsewhere stays. -/
theorem isArg_box {w : World} {B : Nat} {t : TypeId} {x y : Value} (hB : rowB w B t #[x, y]) (hx : ∀ n, x ≠ .int .i64 n) (hy : ∀ n, y ≠ .int .i64 n) {v : Value} {l : List Int} (h : isArg w v l) (c : Array Value) : isArg (w.setRow B c) v l := by
  rcases h with h | ⟨b, off, cap, rfl, h1, h2, h3, h4⟩
  · exact .inl h
  · have ho : Off (· = B) w (w.setRow B c) := (Off.refl (· = B) w).row (g := B) (.inl rfl) c
    refine .inr ⟨b, off, cap, rfl, by rw [size_row]; exact h1, h2, h3, fun j hj => ?_⟩
    have hc := h4 j hj
    by_cases hb : b = B
    · subst hb
      have : w.cell? ⟨b, off + j, none⟩ = #[x, y][off + j]? := cell_of_row w b _ _ t (0, 0) hB
      rw [this] at hc
      rcases (by omega : off + j = 0 ∨ off + j = 1 ∨ 2 ≤ off + j) with e | e | e
      · rw [e] at hc
        exact absurd (Option.some.inj hc) (hx _)
      · rw [e] at hc
        exact absurd (Option.some.inj hc) (hy _)
      · rw [Array.getElem?_eq_none (by simpa using e)] at hc
        cases hc
    · rw [← hc]
      show World.cell? _ _ = World.cell? _ _
      unfold World.cell?
      dsimp only
      rw [ho.block b h1 hb]
theorem isByt_box {w : World} {B : Nat} {t : TypeId} {x y : Value} (hB : rowB w B t #[x, y]) (hx : ∀ n, x ≠ .int .u8 n) (hy : ∀ n, y ≠ .int .u8 n) {v : Value} {l : List Int} (h : isByt w v l) (c : Array Value) : isByt (w.setRow B c) v l := by
  rcases h with h | ⟨b, off, cap, rfl, h1, h2, h3, h4⟩
  · exact .inl h
  · have ho : Off (· = B) w (w.setRow B c) := (Off.refl (· = B) w).row (g := B) (.inl rfl) c
    refine .inr ⟨b, off, cap, rfl, by rw [size_row]; exact h1, h2, h3, fun j hj => ?_⟩
    have hc := h4 j hj
    by_cases hb : b = B
    · subst hb
      have : w.cell? ⟨b, off + j, none⟩ = #[x, y][off + j]? := cell_of_row w b _ _ t (0, 0) hB
      rw [this] at hc
      rcases (by omega : off + j = 0 ∨ off + j = 1 ∨ 2 ≤ off + j) with e | e | e
      · rw [e] at hc
        exact absurd (Option.some.inj hc) (hx _)
      · rw [e] at hc
        exact absurd (Option.some.inj hc) (hy _)
      · rw [Array.getElem?_eq_none (by simpa using e)] at hc
        cases hc
    · rw [← hc]
      show World.cell? _ _ = World.cell? _ _
      unfold World.cell?
      dsimp only
      rw [ho.block b h1 hb]
theorem isArg_no {w : World} {v : Value} {l : List Int} (h : isArg w v l) (k : IntKind) (n : Int) : v ≠ .int k n := by
  obtain ⟨a, cap, rfl, _⟩ := isArg_form h
  intro e
  cases e
theorem isByt_no {w : World} {v : Value} {l : List Int} (h : isByt w v l) (k : IntKind) (n : Int) : v ≠ .int k n := by
  obtain ⟨a, cap, rfl, _⟩ := isByt_form h
  intro e
  cases e
theorem Dr.fit_mem {s : Dr} (hs : s.fit) : ∀ x ∈ s.m, 0 ≤ x ∧ x < 256 := hs.y
/-- What a function gives back of a state lies in new blocks, or in those of the state that it was given. -/
def fromD (lo : Nat) (v vm x m : Value) : Prop := ∀ b, (x.ownBlock = some b ∨ m.ownBlock = some b) → lo ≤ b ∨ v.ownBlock = some b ∨ vm.ownBlock = some b
def devF (lo : Nat) (v vm : Value) (w : World) (u : Value) (s : Dr) : Prop := ∃ x m, u = .agg #[x, m] ∧ isArg w x s.ns ∧ isByt w m s.m ∧ fromD lo v vm x m
theorem devF.toA {lo : Nat} {v vm : Value} {w : World} {u : Value} {s : Dr} (h : devF lo v vm w u s) : devA w u s := by
  obtain ⟨x, m, e, h1, h2, _⟩ := h
  exact ⟨x, m, e, h1, h2⟩
theorem devF.open {lo : Nat} {v vm : Value} {w : World} {u : Value} {s : Dr} (h : devF lo v vm w u s) : ∃ a c b d, u = .agg #[.slice a 10 c, .slice b s.m.length d] ∧ isArg w (.slice a 10 c) s.ns ∧ isByt w (.slice b s.m.length d) s.m ∧ fromD lo v vm (.slice a 10 c) (.slice b s.m.length d) := by
  obtain ⟨vx, vm', rfl, h1, h2, h3⟩ := h
  obtain ⟨a, c, rfl, _⟩ := isArg_form h1
  obtain ⟨b, d, rfl, _⟩ := isByt_form h2
  exact ⟨a, c, b, d, rfl, h1, h2, h3⟩
end Go.Proofs.YtakaebjojgeehaaGreat
namespace Go.Proofs.YtakaebjojgeehaaGreat
/-- So many cycles, one by one. -/
def Dr.ticks (s : Dr) : Nat → Dr
  | 0 => s
  | n + 1 => (s.ticks n).tick
theorem Dr.ticks_fit {s : Dr} (h : s.fit) (n : Nat) : (s.ticks n).fit := by
  induction n with
  | zero => exact h
  | succ n ih => exact Dr.tick_fit ih
theorem Dr.ticks_add (s : Dr) (a b : Nat) : s.ticks (a + b) = (s.ticks a).ticks b := by
  induction b with
  | zero => rfl
  | succ b ih => show (s.ticks (a + b)).tick = _; rw [ih]; rfl
theorem Dr.ticks_idle (s : Dr) (h : s.c = 0) (n : Nat) : s.ticks n = s := by
  induction n with
  | zero => rfl
  | succ n ih => show (s.ticks n).tick = _; rw [ih]; unfold Dr.tick; rw [if_pos h]
theorem Dr.byte_len (s : Dr) : s.byte.m.length = s.m.length := by
  unfold Dr.byte
  split
  · rfl
  · exact List.length_set
theorem Dr.done_m (s : Dr) : s.done.m = s.m := by
  unfold Dr.done
  split <;> rfl
theorem Dr.ticks_len (s : Dr) (n : Nat) : (s.ticks n).m.length = s.m.length := by
  induction n with
  | zero => rfl
  | succ n ih =>
    show (s.ticks n).tick.m.length = _
    rw [← ih]
    generalize s.ticks n = t
    unfold Dr.tick
    split
    · rfl
    · split
      · rfl
      · split
        · rfl
        · split
          · rfl
          · rw [Dr.done_m, Dr.byte_len]
/-- A count goes down. -/
theorem Dr.ticks_down (s : Dr) (h1 : s.c ≠ 0) (h2 : ¬ (2 < s.c ∧ s.k = 0)) (j : Nat) (hj : (j : Int) < s.l) : s.ticks j = { s with l := s.l - j } := by
  induction j with
  | zero => show s = _; rw [show s.l - ((0 : Nat) : Int) = s.l by omega]
  | succ j ih =>
    show (s.ticks j).tick = _
    rw [ih (by omega)]
    unfold Dr.tick
    dsimp only
    rw [if_neg h1, if_neg h2, if_pos (by omega), show s.l - (j : Int) - 1 = s.l - ((j + 1 : Nat) : Int) by omega]
/-- .. to its end. -/
theorem Dr.ticks_end (s : Dr) (h1 : s.c ≠ 0) (h2 : ¬ (2 < s.c ∧ s.k = 0)) (h3 : 0 < s.l) : s.ticks s.l.toNat = ({ s with l := 1 } : Dr).tick := by
  have e : s.l.toNat = (s.l.toNat - 1) + 1 := by omega
  rw [e]
  show (s.ticks (s.l.toNat - 1)).tick = _
  rw [Dr.ticks_down s h1 h2 _ (by omega), show s.l - ((s.l.toNat - 1 : Nat) : Int) = 1 by omega]
end Go.Proofs.YtakaebjojgeehaaGreat
namespace Go.Proofs.YtakaebjojgeehaaGreat
open Go.RowKit
theorem run_append_arr2 {P : Program} {α : Type} (w : World) (t ty e : TypeId) (k bytes : Nat) (i : TypeInfo) (z : Value) (ht : P.underlying t = some (.slice e)) (hi : P.info? e = some i) (hz : i.zero = some z)
    (hsize : i.size = k) (hby : i.bytes = bytes) (hzs : z.cells.size = k) (hk : 0 < k)
    {R : List Value → α → Prop} (hone : ∀ cs x, R cs x → ∀ u ∈ cs, u.oneCell' = true) (B : Nat) (v u : Value) (l m : List α) (hown : ownArr k R B e w v l) (harr : isArr k (fun _ => R) w u m)
    (h63 : l.length + m.length ≤ maxLen) (hbytes : ((l.length + m.length) + (l.length + m.length) / 4 + 192) * bytes ≤ 281474976710656) (hB : B ≤ w.heap.size) :
    ∃ v' w', (Builtin.append_ #[t, t] ty #[v, u]).run P w = .ok v' w' ∧ ownArr k R B e w' v' (l ++ m) ∧ w.grownBy w' v.ownBlock := by
  rcases harr with ⟨a, cap, rfl, rfl⟩ | ⟨b, off, cap, rfl, h1, h2, h3, h4⟩
  · rw [List.append_nil]
    refine ⟨v, w, ?_, hown, World.grownBy.refl _ _⟩
    obtain ⟨f, hf, ho, hR⟩ := hown
    rcases ho.2 with ⟨rfl, hn⟩ | ⟨g, cap', cur, rfl, hb, hg, hn, hcm, hs, htk⟩
    · cases a <;> simp [Builtin.append_, run_underlying ht, sizeOf, typeInfo, hi, Builtin.lenOf, Builtin.firstCells, loadCells, loadCellsFrom]
    · cases a <;> simp [Builtin.append_, run_underlying ht, sizeOf, typeInfo, hi, Builtin.lenOf, Builtin.firstCells, hn, storeCells, loadCells, loadCellsFrom]
  · obtain ⟨f, hf, ho, hR⟩ := hown
    have hch : ∀ i, i < m.length → ∃ cs : List Value, cs.length = k ∧ (∀ j, j < k → w.cell? ⟨b, off + i * k + j, none⟩ = cs[j]?) ∧ ∀ x, m[i]? = some x → R cs x := fun i hi => by
      obtain ⟨cs, c1, c2, c3⟩ := h4 i m[i] (List.getElem?_eq_getElem hi)
      exact ⟨cs, c1, c2, fun x hx => by rw [List.getElem?_eq_getElem hi] at hx; cases hx; exact c3⟩
    obtain ⟨g, hg⟩ := Go.Deep.choose_lt hch
    have hgl : ∀ i, i < m.length → (g i).length = k := fun i hi => (hg i hi).1
    have hnews : ∀ j x, (flat g m.length)[j]? = some x → w.cell? ((⟨b, off, none⟩ : Addr).add j) = some x := fun j x hx => by
      have hj := (List.getElem?_eq_some_iff.1 hx).1
      rw [flat_length hgl] at hj
      have hdiv : j / k < m.length := Nat.div_lt_of_lt_mul (by rw [Nat.mul_comm]; exact hj)
      have hmod : j % k < k := Nat.mod_lt _ hk
      have e1 : j = j / k * k + j % k := by rw [Nat.mul_comm]; exact (Nat.div_add_mod j k).symm
      have ha : (⟨b, off, none⟩ : Addr).add j = ⟨b, off + j / k * k + j % k, none⟩ := by rw [Addr.add_lit, Nat.add_assoc, ← e1]
      rw [ha, (hg _ hdiv).2.1 _ hmod, ← hx]
      have e2 := flat_get hgl hdiv hmod
      rw [← e1] at e2
      exact e2.symm
    have h1c : ∀ u ∈ flat g m.length, u.oneCell' = true := fun u hu => by
      obtain ⟨i, hi, hu⟩ := flat_mem hu
      exact hone _ _ ((hg i hi).2.2 m[i] (List.getElem?_eq_getElem hi)) u hu
    obtain ⟨v', w', hr, ho', hgr, _⟩ := run_append_own_wide (P := P) w B t ty e i z k bytes ht hi hz hsize hby hzs hk v l.length (flat f l.length) ho
      ⟨b, off, none⟩ m.length cap (flat g m.length) (flat_length hgl) hnews h1c h63 hbytes hB
    refine ⟨v', w', hr, ⟨joinF l.length f g, fun i hi => ?_, ?_, fun i x hx => ?_⟩, hgr⟩
    · unfold joinF
      rw [List.length_append] at hi
      split
      · exact hf i (by assumption)
      · exact hgl _ (by omega)
    · rw [List.length_append, flat_join]; exact ho'
    · unfold joinF
      have hi := (List.getElem?_eq_some_iff.1 hx).1
      rw [List.length_append] at hi
      split
      · rw [List.getElem?_append_left (by assumption)] at hx
        exact hR i x hx
      · rw [List.getElem?_append_right (by omega)] at hx
        exact (hg _ (by omega)).2.2 x hx

theorem wpList_append_arr2 {P : Program} {α : Type} {w : World} {ops : Array Oper} {rest : List Oper} {o : Oper} {a : Act} {Q : Exit → Act → World → Prop} (hgd : o.guard = none) (s x : Operand) (t : TypeId)
    (ho : o.op = .call { callee := .builtin .append, args := #[s, x], argTypes := #[t, t] }) (e : TypeId) (k bytes : Nat) (i : TypeInfo) (z : Value) (ht : P.underlying t = some (.slice e)) (hi : P.info? e = some i) (hz : i.zero = some z)
    (hsize : i.size = k) (hby : i.bytes = bytes) (hzs : z.cells.size = k) (hk : 0 < k)
    {R : List Value → α → Prop} (hone : ∀ cs x, R cs x → ∀ u ∈ cs, u.oneCell' = true) (B : Nat) (v u : Value) (hs : a.eval s = v) (hx : a.eval x = u) (l m : List α) (hown : ownArr k R B e w v l) (harr : isArr k (fun _ => R) w u m)
    (h63 : l.length + m.length ≤ maxLen) (hbytes : ((l.length + m.length) + (l.length + m.length) / 4 + 192) * bytes ≤ 281474976710656) (hB : B ≤ w.heap.size)
    (h : ∀ v' w', ownArr k R B e w' v' (l ++ m) → w.grownBy w' v.ownBlock → wpList P ops Q rest (a.put o.dst v') w') : wpList P ops Q (o :: rest) a w := by
  refine wpList_plain hgd fun K hK => ?_
  obtain ⟨v', w', hr, h2, h3⟩ := run_append_arr2 (P := P) w t o.type e k bytes i z ht hi hz hsize hby hzs hk hone B v u l m hown harr h63 hbytes hB
  unfold Oper.wp execOp
  simp only [ho, resolve, invoke, builtin, Sem.run_bind, Sem.run_pure, Result.andThen_ok, List.map_toArray, List.map_cons, List.map_nil, hs, hx, hr]
  exact hK _ _ (h v' w' h2 h3)

/-- What an append changes lies from B on. -/
theorem own_grown {α : Type} {k : Nat} {R : List Value → α → Prop} {B : Nat} {e : TypeId} {w w' : World} {v : Value} {l : List α} (h : ownArr k R B e w v l) (hg : w.grownBy w' v.ownBlock) (hB : B ≤ w.heap.size) : Below B w w' :=
  (Below.refl B w).grown hg hB (fun k hk => (h.choose_spec.2.1.lt k hk).1)
end Go.Proofs.YtakaebjojgeehaaGreat
namespace Go.Proofs.YtakaebjojgeehaaGreat
open Go.RowKit
set_option maxRecDepth 100000
/-- What Formed gives for a chip and a state, in every later world. -/
def formsTo (w : World) (c d : Value) (ns m : List Int) : Prop := ∀ w', Below w.heap.size w w' → Calls Tryz.prog 6 #[c, d] w' fun e w2 => ∃ u, e = .returned u ∧ memR w2 u ns m ∧ Below w'.heap.size w' w2
theorem memR.open {w : World} {u : Value} {ns m : List Int} (h : memR w u ns m) : ∃ a c q d, u = .agg #[.slice a ns.length c, .slice q m.length d] ∧ isArg w (.slice a ns.length c) ns ∧ isByt w (.slice q m.length d) m := by
  obtain ⟨vx, vm, rfl, h1, h2⟩ := h
  obtain ⟨a, c, rfl, _⟩ := isArg_form h1
  obtain ⟨q, d, rfl, _⟩ := isByt_form h2
  exact ⟨a, c, q, d, rfl, h1, h2⟩
theorem memR.box {w : World} {B : Nat} {t : TypeId} {a q : Option Addr} {c d i j x y : Nat} {a' q' : Option Addr} {ns m : List Int} (hB : rowB w B t #[.slice a' i x, .slice q' j y]) (h1 : isArg w (.slice a ns.length c) ns) (h2 : isByt w (.slice q m.length d) m) (r : Array Value) :
    memR (w.setRow B r) (.agg #[.slice a ns.length c, .slice q m.length d]) ns m :=
  ⟨_, _, rfl, isArg_box hB (fun n h => by cases h) (fun n h => by cases h) h1 r, isByt_box hB (fun n h => by cases h) (fun n h => by cases h) h2 r⟩
set_option maxHeartbeats 1000000 in
theorem tickedMem_any (nm : ByteArray) (k b z : Int) (dat v vm : Value) (l lb ns m : List Int) (w : World) (h : isArg w v l) (hm : isByt w vm lb) (hk : k ≠ 3 ∧ k ≠ 5 ∧ k ≠ 6 ∧ k ≠ 7 ∧ k ≠ 8)
    (hF : formsTo w (.agg (chip5 nm k b z dat)) (.agg #[v, vm]) ns m) :
    Calls Tryz.prog 7 #[.agg (chip5 nm k b z dat), .agg #[v, vm]] w fun e w' => ∃ u, e = .returned u ∧ memR w' u ns m ∧ Below w.heap.size w w' := by
  dsimp only [chip5] at *
  obtain ⟨a, cap, rfl, _⟩ := isArg_form h
  obtain ⟨sp, sc, rfl, _⟩ := isByt_form hm
  have q3 : (k == 3) = false := beq_eq_false_iff_ne.2 hk.1
  have q5 : (k == 5) = false := beq_eq_false_iff_ne.2 hk.2.1
  have q6 : (k == 6) = false := beq_eq_false_iff_ne.2 hk.2.2.1
  have q7 : (k == 7) = false := beq_eq_false_iff_ne.2 hk.2.2.2.1
  have q8 : (k == 8) = false := beq_eq_false_iff_ne.2 hk.2.2.2.2
  obtain ⟨r0, r1, r2, bX, sX⟩ := boxes3 w (.cells #[.string nm, .int .i64 k, .int .i64 b, .int .i64 z, dat] 24) (.cells #[.slice a l.length cap, .slice sp lb.length sc] 27) (.cells #[.slice none 0 0, .slice none 0 0] 27)
  have r0 : rowB _ _ _ _ := r0
  have r1 : rowB _ _ _ _ := r1
  have r2 : rowB _ _ _ _ := r2
  have hf := hF _ bX
  clear h hm hF hk
  go_enter Tryz.func7, Tryz.ntmps7
  go_upto_region 2 with (first
    | (refine wpList_loadR rfl 24 _ rfl w.heap.size rfl 24 #[.string nm, .int .i64 k, .int .i64 b, .int .i64 z, dat] ?_ agCh ?_; with_reducible exact r0)
    | (refine wpList_loadR rfl 27 _ rfl (w.heap.size + 1) rfl 27 #[.slice a l.length cap, .slice sp lb.length sc] ?_ agDv ?_; with_reducible exact r1)
    | (go_at_call 6; refine hf.mono ?_; rintro e w2 ⟨u, rfl, hu, hb⟩; obtain ⟨a2, c2, p2, d2, rfl, u1, u2⟩ := hu.open; have t0 := rowB_below r0 hb (rowB_lt r0); have t1 := rowB_below r1 hb (rowB_lt r1); have t2 := rowB_below r2 hb (rowB_lt r2); have bY := bX.trans (hb.mono bX.size))
    | (refine wpList_storeR rfl 27 _ _ rfl (w.heap.size + 1) rfl #[.slice a2 ns.length c2, .slice p2 m.length d2] rfl (dev2_one _ _ _ _ _ _) 27 #[.slice a l.length cap, .slice sp lb.length sc] rfl ?_ agDv ?_; with_reducible exact t1))
  obtain ⟨vx, vy, e, u3, u4⟩ := memR.box t1 u1 u2 #[.slice a2 ns.length c2, .slice p2 m.length d2]
  cases e
  replace t0 := rowB_row_other t0 #[.slice a2 ns.length c2, .slice p2 m.length d2] (show w.heap.size + 1 ≠ w.heap.size by omega)
  replace t2 := rowB_row_other t2 #[.slice a2 ns.length c2, .slice p2 m.length d2] (show w.heap.size + 1 ≠ w.heap.size + 2 by omega)
  replace t1 := rowB_row t1 #[.slice a2 ns.length c2, .slice p2 m.length d2]
  replace bY := below_rowR bY #[.slice a2 ns.length c2, .slice p2 m.length d2] (show w.heap.size ≤ w.heap.size + 1 by omega)
  change Code.wp _ _ _ _ (w2.setRow (w.heap.size + 1) #[.slice a2 ns.length c2, .slice p2 m.length d2])
  generalize w2.setRow (w.heap.size + 1) #[.slice a2 ns.length c2, .slice p2 m.length d2] = w3 at *
  clear r0 r1 r2 hb bX u1 u2
  obtain ⟨c0, c1, c2', c3, c4⟩ := ccells t0
  obtain ⟨d0, d1, _, _⟩ := dcells2 t1
  go_wp2_with (first
    | (refine wpList_loadR rfl 27 _ rfl (w.heap.size + 1) rfl 27 #[.slice a2 ns.length c2, .slice p2 m.length d2] ?_ agDv ?_; with_reducible exact t1)
    | (refine wpList_storeR rfl 27 _ _ rfl (w.heap.size + 2) rfl #[.slice a2 ns.length c2, .slice p2 m.length d2] rfl (dev2_one _ _ _ _ _ _) 27 #[.slice none 0 0, .slice none 0 0] rfl ?_ agDv ?_; with_reducible exact t2))
  refine bodyPost_ret (resultsR rfl (w.heap.size + 2) _ rfl (rowB_row t2 _) agDv) rfl ?_
  exact ⟨_, rfl, memR.box t2 u3 u4 _, below_rowR bY _ (by omega)⟩
end Go.Proofs.YtakaebjojgeehaaGreat
namespace Go.Proofs.YtakaebjojgeehaaGreat
open Go.RowKit Go.ChangeShapes Go.WideShapes
/-- A slice in a struct that came in lies within the form's reach. -/
theorem sized_field {H : Type} {P : Program} {ts : List TypeId} {ds : List (DataW H)} (h : (DataW.weightsEach P ts ds).all (· ≤ reachBytes) = true) {j m : Nat} {t ft e : TypeId} {fs : Array Field} {parts elems spare : List (DataW H)}
    (ht : ts[j]? = some t) (hd : ds[j]? = some (.agg parts)) (hu : P.underlying t = some (.struct fs)) (hf : (fs.toList.map (·.type))[m]? = some ft) (hp : parts[m]? = some (.slice elems spare)) (he : P.underlying ft = some (.slice e)) :
    (elems.length + spare.length) * P.bytesOf e ≤ reachBytes := by
  have := List.all_eq_true.1 h _ (DataW.weights_mem_each ht hd ((elems.length + spare.length) * P.bytesOf e) (by
    simp only [DataW.weights, hu]
    exact DataW.weights_mem_each hf hp _ (by simp [DataW.weights, he])))
  simpa using this
end Go.Proofs.YtakaebjojgeehaaGreat
