/- The maker of processors: what is held while instructions are appended. -/
import Derived.Test.YtnkplfimcehnmaaMakeCycles
import Derived.Test.YtnkplfimcehnmaaTabFind
namespace Go.Proofs.Ytnkplfimcehnmaa
open Go.RowKit

/-- A slice that lies from lo on, in another block than q (or is empty). -/
def sepQ {α : Type} (lo : Nat) (q : Option Nat) (v : Value) (l : List α) : Prop := l = [] ∨ ∃ b off n cap, v = .slice (some ⟨b, off, none⟩) n cap ∧ lo ≤ b ∧ some b ≠ q
def cycleQ (lo : Nat) (q : Option Nat) (w : World) (cs : List Value) (c : Cy) : Prop := ∃ v, cs = [.int .i64 c.bus, .int .i64 c.place, .int .i64 c.reg, v] ∧ isArr 4 stepR w v c.steps ∧ sepQ lo q v c.steps
def arrQ (lo : Nat) (q : Option Nat) (w : World) (v : Value) (l : List Cy) : Prop := isArr 4 (cycleQ lo q) w v l ∧ sepQ lo q v l
theorem arrQ_isArr {lo : Nat} {q : Option Nat} {w : World} {v : Value} {l : List Cy} (h : arrQ lo q w v l) : isArr 4 cycleR w v l := by
  rcases h.1 with h | ⟨b, off, cap, rfl, h1, h2, h3, h4⟩
  · exact .inl h
  · refine .inr ⟨b, off, cap, rfl, h1, h2, h3, fun i x hx => ?_⟩
    obtain ⟨cs, c1, c2, u, c3, c4, _⟩ := h4 i x hx
    exact ⟨cs, c1, c2, u, c3, c4⟩
theorem arrQ_of {lo lo' : Nat} {q : Option Nat} {w : World} {v : Value} {l : List Cy} (h : freshArr lo' w v l) (hl : lo ≤ lo') (hq : ∀ b, lo' ≤ b → some b ≠ q) : arrQ lo q w v l := by
  refine ⟨?_, ?_⟩
  · rcases h.1 with h | ⟨b, off, cap, rfl, h1, h2, h3, h4⟩
    · exact .inl h
    · refine .inr ⟨b, off, cap, rfl, h1, h2, h3, fun i x hx => ?_⟩
      obtain ⟨cs, c1, c2, u, c3, c4, c5⟩ := h4 i x hx
      refine ⟨cs, c1, c2, u, c3, c4, ?_⟩
      rcases c5 with e | ⟨b', off', n', cap', e, hb⟩
      · exact .inl e
      · exact .inr ⟨b', off', n', cap', e, by omega, hq b' hb⟩
  · rcases h.2 with e | ⟨b', off', n', cap', e, hb⟩
    · exact .inl e
    · exact .inr ⟨b', off', n', cap', e, by omega, hq b' hb⟩
theorem arrQ_grown {lo : Nat} {q row : Option Nat} {w w' : World} {v : Value} {l : List Cy} (h : arrQ lo q w v l) (hg : w.grownBy w' row) (hr : ∀ b, lo ≤ b → some b ≠ q → some b ≠ row) : arrQ lo q w' v l := by
  refine ⟨?_, h.2⟩
  rcases h.1 with h1 | ⟨b, off, cap, rfl, h1, h2, h3, h4⟩
  · exact .inl h1
  · rcases h.2 with rfl | ⟨b', off', n', cap', e, hlo, hne⟩
    · exact .inl ⟨_, _, rfl, rfl⟩
    · cases e
      refine .inr ⟨b, off, cap, rfl, Nat.lt_of_lt_of_le h1 hg.size, h2, h3, fun i x hx => ?_⟩
      obtain ⟨cs, c1, c2, u, c3, c4, c5⟩ := h4 i x hx
      refine ⟨cs, c1, fun k hk => ?_, u, c3, steps_grown (lo := lo) c4 hg ?_, c5⟩
      · rw [World.cell?_of_block (hg.block b h1 (hr b hlo hne))]
        exact c2 k hk
      · rcases c5 with e | ⟨b', off', n', cap', e, hb, hb2⟩
        · exact .inl e
        · exact .inr ⟨b', off', n', cap', e, hb, hr b' hb hb2⟩
theorem steps_lt {w : World} {b off n cap : Nat} {l : List St} (h : isArr 4 stepR w (.slice (some ⟨b, off, none⟩) n cap) l) : l = [] ∨ b < w.heap.size := by
  rcases h with ⟨_, _, _, h⟩ | ⟨b', off', cap', e, h1, _⟩
  · exact .inl h
  · cases e; exact .inr h1
theorem arrQ_move {lo : Nat} {q q' : Option Nat} {w : World} {v : Value} {l : List Cy} (h : arrQ lo q w v l) (hq : q' = q ∨ ∃ b, q' = some b ∧ w.heap.size ≤ b) : arrQ lo q' w v l := by
  rcases hq with rfl | ⟨b0, rfl, hb0⟩
  · exact h
  · refine ⟨?_, ?_⟩
    · rcases h.1 with h1 | ⟨b, off, cap, rfl, h1, h2, h3, h4⟩
      · exact .inl h1
      · refine .inr ⟨b, off, cap, rfl, h1, h2, h3, fun i x hx => ?_⟩
        obtain ⟨cs, c1, c2, u, c3, c4, c5⟩ := h4 i x hx
        refine ⟨cs, c1, c2, u, c3, c4, ?_⟩
        rcases c5 with e | ⟨b', off', n', cap', rfl, hb, _⟩
        · exact .inl e
        · rcases steps_lt c4 with e | hlt
          · exact .inl e
          · exact .inr ⟨b', off', n', cap', rfl, hb, fun e => by cases e; omega⟩
    · rcases h.2 with e | ⟨b', off', n', cap', rfl, hlo, _⟩
      · exact .inl e
      · rcases h.1 with ⟨_, _, _, e⟩ | ⟨b, off, cap, e, h1, _⟩
        · exact .inl e
        · cases e
          exact .inr ⟨b', off', _, cap', rfl, hlo, fun e => by cases e; omega⟩

/-- An instruction's cells, beside the slice of its cycles. -/
def R1 (cs : List Value) (p : In × Value) : Prop := cs = [.int .i64 p.1.op, .string p.1.name, .int .i64 p.1.mode, p.2] ∧ ∃ a n cap, p.2 = .slice a n cap
theorem R1_one : ∀ cs p, R1 cs p → ∀ u ∈ cs, u.oneCell' = true := by
  rintro cs ⟨x, v⟩ ⟨rfl, a, n, cap, rfl⟩ u hu
  simp only [List.mem_cons, List.not_mem_nil, or_false] at hu
  rcases hu with rfl | rfl | rfl | rfl <;> rfl

/-- Names of the k-th instruction, and of the processor. -/
def inName (k : Nat) : ByteArray := ⟨#[105, 110, 45]⟩ ++ Utf8.encode (97 + (k : Int))
def cpuName (k : Nat) : ByteArray := ⟨#[99, 112, 117, 45]⟩ ++ Utf8.encode (97 + (k : Int))
theorem inName_ok : ∀ k : Fin 8, nameB (inName k.1) = true ∧ (inName k.1).size ≤ 20 := by decide +kernel
theorem cpuName_ok : ∀ k : Fin 26, nameB (cpuName k.1) = true ∧ (cpuName k.1).size ≤ 20 := by decide +kernel
theorem inName_ne : ∀ j k : Fin 8, j ≠ k → ¬ (inName j.1).data.toList = (inName k.1).data.toList := by decide +kernel

theorem enc_fin : ∀ k : Fin 26, (Utf8.encode (97 + (k.1 : Int))).size ≤ 4 := by decide +kernel
theorem enc_small {r : Int} (h0 : 0 ≤ r) (h1 : r ≤ 25) : (Utf8.encode (97 + r)).size ≤ 4 := by
  obtain ⟨R, rfl⟩ : ∃ R : Nat, r = (R : Int) := ⟨r.toNat, by omega⟩
  exact enc_fin ⟨R, by omega⟩

/-- The instructions made so far: valid, named in order, small. -/
def goodIns (l : List In) : Prop :=
  instrsF [] l = 0 ∧ (∀ j x, l[j]? = some x → x.name = inName j) ∧ (∀ x ∈ l, goodIn x ∧ sizedIn x)
theorem instrsF_snoc (x : In) : ∀ (l done : List In), instrsF done l = 0 → instrE (done ++ l) x = 0 → instrsF done (l ++ [x]) = 0
  | [], done, _, h => by
    rw [List.append_nil] at h
    show (if instrE done x = 0 then instrsF (done ++ [x]) [] else instrE done x) = 0
    rw [if_pos h]; rfl
  | y :: l, done, h1, h2 => by
    rw [List.cons_append]
    show (if instrE done y = 0 then instrsF (done ++ [y]) (l ++ [x]) else instrE done y) = 0
    have h1' : (if instrE done y = 0 then instrsF (done ++ [y]) l else instrE done y) = 0 := h1
    by_cases h : instrE done y = 0
    · rw [if_pos h] at h1' ⊢
      exact instrsF_snoc x l (done ++ [y]) h1' (by rw [List.append_assoc]; exact h2)
    · rw [if_neg h] at h1'
      exact absurd h1' h
theorem good_more {l : List In} (h : goodIns l) {x : In} (hk : l.length < 8) (hn : x.name = inName l.length) (hop : 0 ≤ x.op ∧ x.op ≤ 255) (hord : l = [] ∨ lastOp l < x.op) (hm : 0 ≤ x.mode ∧ x.mode ≤ 8) (hc : okCy (operand x.mode).toNat x.cycles) (hl : x.cycles.length ≤ 5) : goodIns (l ++ [x]) := by
  obtain ⟨h1, h2, h3⟩ := h
  have hN := inName_ok ⟨l.length, hk⟩
  have hop0 : 0 ≤ operand x.mode := by
    unfold operand
    rw [if_neg (by omega)]
    split
    · omega
    · split <;> omega
  have hcy : cyclesE x.cycles = 0 := by
    unfold cyclesE
    rw [if_neg (by omega)]
    have : ∀ l : List Cy, (∀ c ∈ l, cycleE c = 0) → cyclesF l = 0 := by
      intro l
      induction l with
      | nil => intro _; rfl
      | cons c l ih =>
        intro hc
        show (if cycleE c = 0 then cyclesF l else cycleE c) = 0
        rw [if_pos (hc c (List.mem_cons_self ..))]
        exact ih fun d hd => hc d (List.mem_cons_of_mem _ hd)
    exact this _ fun c hc' => (hc.1 c hc').1
  have hany : l.any (sameKey x) = false := by
    rw [List.any_eq_false]
    intro y hy hs
    obtain ⟨j, hj⟩ := List.getElem?_of_mem hy
    have hjl := (List.getElem?_eq_some_iff.1 hj).1
    have e := h2 j y hj
    have e2 : x.name = y.name := by
      unfold sameKey at hs
      simp only [Bool.and_eq_true, decide_eq_true_eq] at hs
      exact hs.1
    exact inName_ne ⟨j, by omega⟩ ⟨l.length, hk⟩ (by intro e3; injection e3 with e4; omega) (by rw [show inName j = inName l.length by rw [← e, ← e2, hn]])
  refine ⟨instrsF_snoc x l [] h1 ?_, fun j y hy => ?_, fun y hy => ?_⟩
  · rw [List.nil_append]
    unfold instrE
    rw [if_neg (by omega), if_neg (by rcases hord with rfl | h; · simp
                                      · omega), if_neg (by rw [hn, hN.1]; decide), if_neg (by omega), if_neg (by rw [hany]; decide), if_neg (by rw [hcy]; decide), if_neg]
    rw [hc.2]
    omega
  · by_cases e : j < l.length
    · rw [List.getElem?_append_left e] at hy
      exact h2 j y hy
    · rw [List.getElem?_append_right (by omega)] at hy
      have h0 : j - l.length = 0 := by
        have := (List.getElem?_eq_some_iff.1 hy).1
        simpa using this
      rw [h0] at hy
      cases hy
      rw [hn]
      congr 1
      omega
  · rcases List.mem_append.1 hy with hy | hy
    · exact h3 y hy
    · simp only [List.mem_singleton] at hy
      subst hy
      refine ⟨⟨by rw [hn]; have hN2 : (inName l.length).size ≤ 20 := hN.2; omega, ?_⟩, by omega, fun c hc' => by have := (hc.1 c hc').2; omega⟩
      simp [Lit.wf, IntKind.min, IntKind.max, IntKind.signed, IntKind.bits]
      omega
theorem step_append_instr {w : World} {ops : Array Oper} {o : Oper} {a : Act} {K : Act → World → Prop} {Q : Exit → Act → World → Prop} {E : Prop} (hgd : o.guard = none) (s x : Operand)
    (ho : o.op = .call { callee := .builtin .append, args := #[s, x], argTypes := #[23, 23] }) {lo : Nat} {v : Value} {L : List (In × Value)} (hs : a.eval s = v) (hown : ownArr 4 R1 lo 34 w v L)
    (B : Nat) (p : In × Value) (hx : a.eval x = .slice (some ⟨B, 0, none⟩) 1 1) (hp : ∃ a n cap, p.2 = .slice a n cap) (hB : w.heap[B]? = some (.cells #[.int .i64 p.1.op, .string p.1.name, .int .i64 p.1.mode, p.2] 34 (0, 0))) (hl : L.length ≤ 100) (hlo : lo ≤ w.heap.size)
    (h : ∀ b cap w', ownArr 4 R1 lo 34 w' (.slice (some ⟨b, 0, none⟩) (L.length + 1) cap) (L ++ [p]) → w.grownBy w' v.ownBlock → (v.ownBlock = some b ∨ b = w.heap.size) → b < w'.heap.size → K (a.put o.dst (.slice (some ⟨b, 0, none⟩) (L.length + 1) cap)) w') :
    if Region.wanted o (yielded ops a.tmps) = true then Oper.wp Try.prog o a w K Q else E := by
  obtain ⟨i, i1, i2, i3, i4⟩ := infoNs
  obtain ⟨f, hf, hrow, hR⟩ := hown
  exact step_append_lies w hgd s x 23 ho lo 34 i _ 4 56 Try.underlying23 i1 i2 i3 i4 rfl (by decide) v L.length _ hs hrow ⟨B, 0, none⟩ 1 1 [.int .i64 p.1.op, .string p.1.name, .int .i64 p.1.mode, p.2] hx rfl
    (World.news_of_block hB) (R1_one _ p ⟨rfl, hp⟩) (by decide) (by simp only [maxLen]; omega) (by omega) hlo _ rfl
    (fun b cap w' h1 h2 h3 h4 => h b cap w' (ownArr_snoc hf hR rfl ⟨rfl, hp⟩ h1) h2 h3 h4)

theorem own_lt {α : Type} {k : Nat} {R : List Value → α → Prop} {B : Nat} {e : TypeId} {w : World} {v : Value} {l : List α} (h : ownArr k R B e w v l) : ∀ b, v.ownBlock = some b → B ≤ b ∧ b < w.heap.size := fun b e => h.choose_spec.2.1.lt b e

/-- While instructions are made: the box of the processor, the slice of instructions, the stream. -/
def cpuAt (w wr : World) (nm : ByteArray) (vI : Value) (L : List (In × Value)) : Prop :=
  wr.heap[w.heap.size + 2]? = some (.cells #[.string nm, vI, .slice none 0 0, .slice none 0 0, .slice none 0 0] 26 (0, 0)) ∧
  wr.heap[w.heap.size]? = some (.cells #[.string ⟨#[]⟩, .slice none 0 0, .slice none 0 0, .slice none 0 0, .slice none 0 0] 26 (0, 0)) ∧
  ownArr 4 R1 (w.heap.size + 3) 34 wr vI L ∧ (∀ p ∈ L, arrQ (w.heap.size + 3) vI.ownBlock wr p.2 p.1.cycles) ∧ ∃ ls, stream w wr (w.heap.size + 1) ls
theorem cpuAt_grown {w wr w' : World} {nm : ByteArray} {vI : Value} {L : List (In × Value)} (h : cpuAt w wr nm vI L) (hg : wr.grownBy w' (some (w.heap.size + 1))) {ls : List Int} (hs : stream w w' (w.heap.size + 1) ls) : cpuAt w w' nm vI L := by
  obtain ⟨h1, h2, h3, h4, _⟩ := h
  exact ⟨keep_grown h1 hg (by simp), keep_grown h2 hg (by simp), ownArr_kept h3 hg (ownArr_off h3 (by omega)), fun p hp => arrQ_grown (h4 p hp) hg (fun b hb _ => by simp; omega), ls, hs⟩
theorem cpuAt_alloc {w wr : World} {nm : ByteArray} {vI : Value} {L : List (In × Value)} (h : cpuAt w wr nm vI L) (o : Obj) : cpuAt w (wr.alloc o) nm vI L := by
  obtain ⟨h1, h2, h3, h4, ls, h5⟩ := h
  exact ⟨box_alloc h1, box_alloc h2, ownArr_alloc h3 o, fun p hp => arrQ_grown (h4 p hp) (World.grownBy_alloc _ _ none) (fun b _ _ => by simp), ls, stream_alloc h5 o⟩
theorem cpuAt_drew {w wr : World} {nm : ByteArray} {vI : Value} {L : List (In × Value)} (h : cpuAt w wr nm vI L) : cpuAt w wr.drew nm vI L := by
  obtain ⟨h1, h2, h3, h4, ls, h5⟩ := h
  exact ⟨h1, h2, ownArr_kept h3 (grown_drew wr none) (by cases vI.ownBlock <;> simp), fun p hp => arrQ_grown (h4 p hp) (grown_drew wr none) (fun b _ _ => by simp), ls, stream_drew h5⟩
/-- An instruction is appended, and the slice stored into the box. -/
theorem cpu_more {w w6 w7 : World} {nm : ByteArray} {vI : Value} {L : List (In × Value)} {x : In} {u : Value} {o : Obj} {b cap : Nat} (h : cpuAt w w6 nm vI L) (hf : arrQ (w.heap.size + 3) vI.ownBlock w6 u x.cycles)
    (ho : ownArr 4 R1 (w.heap.size + 3) 34 w7 (.slice (some ⟨b, 0, none⟩) (L.length + 1) cap) (L ++ [(x, u)])) (hg : (w6.alloc o).grownBy w7 vI.ownBlock) (hnew : vI.ownBlock = some b ∨ b = (w6.alloc o).heap.size) :
    cpuAt w (w7.setCell ⟨w.heap.size + 2, 1, none⟩ (.slice (some ⟨b, 0, none⟩) (L.length + 1) cap)) nm (.slice (some ⟨b, 0, none⟩) (L.length + 1) cap) (L ++ [(x, u)]) := by
  have h' := cpuAt_alloc h o
  obtain ⟨h1, h2, h3, h4, ls, h5⟩ := h'
  have hlt := own_lt h3
  have hsz := (Array.getElem?_eq_some_iff.1 h1).1
  have hB : Below (w.heap.size + 3) (w6.alloc o) w7 := own_grown h3 hg (by omega)
  have hbx : w7.heap[w.heap.size + 2]? = _ := keep_grown h1 hg (by intro e; have := hlt _ e.symm; omega)
  have hbr : w7.heap[w.heap.size]? = _ := keep_grown h2 hg (by intro e; have := hlt _ e.symm; omega)
  have hmove : ∀ {v : Value} {l : List Cy}, arrQ (w.heap.size + 3) vI.ownBlock (w6.alloc o) v l → arrQ (w.heap.size + 3) (some b) (w7.setCell ⟨w.heap.size + 2, 1, none⟩ (.slice (some ⟨b, 0, none⟩) (L.length + 1) cap)) v l := fun {v l} ha => by
    have h8 := arrQ_move ha (q' := some b) (by
      rcases hnew with e | e
      · exact .inl e.symm
      · exact .inr ⟨b, rfl, by omega⟩)
    have h9 : arrQ (w.heap.size + 3) vI.ownBlock w7 v l := arrQ_grown ha hg (fun b' _ hb' => hb')
    have h10 : arrQ (w.heap.size + 3) (some b) w7 v l := by
      rcases hnew with e | e
      · rw [← e]; exact h9
      · refine ⟨?_, h8.2⟩
        rcases h9.1 with hh | ⟨b1, off, cp, rfl, g1, g2, g3, g4⟩
        · exact .inl hh
        · rcases h8.1 with ⟨_, _, _, rfl⟩ | ⟨b2, off2, cp2, e2, _, _, _, g4'⟩
          · exact .inl ⟨_, _, rfl, rfl⟩
          · cases e2
            refine .inr ⟨b1, off, cp, rfl, g1, g2, g3, fun i y hy => ?_⟩
            obtain ⟨cs, c1, c2, q, c3, c4, c5⟩ := g4 i y hy
            obtain ⟨cs', d1, d2, q', d3, d4, d5⟩ := g4' i y hy
            refine ⟨cs, c1, c2, q, c3, c4, ?_⟩
            rcases c5 with e3 | ⟨b3, o3, n3, k3, rfl, hb3, hne3⟩
            · exact .inl e3
            · have hcell : (w6.alloc o).cell? ⟨b1, off + i * 4 + 3, none⟩ = w7.cell? ⟨b1, off + i * 4 + 3, none⟩ := by
                rcases ha.2 with rfl | ⟨b4, o4, n4, k4, e4, hb4, hne4⟩
                · simp at hy
                · cases e4
                  refine (World.cell?_of_block (hg.block _ ?_ hne4)).symm
                  rcases ha.1 with ⟨_, _, _, rfl⟩ | ⟨_, _, _, e5, hh5, _⟩
                  · simp at hy
                  · cases e5; exact hh5
              have e5 := d2 3 (by decide)
              rw [hcell, c2 3 (by decide), c3, d3] at e5
              cases e5
              exact d5
    exact arrQ_grown h10 (grown_cell _ _ _ _) (fun b' hb' _ => by simp; omega)
  refine ⟨heap_set hbx _, ?_, ownArr_kept ho (grown_cell _ _ _ _) ?_, fun p hp => ?_, ls, stream_set (stream_below h5 (by omega) hB) (by omega) _⟩
  · rw [Below.heap_setCell w7 ⟨w.heap.size + 2, 1, none⟩ _ w.heap.size (by show w.heap.size ≠ w.heap.size + 2; omega)]; exact hbr
  · refine .inr fun e => ?_
    have := own_lt ho _ e
    omega
  · show arrQ (w.heap.size + 3) (some b) _ p.2 p.1.cycles
    rcases List.mem_append.1 hp with hp | hp
    · exact hmove (h4 p hp)
    · simp only [List.mem_singleton] at hp
      subst hp
      exact hmove (arrQ_grown hf (World.grownBy_alloc _ _ none) (fun b' _ _ => by simp))
theorem arrQ_cell {lo k : Nat} {q : Option Nat} {w : World} {v : Value} {l : List Cy} (h : arrQ lo q w v l) (hk : k < lo) (j : Nat) (x : Value) : arrQ lo q (w.setCell ⟨k, j, none⟩ x) v l :=
  arrQ_grown h (grown_cell w k j x) (fun b hb _ => by simp; omega)
theorem own_cell {α : Type} {n : Nat} {R : List Value → α → Prop} {lo k : Nat} {e : TypeId} {w : World} {v : Value} {l : List α} (h : ownArr n R lo e w v l) (hk : k < lo) (j : Nat) (x : Value) : ownArr n R lo e (w.setCell ⟨k, j, none⟩ x) v l :=
  ownArr_kept h (grown_cell w k j x) (.inr fun e => by have := (own_lt h _ e).1; omega)
theorem fin_instrs {w : World} {lo : Nat} {q : Option Nat} {e : TypeId} {v : Value} {L : List (In × Value)} (h : ownArr 4 R1 lo e w v L) (ha : ∀ p ∈ L, arrQ lo q w p.2 p.1.cycles) (hg : ∀ x ∈ L.map Prod.fst, goodIn x) : isArr 4 insR w v (L.map Prod.fst) := by
  rcases ownArr_isArr h with ⟨a, cap, rfl, rfl⟩ | ⟨b, off, cap, rfl, h1, h2, h3, h4⟩
  · exact .inl ⟨_, _, rfl, rfl⟩
  · refine .inr ⟨b, off, cap, by rw [List.length_map], h1, by rw [List.length_map]; exact h2, h3, fun i x hx => ?_⟩
    rw [List.getElem?_map] at hx
    cases hp : L[i]? with
    | none => rw [hp] at hx; cases hx
    | some p =>
      rw [hp] at hx
      cases hx
      obtain ⟨cs, c1, c2, c3, _⟩ := h4 i p hp
      exact ⟨cs, c1, c2, p.2, c3, arrQ_isArr (ha p (List.mem_of_getElem? hp)), hg p.1 (List.mem_map_of_mem (List.mem_of_getElem? hp))⟩
theorem cpuE_zero {c : Cp} (h1 : nameB c.name = true) (h2 : c.instrs.length ≤ 256) (h3 : instrsF [] c.instrs = 0) (h4 : okCy 0 c.res ∧ c.res.length ≤ 5) (h5 : okCy 0 c.irq ∧ c.irq.length ≤ 5) (h6 : okCy 0 c.nmi ∧ c.nmi.length ≤ 5) : cpuE c = 0 := by
  have hF : ∀ l : List Cy, okCy 0 l ∧ l.length ≤ 5 → cyclesE l = 0 := by
    rintro l ⟨ho, hl⟩
    unfold cyclesE
    rw [if_neg (by omega)]
    have : ∀ l : List Cy, (∀ c ∈ l, cycleE c = 0) → cyclesF l = 0 := by
      intro l
      induction l with
      | nil => intro _; rfl
      | cons c l ih =>
        intro hc
        show (if cycleE c = 0 then cyclesF l else cycleE c) = 0
        rw [if_pos (hc c (List.mem_cons_self ..))]
        exact ih fun d hd => hc d (List.mem_cons_of_mem _ hd)
    exact this _ fun c hc' => (ho.1 c hc').1
  unfold cpuE
  rw [if_neg (by rw [h1]; decide), if_neg (by omega), h3, if_neg (by decide), hF _ h4, if_neg (by decide), hF _ h5, if_neg (by decide), hF _ h6]
/-- The four cells behind the name, and the name: a box of five, set. -/
theorem box5_set {w : World} {g : Nat} {a b c d e : Value} {t : TypeId} (h : w.heap[g]? = some (.cells #[a, b, c, d, e] t (0, 0))) (c' d' e' : Value) :
    (((w.setCell ⟨g, 2, none⟩ c').setCell ⟨g, 3, none⟩ d').setCell ⟨g, 4, none⟩ e').heap[g]? = some (.cells #[a, b, c', d', e'] t (0, 0)) := by
  rw [heap_set (heap_set (heap_set h c') d') e']
  rfl
end Go.Proofs.Ytnkplfimcehnmaa
