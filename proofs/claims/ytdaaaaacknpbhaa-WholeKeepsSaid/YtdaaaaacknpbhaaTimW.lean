/- What the laws on each instruction of the museum's processor keep in memory; plain facts on the processor. -/
import Derived.Test.YtdaaaaacknpbhaaBytes
import Derived.Test.YtdaaaaacknpbhaaChecked
import Derived.Test.YtdaaaaacknpbhaaWholes
import Derived.Below
import Derived.BigQuiet
import Derived.ChangeMaps5
import Derived.Deep.CutBlock
import Derived.Deep.DeepAppendWide
import Derived.Deep.DeepCutAuto
import Derived.Deep.Draws
import Derived.Deep.MidRow
import Derived.Deep.OwnRows
import Derived.Deep.QuietTactic
import Derived.Deep.RegionHeld3
import Derived.Deep.RegionLaw
import Derived.Deep.RegionWith
import Derived.Deep.Slices
import Derived.Deep.WholeRow
import Derived.Great.BuildSlice
import Derived.Laws.CopyOwn
import Derived.Laws.OwnMore
import Derived.Lib.Hide
import Derived.Lib.SmallJoins
import Derived.OpenShut
import Derived.OrdersHeld
import Derived.OwnWalk
import Derived.RangeFuncBox
import Derived.RowKit3
import Derived.Shelf.Abstract
import Derived.SizedLaws
import Derived.StillTactics
import Derived.StillTail
import Derived.StillTailTactics
import Derived.WalkKit
namespace Go.Proofs.Ytdaaaaacknpbhaa
open Go.RowKit
set_option maxRecDepth 100000

/-- The processor in block p, an instruction at xo in block xb. -/
def insAt (p : Nat) (cpu : Array Value) (xb xo : Nat) (x : In) (v : Value) (w : World) : Prop := rowB w p 25 cpu ∧ w.cell? ⟨xb, xo, none⟩ = some (.int .i64 x.op) ∧ w.cell? ⟨xb, xo + 1, none⟩ = some (.string x.name) ∧ w.cell? ⟨xb, xo + 2, none⟩ = some (.int .i64 x.mode) ∧ w.cell? ⟨xb, xo + 3, none⟩ = some v
theorem insAt.below {p : Nat} {cpu : Array Value} {xb xo : Nat} {x : In} {v : Value} {w w' : World} (h : insAt p cpu xb xo x v w) (hb : Below w.heap.size w w') : insAt p cpu xb xo x v w' := by
  obtain ⟨h0, h1, h2, h3, h4⟩ := h
  have hl := block_lt_of_cell h1
  exact ⟨rowB_below h0 hb (rowB_lt h0), (hb.cell (p := ⟨xb, xo, none⟩) hl).trans h1, (hb.cell (p := ⟨xb, xo + 1, none⟩) hl).trans h2, (hb.cell (p := ⟨xb, xo + 2, none⟩) hl).trans h3, (hb.cell (p := ⟨xb, xo + 3, none⟩) hl).trans h4⟩
theorem agIn : isAg Try.prog 49 4 := ⟨⟨_, Try.underlying49, rfl⟩, by kernel_rfl⟩
theorem std_ops : stdI.map (·.op) = (List.range 92).map (fun k => ((k + 1 : Nat) : Int)) := by decide +kernel
theorem std_op {j : Nat} {x : In} (h : stdI[j]? = some x) : x.op = ((j + 1 : Nat) : Int) := by
  have hj : j < 92 := by
    have := (List.getElem?_eq_some_iff.1 h).1
    rw [stdI_len] at this
    exact this
  have e : (stdI.map (·.op))[j]? = some x.op := by rw [List.getElem?_map, h]; rfl
  rw [std_ops, List.getElem?_map, List.getElem?_range hj] at e
  injection e with e
  exact e.symm
theorem std_found {j : Nat} {x : In} (h : stdI[j]? = some x) : opIn x.op stdI = some x :=
  opIn_at h rfl fun i y hi hy e => by
    rw [std_op h, std_op hy] at e
    omega
theorem std_sizes : stdI.all (fun x => decide (1 ≤ x.cycles.length) && decide (x.cycles.length ≤ 10) && x.cycles.all (fun c => c.steps.all (fun s => decide (0 ≤ s.t) && decide (s.t ≤ 8)))) = true := by decide +kernel
theorem std_size {x : In} (h : x ∈ stdI) : 1 ≤ x.cycles.length ∧ x.cycles.length ≤ 10 ∧ ∀ c ∈ x.cycles, namesR c.steps := by
  have := List.all_eq_true.1 std_sizes x h
  simp only [Bool.and_eq_true, decide_eq_true_eq, List.all_eq_true] at this
  exact ⟨this.1.1, this.1.2, fun c hc s hs => this.2 c hc s hs⟩
/-- Any instruction of the museum's processor that stands at 1024. -/
theorem std_runs {j : Nat} {x : In} (h : stdI[j]? = some x) {f : Nat → Int} (hf : fits f) (h7 : f 7 = 1024) {m : Nat → Int} (hm : isMem m) (h0 : m 1024 = x.op) :
    ∃ f' l m', runK flatF stdC 20 ⟨f, -1, 0, false⟩ m = (⟨f', -1, 0, false⟩, ⟨1, 1024, x.op⟩ :: l, m') ∧ leastN x.cycles ≤ l.length ∧ l.length ≤ x.cycles.length ∧ l.length ≤ 10 ∧ (∀ r : Nat, r < 5 → touchB (r : Int) x.cycles = false → f' r = f r) := by
  obtain ⟨s1, s2, s3⟩ := std_size (List.mem_of_getElem? h)
  obtain ⟨y, r, hc⟩ : ∃ y r, x.cycles = y :: r := by
    cases hx : x.cycles with
    | nil => rw [hx] at s1; simp at s1
    | cons y r => exact ⟨y, r, rfl⟩
  have ha : at16 (f 7) = 1024 := by rw [h7]; decide
  have hr := ins_at hf hm (by omega) x y r (by rw [ha, h0]; exact std_found h) hc (by rw [hc] at s2; simp at s2; omega)
  rw [ha, h0, h7] at hr
  have hl := execL_len flatF (y :: r) (setR f 7 (1024 + 1)) m
  rw [← hc] at hl hr
  have hg : fits (setR f 7 (1024 + 1)) := fits_setP hf 7 _ (by decide) (by decide) (fun h => absurd rfl h)
  refine ⟨_, _, _, hr, hl.1, hl.2, by omega, fun r hr5 ht => ?_⟩
  rw [execL_keep flatF x.cycles _ hg m r (by omega) (by omega) s3 ht]
  exact setR_other _ _ _ _ (by omega)

/-- An instruction of the museum's processor, in memory. -/
theorem std_cells {w : World} {a0 : Option Addr} {n0 c0 : Nat} {v1 v2 v3 : Value} (h : stdAt w (.slice a0 n0 c0) v1 v2 v3) {j : Nat} {x : In} (hx : stdI[j]? = some x) :
    ∃ b off v, a0 = some ⟨b, off, none⟩ ∧ b < w.heap.size ∧ 92 ≤ c0 ∧ c0 ≤ 9223372036854775807 ∧ w.cell? ⟨b, off + j * 4, none⟩ = some (.int .i64 x.op) ∧ w.cell? ⟨b, off + j * 4 + 1, none⟩ = some (.string x.name) ∧ w.cell? ⟨b, off + j * 4 + 2, none⟩ = some (.int .i64 x.mode) ∧ w.cell? ⟨b, off + j * 4 + 3, none⟩ = some v ∧ cyclesO 0 w v x.cycles := by
  obtain ⟨lo, h0, _⟩ := h
  rcases ownArr_isArr h0 with ⟨_, _, _, h⟩ | ⟨b, off, cap, e, hb, h1, h2, h3⟩
  · have := congrArg List.length h
    rw [stdI_len] at this
    cases this
  · injection e with e1 e2 e3
    subst e3
    obtain ⟨cs, q1, q2, v, rfl, q3⟩ := h3 j x hx
    obtain ⟨d0, d1, d2, d3⟩ := four_cells q2
    rw [stdI_len] at h1
    exact ⟨b, off, v, e1, hb, h1, h2, d0, d1, d2, d3, q3⟩

/-- The processor in block p, an instruction in block r. -/
structure timW (w0 w : World) (p r : Nat) (cpu xc : Array Value) (v0 v1 v2 v3 xv : Value) (cs : List Cy) : Prop where
  hp : rowB w p 25 cpu
  hx : rowB w r 49 xc
  std : stdAt w v0 v1 v2 v3
  cy : cyclesO 0 w xv cs
  bel : Below w0.heap.size w0 w
  lp : w0.heap.size ≤ p
  lr : w0.heap.size ≤ r
section
variable {w0 w w' : World} {p r : Nat} {cpu xc : Array Value} {v0 v1 v2 v3 xv : Value} {cs : List Cy}
theorem timW.call (h : timW w0 w p r cpu xc v0 v1 v2 v3 xv cs) (hb : Below w.heap.size w w') : timW w0 w' p r cpu xc v0 v1 v2 v3 xv cs :=
  ⟨rowB_below h.hp hb (rowB_lt h.hp), rowB_below h.hx hb (rowB_lt h.hx), h.std.below hb, cyclesO_below h.cy hb, h.bel.trans (hb.mono h.bel.size), h.lp, h.lr⟩
theorem timW.off {g b : Nat} {m : Nat → Int} (h : timW w0 w p r cpu xc v0 v1 v2 v3 xv cs) (hm : flatW g b w m) (ho : Off (flatG g b) w w') (hgp : ¬ flatG g b p) (hgr : ¬ flatG g b r) (lg : w0.heap.size ≤ g) (lb : w0.heap.size ≤ b) : timW w0 w' p r cpu xc v0 v1 v2 v3 xv cs :=
  ⟨rowB_off h.hp ho hgp, rowB_off h.hx ho hgr, h.std.off hm ho, cyclesO_safe h.cy (flat_safe hm ho) ⟨.inl rfl, .inr (.inl rfl)⟩, flat_below h.bel lg lb ho, h.lp, h.lr⟩
theorem timW.row (h : timW w0 w p r cpu xc v0 v1 v2 v3 xv cs) {q : Nat} {ks : Array Value} (hq : rowB w q 29 ks) (hp : q ≠ p) (hr : q ≠ r) (lq : w0.heap.size ≤ q) (c : Array Value) : timW w0 (w.setRow q c) p r cpu xc v0 v1 v2 v3 xv cs :=
  ⟨rowB_row_other h.hp c hp, rowB_row_other h.hx c hr, h.std.safe (safe_row hq (by unfold kindK; decide) c), cyclesO_safe h.cy (safe_row hq (show ¬ kindK _ by unfold kindK; decide) c) ⟨.inl rfl, .inr (.inl rfl)⟩, below_rowR h.bel c lq, h.lp, h.lr⟩
end
section
variable {w : World} {ops : Array Oper} {rest : List Oper} {o : Oper} {a : Act} {Q : Exit → Act → World → Prop}
theorem infoBy : ∃ i, Try.prog.info? 5 = some i ∧ i.zero = some (.int .u8 0) ∧ i.size = 1 ∧ i.bytes = 1 := by
  have h : (Try.prog.info? 5).map (fun i => (i.zero, i.size, i.bytes)) = some (some (.int .u8 0), 1, 1) := by kernel_rfl
  cases hh : Try.prog.info? 5 with
  | none => rw [hh] at h; cases h
  | some i => rw [hh] at h; simp only [Option.map_some, Option.some.injEq, Prod.mk.injEq] at h; exact ⟨i, rfl, h⟩
theorem wpList_byts (hgd : o.guard = none) (s x : Operand) (ho : o.op = .call { callee := .builtin .append, args := #[s, x], argTypes := #[72, 72] })
    (B : Nat) (v u : Value) (hs : a.eval s = v) (hx : a.eval x = u) (l m : List Int) (hown : byO B w v l) (harr : isArr 1 (fun _ => byR) w u m) (hl : l.length + m.length ≤ 1000) (hB : B ≤ w.heap.size)
    (h : ∀ (a' : Option Addr) (n c : Nat) w', byO B w' (.slice a' n c) (l ++ m) → w.grownBy w' v.ownBlock → wpList Try.prog ops Q rest (a.put o.dst (.slice a' n c)) w') : wpList Try.prog ops Q (o :: rest) a w := by
  obtain ⟨i, i1, i2, i3, i4⟩ := infoBy
  refine wpList_append_arr2 hgd s x 72 ho 5 1 1 i _ Try.underlying72 i1 i2 i3 i4 rfl (by decide) byR_one B v u hs hx l m hown harr (by unfold maxLen; omega) (by omega) hB ?_
  intro v' w' h1 h2
  obtain ⟨a', c', rfl⟩ := own_slice h1
  exact h _ _ _ _ h1 h2
end
theorem byO_one (w : World) (x : Int) : byO w.heap.size (w.alloc (.cells #[.int .u8 x] 5)) (.slice (some ⟨w.heap.size, 0, none⟩) 1 1) [x] :=
  own_lit [[.int .u8 x]] [x] ⟨rfl, rfl, trivial⟩ rfl _ rfl 1 rfl (by decide) w (Nat.le_refl _) _ _ rfl
theorem byO_below {lo : Nat} {w w' : World} {v : Value} {p : List Int} (h : byO lo w v p) (hb : Below w.heap.size w w') : byO lo w' v p := ownArr_safe (T := fun _ => True) h (safe_below hb) trivial
/-- Behind ready: the state's block, the memory. -/
def tim5 (w0 : World) (p r : Nat) (cpu xc : Array Value) (v0 v1 v2 v3 xv : Value) (cs : List Cy) (op : Int) (s t : Value) (w : World) : Prop :=
  ∃ (z g b : Nat) (f : Nat → Int) (q : List Int), s = .pointer (some ⟨z, 0, none⟩) ∧ t = .pointer (some ⟨g, 0, none⟩) ∧ rdyW w0 w g b z (core12 f (-1) 0 false) (loadP q) ∧ fits f ∧ f 7 = 1024 ∧ q.getD 0 0 = op ∧
    timW w0 w p r cpu xc v0 v1 v2 v3 xv cs ∧ ¬ flatG g b p ∧ ¬ flatG g b r ∧ z ≠ p ∧ z ≠ r
theorem tim5_mk {w0 w1 w : World} {p r : Nat} {cpu xc : Array Value} {v0 v1 v2 v3 xv : Value} {cs : List Cy} {op : Int} (hT : timW w0 w1 p r cpu xc v0 v1 v2 v3 xv cs) (hb : Below w1.heap.size w1 w) {z g b : Nat} {f : Nat → Int} {q : List Int} {zs : Array Value}
    (hz : rowB w z 29 zs) (hm : flatW g b w (loadP q)) (lz : w1.heap.size ≤ z) (lg : w1.heap.size ≤ g) (lb : w1.heap.size ≤ b) (ng : ¬ flatG g b z) (hf : fits f) (h7 : f 7 = 1024) (h0 : q.getD 0 0 = op) :
    tim5 w0 p r cpu xc v0 v1 v2 v3 xv cs op (.pointer (some ⟨z, 0, none⟩)) (.pointer (some ⟨g, 0, none⟩)) (w.setRow z (core12 f (-1) 0 false)) := by
  have l0 := hT.bel.size
  have lp := rowB_lt hT.hp
  have lr := rowB_lt hT.hx
  have bz := below_rowR hb (core12 f (-1) 0 false) lz
  refine ⟨z, g, b, f, q, rfl, rfl, ⟨rowB_row hz _, ?_, hT.bel.trans (bz.mono l0), by omega, by omega, by omega, ng⟩, hf, h7, h0, hT.call bz, ?_, ?_, by omega, by omega⟩
  · exact hm.off fun k hk => by
      simp only [World.setRow, Array.getElem?_modify]
      rw [if_neg (by rintro rfl; exact ng hk)]
  · rintro (h | h) <;> omega
  · rintro (h | h) <;> omega
theorem busO_first {lo : Nat} {w : World} {a : Option Addr} {n c : Nat} {b : Bu} {l : List Bu} (h : busO lo w (.slice a n c) (b :: l)) :
    n = l.length + 1 ∧ ∃ g, a = some ⟨g, 0, none⟩ ∧ lo ≤ g ∧ g < w.heap.size ∧ n ≤ c ∧ c ≤ 9223372036854775807 ∧ w.cell? ⟨g, 0, none⟩ = some (.int .i64 b.d) ∧ w.cell? ⟨g, 1, none⟩ = some (.int .i64 b.a) ∧ w.cell? ⟨g, 2, none⟩ = some (.int .i64 b.x) := by
  obtain ⟨f, hf, ho, hR⟩ := h
  rcases ho.2 with ⟨e, hn⟩ | ⟨g, cap, cur, e, hB, hg, hn, hcm, hs, htk⟩
  · cases hn
  · injection e with e1 e2 e3
    subst e1 e2 e3
    have h0 := hR 0 b rfl
    have hc : ∀ r, r < 3 → w.cell? ⟨g, r, none⟩ = (f 0)[r]? := fun r hr => by
      have e := flat_get hf (i := 0) (by simp) hr
      rw [Nat.zero_mul, Nat.zero_add, ← htk, List.getElem?_take, if_pos (by simp; omega), Array.getElem?_toList] at e
      rw [← e]
      have hl : r < cur.size := by simp at hn; omega
      rw [Array.getElem?_eq_getElem hl]
      exact rowB_cell (show rowB w g 34 cur from hg) r (Array.getElem?_eq_getElem hl)
    rw [h0] at hc
    exact ⟨rfl, g, rfl, hB, (Array.getElem?_eq_some_iff.1 hg).1, hn, by simpa [maxLen] using hcm, hc 0 (by decide), hc 1 (by decide), hc 2 (by decide)⟩
end Go.Proofs.Ytdaaaaacknpbhaa
