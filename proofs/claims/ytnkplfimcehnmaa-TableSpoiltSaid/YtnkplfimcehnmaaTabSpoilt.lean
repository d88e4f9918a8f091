/- The walk of the law TableSpoilt. -/
import Derived.Test.YtnkplfimcehnmaaInsertO
import Derived.Test.YtnkplfimcehnmaaTabSpoil
import Derived.Deep.RegionHeld3
namespace Go.Proofs.Ytnkplfimcehnmaa
open Go.RowKit

theorem isArr_set {α : Type} {k : Nat} {R : List Value → α → Prop} {w : World} {g n c : Nat} {l : List α} (h : isArr k (fun _ => R) w (.slice (some ⟨g, 0, none⟩) n c) l) {q : Nat} (hq : q ≠ g) (j : Nat) (x : Value) : isArr k (fun _ => R) (w.setCell ⟨q, j, none⟩ x) (.slice (some ⟨g, 0, none⟩) n c) l := by
  rcases h with h | ⟨b, off, cap, e, h1, h2, h3, h4⟩
  · exact .inl h
  · cases e
    refine .inr ⟨g, 0, c, rfl, by simpa [World.setCell] using h1, h2, h3, fun i y hy => ?_⟩
    obtain ⟨cs, c1, c2, c3⟩ := h4 i y hy
    exact ⟨cs, c1, fun j' hj => by rw [World.cell?_setCell_far _ _ _ _ (by exact hq)]; exact c2 j' hj, c3⟩
theorem isArr_mode {w0 W : World} {g n c : Nat} {l : List In} (h : isArr 4 (fun _ => insR w0) W (.slice (some ⟨g, 0, none⟩) n c) l) {k : Nat} {x : In} (hx : l[k]? = some x) (m : Int) (hm : (Lit.int .i64 m).wf = true) :
    isArr 4 (fun _ => insR w0) (W.setCell ⟨g, k * 4 + 2, none⟩ (.int .i64 m)) (.slice (some ⟨g, 0, none⟩) n c) (l.take k ++ ⟨x.op, x.name, m, x.cycles⟩ :: l.drop (k + 1)) := by
  have hk := (List.getElem?_eq_some_iff.1 hx).1
  have hlen : (l.take k ++ (⟨x.op, x.name, m, x.cycles⟩ : In) :: l.drop (k + 1)).length = l.length := by simp; omega
  rcases h with ⟨_, _, _, rfl⟩ | ⟨b, off, cap, e, h1, h2, h3, h4⟩
  · cases hk
  · cases e
    refine .inr ⟨g, 0, c, by rw [hlen], by simpa [World.setCell] using h1, by omega, h3, fun i y hy => ?_⟩
    by_cases hi : i = k
    · subst hi
      rw [List.getElem?_append_right (by simp; omega), List.length_take, Nat.min_eq_left (by omega), Nat.sub_self, List.getElem?_cons_zero] at hy
      cases hy
      obtain ⟨cs, c1, c2, cv, rfl, hcy, hg1, _⟩ := h4 i x hx
      refine ⟨[.int .i64 x.op, .string x.name, .int .i64 m, cv], rfl, fun j hj => ?_, cv, rfl, hcy, hg1, hm⟩
      rw [Nat.zero_add] at c2 ⊢
      by_cases hj2 : j = 2
      · subst hj2
        exact World.cell?_setCell_same _ _ _ (c2 2 hj)
      · rw [World.cell?_setCell_other _ _ _ _ (by simp <;> omega), c2 j hj]
        match j, hj, hj2 with
        | 0, _, _ => rfl
        | 1, _, _ => rfl
        | 3, _, _ => rfl
    · have hy' : l[i]? = some y := by
        by_cases hik : i < k
        · rw [List.getElem?_append_left (by simp; omega), List.getElem?_take, if_pos hik] at hy
          exact hy
        · obtain ⟨d, rfl⟩ : ∃ d, i = k + d + 1 := ⟨i - k - 1, by omega⟩
          rw [List.getElem?_append_right (by simp; omega), List.length_take, Nat.min_eq_left (by omega), show k + d + 1 - k = d + 1 by omega, List.getElem?_cons_succ, List.getElem?_drop] at hy
          rw [← hy, show k + d + 1 = k + 1 + d by omega]
      obtain ⟨cs, c1, c2, c3⟩ := h4 i y hy'
      exact ⟨cs, c1, fun j hj => by rw [World.cell?_setCell_other _ _ _ _ (by simp <;> omega)]; exact c2 j hj, c3⟩
theorem isArr_lt {α : Type} {k : Nat} {R : World → List Value → α → Prop} {w : World} {g n c : Nat} {l : List α} (h : isArr k R w (.slice (some ⟨g, 0, none⟩) n c) l) (hl : 0 < l.length) : g < w.heap.size := by
  rcases h with ⟨_, _, _, rfl⟩ | ⟨b, off, cap, e, h1, _⟩
  · cases hl
  · cases e
    exact h1
theorem own_some {α : Type} {k : Nat} {R : List Value → α → Prop} {B : Nat} {e : TypeId} {w : World} {v : Value} {l : List α} (h : ownArr k R B e w v l) (hl : 0 < l.length) :
    ∃ g cap cur, v = .slice (some ⟨g, 0, none⟩) l.length cap ∧ B ≤ g ∧ w.heap[g]? = some (.cells cur e (0, 0)) ∧ l.length ≤ cap ∧ cap ≤ 9223372036854775807 ∧ cur.size = cap * k := by
  obtain ⟨f, _, ho, _⟩ := h
  rcases ho.2 with ⟨rfl, hn⟩ | ⟨g, cap, cur, rfl, hB, hg, h1, h2, h3, _⟩
  · omega
  · exact ⟨g, cap, cur, rfl, hB, hg, h1, by simpa [maxLen] using h2, h3⟩
theorem names_apart {l : List In} (h : goodIns l) (h8 : l.length ≤ 8) : ∀ (i j : Nat) (y z : In), l[i]? = some y → l[j]? = some z → i ≠ j → y.name ≠ z.name := by
  intro i j y z hy hz hij e
  have h1 := h.2.1 i y hy
  have h2 := h.2.1 j z hz
  have hi := (List.getElem?_eq_some_iff.1 hy).1
  have hj := (List.getElem?_eq_some_iff.1 hz).1
  exact inName_ne ⟨i, by omega⟩ ⟨j, by omega⟩ (by intro e3; injection e3 with e4; exact hij e4) (by rw [show inName i = inName j by rw [← h1, ← h2, e]])

theorem own_at {α : Type} {k : Nat} {R : List Value → α → Prop} {B : Nat} {e : TypeId} {w : World} {v : Value} {l : List α} (h : ownArr k R B e w v l) : ∀ b, v.ownBlock = some b → B ≤ b := by
  intro b hb
  obtain ⟨f, _, ho, _⟩ := h
  rcases ho.2 with ⟨rfl, _⟩ | ⟨g, cap, cur, rfl, hB, hg, _⟩
  · cases hb
  · cases hb
    exact hB
theorem insertI_new {R : List Value → In → Prop} (hone : ∀ cs x, R cs x → ∀ u ∈ cs, u.oneCell' = true) {B : Nat} (v : Value) (l : List In) (i : Nat) (x : In) (x0 x1 x2 x3 : Value) (vc : Nat) (w : World)
    (h : ownArr 4 R B 34 w v l) (hi : i < l.length) (hl : l.length ≤ 8) (hB : B ≤ w.heap.size) (hx : R [x0, x1, x2, x3] x) :
    Calls Try.prog 12 #[v, .int .i64 i, .slice (some ⟨w.heap.size, 0, none⟩) 1 vc] (w.alloc (.cells #[x0, x1, x2, x3] 34)) fun e w' =>
      ∃ g c, e = .returned (.slice (some ⟨g, 0, none⟩) (l.length + 1) c) ∧ B ≤ g ∧ isArr 4 (fun _ => R) w' (.slice (some ⟨g, 0, none⟩) (l.length + 1) c) (l.take i ++ x :: l.drop i) ∧ Below B w w' := by
  have hA : Below w.heap.size w (w.alloc (.cells #[x0, x1, x2, x3] 34)) := (Below.refl _ w).alloc (Nat.le_refl _) _
  have hv := heap_alloc_new w (.cells #[x0, x1, x2, x3] 34)
  have hw : ∀ b, v.ownBlock = some b → b < w.heap.size := by
    intro b hb
    obtain ⟨f, _, ho, _⟩ := h
    rcases ho.2 with ⟨rfl, _⟩ | ⟨g, cap, cur, rfl, _, hg, _⟩
    · cases hb
    · cases hb
      exact (Array.getElem?_eq_some_iff.1 hg).1
  refine (insertI_own hone v l i x w.heap.size vc [x0, x1, x2, x3] _ _ _ (ownArr_below h hA (Nat.le_refl _)) hi hl (by simp; omega) rfl hx hv (fun j u hj => ?_) (fun b hb => by have := hw b hb; omega)).mono ?_
  · rw [cell_of_row _ _ j _ _ (0, 0) hv]
    simpa using hj
  · rintro e w' ⟨g, c, he, hg, harr, hb⟩
    exact ⟨g, c, he, hg, harr, (hA.mono hB).trans hb⟩

theorem pick13 {a1 a2 a3 a4 a5 a6 a7 a8 a9 a10 a11 a12 : Prop} {w0 wp : World} (h : a1 ∧ a2 ∧ a3 ∧ a4 ∧ a5 ∧ a6 ∧ a7 ∧ a8 ∧ a9 ∧ a10 ∧ a11 ∧ a12 ∧ Below w0.heap.size w0 wp) : Below w0.heap.size w0 wp := h.2.2.2.2.2.2.2.2.2.2.2.2
theorem spoilt_keep {w w' : World} {p q : Nat} {ta tb : TypeId} {x0 x1 x2 x3 x4 y0 y1 y2 y3 y4 u v : Value} {pu pv : Addr} (hp : w.heap[p]? = some (.cells #[x0, x1, x2, x3, x4] ta (0, 0))) (hq : w.heap[q]? = some (.cells #[y0, y1, y2, y3, y4] tb (0, 0)))
    (hu : w.cell? pu = some u) (hv : w.cell? pv = some v) (hb : Below w.heap.size w w') :
    w'.cell? ⟨p, 0, none⟩ = some x0 ∧ w'.cell? ⟨p, 1, none⟩ = some x1 ∧ w'.cell? ⟨p, 2, none⟩ = some x2 ∧ w'.cell? ⟨p, 3, none⟩ = some x3 ∧ w'.cell? ⟨p, 4, none⟩ = some x4 ∧
    w'.cell? ⟨q, 0, none⟩ = some y0 ∧ w'.cell? ⟨q, 1, none⟩ = some y1 ∧ w'.cell? ⟨q, 2, none⟩ = some y2 ∧ w'.cell? ⟨q, 3, none⟩ = some y3 ∧ w'.cell? ⟨q, 4, none⟩ = some y4 ∧ w'.cell? pu = some u ∧ w'.cell? pv = some v ∧ Below w.heap.size w w' := by
  have f : ∀ {p : Addr} {v : Value}, w.cell? p = some v → w'.cell? p = some v := fun {p v} h => by
    rw [hb.cell (p := p) (cell_block h).1]; exact h
  exact ⟨f (cell_of_row w p 0 _ _ (0, 0) hp), f (cell_of_row w p 1 _ _ (0, 0) hp), f (cell_of_row w p 2 _ _ (0, 0) hp), f (cell_of_row w p 3 _ _ (0, 0) hp), f (cell_of_row w p 4 _ _ (0, 0) hp),
    f (cell_of_row w q 0 _ _ (0, 0) hq), f (cell_of_row w q 1 _ _ (0, 0) hq), f (cell_of_row w q 2 _ _ (0, 0) hq), f (cell_of_row w q 3 _ _ (0, 0) hq), f (cell_of_row w q 4 _ _ (0, 0) hq), f hu, f hv, hb⟩

set_option maxRecDepth 100000 in
set_option maxHeartbeats 1500000 in
theorem tableSpoilt_walk (l : List Int) (k0 mode0 : Int) (v : Value) (w : World) (h : isArg w v l) (hwf : ∀ x ∈ l, (Lit.int .i64 x).wf = true) (hk0 : -9223372036854775808 ≤ k0 ∧ k0 ≤ 9223372036854775807) (hm0 : -9223372036854775808 ≤ mode0 ∧ mode0 ≤ 9223372036854775807) :
    Calls Try.prog 3 #[v, .int .i64 k0, .int .i64 mode0] w fun e w' => e = .returned (.bool true) ∧ Below w.heap.size w w' := by
  have HA := Lib.hid h
  obtain ⟨sa, sl, scap, rfl⟩ : ∃ a n c, v = .slice a n c := by
    rcases h with ⟨a, cap, rfl, _⟩ | ⟨b, off, cap, rfl, _⟩ <;> exact ⟨_, _, _, rfl⟩
  clear h
  go_enter Try.func3, Try.ntmps3
  go_upto_region 2 with (go_at_call 8; refine (cpu_made _ l _ HA.out hwf).mono ?_; rintro e w1 ⟨c, v0, v1, v2, v3, rfl, hc, hE, hl1, hl8, hz, hb1, -, hgood⟩; have HC := Lib.hid hc; obtain ⟨a0, p0, rfl, _, hform⟩ := isArr_form hc.1; obtain ⟨a1, p1, rfl, _, _⟩ := isArr_form hc.2.1; obtain ⟨a2, p2, rfl, _, _⟩ := isArr_form hc.2.2.1; obtain ⟨a3, p3, rfl, _, _⟩ := isArr_form hc.2.2.2.1; have HFm := Lib.hid hform; have HG := Lib.hid hgood; clear hform hc hz hgood)
  obtain ⟨W1, hW1⟩ : ∃ W1, W1 = w1.alloc (.cells #[.string c.name, .slice a0 c.instrs.length p0, .slice a1 c.res.length p1, .slice a2 c.irq.length p2, .slice a3 c.nmi.length p3] 26) := ⟨_, rfl⟩
  rw [← hW1]
  have b1 : Below w1.heap.size w1 W1 := by rw [hW1]; exact (Below.refl _ _).alloc (Nat.le_refl _) _
  have hs1 := hb1.size
  have hBW : Below w.heap.size w W1 := hb1.trans (b1.mono hs1)
  have hcW := cpuArg_below HC.out b1 (Nat.le_refl _)
  have HE := Lib.hid hE
  have hsW : w1.heap.size + 1 = W1.heap.size := by rw [hW1]; simp
  have KB := Lib.hid (fun (w' : World) (hb : Below W1.heap.size W1 w') => box_keep hW1 hb)
  obtain ⟨d0, d1, d2, d3, d4, _⟩ := KB.out W1 (Below.refl _ _)
  have HCW := Lib.hid hcW
  clear hcW hb1 hE hW1
  generalize hs : w1.heap.size = s at *
  have hnat : (0 : Int) < c.instrs.length := by omega
  obtain ⟨k, hk, hkl⟩ : ∃ k : Nat, k0 % (c.instrs.length : Int) = (k : Int) ∧ k < c.instrs.length := by
    have e0 := Int.emod_nonneg k0 (b := c.instrs.length) (by omega)
    have e1 := Int.emod_lt_of_pos k0 (b := c.instrs.length) hnat
    exact ⟨(k0 % (c.instrs.length : Int)).toNat, by omega, by omega⟩
  obtain ⟨m, hm, hm9⟩ : ∃ m : Nat, mode0 % 9 = (m : Int) ∧ m < 9 := by
    have e0 := Int.emod_nonneg mode0 (b := 9) (by decide)
    have e1 := Int.emod_lt_of_pos mode0 (b := 9) (by decide)
    exact ⟨(mode0 % 9).toNat, by omega, by omega⟩
  go_upto_region 5 with (first
    | (go_at_call 9; refine (described_law _).mono ?_; rintro e w2 ⟨rfl, hb2⟩; obtain ⟨e0, e1, e2, e3, e4, _⟩ := KB.out w2 hb2)
    | (go_at_call 10; refine (check_any c _ _ _ _ w2 (cpuArg_below HCW.out hb2 (Nat.le_refl _))).mono ?_; rintro e w3 ⟨rfl, hb3⟩; rw [HE.out]; have B3 := below_next hb2 hb3; obtain ⟨g0, g1, g2, g3, g4, _⟩ := KB.out w3 B3)
    | (go_at_call_of 11 (Value.int .i64 k0); refine (below_any k0 c.instrs.length hk0 ⟨by omega, by omega⟩ _).mono ?_; rintro e w' ⟨rfl, rfl⟩; rw [hk])
    | (go_at_call_of 11 (Value.int .i64 mode0); refine (below_any mode0 9 hm0 (by decide) _).mono ?_; rintro e w' ⟨rfl, rfl⟩; rw [hm]))
  clear hk hm
  go_upto_region 6 with fail
  obtain ⟨W4, hW4⟩ : ∃ W4, W4 = w3.alloc (.cells #[.string c.name, .slice a0 c.instrs.length p0, .slice a1 c.res.length p1, .slice a2 c.irq.length p2, .slice a3 c.nmi.length p3] 26) := ⟨_, rfl⟩
  rw [← hW4]
  have b4 : Below w3.heap.size w3 W4 := by rw [hW4]; exact (Below.refl _ _).alloc (Nat.le_refl _) _
  have hB4 : Below W1.heap.size W1 W4 := B3.trans (b4.mono B3.size)
  have hs4 : W4.heap.size = w3.heap.size + 1 := by rw [hW4]; simp
  have kd : W4.heap[w3.heap.size]? = some (.cells #[.string c.name, .slice a0 c.instrs.length p0, .slice a1 c.res.length p1, .slice a2 c.irq.length p2, .slice a3 c.nmi.length p3] 26 (0, 0)) := by rw [hW4]; exact heap_alloc_new w3 _
  have hc3 := cpuArg_below HCW.out B3 (Nat.le_refl _)
  have h0 : isArr 4 (fun _ => insR w3) W4 (.slice a0 c.instrs.length p0) c.instrs := isArr_fix hc3.1 b4 (Nat.le_refl _)
  have hwd : ∀ w', Below W4.heap.size W4 w' → isArr 4 (fun _ => insR w3) w' (.slice a0 c.instrs.length p0) c.instrs := fun w' hb => isArr_fix hc3.1 (b4.trans (hb.mono (by omega))) (Nat.le_refl _)
  obtain ⟨x, hx, _⟩ := drop_at hkl
  obtain ⟨a', cap', ee, _, hform⟩ := isArr_form hc3.1
  cases ee
  obtain ⟨b, off, rfl, hbW, hcap, hcap2, cs, _, hcs, cv, rfl, hcy, hgx⟩ := hform _ x hx
  obtain ⟨c0, c1, c2, c3⟩ := four_cells hcs
  have KX := Lib.hid (fun (w' : World) (hb : Below w3.heap.size w3 w') => five_keep c0 c1 c2 c3 c3 hb)
  have HX : insR w3 [.int .i64 x.op, .string x.name, .int .i64 x.mode, cv] x := ⟨cv, rfl, hcy, hgx⟩
  obtain ⟨ca, ccap, rfl, _, _⟩ := isArr_form hcy
  have HXX := Lib.hid HX
  have hw34 : w3.heap.size ≤ W4.heap.size := by omega
  have hbW4 := Nat.lt_of_lt_of_le hbW hw34
  obtain ⟨c0, c1, c2, c3, _, _⟩ := KX.out W4 b4
  have HC3 := Lib.hid hc3
  have HH := Lib.hid hwd
  have KD := Lib.hid kd
  have HHa := Lib.hid (hwd W4.drew (Below.refl _ _).drew)
  have HHb := Lib.hid (hwd (W4.alloc (.cells #[.int .i64 x.op, .string x.name, .int .i64 x.mode, .slice ca x.cycles.length ccap] 34)).drew ((Below.refl _ W4).alloc (Nat.le_refl _) _).drew)
  have HXK := Lib.hid hx
  have hl56 : c.instrs.length * 56 ≤ 140737488355328 := by omega
  have hsW3 := B3.size
  obtain ⟨e0, e1, e2, e3, e4, _⟩ := KB.out W4 hB4
  have hsl : s < W4.heap.size := by omega
  have hdl4 : w3.heap.size < W4.heap.size := by omega
  have HS4 := Lib.hid hs4
  clear hs4 d0 d1 d2 d3 d4 g0 g1 g2 g3 g4 hcs hform hx hcy hgx HX h0 hwd kd hW4 hc3 hb2 hb3
  have hwfm : (Lit.int .i64 (m : Int)).wf = true := WalkArith.wf_i64 (by omega)
  go_cut [6] from 27 to 39 (fun p wx => p = .bool false ∧ ∃ g gc, wx.heap[w3.heap.size]? = some (.cells #[.string c.name, .slice (some ⟨g, 0, none⟩) (c.instrs.length + 1) gc, .slice a1 c.res.length p1, .slice a2 c.irq.length p2, .slice a3 c.nmi.length p3] 26 (0, 0)) ∧
      isArr 4 (fun _ => insR w3) wx (.slice (some ⟨g, 0, none⟩) (c.instrs.length + 1) gc) (c.instrs.take k ++ x :: c.instrs.drop k) ∧ Below w3.heap.size w3 wx ∧ W4.heap.size ≤ wx.heap.size)
  case first =>
    go_region_law (first
      | (go_simp; go_at_call 13; refine (clone_instrs ins_one (.slice (some ⟨b, off, none⟩) c.instrs.length p0) c.instrs W4.drew HHa.out hl56).mono ?_; rintro e w5 ⟨u, rfl, hu', hb5'⟩; have hu : ownArr 4 (insR w3) W4.heap.size 34 w5 u c.instrs := hu'; have hb5 : Below W4.heap.size W4 w5 := (Below.refl _ _).drew.trans hb5'; clear hu' hb5'; obtain ⟨f0, f1, f2, f3, f4, _⟩ := KB.out w5 (hB4.trans (hb5.mono hB4.size)); obtain ⟨n0, n1, n2, n3, _, _⟩ := KX.out w5 (b4.trans (hb5.mono hw34)); have hbw5 : b < w5.heap.size := Nat.lt_of_lt_of_le hbW4 hb5.size)
      | (go_simp; go_at_call 13; refine (clone_instrs ins_one (.slice (some ⟨b, off, none⟩) c.instrs.length p0) c.instrs (W4.alloc (.cells #[.int .i64 x.op, .string x.name, .int .i64 x.mode, .slice ca x.cycles.length ccap] 34)).drew HHb.out hl56).mono ?_; rintro e w5 ⟨u, rfl, hu', hb5'⟩; have hu : ownArr 4 (insR w3) (W4.heap.size + 1) 34 w5 u c.instrs := ownArr_mono hu' (by show W4.heap.size + 1 ≤ (W4.alloc _).heap.size; simp); have kx : w5.heap[W4.heap.size]? = some (.cells #[.int .i64 x.op, .string x.name, .int .i64 x.mode, .slice ca x.cycles.length ccap] 34 (0, 0)) := keep_below (w := (W4.alloc (.cells #[.int .i64 x.op, .string x.name, .int .i64 x.mode, .slice ca x.cycles.length ccap] 34)).drew) (heap_alloc_new W4 _) hb5' (Nat.le_refl _); have hb5 : Below W4.heap.size W4 w5 := ((Below.refl _ W4).alloc (Nat.le_refl _) _).drew.trans (hb5'.mono (by show W4.heap.size ≤ (W4.alloc _).heap.size; simp)); clear hu' hb5'; obtain ⟨f0, f1, f2, f3, f4, _⟩ := KB.out w5 (hB4.trans (hb5.mono hB4.size)); obtain ⟨n0, n1, n2, n3, _, _⟩ := KX.out w5 (b4.trans (hb5.mono hw34)); have hbw5 : b < w5.heap.size := Nat.lt_of_lt_of_le hbW4 hb5.size; have hl5 : W4.heap.size + 1 ≤ w5.heap.size := (Array.getElem?_eq_some_iff.1 kx).1; have Kx := Lib.hid kx; clear kx)
      | (go_simp; go_at_call 12; with_reducible refine (insertI_new ins_one u c.instrs k x _ _ _ _ _ _ hu hkl hl8 hb5.size HXX.out).mono ?_; rintro e w6 ⟨g, gc, rfl, hgB, harr, hb6⟩; have hB6 : Below W4.heap.size W4 w6 := hb5.trans hb6; have kd6 := keep_below KD.out hB6 (Nat.le_refl _); have q1 := cell_of_row w6 w3.heap.size 1 _ _ (0, 0) kd6; have fz := frozenB kd6 1)
      | (go_simp; go_at_call 12; with_reducible refine (insertI_own ins_one u c.instrs k x W4.heap.size _ [.int .i64 x.op, .string x.name, .int .i64 x.mode, .slice ca x.cycles.length ccap] _ _ _ hu hkl hl8 hl5 rfl HXX.out Kx.out (fun j y hj => by rw [cell_of_row _ _ j _ _ (0, 0) Kx.out]; simpa using hj) (fun b hb => by have := own_at hu b hb; omega)).mono ?_; rintro e w6 ⟨g, gc, rfl, hgB', harr, hb6'⟩; have hgB : W4.heap.size ≤ g := (by omega); have hb6 : Below W4.heap.size w5 w6 := hb6'.mono (by omega); clear hgB' hb6'; have hB6 : Below W4.heap.size W4 w6 := hb5.trans hb6; have kd6 := keep_below KD.out hB6 (Nat.le_refl _); have q1 := cell_of_row w6 w3.heap.size 1 _ _ (0, 0) kd6; have fz := frozenB kd6 1))
    all_goals
      go_wp2_with fail
      go_meet
      case rel => exact ⟨rfl, g, gc, set_heap kd6 _, isArr_set harr (by omega) _ _, (b4.trans (hB6.mono (by omega))).setCell (Nat.le_refl _) _, by have := hB6.size; simpa [World.setCell] using this⟩
  case rest =>
    obtain ⟨rfl, g, gc, kd7, harr, hwB, hwz⟩ := hcut
    have hB7 : Below W1.heap.size W1 wc := B3.trans (hwB.mono hsW3)
    obtain ⟨e0, e1, e2, e3, e4, _⟩ := KB.out wc hB7
    have KD7 := Lib.hid kd7
    have HARR := Lib.hid harr
    clear kd7 harr
    go_upto_region 8 with fail
    obtain ⟨W8, hW8⟩ : ∃ W8, W8 = wc.alloc (.cells #[.string c.name, .slice (some ⟨b, off, none⟩) c.instrs.length p0, .slice a1 c.res.length p1, .slice a2 c.irq.length p2, .slice a3 c.nmi.length p3] 26) := ⟨_, rfl⟩
    rw [← hW8]
    have b8 : Below wc.heap.size wc W8 := by rw [hW8]; exact (Below.refl _ _).alloc (Nat.le_refl _) _
    have hs8 : W8.heap.size = wc.heap.size + 1 := by rw [hW8]; simp
    have ke : W8.heap[wc.heap.size]? = some (.cells #[.string c.name, .slice (some ⟨b, off, none⟩) c.instrs.length p0, .slice a1 c.res.length p1, .slice a2 c.irq.length p2, .slice a3 c.nmi.length p3] 26 (0, 0)) := by rw [hW8]; exact heap_alloc_new wc _
    have hB8 : Below W1.heap.size W1 W8 := hB7.trans (b8.mono hB7.size)
    have hw8 : Below w3.heap.size w3 W8 := hwB.trans (b8.mono hwB.size)
    have H8 := Lib.hid (isArr_fix (R := insR) HC3.out.1 hw8 (Nat.le_refl _))
    have KE := Lib.hid ke
    have HS8 := Lib.hid hs8
    have hl8w : wc.heap.size < W8.heap.size := by omega
    obtain ⟨r0, r1, r2, r3, r4, _⟩ := KB.out W8 hB8
    clear hW8 e0 e1 e2 e3 e4 ke hs8
    go_upto_region 9 with (go_at_call 13; refine (clone_instrs ins_one (.slice (some ⟨b, off, none⟩) c.instrs.length p0) c.instrs W8 H8.out hl56).mono ?_; rintro e w9 ⟨u, rfl, hu, hb9⟩; obtain ⟨g9, c9, cur9, rfl, hB9, hg9, hn9, hc9, hs9⟩ := own_some hu (by omega); have HA9 := Lib.hid (ownArr_isArr hu); have HG9 := Lib.hid hg9; have ke9 := keep_below KE.out hb9 (Nat.le_refl _); have KE9 := Lib.hid ke9; have q1 := cell_of_row w9 wc.heap.size 1 _ _ (0, 0) ke9; have fz := frozenB ke9 1; clear hu hg9 ke9)
    have hz8 := HS8.out
    obtain ⟨W10, hW10⟩ : ∃ W10, W10 = w9.setCell ⟨wc.heap.size, 1, none⟩ (.slice (some ⟨g9, 0, none⟩) c.instrs.length c9) := ⟨_, rfl⟩
    rw [← hW10]
    have ke10 : W10.heap[wc.heap.size]? = some (.cells #[.string c.name, .slice (some ⟨g9, 0, none⟩) c.instrs.length c9, .slice a1 c.res.length p1, .slice a2 c.irq.length p2, .slice a3 c.nmi.length p3] 26 (0, 0)) := by rw [hW10]; exact set_heap KE9.out _
    have hg10 : W10.heap[g9]? = some (.cells cur9 34 (0, 0)) := by rw [hW10, set_far (by omega)]; exact HG9.out
    have HA10 := Lib.hid (show isArr 4 (fun _ => insR w3) W10 (.slice (some ⟨g9, 0, none⟩) c.instrs.length c9) c.instrs by rw [hW10]; exact isArr_set HA9.out (by omega) _ _)
    have hlt10 : k * 4 + 2 < cur9.size := by omega
    obtain ⟨old, hold⟩ : ∃ old, W10.cell? ⟨g9, k * 4 + 2, none⟩ = some old := ⟨cur9[k * 4 + 2], by simp [World.cell?, hg10, hlt10]⟩
    have fz10 := frozenB hg10 (k * 4 + 2)
    have qe1 := cell_of_row W10 wc.heap.size 1 _ _ (0, 0) ke10
    have glt := isArr_lt HARR.out (by simp; omega)
    have hd10 : isArr 4 (fun _ => insR w3) W10 (.slice (some ⟨g, 0, none⟩) (c.instrs.length + 1) gc) (c.instrs.take k ++ x :: c.instrs.drop k) := by
      rw [hW10]
      exact isArr_set (isArr_below (fun _ _ _ _ _ _ _ h => h) (isArr_below (fun _ _ _ _ _ _ _ h => h) HARR.out b8 (Nat.le_refl _)) hb9 (Nat.le_refl _)) (by omega) _ _
    have kd10 : W10.heap[w3.heap.size]? = some (.cells #[.string c.name, .slice (some ⟨g, 0, none⟩) (c.instrs.length + 1) gc, .slice a1 c.res.length p1, .slice a2 c.irq.length p2, .slice a3 c.nmi.length p3] 26 (0, 0)) := by
      rw [hW10, set_far (by omega)]
      exact keep_below (keep_below KD7.out b8 (Nat.le_refl _)) hb9 (Nat.le_refl _)
    have hw10 : Below w3.heap.size w3 W10 := by rw [hW10]; exact (hw8.trans (hb9.mono (by omega))).setCell (by show w3.heap.size ≤ wc.heap.size; omega) _
    have hB10 : Below W1.heap.size W1 W10 := by rw [hW10]; exact (hB8.trans (hb9.mono hB8.size)).setCell (by show W1.heap.size ≤ wc.heap.size; exact hB7.size) _
    have HK := Lib.hid (And.intro ke10 (And.intro hg10 (And.intro hd10 kd10)))
    clear hW10 hg10 hd10 kd10 ke10 q1 fz r0 r1 r2 r3 r4
    go_upto_region 10 with fail
    obtain ⟨ke10, hg10, hd10, kd10⟩ := HK.out
    obtain ⟨W11, hW11⟩ : ∃ W11, W11 = W10.setCell ⟨g9, k * 4 + 2, none⟩ (.int .i64 (m : Int)) := ⟨_, rfl⟩
    rw [← hW11]
    have kd11 : W11.heap[w3.heap.size]? = some (.cells #[.string c.name, .slice (some ⟨g, 0, none⟩) (c.instrs.length + 1) gc, .slice a1 c.res.length p1, .slice a2 c.irq.length p2, .slice a3 c.nmi.length p3] 26 (0, 0)) := by
      rw [hW11, set_far (by omega)]; exact kd10
    have ke11 : W11.heap[wc.heap.size]? = some (.cells #[.string c.name, .slice (some ⟨g9, 0, none⟩) c.instrs.length c9, .slice a1 c.res.length p1, .slice a2 c.irq.length p2, .slice a3 c.nmi.length p3] 26 (0, 0)) := by
      rw [hW11, set_far (by omega)]; exact ke10
    have hw11 : Below w3.heap.size w3 W11 := by rw [hW11]; exact hw10.setCell (by show w3.heap.size ≤ g9; omega) _
    have hB11 : Below W1.heap.size W1 W11 := by rw [hW11]; exact hB10.setCell (by show W1.heap.size ≤ g9; omega) _
    have hdA : isArr 4 insR W11 (.slice (some ⟨g, 0, none⟩) (c.instrs.length + 1) gc) (c.instrs.take k ++ x :: c.instrs.drop k) :=
      isArr_loose ins_keeps (by rw [hW11]; exact isArr_set hd10 (by omega) _ _) hw11 (Nat.le_refl _)
    have heA : isArr 4 insR W11 (.slice (some ⟨g9, 0, none⟩) c.instrs.length c9) (c.instrs.take k ++ ⟨x.op, x.name, m, x.cycles⟩ :: c.instrs.drop (k + 1)) :=
      isArr_loose ins_keeps (by rw [hW11]; exact isArr_mode HA10.out HXK.out m hwfm) hw11 (Nat.le_refl _)
    obtain ⟨_, r1, r2, r3, r4⟩ := HC3.out
    have hcd : cpuArg W11 (.slice (some ⟨g, 0, none⟩) (c.instrs.length + 1) gc) (.slice a1 c.res.length p1) (.slice a2 c.irq.length p2) (.slice a3 c.nmi.length p3) ⟨c.name, c.instrs.take k ++ x :: c.instrs.drop k, c.res, c.irq, c.nmi⟩ :=
      ⟨hdA, isArr_below cycle_keeps r1 hw11 (Nat.le_refl _), isArr_below cycle_keeps r2 hw11 (Nat.le_refl _), isArr_below cycle_keeps r3 hw11 (Nat.le_refl _), r4⟩
    have hce : cpuArg W11 (.slice (some ⟨g9, 0, none⟩) c.instrs.length c9) (.slice a1 c.res.length p1) (.slice a2 c.irq.length p2) (.slice a3 c.nmi.length p3) ⟨c.name, c.instrs.take k ++ ⟨x.op, x.name, m, x.cycles⟩ :: c.instrs.drop (k + 1), c.res, c.irq, c.nmi⟩ :=
      ⟨heA, isArr_below cycle_keeps r1 hw11 (Nat.le_refl _), isArr_below cycle_keeps r2 hw11 (Nat.le_refl _), isArr_below cycle_keeps r3 hw11 (Nat.le_refl _), r4⟩
    have hD9 := spoilt_double HE.out hl8 HXK.out
    have hO0 : 0 ≤ operand (m : Int) := by unfold operand; rw [if_neg (by omega)]; split <;> (try split) <;> omega
    have hEq := spoilt_mode HE.out hl8 (names_apart HG.out hl8) HXK.out m hO0
    obtain ⟨E, hEE⟩ : ∃ E, cpuE ⟨c.name, c.instrs.take k ++ ⟨x.op, x.name, m, x.cycles⟩ :: c.instrs.drop (k + 1), c.res, c.irq, c.nmi⟩ = E := ⟨_, rfl⟩
    rw [hEE] at hEq
    obtain ⟨O, hO⟩ : ∃ O, operand (m : Int) = O := ⟨_, rfl⟩
    obtain ⟨X, hX⟩ : ∃ X, operand x.mode = X := ⟨_, rfl⟩
    rw [hO, hX] at hEq
    have hwfin : Below w.heap.size w W11 := hBW.trans (hB11.mono (by have := hBW.size; omega))
    have KS := Lib.hid (fun (w' : World) (hb : Below W11.heap.size W11 w') => spoilt_keep kd11 ke11 (KB.out W11 hB11).2.1 (KX.out W11 hw11).2.2.1 hb)
    have CD := Lib.hid (show ∀ w', Below W11.heap.size W11 w' → Calls Try.prog 10 #[.agg #[.string c.name, .slice (some ⟨g, 0, none⟩) (c.instrs.length + 1) gc, .slice a1 c.res.length p1, .slice a2 c.irq.length p2, .slice a3 c.nmi.length p3]] w' fun e w'' => e = .returned (.int .i64 9) ∧ Below w'.heap.size w' w'' from
      fun w' hb => hD9 ▸ check_any ⟨c.name, c.instrs.take k ++ x :: c.instrs.drop k, c.res, c.irq, c.nmi⟩ _ _ _ _ _ (cpuArg_below hcd hb (Nat.le_refl _)))
    have CE := Lib.hid (show ∀ w', Below W11.heap.size W11 w' → Calls Try.prog 10 #[.agg #[.string c.name, .slice (some ⟨g9, 0, none⟩) c.instrs.length c9, .slice a1 c.res.length p1, .slice a2 c.irq.length p2, .slice a3 c.nmi.length p3]] w' fun e w'' => e = .returned (.int .i64 E) ∧ Below w'.heap.size w' w'' from
      fun w' hb => hEE ▸ check_any ⟨c.name, c.instrs.take k ++ ⟨x.op, x.name, m, x.cycles⟩ :: c.instrs.drop (k + 1), c.res, c.irq, c.nmi⟩ _ _ _ _ _ (cpuArg_below hce hb (Nat.le_refl _)))
    have Cm := Lib.hid (show ∀ w', Calls Try.prog 14 #[.int .i64 (m : Int)] w' fun e w'' => e = .returned (.int .i64 O) ∧ w' = w'' from fun w' => hO ▸ size_is (m : Int) w')
    have Cx := Lib.hid (show ∀ w', Calls Try.prog 14 #[.int .i64 x.mode] w' fun e w'' => e = .returned (.int .i64 X) ∧ w' = w'' from fun w' => hX ▸ size_is x.mode w')
    have hP0 : Below W11.heap.size W11 W11 := Below.refl _ _
    have HQ := Lib.hid hEq
    have HF := Lib.hid hwfin
    clear ke10 hg10 hd10 kd10 hW11 kd11 ke11 hdA heA hcd hce hO0 hEq hwfin fz10 qe1 hold
    go_region_held3 (fun w' => w'.cell? ⟨w3.heap.size, 0, none⟩ = some (.string c.name) ∧ w'.cell? ⟨w3.heap.size, 1, none⟩ = some (.slice (some ⟨g, 0, none⟩) (c.instrs.length + 1) gc) ∧ w'.cell? ⟨w3.heap.size, 2, none⟩ = some (.slice a1 c.res.length p1) ∧ w'.cell? ⟨w3.heap.size, 3, none⟩ = some (.slice a2 c.irq.length p2) ∧ w'.cell? ⟨w3.heap.size, 4, none⟩ = some (.slice a3 c.nmi.length p3) ∧
        w'.cell? ⟨wc.heap.size, 0, none⟩ = some (.string c.name) ∧ w'.cell? ⟨wc.heap.size, 1, none⟩ = some (.slice (some ⟨g9, 0, none⟩) c.instrs.length c9) ∧ w'.cell? ⟨wc.heap.size, 2, none⟩ = some (.slice a1 c.res.length p1) ∧ w'.cell? ⟨wc.heap.size, 3, none⟩ = some (.slice a2 c.irq.length p2) ∧ w'.cell? ⟨wc.heap.size, 4, none⟩ = some (.slice a3 c.nmi.length p3) ∧
        w'.cell? ⟨s, 1, none⟩ = some (.slice (some ⟨b, off, none⟩) c.instrs.length p0) ∧ w'.cell? ⟨b, off + k * 4 + 2, none⟩ = some (.int .i64 x.mode) ∧ Below W11.heap.size W11 w')
      (first | exact KS.out _ (by assumption) | exact KS.out _ (Below.drew (by assumption)))
      (first
        | (go_at_call 10; have hP := pick13 (w0 := W11) (by assumption); with_reducible refine (CD.out _ hP).mono ?_; rintro e wd ⟨rfl, hbd⟩; have BD : Below W11.heap.size W11 wd := below_next hP hbd)
        | (go_at_call 10; have hP := pick13 (w0 := W11) (by assumption); with_reducible refine (CE.out _ hP).mono ?_; rintro e we ⟨rfl, hbe⟩; have BE : Below W11.heap.size W11 we := below_next hP hbe)
        | (go_at_call 14; with_reducible refine (Cm.out _).mono ?_; rintro e w' ⟨rfl, rfl⟩)
        | (go_at_call 14; with_reducible refine (Cx.out _).mono ?_; rintro e w' ⟨rfl, rfl⟩))
    have hq : ((E == 0) == (O == X)) = true := by
      have h := HQ.out
      by_cases hE0 : E = 0
      · rw [hE0, h.1 hE0]; simp
      · have hX0 : ¬ O = X := fun e => hE0 (h.2 e)
        rw [beq_eq_false_iff_ne.2 hE0, beq_eq_false_iff_ne.2 hX0]; rfl
    rw [hq]
    go_wp2_with fail
    go_ret
    exact ⟨rfl, HF.out.trans (BE.mono (by have := HF.out.size; omega))⟩
end Go.Proofs.Ytnkplfimcehnmaa
