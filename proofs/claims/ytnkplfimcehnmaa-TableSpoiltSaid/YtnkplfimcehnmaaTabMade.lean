/- The walk of the law TableMade. -/
import Derived.Test.YtnkplfimcehnmaaTabChecks
import Derived.Test.YtnkplfimcehnmaaTabSameT
import Derived.Test.YtnkplfimcehnmaaMakeCpu
import Derived.Test.YtnkplfimcehnmaaTabFinds
import Derived.Test.YtnkplfimcehnmaaTabFind
import Derived.Test.YtnkplfimcehnmaaTabInstr
import Derived.Test.YtnkplfimcehnmaaArgFacts
namespace Go.Proofs.Ytnkplfimcehnmaa
open Go.RowKit

theorem described_law (w : World) :
    Calls Try.prog 9 #[] w fun e w' => e = .returned (.bool true) ∧ Below w.heap.size w w' := by
  have e1 : operand 4 = 2 := by decide
  have e2 : cpuE ⟨⟨#[]⟩, [], [], [], []⟩ = 15 := by decide +kernel
  have e3 : cpuE ⟨⟨#[97]⟩, [], [], [], []⟩ = 0 := by decide +kernel
  have z1 : (⟨#[]⟩ : ByteArray).size ≤ 9223372036854775807 := by decide
  have z2 : (⟨#[97]⟩ : ByteArray).size ≤ 9223372036854775807 := by decide
  go_enter Try.func9, Try.ntmps9
  go_wp2_with (first
    | (go_at_call 14; refine (size_any _ _).mono ?_; rintro e w1 ⟨rfl, hb1⟩; rw [e1])
    | (go_at_call 10; with_reducible refine (check_bare ⟨#[]⟩ _ z1).mono ?_; rintro e w2 ⟨rfl, hb2⟩; rw [e2])
    | (go_at_call 10; with_reducible refine (check_bare ⟨#[97]⟩ _ z2).mono ?_; rintro e w3 ⟨rfl, hb3⟩; rw [e3]))
  go_ret
  exact ⟨rfl, hb1.trans ((hb2.mono hb1.size).trans (hb3.mono (Nat.le_trans hb1.size hb2.size)))⟩

theorem made1_at (g : Nat) (op : Int) (x : In) (cv : Value) (w : World) (hm : w.heap[g]? = some (.cells #[.int .i64 op] 3 (0, 0))) (hcy : isArr 4 cycleR w cv x.cycles) :
    Calls Try.prog 30 #[.agg #[.int .i64 x.op, .string x.name, .int .i64 x.mode, cv], .pointer (some ⟨g, 0, none⟩)] w fun e w' => e = .returned (.bool (opIs op x)) ∧ Below w.heap.size w w' := by
  obtain ⟨xo, xn, xm, cyc⟩ := x
  dsimp only at hcy ⊢
  have km := cell_of_row w g 0 _ _ (0, 0) hm
  have lm : g < w.heap.size := (Array.getElem?_eq_some_iff.1 hm).1
  obtain ⟨ca, ccap, rfl, _, _⟩ := isArr_form hcy
  clear hm hcy
  go_enter Try.func30, Try.ntmps30
  go_wp2_with fail
  go_ret
  exact ⟨rfl, (Below.refl _ _).alloc (Nat.le_refl _) _⟩

theorem instrsF_at : ∀ (l done : List In), instrsF done l = 0 → ∀ (k : Nat) (x : In), l[k]? = some x → instrE (done ++ l.take k) x = 0
  | [], _, _, _, _, hx => by simp at hx
  | y :: l, done, h, k, x, hx => by
    have h' : (if instrE done y = 0 then instrsF (done ++ [y]) l else instrE done y) = 0 := h
    by_cases hy : instrE done y = 0
    · rw [if_pos hy] at h'
      match k, hx with
      | 0, hx =>
        have : y = x := by simpa using hx
        subst this
        simpa using hy
      | k + 1, hx =>
        have := instrsF_at l (done ++ [y]) h' k x (by simpa using hx)
        simpa [List.append_assoc] using this
    · rw [if_neg hy] at h'
      exact absurd h' hy
theorem instrE_zero {done : List In} {x : In} (h : instrE done x = 0) : (done = [] ∨ lastOp done < x.op) ∧ done.any (sameKey x) = false := by
  unfold instrE at h
  split at h
  · omega
  split at h
  · omega
  rename_i h2
  split at h
  · omega
  split at h
  · omega
  split at h
  · omega
  rename_i h5
  refine ⟨?_, by simpa using h5⟩
  by_cases hd : done = []
  · exact .inl hd
  · right
    by_cases hl : x.op ≤ lastOp done
    · exact absurd ⟨hd, hl⟩ h2
    · omega
theorem ops_up {l : List In} (h : instrsF [] l = 0) : ∀ (k : Nat) (x : In), l[k]? = some x → ∀ (j : Nat) (y : In), j < k → l[j]? = some y → y.op < x.op
  | 0, _, _, _, _, hj, _ => by omega
  | k + 1, x, hx, j, y, hj, hy => by
    have hk := (List.getElem?_eq_some_iff.1 hx).1
    obtain ⟨z, hz, _⟩ := drop_at (l := l) (k := k) (by omega)
    have ht : l.take (k + 1) = l.take k ++ [z] := by rw [List.take_add_one, hz]; rfl
    have h1 := (instrE_zero (by simpa using instrsF_at l [] h (k + 1) x hx)).1
    rw [ht] at h1
    have h2 : z.op < x.op := by
      rcases h1 with h1 | h1
      · simp at h1
      · rwa [lastOp_snoc] at h1
    by_cases hjk : j = k
    · subst hjk
      rw [hz] at hy
      cases hy
      exact h2
    · have := ops_up h k z hz j y (by omega) hy
      omega
theorem find_first {p : In → Bool} {l : List In} {k : Nat} {x : In} (h : l[k]? = some x) (hp : p x = true) (hn : ∀ y ∈ l.take k, p y = false) : foundIn p l = x ∧ isIn p l = true := by
  have e : l.find? p = some x := by
    rw [List.find?_eq_some_iff_append]
    refine ⟨hp, l.take k, l.drop (k + 1), ?_, fun y hy => by simp [hn y hy]⟩
    obtain ⟨x', hx', hd⟩ := drop_at (List.getElem?_eq_some_iff.1 h).1
    rw [h] at hx'
    cases hx'
    rw [← hd, List.take_append_drop]
  unfold foundIn isIn
  rw [e]
  exact ⟨rfl, rfl⟩
theorem cpu_instrs {c : Cp} (h : cpuE c = 0) : instrsF [] c.instrs = 0 := by
  unfold cpuE at h
  split at h
  · omega
  split at h
  · omega
  split at h
  · omega
  · rename_i h3
    exact Decidable.byContradiction h3
theorem made_find {c : Cp} (h : cpuE c = 0) {k : Nat} {x : In} (hx : c.instrs[k]? = some x) :
    (foundIn (opIs x.op) c.instrs = x ∧ isIn (opIs x.op) c.instrs = true) ∧ (foundIn (namedIs x.name x.mode) c.instrs = x ∧ isIn (namedIs x.name x.mode) c.instrs = true) := by
  have h := cpu_instrs h
  constructor
  · refine find_first hx (by simp [opIs]) fun y hy => ?_
    obtain ⟨j, hj⟩ := List.mem_iff_getElem?.1 hy
    have hjk : j < k := by
      have := (List.getElem?_eq_some_iff.1 hj).1
      simp at this
      omega
    rw [List.getElem?_take, if_pos hjk] at hj
    have := ops_up h k x hx j y hjk hj
    simp [opIs]
    omega
  · refine find_first hx (by simp [namedIs]) fun y hy => ?_
    have h2 := (instrE_zero (by simpa using instrsF_at _ [] h k x hx)).2
    have h3 := List.any_eq_false.1 h2 y hy
    exact Bool.eq_false_iff.2 h3
theorem isIn_any (p : In → Bool) (l : List In) : l.any p = isIn p l := by
  unfold isIn
  exact Bool.eq_iff_iff.2 (by rw [List.any_eq_true, List.find?_isSome])

theorem below_set {B : Nat} {w w' : World} (h : Below B w w') (k : Nat) (v : Value) : Below B (w.setCell ⟨k, 0, none⟩ v) (w'.setCell ⟨k, 0, none⟩ v) := by
  refine ⟨h.os, h.tape, h.output, by simpa [World.setCell] using h.size, fun j hj => ?_⟩
  unfold World.setCell
  simp only [Array.getElem?_modify]
  rw [h.block j hj]

set_option maxRecDepth 100000 in
set_option maxHeartbeats 4000000 in
theorem tableMade_walk (l : List Int) (op : Int) (v : Value) (w : World) (h : isArg w v l) (hwf : ∀ x ∈ l, (Lit.int .i64 x).wf = true) (hop : -9223372036854775808 ≤ op ∧ op ≤ 9223372036854775807) :
    Calls Try.prog 7 #[v, .int .i64 op] w fun e w' => e = .returned (.bool true) ∧ Below w.heap.size w w' := by
  have hmf := mkFunc
  have hbe0 : Below w.heap.size w (w.alloc (.cells #[.int .i64 op] 3)) := (Below.refl _ w).alloc (Nat.le_refl _) _
  have k0 := heap_alloc_new w (.cells #[.int .i64 op] 3)
  have HA := Lib.hid (isArg_alloc h (.cells #[.int .i64 op] 3))
  have K0 := Lib.hid k0
  obtain ⟨sa, sl, scap, rfl⟩ : ∃ a n c, v = .slice a n c := by
    rcases h with ⟨a, cap, rfl, _⟩ | ⟨b, off, cap, rfl, _⟩ <;> exact ⟨_, _, _, rfl⟩
  clear h k0
  go_enter Try.func7, Try.ntmps7
  go_upto_region 2 with (go_at_call 8; refine (cpu_made _ l _ HA.out hwf).mono ?_; rintro e w1 ⟨c, v0, v1, v2, v3, rfl, hc, hE, -, -, hz, hb1, hset, -⟩; have HC := Lib.hid hc; obtain ⟨a0, p0, rfl, _, hform⟩ := isArr_form hc.1; obtain ⟨a1, p1, rfl, _, _⟩ := isArr_form hc.2.1; obtain ⟨a2, p2, rfl, _, _⟩ := isArr_form hc.2.2.1; obtain ⟨a3, p3, rfl, _, _⟩ := isArr_form hc.2.2.2.1; have HFm := Lib.hid hform; have HS := Lib.hid hset; have HZ := Lib.hid hz; have H1 := Lib.hid hb1; clear hform hset hc hz)
  obtain ⟨W1, hW1⟩ : ∃ W1, W1 = w1.alloc (.cells #[.string c.name, .slice a0 c.instrs.length p0, .slice a1 c.res.length p1, .slice a2 c.irq.length p2, .slice a3 c.nmi.length p3] 26) := ⟨_, rfl⟩
  rw [← hW1]
  have b1 : Below w1.heap.size w1 W1 := by rw [hW1]; exact (Below.refl _ _).alloc (Nat.le_refl _) _
  have hs1 : w.heap.size + 1 ≤ w1.heap.size := by have := hb1.size; simpa using this
  have hBW : Below w.heap.size w W1 := hbe0.trans ((hb1.mono (by simp)).trans (b1.mono (by omega)))
  have hcW := cpuArg_below HC.out b1 (Nat.le_refl _)
  have hset : ∀ x, cpuArg (W1.setCell ⟨w.heap.size, 0, none⟩ x) (.slice a0 c.instrs.length p0) (.slice a1 c.res.length p1) (.slice a2 c.irq.length p2) (.slice a3 c.nmi.length p3) c :=
    fun x => cpuArg_below (HS.out w.heap.size x (by simp)) (below_set b1 _ x) (by simp [World.setCell])
  have KO := Lib.hid (keep_below (keep_below K0.out hb1 (Nat.le_refl _)) b1 (Nat.le_refl _))
  have kc : W1.heap[w1.heap.size]? = some (.cells #[.string c.name, .slice a0 c.instrs.length p0, .slice a1 c.res.length p1, .slice a2 c.irq.length p2, .slice a3 c.nmi.length p3] 26 (0, 0)) := by rw [hW1]; exact heap_alloc_new w1 _
  have KC := Lib.hid kc
  have HE := Lib.hid hE
  have hsW : w1.heap.size + 1 = W1.heap.size := by rw [hW1]; simp
  have KB := Lib.hid (fun (w' : World) (hb : Below W1.heap.size W1 w') => box_keep hW1 hb)
  obtain ⟨d0, d1, d2, d3, d4, _⟩ := KB.out W1 (Below.refl _ _)
  have HSET := Lib.hid hset
  have HCW := Lib.hid hcW
  have HFM := Lib.hid (fun i x hx => HFm.out i x hx)
  clear kc hset hcW hb1 HS hE hW1
  generalize hs : w1.heap.size = s at *
  go_wp2_with (first
    | (go_at_call 9; refine (described_law _).mono ?_; rintro e w2 ⟨rfl, hb2⟩; obtain ⟨e0, e1, e2, e3, e4, _⟩ := KB.out w2 hb2)
    | (go_at_call 10; refine (check_any c _ _ _ _ w2 (cpuArg_below HCW.out hb2 (Nat.le_refl _))).mono ?_; rintro e w3 ⟨rfl, hb3⟩; rw [HE.out]; have B3 := below_next hb2 hb3; obtain ⟨g0, g1, g2, g3, g4, _⟩ := KB.out w3 B3)
    | (go_at_call 27; refine (same_any c c _ _ _ _ _ _ _ _ w3 (cpuArg_below HCW.out B3 (Nat.le_refl _)) (cpuArg_below HCW.out B3 (Nat.le_refl _))).mono ?_; rintro e w4 ⟨rfl, hb4⟩; rw [decide_eq_true rfl]; have B4 := below_next B3 hb4; obtain ⟨k0, k1, k2, k3, k4, _⟩ := KB.out w4 B4))
  go_loopw [32] (fun i wr => ∃ k : Nat, k ≤ c.instrs.length ∧ i = .int .i64 k ∧ Below W1.heap.size W1 wr) (fun i _ => c.instrs.length - (intOf i).toNat)
  case atStart => exact ⟨0, Nat.zero_le _, rfl, B4⟩
  case round =>
    clear B4 B3 hb2 hb3 hb4 d0 d1 d2 d3 d4 e0 e1 e2 e3 e4 g0 g1 g2 g3 g4 k0 k1 k2 k3 k4
    obtain ⟨k, hk, rfl, hB⟩ := hrel
    have hzW := hB.size
    by_cases hlt : k < c.instrs.length
    · obtain ⟨x, hx, _⟩ := drop_at hlt
      obtain ⟨⟨f1, f2⟩, ⟨f3, f4⟩⟩ := made_find HE.out hx
      have HF := Lib.hid (fun (W' : World) (hb : Below W1.heap.size W1 W') => findT_any c x.op _ _ _ _ W' (cpuArg_below HCW.out hb (Nat.le_refl _)) HZ.out)
      have HN := Lib.hid (fun (W' : World) (hb : Below W1.heap.size W1 W') => namedT_any c x.name x.mode _ _ _ _ W' (cpuArg_below HCW.out hb (Nat.le_refl _)) HZ.out)
      unfold gives at HF HN
      rw [f1, f2] at HF
      rw [f3, f4] at HN
      obtain ⟨b, off, rfl, hb, hcap, hcap2, cs, _, hcs, cv, rfl, hcy, _⟩ := HFM.out _ x hx
      obtain ⟨c0, c1, c2, c3⟩ := four_cells hcs
      obtain ⟨n0, n1, n2, n3, _, _⟩ := five_keep c0 c1 c2 c3 c3 (by rw [hs]; exact b1.trans (hB.mono (by omega)) : Below _ w1 wr)
      obtain ⟨m0, m1, m2, m3, m4, _⟩ := KB.out wr hB
      have hbr : b < wr.heap.size := by omega
      obtain ⟨ca, ccap, rfl, _, _⟩ := isArr_form hcy
      obtain ⟨xop, xn, xm, cyc⟩ := x
      dsimp only at *
      clear hcs hx hcy f1 f2 f3 f4
      go_upto_region 7 with fail
      obtain ⟨W2, hW2⟩ : ∃ W2, W2 = wr.alloc (.cells #[.int .i64 xop, .string xn, .int .i64 xm, .slice ca cyc.length ccap] 34) := ⟨_, rfl⟩
      rw [← hW2]
      have hB2 : Below W1.heap.size W1 W2 := by rw [hW2]; exact hB.alloc hzW _
      have r2 : W2.heap[wr.heap.size]? = some (.cells #[.int .i64 xop, .string xn, .int .i64 xm, .slice ca cyc.length ccap] 34 (0, 0)) := by rw [hW2]; exact heap_alloc_new wr _
      have hs2 : W2.heap.size = wr.heap.size + 1 := by rw [hW2]; simp
      obtain ⟨x0, x1, x2, x3⟩ := cells4 r2
      clear hW2 m0 m1 m2 m3 m4 n0 n1 n2 n3
      obtain ⟨m0, m1, m2, m3, m4, _⟩ := KB.out W2 hB2
      go_upto_region 8 with (go_at_call 22; refine (HF.out W2 hB2).mono ?_; rintro e w3 ⟨u, rfl, hu, hb3⟩; obtain ⟨ua, ucap, hue, _, _⟩ := isArr_form (freshArr_isArr hu); subst hue)
      obtain ⟨W3, hW3⟩ : ∃ W3, W3 = w3.alloc (.cells #[.int .i64 xop, .string xn, .int .i64 xm, .slice ua cyc.length ucap] 34) := ⟨_, rfl⟩
      rw [← hW3]
      have b3 : Below W2.heap.size W2 W3 := by rw [hW3]; exact hb3.alloc hb3.size _
      have hB3 := below_next hB2 b3
      have r3 : W3.heap[w3.heap.size]? = some (.cells #[.int .i64 xop, .string xn, .int .i64 xm, .slice ua cyc.length ucap] 34 (0, 0)) := by rw [hW3]; exact heap_alloc_new w3 _
      have r2' := keep_below r2 b3 (Nat.le_refl _)
      clear hW3 m0 m1 m2 m3 m4 x0 x1 x2 x3
      obtain ⟨x0, x1, x2, x3⟩ := cells4 r2'
      obtain ⟨m0, m1, m2, m3, m4, _⟩ := KB.out W3 hB3
      go_upto_region 9 with (go_at_call 23; refine (HN.out W3 hB3).mono ?_; rintro e w5 ⟨u', rfl, hu', hb5⟩; obtain ⟨va, vcap, hve, _, _⟩ := isArr_form (freshArr_isArr hu'); subst hve)
      obtain ⟨W5, hW5⟩ : ∃ W5, W5 = w5.alloc (.cells #[.int .i64 xop, .string xn, .int .i64 xm, .slice va cyc.length vcap] 34) := ⟨_, rfl⟩
      rw [← hW5]
      have b5 : Below W3.heap.size W3 W5 := by rw [hW5]; exact hb5.alloc hb5.size _
      have hB5 := below_next hB3 b5
      have r5 : W5.heap[w5.heap.size]? = some (.cells #[.int .i64 xop, .string xn, .int .i64 xm, .slice va cyc.length vcap] 34 (0, 0)) := by rw [hW5]; exact heap_alloc_new w5 _
      have r25 := keep_below r2' b5 (Nat.le_refl _)
      have r35 := keep_below r3 b5 (Nat.le_refl _)
      clear hW5 m0 m1 m2 m3 m4 x0 x1 x2 x3
      obtain ⟨x0, x1, x2, x3⟩ := cells4 r25
      obtain ⟨y0, y1, y2, y3⟩ := cells4 r35
      obtain ⟨z0, z1, z2, z3⟩ := cells4 r5
      go_wp2_with fail
      go_roundw
      case rel => exact ⟨k + 1, by omega, by go_num, hB5⟩
      case measure => simp [intOf]; omega
    · obtain rfl : k = c.instrs.length := by omega
      have ko := keep_below KO.out hB (Nat.le_refl _)
      have hwW : w.heap.size < W1.heap.size := by omega
      have o0 := cell_of_row wr w.heap.size 0 _ _ (0, 0) ko
      have q0 := frozenB ko 0
      go_upto_region 13 with (go_at_call 11; refine (below_any op 256 hop (by decide) _).mono ?_; rintro e w' ⟨rfl, rfl⟩)
      obtain ⟨Ws, hWs⟩ : ∃ Ws, Ws = wr.setCell ⟨w.heap.size, 0, none⟩ (.int .i64 (op % 256)) := ⟨_, rfl⟩
      rw [← hWs]
      have hcs : cpuArg Ws (.slice a0 c.instrs.length p0) (.slice a1 c.res.length p1) (.slice a2 c.irq.length p2) (.slice a3 c.nmi.length p3) c := by
        rw [hWs]; exact cpuArg_below (HSET.out _) (below_set hB _ _) (by simp [World.setCell])
      have ks : Ws.heap[w.heap.size]? = some (.cells #[.int .i64 (op % 256)] 3 (0, 0)) := by rw [hWs]; exact set_heap ko _
      have kcs := keep_below KC.out hB (Nat.le_refl _)
      have kcs' : Ws.heap[s]? = some (.cells #[.string c.name, .slice a0 c.instrs.length p0, .slice a1 c.res.length p1, .slice a2 c.irq.length p2, .slice a3 c.nmi.length p3] 26 (0, 0)) := by
        rw [hWs, set_far (by omega)]; exact kcs
      have hBs : Below w.heap.size w Ws := by rw [hWs]; exact (hBW.trans (hB.mono (by omega))).setCell (Nat.le_refl _) _
      have hzs : Ws.heap.size = wr.heap.size := by rw [hWs]; simp [World.setCell]
      clear hWs o0 q0 ko kcs hBW
      generalize hq : op % 256 = q at *
      have HF := Lib.hid (findT_any c q _ _ _ _ Ws hcs HZ.out)
      unfold gives at HF
      have HI := Lib.hid (fun W' (hb : Below Ws.heap.size Ws W') => isArr_below ins_keeps hcs.1 hb (Nat.le_refl _))
      have hany := isIn_any (opIs q) c.instrs
      have HANY := Lib.hid hany
      generalize isIn (opIs q) c.instrs = F at *
      generalize foundIn (opIs q) c.instrs = Y at *
      obtain ⟨yop, yn, ym, ycy⟩ := Y
      dsimp only at *
      have m0 := cell_of_row Ws s 0 _ _ (0, 0) kcs'
      have m1 := cell_of_row Ws s 1 _ _ (0, 0) kcs'
      have m2 := cell_of_row Ws s 2 _ _ (0, 0) kcs'
      have m3 := cell_of_row Ws s 3 _ _ (0, 0) kcs'
      have m4 := cell_of_row Ws s 4 _ _ (0, 0) kcs'
      have m5 := cell_of_row Ws w.heap.size 0 _ _ (0, 0) ks
      clear hany hcs
      go_upto_region 14 with (go_at_call 22; refine HF.out.mono ?_; rintro e w3 ⟨u, rfl, hu, hb3⟩; obtain ⟨ua, ucap, hue, _, _⟩ := isArr_form (freshArr_isArr hu); subst hue)
      obtain ⟨W3, hW3⟩ : ∃ W3, W3 = w3.alloc (.cells #[.int .i64 yop, .string yn, .int .i64 ym, .slice ua ycy.length ucap] 34) := ⟨_, rfl⟩
      rw [← hW3]
      have b3 : Below Ws.heap.size Ws W3 := by rw [hW3]; exact hb3.alloc hb3.size _
      have kO := keep_below ks b3 (Nat.le_refl _)
      have KO3 := Lib.hid kO
      clear hW3 m0 m1 m2 m3 m4 m5
      have m1 := cell_of_row W3 s 1 _ _ (0, 0) (keep_below kcs' b3 (Nat.le_refl _))
      have HCF := Lib.hid (containsFunc_at 30 #[.pointer (some ⟨w.heap.size, 0, none⟩)] (opIs q) _ c.instrs W3 (HI.out W3 b3) (enters_of Try.func30 (by kernel_rfl) rfl) (fun x cv w' hb hcy => made1_at w.heap.size q x cv w' (keep_below KO3.out hb (Nat.le_refl _)) hcy))
      rw [HANY.out] at HCF
      have tF : (F == F) = true := by simp
      clear kO kcs' ks
      go_wp2_with (go_at_call 29; refine HCF.out.mono ?_; rintro e w4 ⟨rfl, hb4⟩)
      go_ret
      exact ⟨by simp, hBs.trans ((b3.mono (by omega)).trans (hb4.mono (by have := b3.size; omega)))⟩
end Go.Proofs.Ytnkplfimcehnmaa
