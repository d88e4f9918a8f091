/- The contract of package table's Same. -/
import Derived.Test.YtnkplfimcehnmaaTabSame2
namespace Go.Proofs.Ytnkplfimcehnmaa
open Go.RowKit

/-- The program's own comparison of two cycles. -/
theorem sameT_cycle (v u : Value) (b p r b' p' r' : Int) (l l' : List St) (w : World) (h : isArr 4 stepR w v l) (g : isArr 4 stepR w u l') :
    Calls Try.prog 66 #[.agg #[.int .i64 b, .int .i64 p, .int .i64 r, v], .agg #[.int .i64 b', .int .i64 p', .int .i64 r', u]] w fun e w' =>
      e = .returned (.bool (decide ((⟨b, p, r, l⟩ : Cy) = ⟨b', p', r', l'⟩))) ∧ Below w.heap.size w w' := by
  by_cases e1 : b = b'
  · by_cases e2 : p = p'
    · by_cases e3 : r = r'
      · subst e1; subst e2; subst e3
        have eR : decide ((⟨b, p, r, l⟩ : Cy) = ⟨b, p, r, l'⟩) = decide (l = l') := by simp
        rw [eR]
        have hb := below_two w (.cells #[.int .i64 b, .int .i64 p, .int .i64 r, v] 74) (.cells #[.int .i64 b, .int .i64 p, .int .i64 r, u] 74)
        have h' := isArr_below step_keeps h hb (Nat.le_refl _)
        have g' := isArr_below step_keeps g hb (Nat.le_refl _)
        go_enter Try.func66, Try.ntmps66
        go_wp2_with (go_at_call 50; refine (equal_steps v u l l' _ h' g').mono ?_; rintro e w1 ⟨rfl, hb1⟩)
        go_ret
        exact ⟨rfl, hb.trans (hb1.mono hb.size)⟩
      · have t : (r == r') = false := by simpa using e3
        have eR : decide ((⟨b, p, r, l⟩ : Cy) = ⟨b', p', r', l'⟩) = false := by simp [e3]
        rw [eR]
        subst e1; subst e2
        go_enter Try.func66, Try.ntmps66
        go_wp2_with fail
        go_ret
        exact ⟨rfl, below_two _ _ _⟩
    · have t : (p == p') = false := by simpa using e2
      have eR : decide ((⟨b, p, r, l⟩ : Cy) = ⟨b', p', r', l'⟩) = false := by simp [e2]
      rw [eR]
      subst e1
      go_enter Try.func66, Try.ntmps66
      go_wp2_with fail
      go_ret
      exact ⟨rfl, below_two _ _ _⟩
  · have t : (b == b') = false := by simpa using e1
    have eR : decide ((⟨b, p, r, l⟩ : Cy) = ⟨b', p', r', l'⟩) = false := by simp [e1]
    rw [eR]
    go_enter Try.func66, Try.ntmps66
    go_wp2_with fail
    go_ret
    exact ⟨rfl, below_two _ _ _⟩

theorem equalFuncT_cycles (v u : Value) (l m : List Cy) (w : World) (h : isArr 4 cycleR w v l) (g : isArr 4 cycleR w u m) :
    Calls Try.prog 48 #[v, u, .func (.func 66) #[] #[]] w fun e w' => e = .returned (.bool (decide (l = m))) ∧ Below w.heap.size w w' := by
  obtain ⟨a, cap, rfl, _, hform⟩ := isArr_form h
  obtain ⟨a', cap', rfl, _, gform⟩ := isArr_form g
  by_cases hl : l.length = m.length
  · obtain ⟨R, hR⟩ : ∃ R, decide (l = m) = R := ⟨_, rfl⟩
    rw [hR]
    have HR := Lib.hid hR
    have hz : ((l.length : Int) != (m.length : Int)) = false := by simp [hl]
    have HL := Lib.hid hl
    clear hR hl
    go_enter Try.func48, Try.ntmps48
    go_wp2_with fail
    go_loopw [17] (fun i wr => ∃ k : Nat, k ≤ l.length ∧ i = .int .i64 k ∧ l.take k = m.take k ∧ Below w.heap.size w wr) (fun i _ => l.length - (intOf i).toNat)
    case atStart => exact ⟨0, Nat.zero_le _, rfl, rfl, Below.refl _ _⟩
    case round =>
      obtain ⟨k, hk, rfl, hF, hbel⟩ := hrel
      obtain ⟨wo, rfl⟩ : ∃ wo, wo = wr := ⟨_, rfl⟩
      have hsz := hbel.size
      by_cases hlt : k < l.length
      · have hkm : k < m.length := by rw [← HL.out]; exact hlt
        obtain ⟨x, hx, _⟩ := drop_at hlt
        obtain ⟨y, hy, _⟩ := drop_at hkm
        obtain ⟨b, p, r, s⟩ := x
        obtain ⟨b', p', r', s'⟩ := y
        obtain ⟨xb, xo, rfl, hb, hcap, hcap2, cs, _, hcs, sv, rfl, hs⟩ := hform k _ hx
        obtain ⟨yb, yo, rfl, hb', hcap', hcap2', cs', _, hcs', sv', rfl, hs'⟩ := gform k _ hy
        obtain ⟨c0, c1, c2, c3⟩ := four_cells hcs
        obtain ⟨d0, d1, d2, d3⟩ := four_cells hcs'
        rw [← hbel.cell (p := ⟨xb, xo + k * 4, none⟩) hb] at c0
        rw [← hbel.cell (p := ⟨xb, xo + k * 4 + 1, none⟩) hb] at c1
        rw [← hbel.cell (p := ⟨xb, xo + k * 4 + 2, none⟩) hb] at c2
        rw [← hbel.cell (p := ⟨xb, xo + k * 4 + 3, none⟩) hb] at c3
        rw [← hbel.cell (p := ⟨yb, yo + k * 4, none⟩) hb'] at d0
        rw [← hbel.cell (p := ⟨yb, yo + k * 4 + 1, none⟩) hb'] at d1
        rw [← hbel.cell (p := ⟨yb, yo + k * 4 + 2, none⟩) hb'] at d2
        rw [← hbel.cell (p := ⟨yb, yo + k * 4 + 3, none⟩) hb'] at d3
        dsimp only at c0 c1 c2 c3 d0 d1 d2 d3 hs hs'
        clear hcs hcs' hform gform h g
        have ny : yb < wo.heap.size := by omega
        obtain ⟨sa, scap, rfl, _, _⟩ := isArr_form hs
        obtain ⟨sa', scap', rfl, _, _⟩ := isArr_form hs'
        have hb2 := hbel.trans ((below_two wo (.cells #[.int .i64 b, .int .i64 p, .int .i64 r, .slice sa s.length scap] 74) (.cells #[.int .i64 b', .int .i64 p', .int .i64 r', .slice sa' s'.length scap'] 74)).mono hsz)
        have hs2 := isArr_below step_keeps hs hb2 (Nat.le_refl _)
        have hs2' := isArr_below step_keeps hs' hb2 (Nat.le_refl _)
        by_cases e : (⟨b, p, r, s⟩ : Cy) = ⟨b', p', r', s'⟩
        · have ht := take_grow hF hx hy e
          have ed := decide_eq_true e
          clear e hF hx hy HR
          go_wp2_with (go_at_call 66; refine (sameT_cycle _ _ _ _ _ _ _ _ _ _ _ hs2 hs2').mono ?_; rintro e w1 ⟨rfl, hb1⟩; rw [ed])
          go_round
          case rel => exact ⟨k + 1, by omega, by go_num, ht, hb2.trans (hb1.mono hb2.size)⟩
          case measure => simp [intOf]; omega
        · have ed := decide_eq_false e
          have HN := Lib.hid (show R = false by rw [← HR.out]; exact decide_eq_false (at_ne hx hy e))
          clear e hF hx hy HR
          go_wp2_with (go_at_call 66; refine (sameT_cycle _ _ _ _ _ _ _ _ _ _ _ hs2 hs2').mono ?_; rintro e w1 ⟨rfl, hb1⟩; rw [ed])
          go_ret
          exact ⟨by rw [HN.out]; rfl, hb2.trans (hb1.mono hb2.size)⟩
      · obtain rfl : k = l.length := by omega
        have HN := Lib.hid (show R = true by rw [← HR.out]; exact decide_eq_true (take_all HL.out hF))
        clear hF hform gform h g
        go_wp2_with fail
        go_ret
        exact ⟨by rw [HN.out]; rfl, hbel⟩
  · have e : decide (l = m) = false := by simp; intro h; rw [h] at hl; exact hl rfl
    rw [e]
    have hz : ((l.length : Int) != (m.length : Int)) = true := by simp; omega
    go_enter Try.func48, Try.ntmps48
    go_wp2_with fail
    go_ret
    exact ⟨rfl, Below.refl _ _⟩
theorem sameT_cycles (v u : Value) (l m : List Cy) (w : World) (h : isArr 4 cycleR w v l) (g : isArr 4 cycleR w u m) :
    Calls Try.prog 54 #[v, u] w fun e w' => e = .returned (.bool (decide (l = m))) ∧ Below w.heap.size w w' := by
  go_enter Try.func54, Try.ntmps54
  go_wp2_with (go_at_call 48; refine (equalFuncT_cycles v u l m _ h g).mono ?_; rintro e w1 ⟨rfl, hb1⟩)
  go_ret
  exact ⟨rfl, hb1⟩

set_option maxRecDepth 100000 in
/-- The program's own comparison of two instructions. -/
theorem sameT_instr (v u : Value) (o m o' m' : Int) (n n' : ByteArray) (l l' : List Cy) (w : World) (h : isArr 4 cycleR w v l) (g : isArr 4 cycleR w u l') :
    Calls Try.prog 53 #[.agg #[.int .i64 o, .string n, .int .i64 m, v], .agg #[.int .i64 o', .string n', .int .i64 m', u]] w fun e w' =>
      e = .returned (.bool (decide ((⟨o, n, m, l⟩ : In) = ⟨o', n', m', l'⟩))) ∧ Below w.heap.size w w' := by
  by_cases e1 : o = o'
  · by_cases e2 : n = n'
    · by_cases e3 : m = m'
      · subst e1; subst e2; subst e3
        have eR : decide ((⟨o, n, m, l⟩ : In) = ⟨o, n, m, l'⟩) = decide (l = l') := by simp
        rw [eR]
        have hb := below_two w (.cells #[.int .i64 o, .string n, .int .i64 m, v] 34) (.cells #[.int .i64 o, .string n, .int .i64 m, u] 34)
        have h' := isArr_below cycle_keeps h hb (Nat.le_refl _)
        have g' := isArr_below cycle_keeps g hb (Nat.le_refl _)
        go_enter Try.func53, Try.ntmps53
        go_wp2_with (go_at_call 54; refine (sameT_cycles v u l l' _ h' g').mono ?_; rintro e w1 ⟨rfl, hb1⟩)
        go_ret
        exact ⟨rfl, hb.trans (hb1.mono hb.size)⟩
      · have t : (m == m') = false := by simpa using e3
        have eR : decide ((⟨o, n, m, l⟩ : In) = ⟨o', n', m', l'⟩) = false := by simp [e3]
        rw [eR]
        subst e1; subst e2
        go_enter Try.func53, Try.ntmps53
        go_wp2_with fail
        go_ret
        exact ⟨rfl, below_two _ _ _⟩
    · have t : (n.toList == n'.toList) = false := bytes_ne e2
      have eR : decide ((⟨o, n, m, l⟩ : In) = ⟨o', n', m', l'⟩) = false := by simp [e2]
      rw [eR]
      subst e1
      go_enter Try.func53, Try.ntmps53
      go_wp2_with fail
      go_ret
      exact ⟨rfl, below_two _ _ _⟩
  · have t : (o == o') = false := by simpa using e1
    have eR : decide ((⟨o, n, m, l⟩ : In) = ⟨o', n', m', l'⟩) = false := by simp [e1]
    rw [eR]
    go_enter Try.func53, Try.ntmps53
    go_wp2_with fail
    go_ret
    exact ⟨rfl, below_two _ _ _⟩

theorem equalFuncT_instrs (v u : Value) (l m : List In) (w : World) (h : isArr 4 insR w v l) (g : isArr 4 insR w u m) :
    Calls Try.prog 28 #[v, u, .func (.func 53) #[] #[]] w fun e w' => e = .returned (.bool (decide (l = m))) ∧ Below w.heap.size w w' := by
  obtain ⟨a, cap, rfl, _, hform⟩ := isArr_form h
  obtain ⟨a', cap', rfl, _, gform⟩ := isArr_form g
  by_cases hl : l.length = m.length
  · obtain ⟨R, hR⟩ : ∃ R, decide (l = m) = R := ⟨_, rfl⟩
    rw [hR]
    have HR := Lib.hid hR
    have hz : ((l.length : Int) != (m.length : Int)) = false := by simp [hl]
    have HL := Lib.hid hl
    clear hR hl
    go_enter Try.func28, Try.ntmps28
    go_wp2_with fail
    go_loopw [17] (fun i wr => ∃ k : Nat, k ≤ l.length ∧ i = .int .i64 k ∧ l.take k = m.take k ∧ Below w.heap.size w wr) (fun i _ => l.length - (intOf i).toNat)
    case atStart => exact ⟨0, Nat.zero_le _, rfl, rfl, Below.refl _ _⟩
    case round =>
      obtain ⟨k, hk, rfl, hF, hbel⟩ := hrel
      obtain ⟨wo, rfl⟩ : ∃ wo, wo = wr := ⟨_, rfl⟩
      have hsz := hbel.size
      by_cases hlt : k < l.length
      · have hkm : k < m.length := by rw [← HL.out]; exact hlt
        obtain ⟨x, hx, _⟩ := drop_at hlt
        obtain ⟨y, hy, _⟩ := drop_at hkm
        obtain ⟨b, p, r, s⟩ := x
        obtain ⟨b', p', r', s'⟩ := y
        obtain ⟨xb, xo, rfl, hb, hcap, hcap2, cs, _, hcs, sv, rfl, hs, hn⟩ := hform k _ hx
        obtain ⟨yb, yo, rfl, hb', hcap', hcap2', cs', _, hcs', sv', rfl, hs', hn'⟩ := gform k _ hy
        obtain ⟨c0, c1, c2, c3⟩ := four_cells hcs
        obtain ⟨d0, d1, d2, d3⟩ := four_cells hcs'
        rw [← hbel.cell (p := ⟨xb, xo + k * 4, none⟩) hb] at c0
        rw [← hbel.cell (p := ⟨xb, xo + k * 4 + 1, none⟩) hb] at c1
        rw [← hbel.cell (p := ⟨xb, xo + k * 4 + 2, none⟩) hb] at c2
        rw [← hbel.cell (p := ⟨xb, xo + k * 4 + 3, none⟩) hb] at c3
        rw [← hbel.cell (p := ⟨yb, yo + k * 4, none⟩) hb'] at d0
        rw [← hbel.cell (p := ⟨yb, yo + k * 4 + 1, none⟩) hb'] at d1
        rw [← hbel.cell (p := ⟨yb, yo + k * 4 + 2, none⟩) hb'] at d2
        rw [← hbel.cell (p := ⟨yb, yo + k * 4 + 3, none⟩) hb'] at d3
        dsimp only at c0 c1 c2 c3 d0 d1 d2 d3 hs hs'
        clear hcs hcs' hform gform h g
        have ny : yb < wo.heap.size := by omega
        obtain ⟨sa, scap, rfl, _, _⟩ := isArr_form hs
        obtain ⟨sa', scap', rfl, _, _⟩ := isArr_form hs'
        have hb2 := hbel.trans ((below_two wo (.cells #[.int .i64 b, .string p, .int .i64 r, .slice sa s.length scap] 34) (.cells #[.int .i64 b', .string p', .int .i64 r', .slice sa' s'.length scap'] 34)).mono hsz)
        have hs2 := isArr_below cycle_keeps hs hb2 (Nat.le_refl _)
        have hs2' := isArr_below cycle_keeps hs' hb2 (Nat.le_refl _)
        by_cases e : (⟨b, p, r, s⟩ : In) = ⟨b', p', r', s'⟩
        · have ht := take_grow hF hx hy e
          have ed := decide_eq_true e
          clear e hF hx hy HR
          go_wp2_with (go_at_call 53; refine (sameT_instr _ _ _ _ _ _ _ _ _ _ _ hs2 hs2').mono ?_; rintro e w1 ⟨rfl, hb1⟩; rw [ed])
          go_round
          case rel => exact ⟨k + 1, by omega, by go_num, ht, hb2.trans (hb1.mono hb2.size)⟩
          case measure => simp [intOf]; omega
        · have ed := decide_eq_false e
          have HN := Lib.hid (show R = false by rw [← HR.out]; exact decide_eq_false (at_ne hx hy e))
          clear e hF hx hy HR
          go_wp2_with (go_at_call 53; refine (sameT_instr _ _ _ _ _ _ _ _ _ _ _ hs2 hs2').mono ?_; rintro e w1 ⟨rfl, hb1⟩; rw [ed])
          go_ret
          exact ⟨by rw [HN.out]; rfl, hb2.trans (hb1.mono hb2.size)⟩
      · obtain rfl : k = l.length := by omega
        have HN := Lib.hid (show R = true by rw [← HR.out]; exact decide_eq_true (take_all HL.out hF))
        clear hF hform gform h g
        go_wp2_with fail
        go_ret
        exact ⟨by rw [HN.out]; rfl, hbel⟩
  · have e : decide (l = m) = false := by simp; intro h; rw [h] at hl; exact hl rfl
    rw [e]
    have hz : ((l.length : Int) != (m.length : Int)) = true := by simp; omega
    go_enter Try.func28, Try.ntmps28
    go_wp2_with fail
    go_ret
    exact ⟨rfl, Below.refl _ _⟩

theorem cp_eq (a b : Cp) : decide (a = b) = (decide (a.name = b.name) && decide (a.instrs = b.instrs) && decide (a.res = b.res) && decide (a.irq = b.irq) && decide (a.nmi = b.nmi)) := by
  obtain ⟨n, l, r, i, m⟩ := a
  obtain ⟨n', l', r', i', m'⟩ := b
  simp [Bool.and_assoc]

theorem cp_two {w : World} {t : TypeId} {x0 x1 x2 x3 x4 y0 y1 y2 y3 y4 : Value} {w' : World}
    (hb : Below ((w.alloc (.cells #[x0, x1, x2, x3, x4] t)).alloc (.cells #[y0, y1, y2, y3, y4] t)).heap.size ((w.alloc (.cells #[x0, x1, x2, x3, x4] t)).alloc (.cells #[y0, y1, y2, y3, y4] t)) w') :
    w'.cell? ⟨w.heap.size, 2, none⟩ = some x2 ∧ w'.cell? ⟨w.heap.size, 3, none⟩ = some x3 ∧ w'.cell? ⟨w.heap.size, 4, none⟩ = some x4 ∧
    w'.cell? ⟨w.heap.size + 1, 2, none⟩ = some y2 ∧ w'.cell? ⟨w.heap.size + 1, 3, none⟩ = some y3 ∧ w'.cell? ⟨w.heap.size + 1, 4, none⟩ = some y4 := by
  have kA := box_alloc (p := .cells #[y0, y1, y2, y3, y4] t) (heap_alloc_new w (.cells #[x0, x1, x2, x3, x4] t))
  have kB := heap_alloc_new (w.alloc (.cells #[x0, x1, x2, x3, x4] t)) (.cells #[y0, y1, y2, y3, y4] t)
  rw [World.size_alloc] at kB
  have k := keep_below kA hb (Nat.le_refl _)
  have k' := keep_below kB hb (Nat.le_refl _)
  exact ⟨cell_of_row w' _ 2 _ t (0, 0) k, cell_of_row w' _ 3 _ t (0, 0) k, cell_of_row w' _ 4 _ t (0, 0) k, cell_of_row w' _ 2 _ t (0, 0) k', cell_of_row w' _ 3 _ t (0, 0) k', cell_of_row w' _ 4 _ t (0, 0) k'⟩

set_option maxRecDepth 100000 in
set_option maxHeartbeats 2000000 in
theorem same_any (a b : Cp) (p0 p1 p2 p3 q0 q1 q2 q3 : Value) (w : World) (h : cpuArg w p0 p1 p2 p3 a) (g : cpuArg w q0 q1 q2 q3 b) :
    Calls Try.prog 27 #[.agg #[.string a.name, p0, p1, p2, p3], .agg #[.string b.name, q0, q1, q2, q3]] w fun e w' => e = .returned (.bool (decide (a = b))) ∧ Below w.heap.size w w' := by
  obtain ⟨n, la, ra, ia, ma⟩ := a
  obtain ⟨n', lb, rb, ib, mb⟩ := b
  dsimp only
  obtain ⟨R, hR⟩ : ∃ R, decide ((⟨n, la, ra, ia, ma⟩ : Cp) = ⟨n', lb, rb, ib, mb⟩) = R := ⟨_, rfl⟩
  rw [hR]
  rw [cp_eq] at hR
  dsimp only at hR
  obtain ⟨w0, hw0⟩ : ∃ w0, w0 = (w.alloc (.cells #[.string n, p0, p1, p2, p3] 26)).alloc (.cells #[.string n', q0, q1, q2, q3] 26) := ⟨_, rfl⟩
  have hbb : Below w.heap.size w w0 := by rw [hw0]; exact below_two _ _ _
  have h0 := cpuArg_below h hbb (Nat.le_refl _)
  have g0 := cpuArg_below g hbb (Nat.le_refl _)
  have HC := Lib.hid (fun (w' : World) (hb : Below w0.heap.size w0 w') => cp_two (by rw [hw0] at hb; exact hb))
  have HW := Lib.hid hw0
  by_cases e1 : n = n'
  · rw [decide_eq_true e1, Bool.true_and] at hR
    subst e1
    cases e2 : decide (la = lb) <;> cases e3 : decide (ra = rb) <;> cases e4 : decide (ia = ib) <;> cases e5 : decide (ma = mb) <;> rw [e2, e3, e4, e5] at hR <;> subst hR
    all_goals
      clear hw0
      go_enter Try.func27, Try.ntmps27
      go_wp2_with (first
        | (go_at_call 28; rw [← HW.out]; refine (equalFuncT_instrs _ _ la lb _ h0.1 g0.1).mono ?_; rintro e w1 ⟨rfl, hb1⟩; rw [e2]; obtain ⟨k2, k3, k4, j2, j3, j4⟩ := HC.out _ hb1)
        | (go_at_call_of 54 p1; refine (sameT_cycles _ _ ra rb _ (isArr_below cycle_keeps h0.2.1 hb1 (Nat.le_refl _)) (isArr_below cycle_keeps g0.2.1 hb1 (Nat.le_refl _))).mono ?_; rintro e w2 ⟨rfl, hb2⟩; rw [e3]; have B2 := below_next hb1 hb2; obtain ⟨k2, k3, k4, j2, j3, j4⟩ := HC.out _ B2)
        | (go_at_call_of 54 p2; refine (sameT_cycles _ _ ia ib _ (isArr_below cycle_keeps h0.2.2.1 B2 (Nat.le_refl _)) (isArr_below cycle_keeps g0.2.2.1 B2 (Nat.le_refl _))).mono ?_; rintro e w3 ⟨rfl, hb3⟩; rw [e4]; have B3 := below_next B2 hb3; obtain ⟨k2, k3, k4, j2, j3, j4⟩ := HC.out _ B3)
        | (go_at_call_of 54 p3; refine (sameT_cycles _ _ ma mb _ (isArr_below cycle_keeps h0.2.2.2.1 B3 (Nat.le_refl _)) (isArr_below cycle_keeps g0.2.2.2.1 B3 (Nat.le_refl _))).mono ?_; rintro e w4 ⟨rfl, hb4⟩; rw [e5]; have B4 := below_next B3 hb4))
      go_ret
      exact ⟨rfl, hbb.trans (Below.mono (by first | exact B4 | exact B3 | exact B2 | exact hb1) hbb.size)⟩
  · rw [decide_eq_false e1, Bool.false_and, Bool.false_and, Bool.false_and, Bool.false_and] at hR
    subst hR
    have t : (n.toList == n'.toList) = false := bytes_ne e1
    go_enter Try.func27, Try.ntmps27
    go_wp2_with fail
    go_ret
    exact ⟨rfl, below_two _ _ _⟩
end Go.Proofs.Ytnkplfimcehnmaa
