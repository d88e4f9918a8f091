/- Instructions that are compared. -/
import Derived.Test.YtnkplfimcehnmaaTabSame
namespace Go.Proofs.Ytnkplfimcehnmaa
open Go.RowKit

deriving instance DecidableEq for Cp

theorem bytes_ne {n m : ByteArray} (h : n ≠ m) : (n.toList == m.toList) = false := by
  rw [ByteArray.toList_eq, ByteArray.toList_eq]
  simp only [beq_eq_false_iff_ne, ne_eq]
  intro e
  obtain ⟨⟨x⟩⟩ := n
  obtain ⟨⟨y⟩⟩ := m
  exact h (by simpa using e)

set_option maxRecDepth 100000 in
/-- The law's own comparison of two instructions. -/
theorem same_instr (v u : Value) (o m o' m' : Int) (n n' : ByteArray) (l l' : List Cy) (w : World) (h : isArr 4 cycleR w v l) (g : isArr 4 cycleR w u l') :
    Calls Try.prog 24 #[.agg #[.int .i64 o, .string n, .int .i64 m, v], .agg #[.int .i64 o', .string n', .int .i64 m', u]] w fun e w' =>
      e = .returned (.bool (decide ((⟨o, n, m, l⟩ : In) = ⟨o', n', m', l'⟩))) ∧ Below w.heap.size w w' := by
  by_cases e1 : o = o'
  · by_cases e2 : n = n'
    · by_cases e3 : m = m'
      · subst e1; subst e2; subst e3
        have eR : decide ((⟨o, n, m, l⟩ : In) = ⟨o, n, m, l'⟩) = decide (l = l') := by simp
        rw [eR]
        have hb := below_two w (.cells #[.int .i64 o, .string n, .int .i64 m, v] 34) (.cells #[.int .i64 o, .string n, .int .i64 m, u] 34)
        have h' := isArr_below cycle_keeps h hb (Nat.le_refl _)
        have g' := isArr_below cycle_keeps g hb (Nat.le_refl _)
        go_enter Try.func24, Try.ntmps24
        go_wp2_with (go_at_call 48; refine (equalFunc_cycles v u l l' _ h' g').mono ?_; rintro e w1 ⟨rfl, hb1⟩)
        go_ret
        exact ⟨rfl, hb.trans (hb1.mono hb.size)⟩
      · have t : (m == m') = false := by simpa using e3
        have eR : decide ((⟨o, n, m, l⟩ : In) = ⟨o', n', m', l'⟩) = false := by simp [e3]
        rw [eR]
        subst e1; subst e2
        go_enter Try.func24, Try.ntmps24
        go_wp2_with fail
        go_ret
        exact ⟨rfl, below_two _ _ _⟩
    · have t : (n.toList == n'.toList) = false := bytes_ne e2
      have eR : decide ((⟨o, n, m, l⟩ : In) = ⟨o', n', m', l'⟩) = false := by simp [e2]
      rw [eR]
      subst e1
      go_enter Try.func24, Try.ntmps24
      go_wp2_with fail
      go_ret
      exact ⟨rfl, below_two _ _ _⟩
  · have t : (o == o') = false := by simpa using e1
    have eR : decide ((⟨o, n, m, l⟩ : In) = ⟨o', n', m', l'⟩) = false := by simp [e1]
    rw [eR]
    go_enter Try.func24, Try.ntmps24
    go_wp2_with fail
    go_ret
    exact ⟨rfl, below_two _ _ _⟩

theorem equalFunc_instrs (v u : Value) (l m : List In) (w : World) (h : isArr 4 insR w v l) (g : isArr 4 insR w u m) :
    Calls Try.prog 28 #[v, u, .func (.func 24) #[] #[]] w fun e w' => e = .returned (.bool (decide (l = m))) ∧ Below w.heap.size w w' := by
  obtain ⟨a, cap, rfl, _, hform⟩ := isArr_form h
  obtain ⟨a', cap', rfl, _, gform⟩ := isArr_form g
  by_cases hl : l.length = m.length
  · obtain ⟨R, hR⟩ : ∃ R, decide (l = m) = R := ⟨_, rfl⟩
    rw [hR]
    have HR := Lib.hid hR
    have hz : ((l.length : Int) != (m.length : Int)) = false := by simp [hl]
    have HL := Lib.hid hl
    clear hR hl
    go_enter Try.func28, Try.ntmps28
    go_wp2_with fail
    go_loopw [17] (fun i wr => ∃ k : Nat, k ≤ l.length ∧ i = .int .i64 k ∧ l.take k = m.take k ∧ Below w.heap.size w wr) (fun i _ => l.length - (intOf i).toNat)
    case atStart => exact ⟨0, Nat.zero_le _, rfl, rfl, Below.refl _ _⟩
    case round =>
      obtain ⟨k, hk, rfl, hF, hbel⟩ := hrel
      obtain ⟨wo, rfl⟩ : ∃ wo, wo = wr := ⟨_, rfl⟩
      have hsz := hbel.size
      by_cases hlt : k < l.length
      · have hkm : k < m.length := by rw [← HL.out]; exact hlt
        obtain ⟨x, hx, _⟩ := drop_at hlt
        obtain ⟨y, hy, _⟩ := drop_at hkm
        obtain ⟨b, p, r, s⟩ := x
        obtain ⟨b', p', r', s'⟩ := y
        obtain ⟨xb, xo, rfl, hb, hcap, hcap2, cs, _, hcs, sv, rfl, hs, hn⟩ := hform k _ hx
        obtain ⟨yb, yo, rfl, hb', hcap', hcap2', cs', _, hcs', sv', rfl, hs', hn'⟩ := gform k _ hy
        obtain ⟨c0, c1, c2, c3⟩ := four_cells hcs
        obtain ⟨d0, d1, d2, d3⟩ := four_cells hcs'
        rw [← hbel.cell (p := ⟨xb, xo + k * 4, none⟩) hb] at c0
        rw [← hbel.cell (p := ⟨xb, xo + k * 4 + 1, none⟩) hb] at c1
        rw [← hbel.cell (p := ⟨xb, xo + k * 4 + 2, none⟩) hb] at c2
        rw [← hbel.cell (p := ⟨xb, xo + k * 4 + 3, none⟩) hb] at c3
        rw [← hbel.cell (p := ⟨yb, yo + k * 4, none⟩) hb'] at d0
        rw [← hbel.cell (p := ⟨yb, yo + k * 4 + 1, none⟩) hb'] at d1
        rw [← hbel.cell (p := ⟨yb, yo + k * 4 + 2, none⟩) hb'] at d2
        rw [← hbel.cell (p := ⟨yb, yo + k * 4 + 3, none⟩) hb'] at d3
        dsimp only at c0 c1 c2 c3 d0 d1 d2 d3 hs hs'
        clear hcs hcs' hform gform h g
        have ny : yb < wo.heap.size := by omega
        obtain ⟨sa, scap, rfl, _, _⟩ := isArr_form hs
        obtain ⟨sa', scap', rfl, _, _⟩ := isArr_form hs'
        have hb2 := hbel.trans ((below_two wo (.cells #[.int .i64 b, .string p, .int .i64 r, .slice sa s.length scap] 34) (.cells #[.int .i64 b', .string p', .int .i64 r', .slice sa' s'.length scap'] 34)).mono hsz)
        have hs2 := isArr_below cycle_keeps hs hb2 (Nat.le_refl _)
        have hs2' := isArr_below cycle_keeps hs' hb2 (Nat.le_refl _)
        by_cases e : (⟨b, p, r, s⟩ : In) = ⟨b', p', r', s'⟩
        · have ht := take_grow hF hx hy e
          have ed := decide_eq_true e
          clear e hF hx hy HR
          go_wp2_with (go_at_call 24; refine (same_instr _ _ _ _ _ _ _ _ _ _ _ hs2 hs2').mono ?_; rintro e w1 ⟨rfl, hb1⟩; rw [ed])
          go_round
          case rel => exact ⟨k + 1, by omega, by go_num, ht, hb2.trans (hb1.mono hb2.size)⟩
          case measure => simp [intOf]; omega
        · have ed := decide_eq_false e
          have HN := Lib.hid (show R = false by rw [← HR.out]; exact decide_eq_false (at_ne hx hy e))
          clear e hF hx hy HR
          go_wp2_with (go_at_call 24; refine (same_instr _ _ _ _ _ _ _ _ _ _ _ hs2 hs2').mono ?_; rintro e w1 ⟨rfl, hb1⟩; rw [ed])
          go_ret
          exact ⟨by rw [HN.out]; rfl, hb2.trans (hb1.mono hb2.size)⟩
      · obtain rfl : k = l.length := by omega
        have HN := Lib.hid (show R = true by rw [← HR.out]; exact decide_eq_true (take_all HL.out hF))
        clear hF hform gform h g
        go_wp2_with fail
        go_ret
        exact ⟨by rw [HN.out]; rfl, hbel⟩
  · have e : decide (l = m) = false := by simp; intro h; rw [h] at hl; exact hl rfl
    rw [e]
    have hz : ((l.length : Int) != (m.length : Int)) = true := by simp; omega
    go_enter Try.func28, Try.ntmps28
    go_wp2_with fail
    go_ret
    exact ⟨rfl, Below.refl _ _⟩
end Go.Proofs.Ytnkplfimcehnmaa
