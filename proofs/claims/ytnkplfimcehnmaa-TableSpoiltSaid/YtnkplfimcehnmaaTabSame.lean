/- Descriptions that are compared: steps, cycles, instructions. -/
import Derived.Test.YtnkplfimcehnmaaTabOpen
import Derived.Laws.StructEq
namespace Go.Proofs.Ytnkplfimcehnmaa
open Go.RowKit

deriving instance DecidableEq for St
deriving instance DecidableEq for Cy
deriving instance DecidableEq for In

theorem take_grow {α : Type} {l m : List α} {k : Nat} {x y : α} (h : l.take k = m.take k) (hx : l[k]? = some x) (hy : m[k]? = some y) (e : x = y) : l.take (k + 1) = m.take (k + 1) := by
  rw [take_next hx, take_next hy, h, e]
theorem take_all {α : Type} {l m : List α} (hl : l.length = m.length) (h : l.take l.length = m.take l.length) : l = m := by
  rw [List.take_length, hl, List.take_length] at h; exact h
theorem at_ne {α : Type} {l m : List α} {k : Nat} {x y : α} (hx : l[k]? = some x) (hy : m[k]? = some y) (e : x ≠ y) : l ≠ m := fun h => by
  subst h; rw [hx] at hy; exact e (Option.some.inj hy)

def stepS (d t f n d' t' f' n' : Int) : Bool := decide ((⟨d, t, f, n⟩ : St) = ⟨d', t', f', n'⟩)
/-- How the program compares two steps. -/
theorem step_cmp (d t f n d' t' f' n' : Int) (w : World) : (Op.equalIn 10000 81 (.agg #[.int .i64 d, .int .i64 t, .int .i64 f, .int .i64 n]) (.agg #[.int .i64 d', .int .i64 t', .int .i64 f', .int .i64 n'])).run Try.prog w = .ok (stepS d t f n d' t' f' n') w := by
  have hf : Try.prog.fieldsOf 81 = #[⟨"Do", 3, 0, false, "", "", 0⟩, ⟨"To", 3, 1, false, "", "", 8⟩, ⟨"From", 3, 2, false, "", "", 16⟩, ⟨"N", 3, 3, false, "", "", 24⟩] := by unfold Program.fieldsOf; rw [Try.underlying81]
  have h1 : Try.prog.cellsOf 3 = 1 := by kernel_rfl
  rw [run_equalIn_struct _ _ _ _ _ (by rw [hf]; exact Try.underlying81) Try.stoodInHeld81, hf]
  simp only [Op.eqFields]
  unfold stepS
  simp [part, run_equalIn_int _ _ _ _ _ _ _ Try.underlying3]
  by_cases e1 : d = d' <;> by_cases e2 : t = t' <;> by_cases e3 : f = f' <;> by_cases e4 : n = n' <;> simp [e1, e2, e3, e4]
theorem step_eql (d t f n d' t' f' n' : Int) (w : World) : (binOp .eql 81 (.agg #[.int .i64 d, .int .i64 t, .int .i64 f, .int .i64 n]) (.agg #[.int .i64 d', .int .i64 t', .int .i64 f', .int .i64 n'])).run Try.prog w = .ok (.bool (stepS d t f n d' t' f' n')) w := by
  rw [run_eql_struct, step_cmp]; rfl
theorem step_neq (d t f n d' t' f' n' : Int) (w : World) : (binOp .neq 81 (.agg #[.int .i64 d, .int .i64 t, .int .i64 f, .int .i64 n]) (.agg #[.int .i64 d', .int .i64 t', .int .i64 f', .int .i64 n'])).run Try.prog w = .ok (.bool (!(stepS d t f n d' t' f' n'))) w := by
  rw [run_neq_struct, step_cmp]; rfl

attribute [local go_sem ↓] step_eql step_neq in
theorem equal_steps (v u : Value) (l m : List St) (w : World) (h : isArr 4 stepR w v l) (g : isArr 4 stepR w u m) :
    Calls Try.prog 50 #[v, u] w fun e w' => e = .returned (.bool (decide (l = m))) ∧ Below w.heap.size w w' := by
  obtain ⟨a, cap, rfl, _, hform⟩ := isArr_form h
  obtain ⟨a', cap', rfl, _, gform⟩ := isArr_form g
  by_cases hl : l.length = m.length
  · obtain ⟨R, hR⟩ : ∃ R, decide (l = m) = R := ⟨_, rfl⟩
    rw [hR]
    have HR := Lib.hid hR
    have hz : ((l.length : Int) != (m.length : Int)) = false := by simp [hl]
    have HL := Lib.hid hl
    clear hR hl
    go_enter Try.func50, Try.ntmps50
    go_wp2_with fail
    go_loopw [13] (fun i wr => ∃ k : Nat, k ≤ l.length ∧ i = .int .i64 k ∧ l.take k = m.take k ∧ Qt w wr) (fun i _ => l.length - (intOf i).toNat)
    case atStart => exact ⟨0, Nat.zero_le _, rfl, rfl, Qt.refl _⟩
    case round =>
      obtain ⟨k, hk, rfl, hF, hq⟩ := hrel
      obtain ⟨wo, rfl⟩ : ∃ wo, wo = wr := ⟨_, rfl⟩
      by_cases hlt : k < l.length
      · obtain ⟨x, hx, _⟩ := drop_at hlt
        have hkm : k < m.length := by rw [← HL.out]; exact hlt
        obtain ⟨y, hy, _⟩ := drop_at hkm
        obtain ⟨d, t, f, n⟩ := x
        obtain ⟨d', t', f', n'⟩ := y
        obtain ⟨b, off, rfl, hb, hcap, hcap2, cs, _, hcs, rfl⟩ := hform k _ hx
        obtain ⟨b', off', rfl, hb', hcap', hcap2', cs', _, hcs', rfl⟩ := gform k _ hy
        obtain ⟨c0, c1, c2, c3⟩ := four_cells hcs
        obtain ⟨d0, d1, d2, d3⟩ := four_cells hcs'
        rw [← hq.cell] at c0 c1 c2 c3 d0 d1 d2 d3
        clear hcs hcs' hform gform h g
        dsimp only at c0 c1 c2 c3 d0 d1 d2 d3
        by_cases e : (⟨d, t, f, n⟩ : St) = ⟨d', t', f', n'⟩
        · have ht := take_grow hF hx hy e
          have ed : stepS d t f n d' t' f' n' = true := by unfold stepS; simpa using e
          clear e hF hx hy HR
          go_wp2_with fail
          go_quiet (fail)
          go_wp2_with fail
          go_round
          case rel => exact ⟨k + 1, by omega, by go_num, ht, hq.drewN _⟩
          case measure => simp [intOf]; omega
        · have ed : stepS d t f n d' t' f' n' = false := by unfold stepS; simpa using e
          have HN := Lib.hid (show R = false by rw [← HR.out]; exact decide_eq_false (at_ne hx hy e))
          clear e hF hx hy HR
          go_wp2_with fail
          go_quiet (fail)
          go_wp2_with fail
          go_ret
          exact ⟨by rw [HN.out]; rfl, (hq.drewN _).below _⟩
      · obtain rfl : k = l.length := by omega
        have HN := Lib.hid (show R = true by rw [← HR.out]; exact decide_eq_true (take_all HL.out hF))
        clear hF hform gform h g
        go_wp2_with fail
        go_ret
        exact ⟨by rw [HN.out]; rfl, hq.below _⟩
  · have e : decide (l = m) = false := by simp; intro h; rw [h] at hl; exact hl rfl
    rw [e]
    have hz : ((l.length : Int) != (m.length : Int)) = true := by simp; omega
    go_enter Try.func50, Try.ntmps50
    go_wp2_with fail
    go_ret
    exact ⟨rfl, Below.refl _ _⟩

theorem below_two (w : World) (o p : Obj) : Below w.heap.size w ((w.alloc o).alloc p) := ((Below.refl _ w).alloc (Nat.le_refl _) o).alloc (by simp) p

/-- The law's own comparison of two cycles. -/
theorem same_cycle (v u : Value) (b p r b' p' r' : Int) (l l' : List St) (w : World) (h : isArr 4 stepR w v l) (g : isArr 4 stepR w u l') :
    Calls Try.prog 49 #[.agg #[.int .i64 b, .int .i64 p, .int .i64 r, v], .agg #[.int .i64 b', .int .i64 p', .int .i64 r', u]] w fun e w' =>
      e = .returned (.bool (decide ((⟨b, p, r, l⟩ : Cy) = ⟨b', p', r', l'⟩))) ∧ Below w.heap.size w w' := by
  by_cases e1 : b = b'
  · by_cases e2 : p = p'
    · by_cases e3 : r = r'
      · subst e1; subst e2; subst e3
        have eR : decide ((⟨b, p, r, l⟩ : Cy) = ⟨b, p, r, l'⟩) = decide (l = l') := by simp
        rw [eR]
        have hb := below_two w (.cells #[.int .i64 b, .int .i64 p, .int .i64 r, v] 74) (.cells #[.int .i64 b, .int .i64 p, .int .i64 r, u] 74)
        have h' := isArr_below step_keeps h hb (Nat.le_refl _)
        have g' := isArr_below step_keeps g hb (Nat.le_refl _)
        go_enter Try.func49, Try.ntmps49
        go_wp2_with (go_at_call 50; refine (equal_steps v u l l' _ h' g').mono ?_; rintro e w1 ⟨rfl, hb1⟩)
        go_ret
        exact ⟨rfl, hb.trans (hb1.mono hb.size)⟩
      · have t : (r == r') = false := by simpa using e3
        have eR : decide ((⟨b, p, r, l⟩ : Cy) = ⟨b', p', r', l'⟩) = false := by simp [e3]
        rw [eR]
        subst e1; subst e2
        go_enter Try.func49, Try.ntmps49
        go_wp2_with fail
        go_ret
        exact ⟨rfl, below_two _ _ _⟩
    · have t : (p == p') = false := by simpa using e2
      have eR : decide ((⟨b, p, r, l⟩ : Cy) = ⟨b', p', r', l'⟩) = false := by simp [e2]
      rw [eR]
      subst e1
      go_enter Try.func49, Try.ntmps49
      go_wp2_with fail
      go_ret
      exact ⟨rfl, below_two _ _ _⟩
  · have t : (b == b') = false := by simpa using e1
    have eR : decide ((⟨b, p, r, l⟩ : Cy) = ⟨b', p', r', l'⟩) = false := by simp [e1]
    rw [eR]
    go_enter Try.func49, Try.ntmps49
    go_wp2_with fail
    go_ret
    exact ⟨rfl, below_two _ _ _⟩

theorem equalFunc_cycles (v u : Value) (l m : List Cy) (w : World) (h : isArr 4 cycleR w v l) (g : isArr 4 cycleR w u m) :
    Calls Try.prog 48 #[v, u, .func (.func 49) #[] #[]] w fun e w' => e = .returned (.bool (decide (l = m))) ∧ Below w.heap.size w w' := by
  obtain ⟨a, cap, rfl, _, hform⟩ := isArr_form h
  obtain ⟨a', cap', rfl, _, gform⟩ := isArr_form g
  by_cases hl : l.length = m.length
  · obtain ⟨R, hR⟩ : ∃ R, decide (l = m) = R := ⟨_, rfl⟩
    rw [hR]
    have HR := Lib.hid hR
    have hz : ((l.length : Int) != (m.length : Int)) = false := by simp [hl]
    have HL := Lib.hid hl
    clear hR hl
    go_enter Try.func48, Try.ntmps48
    go_wp2_with fail
    go_loopw [17] (fun i wr => ∃ k : Nat, k ≤ l.length ∧ i = .int .i64 k ∧ l.take k = m.take k ∧ Below w.heap.size w wr) (fun i _ => l.length - (intOf i).toNat)
    case atStart => exact ⟨0, Nat.zero_le _, rfl, rfl, Below.refl _ _⟩
    case round =>
      obtain ⟨k, hk, rfl, hF, hbel⟩ := hrel
      obtain ⟨wo, rfl⟩ : ∃ wo, wo = wr := ⟨_, rfl⟩
      have hsz := hbel.size
      by_cases hlt : k < l.length
      · have hkm : k < m.length := by rw [← HL.out]; exact hlt
        obtain ⟨x, hx, _⟩ := drop_at hlt
        obtain ⟨y, hy, _⟩ := drop_at hkm
        obtain ⟨b, p, r, s⟩ := x
        obtain ⟨b', p', r', s'⟩ := y
        obtain ⟨xb, xo, rfl, hb, hcap, hcap2, cs, _, hcs, sv, rfl, hs⟩ := hform k _ hx
        obtain ⟨yb, yo, rfl, hb', hcap', hcap2', cs', _, hcs', sv', rfl, hs'⟩ := gform k _ hy
        obtain ⟨c0, c1, c2, c3⟩ := four_cells hcs
        obtain ⟨d0, d1, d2, d3⟩ := four_cells hcs'
        rw [← hbel.cell (p := ⟨xb, xo + k * 4, none⟩) hb] at c0
        rw [← hbel.cell (p := ⟨xb, xo + k * 4 + 1, none⟩) hb] at c1
        rw [← hbel.cell (p := ⟨xb, xo + k * 4 + 2, none⟩) hb] at c2
        rw [← hbel.cell (p := ⟨xb, xo + k * 4 + 3, none⟩) hb] at c3
        rw [← hbel.cell (p := ⟨yb, yo + k * 4, none⟩) hb'] at d0
        rw [← hbel.cell (p := ⟨yb, yo + k * 4 + 1, none⟩) hb'] at d1
        rw [← hbel.cell (p := ⟨yb, yo + k * 4 + 2, none⟩) hb'] at d2
        rw [← hbel.cell (p := ⟨yb, yo + k * 4 + 3, none⟩) hb'] at d3
        dsimp only at c0 c1 c2 c3 d0 d1 d2 d3 hs hs'
        clear hcs hcs' hform gform h g
        have ny : yb < wo.heap.size := by omega
        obtain ⟨sa, scap, rfl, _, _⟩ := isArr_form hs
        obtain ⟨sa', scap', rfl, _, _⟩ := isArr_form hs'
        have hb2 := hbel.trans ((below_two wo (.cells #[.int .i64 b, .int .i64 p, .int .i64 r, .slice sa s.length scap] 74) (.cells #[.int .i64 b', .int .i64 p', .int .i64 r', .slice sa' s'.length scap'] 74)).mono hsz)
        have hs2 := isArr_below step_keeps hs hb2 (Nat.le_refl _)
        have hs2' := isArr_below step_keeps hs' hb2 (Nat.le_refl _)
        by_cases e : (⟨b, p, r, s⟩ : Cy) = ⟨b', p', r', s'⟩
        · have ht := take_grow hF hx hy e
          have ed := decide_eq_true e
          clear e hF hx hy HR
          go_wp2_with (go_at_call 49; refine (same_cycle _ _ _ _ _ _ _ _ _ _ _ hs2 hs2').mono ?_; rintro e w1 ⟨rfl, hb1⟩; rw [ed])
          go_round
          case rel => exact ⟨k + 1, by omega, by go_num, ht, hb2.trans (hb1.mono hb2.size)⟩
          case measure => simp [intOf]; omega
        · have ed := decide_eq_false e
          have HN := Lib.hid (show R = false by rw [← HR.out]; exact decide_eq_false (at_ne hx hy e))
          clear e hF hx hy HR
          go_wp2_with (go_at_call 49; refine (same_cycle _ _ _ _ _ _ _ _ _ _ _ hs2 hs2').mono ?_; rintro e w1 ⟨rfl, hb1⟩; rw [ed])
          go_ret
          exact ⟨by rw [HN.out]; rfl, hb2.trans (hb1.mono hb2.size)⟩
      · obtain rfl : k = l.length := by omega
        have HN := Lib.hid (show R = true by rw [← HR.out]; exact decide_eq_true (take_all HL.out hF))
        clear hF hform gform h g
        go_wp2_with fail
        go_ret
        exact ⟨by rw [HN.out]; rfl, hbel⟩
  · have e : decide (l = m) = false := by simp; intro h; rw [h] at hl; exact hl rfl
    rw [e]
    have hz : ((l.length : Int) != (m.length : Int)) = true := by simp; omega
    go_enter Try.func48, Try.ntmps48
    go_wp2_with fail
    go_ret
    exact ⟨rfl, Below.refl _ _⟩
end Go.Proofs.Ytnkplfimcehnmaa
