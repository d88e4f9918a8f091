/- Contracts of package pin's functions on single lines, and of the reference's. -/
import Derived.Test.YtgiociijhpimoaaChecked
import Derived.Test.YtgiociijhpimoaaPinMath
import Derived.Test.YtgiociijhpimoaaRefArgs
namespace Go.Proofs.Ytgiociijhpimoaa
open Go.RowKit

theorem ret_bool2 {a b c d : Bool} (h : a = b) (g : c = d) : Ending.returned (.tuple #[.bool a, .bool c]) = .returned (.tuple #[.bool b, .bool d]) := by rw [h, g]

theorem value_any (n : Int) (w : World) :
    Calls Try.prog 30 #[.int .i64 n] w fun e w' => e = .returned (.int .i64 (ln n)) ∧ w = w' := by
  go_enter Try.func30, Try.ntmps30
  go_wp2
  all_goals
    go_ret
    refine ⟨ret_int ?_, rfl⟩
    unfold ln
    split <;> omega

theorem join_any (a b : Int) (w : World) :
    Calls Try.prog 12 #[.int .i64 a, .int .i64 b] w fun e w' => e = .returned (.int .i64 (jn a b)) ∧ w = w' := by
  go_enter Try.func12, Try.ntmps12
  go_wp2_with (go_at_call 30; refine (value_any _ _).mono ?_; rintro e w' ⟨rfl, rfl⟩)
  all_goals
    go_ret
    refine ⟨ret_int ?_, rfl⟩
    unfold jn
    simp only [beq_iff_eq, beq_eq_false_iff_ne, ne_eq] at *
    split <;> (try split) <;> omega

theorem pull_any (a b : Int) (w : World) :
    Calls Try.prog 14 #[.int .i64 a, .int .i64 b] w fun e w' => e = .returned (.int .i64 (pl a b)) ∧ w = w' := by
  go_enter Try.func14, Try.ntmps14
  go_wp2_with (go_at_call 30; refine (value_any _ _).mono ?_; rintro e w' ⟨rfl, rfl⟩)
  all_goals
    go_ret
    refine ⟨ret_int ?_, rfl⟩
    unfold pl
    simp only [beq_iff_eq, beq_eq_false_iff_ne, ne_eq] at *
    split <;> omega

theorem all_any (v : Value) (l : List Int) (w : World) (h : isArg w v l) :
    Calls Try.prog 13 #[v] w fun e w' => e = .returned (.int .i64 (allL l)) ∧ w = w' := by
  rcases h with ⟨a0, cap0, rfl, rfl⟩ | ⟨b, off, cap, rfl, h1, h2, h3, hc⟩
  · go_enter Try.func13, Try.ntmps13
    go_wp2
    refine wp_loop_rounds 1 ?_
    rw [rounds_succ]
    go_wp2
    go_ret
    exact ⟨rfl, rfl⟩
  · go_enter Try.func13, Try.ntmps13
    go_wp2
    go_loop [3, 8] (fun t i => ∃ k : Nat, k ≤ l.length ∧ i = .int .i64 k ∧ t = .int .i64 (allL (l.take k))) (fun _ i => l.length - (intOf i).toNat)
    case atStart => exact ⟨0, Nat.zero_le _, rfl, rfl⟩
    case round =>
      obtain ⟨k, hk, rfl, rfl⟩ := hrel
      by_cases hlt : k < l.length
      · have hcell := hc k hlt
        have Hs := Lib.hid (take_snoc l k hlt)
        have hb := all_bd (l.take k)
        generalize l.getD k 0 = x at *
        clear hc
        go_wp2_with (go_at_call 12; refine (join_any _ _ _).mono ?_; rintro e w' ⟨rfl, rfl⟩)
        go_round
        case rel => exact ⟨k + 1, by omega, by go_num, by rw [Hs.out, all_snoc]⟩
        case measure => simp [intOf]; omega
      · have e : k = l.length := by omega
        subst e
        go_wp2
        go_ret
        exact ⟨rfl, rfl⟩

theorem wired_any (v : Value) (l : List Int) (to : Int) (w : World) (h : isArg w v l) :
    Calls Try.prog 15 #[v, .int .i64 to] w fun e w' => e = .returned (.int .i64 (wir l to)) ∧ w = w' := by
  rcases h with ⟨a0, cap0, rfl, rfl⟩ | ⟨b, off, cap, rfl, h1, h2, h3, hc⟩
  · go_enter Try.func15, Try.ntmps15
    go_wp2_with (go_at_call 30; refine (value_any _ _).mono ?_; rintro e w' ⟨rfl, rfl⟩)
    refine wp_loop_rounds 1 ?_
    rw [rounds_succ]
    go_wp2
    go_ret
    exact ⟨rfl, rfl⟩
  · go_enter Try.func15, Try.ntmps15
    go_wp2_with (go_at_call 30; refine (value_any _ _).mono ?_; rintro e w' ⟨rfl, rfl⟩)
    go_loop [5, 12] (fun t i => ∃ k : Nat, ∃ r : Int, k ≤ l.length ∧ i = .int .i64 k ∧ t = .int .i64 r ∧ (l.take k).contains 0 = false ∧ r = if clashes (l.take k) then 3 else ln to) (fun _ i => l.length - (intOf i).toNat)
    case atStart => exact ⟨0, ln to, Nat.zero_le _, rfl, rfl, rfl, rfl⟩
    case round =>
      obtain ⟨k, r, hk, rfl, rfl, hz, hr⟩ := hrel
      have Hz := Lib.hid hz
      have Hr := Lib.hid hr
      clear hz hr
      by_cases hlt : k < l.length
      · have hcell := hc k hlt
        have Hs := Lib.hid (take_snoc l k hlt)
        have H0 := Lib.hid (take_no0 l k hlt Hz.out)
        have Hh := Lib.hid (has0 l k hlt)
        have Hc := Lib.hid (clashes_snoc (l.take k) (l.getD k 0))
        have hz := ln_zero (l.getD k 0)
        have hb := ln_bd (l.getD k 0)
        generalize l.getD k 0 = x at *
        obtain ⟨y, hy⟩ : ∃ y, ln x = y := ⟨_, rfl⟩
        rw [hy] at hz hb
        have Hy := Lib.hid hy
        have Hzz := Lib.hid hz
        clear hc hz
        rcases (by omega : y = 0 ∨ y = 3 ∨ (y = 1 ∨ y = 2)) with h | h | h
        · subst h
          have Hw := Lib.hid (show wir l to = 0 by unfold wir; rw [if_pos (Hh.out (Hzz.out.1 rfl))])
          go_wp2_with (go_at_call 30; refine (value_any _ _).mono ?_; rintro e w' ⟨rfl, rfl⟩)
          go_ret
          exact ⟨ret_int Hw.out.symm, rfl⟩
        · subst h
          go_wp2_with (go_at_call 30; refine (value_any _ _).mono ?_; rintro e w' ⟨rfl, rfl⟩)
          go_round
          case rel => exact ⟨k + 1, _, by omega, by go_num, rfl, H0.out (fun h => by have := Hzz.out.2 h; omega), by rw [Hs.out, Hc.out, Hy.out]; simp⟩
          case measure => simp [intOf]; omega
        · go_wp2_with (go_at_call 30; refine (value_any _ _).mono ?_; rintro e w' ⟨rfl, rfl⟩)
          go_round
          case rel => exact ⟨k + 1, _, by omega, by go_num, rfl, H0.out (fun h => by have := Hzz.out.2 h; omega), by rw [Hs.out, Hc.out, Hy.out, show decide (y = 3) = false from decide_eq_false (by omega), Bool.or_false]; exact Hr.out⟩
          case measure => simp [intOf]; omega
      · have e : k = l.length := by omega
        subst e
        have Ht := Lib.hid (List.take_length (l := l))
        go_wp2
        go_ret
        exact ⟨ret_int (by have hz := Hz.out; have hr := Hr.out; rw [Ht.out] at hz hr; unfold wir; rw [hz, hr]; simp), rfl⟩

theorem drive_any (a : Int) (w : World) :
    Calls Try.prog 27 #[.int .i64 a] w fun e w' => e = .returned (.tuple #[.bool (dlo a), .bool (dhi a)]) ∧ w = w' := by
  go_enter Try.func27, Try.ntmps27
  go_wp2
  all_goals
    go_ret2
    refine ⟨ret_bool2 ?_ ?_, rfl⟩ <;> (rw [Bool.eq_iff_iff]; simp only [dlo, dhi, Bool.or_eq_true, beq_iff_eq, decide_eq_true_eq, Bool.false_eq_true, true_iff, false_iff] at *; try omega)

theorem ret_bool {a b : Bool} (h : a = b) : Ending.returned (.bool a) = .returned (.bool b) := by rw [h]

theorem lineOf_any (v : Value) (l : List Int) (w : World) (h : isArg w v l) :
    Calls Try.prog 8 #[v] w fun e w' => e = .returned (.int .i64 (refL l)) ∧ w = w' := by
  rcases h with ⟨a0, cap0, rfl, rfl⟩ | ⟨b, off, cap, rfl, h1, h2, h3, hc⟩
  · go_enter Try.func8, Try.ntmps8
    go_wp2
    refine wp_loop_rounds 1 ?_
    rw [rounds_succ]
    go_wp2
    go_ret
    exact ⟨rfl, rfl⟩
  · go_enter Try.func8, Try.ntmps8
    go_wp2
    go_loop [3, 4, 11] (fun p q i => ∃ k : Nat, ∃ x y : Bool, k ≤ l.length ∧ i = .int .i64 k ∧ p = .bool x ∧ q = .bool y ∧ x = lob (l.take k) ∧ y = hib (l.take k)) (fun _ _ i => l.length - (intOf i).toNat)
    case atStart => exact ⟨0, false, false, Nat.zero_le _, rfl, rfl, rfl, rfl, rfl⟩
    case round =>
      obtain ⟨k, x, y, hk, rfl, rfl, rfl, hx, hy⟩ := hrel
      have Hx := Lib.hid hx
      have Hy := Lib.hid hy
      clear hx hy
      by_cases hlt : k < l.length
      · have hcell := hc k hlt
        have Hs := Lib.hid (take_snoc l k hlt)
        have Hl := Lib.hid (lob_snoc (l.take k) (l.getD k 0))
        have Hh := Lib.hid (hib_snoc (l.take k) (l.getD k 0))
        generalize l.getD k 0 = a at *
        obtain ⟨p, hp⟩ : ∃ p, dlo a = p := ⟨_, rfl⟩
        obtain ⟨q, hq⟩ : ∃ q, dhi a = q := ⟨_, rfl⟩
        have Hp := Lib.hid hp
        have Hq := Lib.hid hq
        clear hc
        cases x <;> cases y
        all_goals
          go_wp2_with (go_at_call 27; refine (drive_any _ _).mono ?_; rintro e w' ⟨rfl, rfl⟩)
          go_round
          case rel => exact ⟨k + 1, _, _, by omega, by go_num, rfl, rfl, by rw [Hs.out, Hl.out, ← Hx.out, Hp.out]; simp, by rw [Hs.out, Hh.out, ← Hy.out, Hq.out]; simp⟩
          case measure => simp [intOf]; omega
      · have e : k = l.length := by omega
        subst e
        have Ht := Lib.hid (List.take_length (l := l))
        have hr := Lib.hid (show refL l = lnOf x y by have e1 := Hx.out; have e2 := Hy.out; rw [Ht.out] at e1 e2; unfold refL; rw [e1, e2])
        clear hc Ht Hx Hy
        cases x <;> cases y
        all_goals
          go_wp2
          go_ret
          exact ⟨ret_int hr.out.symm, rfl⟩

end Go.Proofs.Ytgiociijhpimoaa
