/- Contracts of package table's functions on steps, registers and modes. -/
import Derived.Test.YtbgjnegojoaimaaGreatDoorTabCpu
namespace Go.Proofs.YtbgjnegojoaimaaGreatDoor
open Go.RowKit

theorem within_any (n lo hi : Int) (w : World) :
    Calls Tryz.prog 65 #[.int .i64 n, .int .i64 lo, .int .i64 hi] w fun e w' => e = .returned (.bool (decide (lo ≤ n) && decide (n ≤ hi))) ∧ w = w' := by
  go_enter Tryz.func65, Tryz.ntmps65
  go_wp2
  all_goals
    go_ret
    refine ⟨?_, rfl⟩
    simp_all
    try omega
theorem wideT_any (r : Int) (w : World) :
    Calls Tryz.prog 104 #[.int .i64 r] w fun e w' => e = .returned (.bool (wid r)) ∧ w = w' := by
  go_enter Tryz.func104, Tryz.ntmps104
  go_wp2
  all_goals
    go_ret
    refine ⟨?_, rfl⟩
    simp_all [wid]
theorem nar_wid (r : Int) : nar r = ((decide (0 ≤ r) && decide (r ≤ 8)) && !wid r) := by
  unfold nar wid
  rw [Bool.eq_iff_iff]
  simp
  omega
theorem narrowT_any (r : Int) (w : World) :
    Calls Tryz.prog 88 #[.int .i64 r] w fun e w' => e = .returned (.bool (nar r)) ∧ w = w' := by
  rw [nar_wid]
  cases h : (decide (0 ≤ r) && decide (r ≤ 8))
  all_goals
    go_enter Tryz.func88, Tryz.ntmps88
    go_wp2_with (first
      | (go_at_call 65; refine (within_any _ _ _ _).mono ?_; rintro e w' ⟨rfl, rfl⟩; rw [h])
      | (go_at_call 104; refine (wideT_any _ _).mono ?_; rintro e w' ⟨rfl, rfl⟩))
    go_ret
    exact ⟨rfl, rfl⟩

def regsOk (d t f : Int) : Bool :=
  if d = 1 then nar t && nar f || wid t && wid f
  else if d = 2 ∨ d = 10 ∨ d = 11 then (nar t || wid t) && f == 0
  else if d = 3 ∨ d = 12 ∨ d = 13 ∨ d = 14 ∨ d = 15 then nar t && f == 0
  else if d = 4 ∨ d = 5 ∨ d = 6 ∨ d = 7 ∨ d = 8 ∨ d = 9 then nar t && nar f
  else if d = 18 ∨ d = 19 ∨ d = 22 ∨ d = 23 then wid t && nar f
  else if d = 20 ∨ d = 21 then nar t && wid f
  else if d = 24 then t == 0 && (decide (0 ≤ f) && decide (f ≤ 1))
  else t == 0 && f == 0
def numsOk (d t n : Int) : Bool :=
  if d = 2 then if wid t = true then decide (0 ≤ n) && decide (n ≤ 65535) else decide (0 ≤ n) && decide (n ≤ 255)
  else if d = 16 ∨ d = 17 ∨ d = 24 then decide (0 ≤ n) && decide (n ≤ 255)
  else n == 0
theorem upto24 {d : Int} (h1 : 0 ≤ d) (h2 : d ≤ 24) : d = 0 ∨ d = 1 ∨ d = 2 ∨ d = 3 ∨ d = 4 ∨ d = 5 ∨ d = 6 ∨ d = 7 ∨ d = 8 ∨ d = 9 ∨ d = 10 ∨ d = 11 ∨ d = 12 ∨ d = 13 ∨ d = 14 ∨ d = 15 ∨ d = 16 ∨ d = 17 ∨ d = 18 ∨ d = 19 ∨ d = 20 ∨ d = 21 ∨ d = 22 ∨ d = 23 ∨ d = 24 := by omega
theorem both_ok {d t f n : Int} (h1 : 0 ≤ d) (h2 : d ≤ 24) : stepOk d t f n = (regsOk d t f && numsOk d t n) := by
  rw [Bool.eq_iff_iff]
  rcases upto24 h1 h2 with rfl | rfl | rfl | rfl | rfl | rfl | rfl | rfl | rfl | rfl | rfl | rfl | rfl | rfl | rfl | rfl | rfl | rfl | rfl | rfl | rfl | rfl | rfl | rfl | rfl
  all_goals
    simp [stepOk, regsOk, numsOk, nar, wid]
    try (by_cases hw : t = 7 ∨ t = 8 <;> simp [hw])
    all_goals (try omega)

set_option maxRecDepth 100000 in
set_option maxHeartbeats 20000000 in
theorem regsFit_any (d t f n : Int) (w : World) (h1 : 0 ≤ d) (h2 : d ≤ 24) :
    Calls Tryz.prog 105 #[.agg #[.int .i64 d, .int .i64 t, .int .i64 f, .int .i64 n]] w fun e w' => e = .returned (.bool (regsOk d t f)) ∧ Below w.heap.size w w' := by
  rcases upto24 h1 h2 with rfl | rfl | rfl | rfl | rfl | rfl | rfl | rfl | rfl | rfl | rfl | rfl | rfl | rfl | rfl | rfl | rfl | rfl | rfl | rfl | rfl | rfl | rfl | rfl | rfl
  all_goals
    go_enter Tryz.func105, Tryz.ntmps105
    go_wp2_with (first
      | (go_at_call 65; refine (within_any _ _ _ _).mono ?_; rintro e w' ⟨rfl, rfl⟩)
      | (go_at_call 88; refine (narrowT_any _ _).mono ?_; rintro e w' ⟨rfl, rfl⟩)
      | (go_at_call 104; refine (wideT_any _ _).mono ?_; rintro e w' ⟨rfl, rfl⟩))
    all_goals
      go_ret
      refine ⟨?_, by first | exact Below.refl _ _ | exact (Below.refl _ _).alloc (Nat.le_refl _) _⟩
      simp_all [regsOk]

set_option maxRecDepth 100000 in
set_option maxHeartbeats 20000000 in
theorem numFits_any (d t f n : Int) (w : World) (h1 : 0 ≤ d) (h2 : d ≤ 24) :
    Calls Tryz.prog 106 #[.agg #[.int .i64 d, .int .i64 t, .int .i64 f, .int .i64 n]] w fun e w' => e = .returned (.bool (numsOk d t n)) ∧ Below w.heap.size w w' := by
  rcases upto24 h1 h2 with rfl | rfl | rfl | rfl | rfl | rfl | rfl | rfl | rfl | rfl | rfl | rfl | rfl | rfl | rfl | rfl | rfl | rfl | rfl | rfl | rfl | rfl | rfl | rfl | rfl
  all_goals
    go_enter Tryz.func106, Tryz.ntmps106
    go_wp2_with (first
      | (go_at_call 65; refine (within_any _ _ _ _).mono ?_; rintro e w' ⟨rfl, rfl⟩)
      | (go_at_call 104; refine (wideT_any _ _).mono ?_; rintro e w' ⟨rfl, rfl⟩))
    all_goals
      go_ret
      refine ⟨?_, by first | exact Below.refl _ _ | exact (Below.refl _ _).alloc (Nat.le_refl _) _⟩
      simp_all [numsOk]

theorem checkStep_any (s : St) (w : World) :
    Calls Tryz.prog 90 #[.agg #[.int .i64 s.d, .int .i64 s.t, .int .i64 s.f, .int .i64 s.n]] w fun e w' => e = .returned (.int .i64 (stepE s)) ∧ Below w.heap.size w w' := by
  obtain ⟨d, t, f, n⟩ := s
  by_cases h : d < 0 ∨ 24 < d
  · have e : stepE ⟨d, t, f, n⟩ = 8 := by unfold stepE; rw [if_pos h]
    have ew : (decide (0 ≤ d) && decide (d ≤ 24)) = false := by
      rw [Bool.eq_false_iff]; simp; omega
    rw [e]
    go_enter Tryz.func90, Tryz.ntmps90
    go_wp2_with (go_at_call 65; refine (within_any _ _ _ _).mono ?_; rintro e w' ⟨rfl, rfl⟩; rw [ew])
    go_ret
    exact ⟨rfl, by first | exact Below.refl _ _ | exact (Below.refl _ _).alloc (Nat.le_refl _) _⟩
  · have h1 : 0 ≤ d := by omega
    have h2 : d ≤ 24 := by omega
    have ew : (decide (0 ≤ d) && decide (d ≤ 24)) = true := by simp; omega
    have e : stepE ⟨d, t, f, n⟩ = if (regsOk d t f && numsOk d t n) = true then 0 else 1 := by
      unfold stepE; rw [if_neg h, both_ok h1 h2]
    rw [e]
    cases r1 : regsOk d t f <;> cases r2 : numsOk d t n
    all_goals
      go_enter Tryz.func90, Tryz.ntmps90
      go_wp2_with (first
        | (go_at_call 65; refine (within_any _ _ _ _).mono ?_; rintro e w' ⟨rfl, rfl⟩; rw [ew])
        | (go_at_call 105; refine (regsFit_any _ _ _ _ _ h1 h2).mono ?_; rintro e w1 ⟨rfl, hb1⟩; rw [r1]; obtain ⟨k0, k1, k2, k3⟩ := cells4 (keep_below (heap_alloc_new w _) hb1 (Nat.le_refl _)); have hb0 := ((Below.refl w.heap.size w).alloc (Nat.le_refl _) _).trans (hb1.mono (by simp)))
        | (go_at_call 106; refine (numFits_any _ _ _ _ _ h1 h2).mono ?_; rintro e w2 ⟨rfl, hb2⟩; rw [r2]))
      go_ret
      refine ⟨rfl, ?_⟩
      first
        | exact hb0.trans (hb2.mono hb0.size)
        | exact hb0

theorem size_is (m : Int) (w : World) :
    Calls Tryz.prog 36 #[.int .i64 m] w fun e w' => e = .returned (.int .i64 (operand m)) ∧ w = w' := by
  by_cases h : m < 0 ∨ 8 < m
  · have e : operand m = -1 := by unfold operand; rw [if_pos h]
    rw [e]
    have q0 : (m == 0) = false := by simp; omega
    have q1 : (m == 1) = false := by simp; omega
    have q2 : (m == 2) = false := by simp; omega
    have q3 : (m == 3) = false := by simp; omega
    have q4 : (m == 4) = false := by simp; omega
    have q5 : (m == 5) = false := by simp; omega
    have q6 : (m == 6) = false := by simp; omega
    have q7 : (m == 7) = false := by simp; omega
    have q8 : (m == 8) = false := by simp; omega
    go_enter Tryz.func36, Tryz.ntmps36
    go_wp2
    go_ret
    exact ⟨rfl, rfl⟩
  · rcases (by omega : m = 0 ∨ m = 1 ∨ m = 2 ∨ m = 3 ∨ m = 4 ∨ m = 5 ∨ m = 6 ∨ m = 7 ∨ m = 8) with rfl | rfl | rfl | rfl | rfl | rfl | rfl | rfl | rfl
    all_goals
      go_enter Tryz.func36, Tryz.ntmps36
      go_wp2
      go_ret
      exact ⟨rfl, rfl⟩
theorem size_any (m : Int) (w : World) :
    Calls Tryz.prog 36 #[.int .i64 m] w fun e w' => e = .returned (.int .i64 (operand m)) ∧ Below w.heap.size w w' :=
  (size_is m w).mono fun _ _ ⟨he, hw⟩ => ⟨he, hw ▸ Below.refl _ _⟩
end Go.Proofs.YtbgjnegojoaimaaGreatDoor
