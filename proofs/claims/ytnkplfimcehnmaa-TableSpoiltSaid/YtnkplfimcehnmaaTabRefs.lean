/- Contracts of the reference's functions on descriptions of processors. -/
import Derived.Test.YtnkplfimcehnmaaChecked
import Derived.Test.YtnkplfimcehnmaaTabMath
import Derived.Deep.RegionWith
import Derived.Deep.QuietTactic
import Derived.BigQuiet
import Derived.Deep.DeepCutAuto
namespace Go.Proofs.Ytnkplfimcehnmaa
open Go.RowKit

theorem narrow_any (r : Int) (w : World) :
    Calls Try.prog 63 #[.int .i64 r] w fun e w' => e = .returned (.bool (nar r)) ∧ w = w' := by
  go_enter Try.func63, Try.ntmps63
  go_wp2
  all_goals
    go_ret
    refine ⟨?_, rfl⟩
    simp_all [nar]
    try omega
theorem wide_any (r : Int) (w : World) :
    Calls Try.prog 72 #[.int .i64 r] w fun e w' => e = .returned (.bool (wid r)) ∧ w = w' := by
  go_enter Try.func72, Try.ntmps72
  go_wp2
  all_goals
    go_ret
    refine ⟨?_, rfl⟩
    simp_all [wid]
set_option maxHeartbeats 2000000 in
theorem operand_any (m : Int) (w : World) :
    Calls Try.prog 19 #[.int .i64 m] w fun e w' => e = .returned (.int .i64 (operand m)) ∧ Below w.heap.size w w' := by
  by_cases h : m < 0 ∨ 8 < m
  · have e : operand m = -1 := by unfold operand; rw [if_pos h]
    rw [e]
    rcases h with h | h
    all_goals
      go_enter Try.func19, Try.ntmps19
      go_wp2
      go_ret
      exact ⟨rfl, (Below.refl _ _).alloc (Nat.le_refl _) _⟩
  · rcases (by omega : m = 0 ∨ m = 1 ∨ m = 2 ∨ m = 3 ∨ m = 4 ∨ m = 5 ∨ m = 6 ∨ m = 7 ∨ m = 8) with rfl | rfl | rfl | rfl | rfl | rfl | rfl | rfl | rfl
    all_goals
      go_enter Try.func19, Try.ntmps19
      go_wp2
      go_ret
      exact ⟨rfl, (Below.refl _ _).alloc (Nat.le_refl _) _⟩

set_option maxRecDepth 100000 in
set_option maxHeartbeats 20000000 in
theorem stepErr_any (s : St) (w : World) :
    Calls Try.prog 64 #[.agg #[.int .i64 s.d, .int .i64 s.t, .int .i64 s.f, .int .i64 s.n]] w fun e w' => e = .returned (.int .i64 (stepE s)) ∧ Below w.heap.size w w' := by
  obtain ⟨d, t, f, n⟩ := s
  by_cases h : d < 0 ∨ 24 < d
  · have e : stepE ⟨d, t, f, n⟩ = 8 := by unfold stepE; rw [if_pos h]
    rw [e]
    rcases h with h | h
    all_goals
      go_enter Try.func64, Try.ntmps64
      go_wp2
      go_ret
      exact ⟨rfl, (Below.refl _ _).alloc (Nat.le_refl _) _⟩
  · have h1 : 0 ≤ d := by omega
    have h2 : d ≤ 24 := by omega
    go_enter Try.func64, Try.ntmps64
    go_upto_region 3 with fail
    go_cut [3, 4] (fun p q wx => p = .bool (f == 0 && n == 0) ∧ q = .bool (n == 0) ∧ ∃ m, wx = (w.alloc (.cells #[.int .i64 d, .int .i64 t, .int .i64 f, .int .i64 n] 81)).drewN m)
    case first =>
      cases hf : (f == 0)
      all_goals
        go_quiet (fail)
        go_wp2
        go_meet
        case rel => exact ⟨by rw [hf]; rfl, rfl, nq, rfl⟩
    case rest =>
      obtain ⟨rfl, rfl, m, rfl⟩ := hcut
      rcases (by omega : d = 0 ∨ d = 1 ∨ d = 2 ∨ d = 3 ∨ d = 4 ∨ d = 5 ∨ d = 6 ∨ d = 7 ∨ d = 8 ∨ d = 9 ∨ d = 10 ∨ d = 11 ∨ d = 12 ∨ d = 13 ∨ d = 14 ∨ d = 15 ∨ d = 16 ∨ d = 17 ∨ d = 18 ∨ d = 19 ∨ d = 20 ∨ d = 21 ∨ d = 22 ∨ d = 23 ∨ d = 24) with rfl | rfl | rfl | rfl | rfl | rfl | rfl | rfl | rfl | rfl | rfl | rfl | rfl | rfl | rfl | rfl | rfl | rfl | rfl | rfl | rfl | rfl | rfl | rfl | rfl
      all_goals
        go_wp2_with (first
          | (go_at_call 63; refine (narrow_any _ _).mono ?_; rintro e w' ⟨rfl, rfl⟩)
          | (go_at_call 72; refine (wide_any _ _).mono ?_; rintro e w' ⟨rfl, rfl⟩))
        all_goals
          go_ret
          refine ⟨ret_int ?_, ?_⟩
          · simp_all [stepE, stepOk]
            try omega
          · exact ((Below.refl _ _).alloc (Nat.le_refl _) _).trans (below_drewN _ _ _)
end Go.Proofs.Ytnkplfimcehnmaa
