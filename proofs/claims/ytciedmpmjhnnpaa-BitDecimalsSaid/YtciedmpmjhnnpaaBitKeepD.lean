/- The walk of the statement BitDecimals: it returns true for all numbers. -/
import Derived.Test.YtciedmpmjhnnpaaBitWalksC
import Derived.Deep.RegionWith
namespace Go.Proofs.Ytciedmpmjhnnpaa
open Go.RowKit

theorem bitDecimals_walk (n : Int) (hn : -9223372036854775808 ≤ n ∧ n ≤ 9223372036854775807) (w : World) :
    Calls Try.prog 11 #[.int .i64 n] w fun e w' => e = .returned (.bool true) ∧ Grown w w' := by
  obtain ⟨N, eN, h0, h1⟩ : ∃ N : Int, n % 1000000 = N ∧ 0 ≤ N ∧ N < 1000000 := ⟨n % 1000000, rfl, by omega, by omega⟩
  have m6 : md 6 = 6 := rfl
  have m3 : md 3 = 3 := rfl
  have q6 : p10 6 = 1000000 := by decide
  have q3 : p10 3 = 1000 := by decide
  have d6 : (N / p10 6 == 0) = true := by rw [q6]; simp; omega
  have hB : numB (dcd N 6) 6 = true := numB_yes fun i hi => by rw [hx_dcd N 6 i hi]; exact (dg_bd N i).2
  have hV : numV (dcd N 6) 6 = N := by rw [numV_yes hB, undec_dcd N 6 6 (Nat.le_refl _), q6]; exact Int.emod_eq_of_lt h0 h1
  clear q6
  by_cases hs : N < 1000
  · have d3 : (N / p10 3 == 0) = true := by rw [q3]; simp; omega
    clear q3
    go_enter Try.func11, Try.ntmps11
    go_wp2_with (first
      | (go_at_call 34; refine (below_any _ _ hn (by omega) _).mono ?_; rintro e w' ⟨rfl, rfl⟩)
      | (go_at_call 30; refine (digits_pos _ _ (by omega) (by omega) _).mono ?_; rintro e w' ⟨rfl, rfl⟩)
      | (go_at_call 32; refine (number_any _ _ _).mono ?_; rintro e w' ⟨rfl, rfl⟩)
      | (go_at_call 35; refine (bits_any _).mono ?_; rintro e w2 ⟨rfl, hq2⟩))
    go_ret
    exact ⟨rfl, hq2.grown⟩
  · have d3 : (N / p10 3 == 0) = false := by rw [q3]; simp; omega
    have d4 : decide (N < 1000) = false := by simpa using hs
    clear q3
    go_enter Try.func11, Try.ntmps11
    go_wp2_with (first
      | (go_at_call 34; refine (below_any _ _ hn (by omega) _).mono ?_; rintro e w' ⟨rfl, rfl⟩)
      | (go_at_call 30; refine (digits_pos _ _ (by omega) (by omega) _).mono ?_; rintro e w' ⟨rfl, rfl⟩)
      | (go_at_call 32; refine (number_any _ _ _).mono ?_; rintro e w' ⟨rfl, rfl⟩)
      | (go_at_call 35; refine (bits_any _).mono ?_; rintro e w2 ⟨rfl, hq2⟩))
    go_ret
    exact ⟨rfl, hq2.grown⟩
end Go.Proofs.Ytciedmpmjhnnpaa
