/- Contracts of package bit's functions Signed, Count and Turn, and of the helpers Below and bits of the statements: what each returns, for all numbers. -/
import Derived.Test.YtmjddoboogccoaaBitLists
import Derived.Test.YtmjddoboogccoaaChecked
import Derived.Test.YtmjddoboogccoaaQuiet
import Derived.Below
import Derived.BigQuiet
import Derived.Deep.QuietTactic
import Derived.Lib.Hide
import Derived.RowKit3
import Derived.WalkKit
namespace Go.Proofs.Ytmjddoboogccoaa
open Go.RowKit

theorem or_rv (n : Int) (k : Nat) (h : k < 62) : bits .or .i64 (rv n k * 2) (bitOf n k) = rv n (k + 1) := by
  have h1 := rv_bd n k
  have h2 := p2_62 (k + 1) (by omega)
  rw [p2_succ] at h2
  have h3 := bitOf_bit n k
  unfold isBit at h3
  have h4 := or_join 1 (rv n k) (bitOf n k) h1.1 h3.1 (by omega) (by omega)
  rw [rv_succ]
  simp only [Int.pow_one] at h4
  rw [h4]; omega

theorem cnt_lo (n : Int) : cnt (lo n 62) = cnt n := by
  unfold cnt; rw [← of2_digits n 62]
  exact congrArg sumL (by have := digits_of2 (digits_bits n 62); rw [digits_len] at this; exact this)
theorem cnt_bd (n : Int) : 0 ≤ cnt n ∧ cnt n ≤ 62 := by
  have := sumL_bd (digits_bits n 62)
  rw [digits_len] at this
  exact this
theorem cnt_strike (r : Nat) (h0 : 0 < r) (h1 : r < 4611686018427387904) : cnt ((r &&& (r - 1) : Nat) : Int) + 1 = cnt (r : Int) := strike_sum 62 r h0 h1
theorem cnt_nought : cnt 0 = 0 := by decide

theorem below_any (x n : Int) (hx : -9223372036854775808 ≤ x ∧ x ≤ 9223372036854775807) (h : 1 ≤ n ∧ n ≤ 9223372036854775807) (w : World) :
    Calls Try.prog 30 #[.int .i64 x, .int .i64 n] w fun e w' => e = .returned (.int .i64 (x % n)) ∧ w = w' := by
  have hm0 := Int.emod_nonneg x (b := n) (by omega)
  have hm1 := Int.emod_lt_of_pos x (b := n) (by omega)
  go_enter Try.func30, Try.ntmps30
  go_wp2
  · go_ret
    refine ⟨ret_int ?_, rfl⟩
    have hn : x.tmod n < 0 := by assumption
    have hneg : ¬ 0 ≤ x := fun h0 => by rw [Int.tmod_eq_emod_of_nonneg h0] at hn; omega
    have e := Int.tmod_eq_emod (a := x) (b := n)
    have hd : ¬ n ∣ x := fun hd => by rw [Int.tmod_eq_zero_of_dvd hd] at hn; omega
    rw [if_neg (by omega)] at e
    have ha : (n.natAbs : Int) = n := Int.natAbs_of_nonneg (by omega)
    rw [ha] at e
    rw [IntWalk.wrap64_in _ (by omega)]
    omega
  · go_ret
    refine ⟨ret_int ?_, rfl⟩
    have hn : 0 ≤ x.tmod n := by assumption
    have e := Int.tmod_eq_emod (a := x) (b := n)
    split at e
    · omega
    · have ha : (n.natAbs : Int) = n := Int.natAbs_of_nonneg (by omega)
      omega

end Go.Proofs.Ytmjddoboogccoaa
