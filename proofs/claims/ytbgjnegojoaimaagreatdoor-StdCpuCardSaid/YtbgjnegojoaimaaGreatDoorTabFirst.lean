/- The contract of package table's first: the first error of elements that are checked one after another; and the checks of steps and cycles. -/
import Derived.Test.YtbgjnegojoaimaaGreatDoorTabStep
import Derived.Test.YtbgjnegojoaimaaGreatDoorTabCpu
import Derived.Shelf.Abstract
namespace Go.Proofs.YtbgjnegojoaimaaGreatDoor
open Go.RowKit

def firstE (E : Nat → Int) : Nat → Nat → Int
  | _, 0 => 0
  | k, m + 1 => if E k = 0 then firstE E (k + 1) m else E k
theorem firstE_go (E : Nat → Int) (k m : Nat) (h : 0 < m) : firstE E k m = if E k = 0 then firstE E (k + 1) (m - 1) else E k := by
  cases m with
  | zero => omega
  | succ m => rfl

theorem first_at (fn : Nat) (cap : Value) (n : Nat) (E : Nat → Int) (w : World) (hn : n ≤ 9223372036854775807) (hE : Enters Tryz.prog fn)
    (hc : ∀ i, i < n → ∀ w', Below w.heap.size w w' → Calls Tryz.prog fn #[.int .i64 i, cap] w' fun e w'' => e = .returned (.int .i64 (E i)) ∧ Below w'.heap.size w' w'') :
    Calls Tryz.prog 31 #[.int .i64 n, .func (.func fn) #[] #[cap]] w fun e w' => e = .returned (.int .i64 (firstE E 0 n)) ∧ Below w.heap.size w w' := by
  obtain ⟨R, hR⟩ : ∃ R, firstE E 0 n = R := ⟨_, rfl⟩
  rw [hR]
  have HR := Lib.hid hR
  clear hR
  have hEn : ∀ (args : Array Value) (w : World), (callFunc fn args).run Tryz.prog w = .ok (.enter fn args) w := hE
  clear hE
  go_enter Tryz.func31, Tryz.ntmps31
  go_wp2_with fail
  go_loopw [8] (fun i wr => ∃ k : Nat, k ≤ n ∧ i = .int .i64 k ∧ R = firstE E k (n - k) ∧ Below w.heap.size w wr) (fun i _ => n - (intOf i).toNat)
  case atStart => exact ⟨0, Nat.zero_le _, rfl, HR.out.symm, Below.refl _ _⟩
  case round =>
    obtain ⟨k, hk, rfl, hF, hbel⟩ := hrel
    by_cases hlt : k < n
    · have hC := hc k hlt _ hbel
      rw [firstE_go E k (n - k) (by omega)] at hF
      by_cases h0 : E k = 0
      · rw [if_pos h0] at hF
        rw [h0] at hC
        have HF := Lib.hid hF
        clear hF hc
        go_wp2_with (with_reducible refine hC.mono ?_; rintro e w1 ⟨rfl, hb1⟩)
        go_roundw
        case rel => exact ⟨k + 1, by omega, by go_num, by rw [HF.out, show n - (k + 1) = n - k - 1 by omega], hbel.trans (hb1.mono hbel.size)⟩
        case measure => simp [intOf]; omega
      · rw [if_neg h0] at hF
        have t : (E k != 0) = true := by simpa using h0
        have HF := Lib.hid hF
        clear hF hc
        go_wp2_with (with_reducible refine hC.mono ?_; rintro e w1 ⟨rfl, hb1⟩)
        go_ret
        exact ⟨ret_int HF.out.symm, hbel.trans (hb1.mono hbel.size)⟩
    · obtain rfl : k = n := by omega
      rw [Nat.sub_self] at hF
      have HF := Lib.hid hF
      clear hF hc
      go_wp2_with fail
      go_ret
      exact ⟨ret_int HF.out.symm, hbel⟩
end Go.Proofs.YtbgjnegojoaimaaGreatDoor
