/- Cycles of a timer one by one: plain facts. -/
import Derived.Test.YthhihmggaddlmaaChecked
import Derived.Test.YthhihmggaddlmaaTimC
import Derived.Below
import Derived.BigQuiet
import Derived.ChangeMaps5
import Derived.Deep.DeepCutAuto
import Derived.Deep.Draws
import Derived.Deep.MidRow
import Derived.Deep.OwnRows
import Derived.Deep.QuietTactic
import Derived.Deep.RegionHeld3
import Derived.Deep.RegionWith
import Derived.Deep.Slices
import Derived.Deep.WholeRow
import Derived.Lib.Hide
import Derived.Lib.SmallJoins
import Derived.OpenShut
import Derived.OrdersHeld
import Derived.OwnWalk
import Derived.RowKit3
import Derived.StillTactics
import Derived.StillTail
import Derived.StillTailTactics
import Derived.WalkKit
namespace Go.Proofs.Ythhihmggaddlmaa

theorem emod_next (r m : Int) (hm : 0 < m) : (r + 1) % m = if r % m + 1 = m then 0 else r % m + 1 := by
  have h0 := Int.emod_nonneg r (b := m) (by omega)
  have h1 := Int.emod_lt_of_pos r hm
  have h2 := Int.emod_add_mul_ediv r m
  generalize r % m = x at *
  generalize r / m = q at *
  split
  · have e : r + 1 = 0 + m * (q + 1) := by rw [Int.mul_add, Int.mul_one]; omega
    rw [e, Int.add_mul_emod_self_left, Int.zero_emod]
  · have e : r + 1 = (x + 1) + m * q := by omega
    rw [e, Int.add_mul_emod_self_left]
    exact Int.emod_eq_of_lt (by omega) (by omega)
theorem Tm.after_fit {s : Tm} (h : s.fit) {j : Int} (hj : 1 ≤ j) : (s.after j).fit := by
  obtain ⟨⟨f1, f2⟩, ⟨f3, f4⟩, ⟨f5, f6⟩, ⟨f7, f8⟩⟩ := h
  unfold Tm.after
  have h0 := Int.emod_nonneg (j - s.c - 1) (b := s.l + 1) (by omega)
  have h1 := Int.emod_lt_of_pos (j - s.c - 1) (b := s.l + 1) (by omega)
  split
  · exact ⟨by dsimp only; omega, ⟨f3, f4⟩, ⟨f5, f6⟩, ⟨f7, f8⟩⟩
  · split
    · exact ⟨by dsimp only; omega, ⟨f3, f4⟩, ⟨f5, f6⟩, by dsimp only; omega⟩
    · exact ⟨by dsimp only; omega, ⟨f3, f4⟩, by dsimp only; omega, by dsimp only; omega⟩
theorem Tm.skip_fit {s : Tm} (h : s.fit) (j : Int) : (s.skip j).fit := by
  unfold Tm.skip
  split
  · exact Tm.after_fit h (by omega)
  · exact h
theorem putN_word (n d : Int) (h0 : 0 ≤ n) (h1 : n < 65536) : (0 ≤ putN n 0 8 d ∧ putN n 0 8 d < 65536) ∧ (0 ≤ putN n 8 8 d ∧ putN n 8 8 d < 65536) := by
  have a : putN n 0 8 d = n % 4611686018427387904 / 256 * 256 + d % 256 * 1 + n % 1 := rfl
  have b : putN n 8 8 d = n % 4611686018427387904 / 65536 * 65536 + d % 256 * 256 + n % 256 := rfl
  rw [a, b]
  omega
theorem Tm.write_fit {s : Tm} (h : s.fit) (a d : Int) : (s.write a d).fit := by
  obtain ⟨⟨f1, f2⟩, ⟨f3, f4⟩, ⟨f5, f6⟩, ⟨f7, f8⟩⟩ := h
  have hp := putN_word s.l d f3 f4
  unfold Tm.write
  split
  · exact ⟨⟨f1, f2⟩, hp.1, ⟨f5, f6⟩, ⟨f7, f8⟩⟩
  · split
    · exact ⟨⟨f1, f2⟩, hp.2, ⟨f5, f6⟩, ⟨f7, f8⟩⟩
    · split
      · refine ⟨?_, ⟨f3, f4⟩, ⟨lo_nonneg _ _, lo_lt _ _⟩, ⟨f7, f8⟩⟩
        show 0 ≤ (if d / 128 % 2 = 1 then s.l else s.c) ∧ (if d / 128 % 2 = 1 then s.l else s.c) < 65536
        split <;> omega
      · exact ⟨⟨f1, f2⟩, ⟨f3, f4⟩, ⟨f5, f6⟩, ⟨f7, f8⟩⟩
theorem Tm.skip_none {s : Tm} {j : Int} (h : ¬ (0 < j ∧ s.k % 2 = 1)) : s.skip j = s := if_neg h
theorem Tm.skip_down {s : Tm} {j : Int} (h : s.k % 2 = 1) (h0 : 0 ≤ j) (hc : j ≤ s.c) : s.skip j = ⟨s.c - j, s.l, s.k, s.f⟩ := by
  unfold Tm.skip
  split
  · unfold Tm.after
    rw [if_pos hc]
  · obtain rfl : j = 0 := by omega
    rw [Int.sub_zero]
theorem Tm.skip_round {s : Tm} {j : Int} (h : s.k % 2 = 1) (h0 : 0 ≤ s.c) (hc : s.c < j) (h2 : s.k / 2 % 2 = 1) : s.skip j = ⟨s.l - (j - s.c - 1) % (s.l + 1), s.l, s.k, 1⟩ := by
  unfold Tm.skip
  rw [if_pos ⟨by omega, h⟩]
  unfold Tm.after
  rw [if_neg (by omega), if_pos h2]
theorem Tm.skip_once {s : Tm} {j : Int} (h : s.k % 2 = 1) (h0 : 0 ≤ s.c) (hc : s.c < j) (h2 : ¬ s.k / 2 % 2 = 1) : s.skip j = ⟨0, s.l, s.k - s.k % 2, 1⟩ := by
  unfold Tm.skip
  rw [if_pos ⟨by omega, h⟩]
  unfold Tm.after
  rw [if_neg (by omega), if_neg h2]
theorem Tm.skip_succ {s : Tm} (hs : s.fit) (n : Int) (hn : 0 ≤ n) : (s.skip n).skip 1 = s.skip (n + 1) := by
  obtain ⟨⟨f1, f2⟩, ⟨f3, f4⟩, ⟨f5, f6⟩, ⟨f7, f8⟩⟩ := hs
  by_cases hk : s.k % 2 = 1
  · rcases (by omega : n + 1 ≤ s.c ∨ n = s.c ∨ s.c < n) with h | h | h
    · rw [Tm.skip_down hk hn (by omega), Tm.skip_down (s := ⟨s.c - n, s.l, s.k, s.f⟩) hk (by decide) (by show 1 ≤ s.c - n; omega), Tm.skip_down hk (by omega) h]
      exact congrArg (fun x => Tm.mk x s.l s.k s.f) (by show s.c - n - 1 = _; omega)
    · rw [Tm.skip_down hk hn (by omega)]
      by_cases h2 : s.k / 2 % 2 = 1
      · rw [Tm.skip_round (s := ⟨s.c - n, s.l, s.k, s.f⟩) hk (by show 0 ≤ s.c - n; omega) (by show s.c - n < 1; omega) h2, Tm.skip_round hk f1 (by omega) h2]
        exact congrArg (fun x => Tm.mk (s.l - x % (s.l + 1)) s.l s.k 1) (by show 1 - (s.c - n) - 1 = _; omega)
      · rw [Tm.skip_once (s := ⟨s.c - n, s.l, s.k, s.f⟩) hk (by show 0 ≤ s.c - n; omega) (by show s.c - n < 1; omega) h2, Tm.skip_once hk f1 (by omega) h2]
    · by_cases h2 : s.k / 2 % 2 = 1
      · rw [Tm.skip_round hk f1 h h2, Tm.skip_round hk f1 (show s.c < n + 1 by omega) h2]
        have e := emod_next (n - s.c - 1) (s.l + 1) (by omega)
        have h0 := Int.emod_nonneg (n - s.c - 1) (b := s.l + 1) (by omega)
        have h1 := Int.emod_lt_of_pos (n - s.c - 1) (b := s.l + 1) (by omega)
        rw [show n + 1 - s.c - 1 = n - s.c - 1 + 1 by omega, e]
        generalize (n - s.c - 1) % (s.l + 1) = x at *
        by_cases hx : x + 1 = s.l + 1
        · rw [if_pos hx, Tm.skip_round (s := ⟨s.l - x, s.l, s.k, 1⟩) hk (by show 0 ≤ s.l - x; omega) (by show s.l - x < 1; omega) h2]
          refine congrArg (fun y => Tm.mk y s.l s.k 1) ?_
          show s.l - (1 - (s.l - x) - 1) % (s.l + 1) = s.l - 0
          rw [show 1 - (s.l - x) - 1 = 0 by omega, Int.zero_emod]
        · rw [if_neg hx, Tm.skip_down (s := ⟨s.l - x, s.l, s.k, 1⟩) hk (by decide) (by show 1 ≤ s.l - x; omega)]
          exact congrArg (fun y => Tm.mk y s.l s.k 1) (by show s.l - x - 1 = _; omega)
      · rw [Tm.skip_once hk f1 h h2, Tm.skip_once hk f1 (show s.c < n + 1 by omega) h2]
        exact Tm.skip_none (by show ¬ (_ ∧ (s.k - s.k % 2) % 2 = 1); omega)
  · rw [show s.skip n = s from Tm.skip_none (by omega), show s.skip 1 = s from Tm.skip_none (by omega), show s.skip (n + 1) = s from Tm.skip_none (by omega)]
/-- So many cycles, one by one. -/
def Tm.ticks (s : Tm) : Nat → Tm
  | 0 => s
  | n + 1 => (s.ticks n).skip 1
theorem Tm.ticks_skip {s : Tm} (hs : s.fit) (n : Nat) : s.ticks n = s.skip n := by
  induction n with
  | zero => exact (Tm.skip_none (by omega)).symm
  | succ n ih => rw [Tm.ticks, ih, Tm.skip_succ hs n (by omega)]; rfl
theorem Tm.ticks_fit {s : Tm} (hs : s.fit) (n : Nat) : (s.ticks n).fit := by rw [Tm.ticks_skip hs]; exact Tm.skip_fit hs _
end Go.Proofs.Ythhihmggaddlmaa
