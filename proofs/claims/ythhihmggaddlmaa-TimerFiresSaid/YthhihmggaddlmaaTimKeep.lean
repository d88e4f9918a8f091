/- The walks of the laws TimerFires and TimerWaits: plain facts, and bakekeep1's timers. -/
import Derived.Test.YthhihmggaddlmaaChecked
import Derived.Test.YthhihmggaddlmaaTimMath
import Derived.Below
import Derived.BigQuiet
import Derived.ChangeMaps5
import Derived.Deep.DeepCutAuto
import Derived.Deep.Draws
import Derived.Deep.MidRow
import Derived.Deep.OwnRows
import Derived.Deep.QuietTactic
import Derived.Deep.RegionHeld3
import Derived.Deep.RegionWith
import Derived.Deep.Slices
import Derived.Deep.WholeRow
import Derived.Lib.Hide
import Derived.Lib.SmallJoins
import Derived.OpenShut
import Derived.OrdersHeld
import Derived.OwnWalk
import Derived.RowKit3
import Derived.StillTactics
import Derived.StillTail
import Derived.StillTailTactics
import Derived.WalkKit
namespace Go.Proofs.Ythhihmggaddlmaa
open Go.RowKit
set_option maxRecDepth 100000

theorem timersK_any (w : World) : Calls Try.prog 38 #[] w fun e w' => e = .returned (.bool true) ∧ Below w.heap.size w w' := by
  have hN := tmNew_any w
  go_enter Try.func38, Try.ntmps38
  go_wp2_with (first
    | (go_at_call 23; refine hN.mono ?_; rintro e w1 ⟨u, rfl, ⟨g, rfl, hg, hr⟩, hb⟩; have hx := numB_arg hr (by simp))
    | (go_at_call 27; have hW := tmWrite_any _ (.slice none 0 0) [0, 0, 0, 0] 0 5 _ hx; rw [show ((Tm.of [0, 0, 0, 0]).write 0 5).ns = [0, 5, 0, 0] from by decide] at hW; refine hW.mono ?_; rintro e w2 ⟨u, rfl, ⟨k, rfl, hk, hr2⟩, hb2⟩; replace hr2 : rowB w2 k 3 #[.int .i64 0, .int .i64 5, .int .i64 0, .int .i64 0] := hr2; obtain ⟨c0, c1, c2, c3, _⟩ := dcells4 (rowB_alloc hr2 (.cells #[.slice (some ⟨k, 0, none⟩) 4 4, .slice none 0 0] 51))))
  go_ret
  exact ⟨rfl, (hb.trans (hb2.mono hb.size)).alloc (by have := hb.size; have := hb2.size; omega) _⟩
/-- The timer of TimerFires, at the begin of a round. -/
def fireS (rep : Bool) (n : Int) (r : Nat) : Tm := if rep = true then ⟨n, n, 7, 0⟩ else if r = 0 then ⟨n, n, 1, 0⟩ else ⟨0, n, 0, 0⟩
theorem fireS_fit (rep : Bool) (n : Int) (r : Nat) (h0 : 0 ≤ n) (h1 : n < 500) : (fireS rep n r).fit := by
  unfold fireS
  split
  · exact ⟨by dsimp only; omega, by dsimp only; omega, by dsimp only; omega, by dsimp only; omega⟩
  · split
    · exact ⟨by dsimp only; omega, by dsimp only; omega, by dsimp only; omega, by dsimp only; omega⟩
    · exact ⟨by dsimp only; omega, by dsimp only; omega, by dsimp only; omega, by dsimp only; omega⟩
theorem fireS_step (rep : Bool) (n : Int) (r : Nat) (h0 : 0 ≤ n) (h1 : n < 500) :
    ((fireS rep n r).skip n).f = 0 ∧ (((fireS rep n r).skip n).skip 1).f = (if rep = true ∨ r = 0 then 1 else 0) ∧ (((fireS rep n r).skip n).skip 1).read 3 = fireS rep n (r + 1) := by
  rw [Tm.skip_succ (fireS_fit rep n r h0 h1) n h0]
  cases rep
  · by_cases hr : r = 0
    · subst hr
      rw [show fireS false n 0 = ⟨n, n, 1, 0⟩ from rfl, show fireS false n (0 + 1) = ⟨0, n, 0, 0⟩ from rfl, Tm.skip_down (s := ⟨n, n, 1, 0⟩) rfl h0 (Int.le_refl _), Tm.skip_once (s := ⟨n, n, 1, 0⟩) rfl h0 (by show n < n + 1; omega) (by show ¬ ((1 : Int) / 2 % 2 = 1); decide)]
      exact ⟨rfl, rfl, rfl⟩
    · have e1 : fireS false n r = ⟨0, n, 0, 0⟩ := by unfold fireS; rw [if_neg (by decide), if_neg hr]
      have e2 : fireS false n (r + 1) = ⟨0, n, 0, 0⟩ := by unfold fireS; rw [if_neg (by decide), if_neg (by omega)]
      rw [e1, e2, Tm.skip_none (s := ⟨0, n, 0, 0⟩) (j := n) (by show ¬ (0 < n ∧ (0 : Int) % 2 = 1); omega), Tm.skip_none (s := ⟨0, n, 0, 0⟩) (j := n + 1) (by show ¬ (0 < n + 1 ∧ (0 : Int) % 2 = 1); omega)]
      refine ⟨rfl, ?_, rfl⟩
      rw [if_neg (by simpa using hr)]
  · rw [show fireS true n r = ⟨n, n, 7, 0⟩ from rfl, show fireS true n (r + 1) = ⟨n, n, 7, 0⟩ from rfl, Tm.skip_down (s := ⟨n, n, 7, 0⟩) rfl h0 (Int.le_refl _), Tm.skip_round (s := ⟨n, n, 7, 0⟩) rfl h0 (by show n < n + 1; omega) rfl]
    refine ⟨rfl, rfl, ?_⟩
    refine congrArg (fun x => Tm.mk x n 7 0) ?_
    show n - (n + 1 - n - 1) % (n + 1) = n
    rw [show n + 1 - n - 1 = 0 by omega, Int.zero_emod]
    omega
theorem fire_low (n : Int) (h0 : 0 ≤ n) (h1 : n < 500) : (((((⟨0, 0, 0, 0⟩ : Tm).write 0 n).write 1 (n / 256)).write 2 129) = ⟨n, n, 1, 0⟩) := by
  have e1 : (⟨0, 0, 0, 0⟩ : Tm).write 0 n = ⟨0, n % 256, 0, 0⟩ := congrArg (fun x => Tm.mk 0 x 0 0) (by unfold putN lo; simp)
  have e2 : (⟨0, n % 256, 0, 0⟩ : Tm).write 1 (n / 256) = ⟨0, n, 0, 0⟩ := congrArg (fun x => Tm.mk 0 x 0 0) (by
    unfold putN lo
    show n % 256 % 2 ^ 62 / 65536 * 65536 + n / 256 % 256 * 256 + n % 256 % 256 = n
    rw [show (2 : Int) ^ 62 = 4611686018427387904 from rfl]
    omega)
  rw [e1, e2]
  rfl
theorem waits_on {s : Tm} (hs : s.fit) (hk : s.k % 2 = 1) (m : Int) (h0 : 0 ≤ m) (hm : m ≤ s.c) : (s.skip m).irq = s.irq ∧ (s.skip (s.c + 1)).reg 3 = 1 := by
  refine ⟨by rw [Tm.skip_down hk h0 hm]; rfl, ?_⟩
  by_cases h2 : s.k / 2 % 2 = 1
  · rw [Tm.skip_round hk hs.c.1 (by omega) h2]; rfl
  · rw [Tm.skip_once hk hs.c.1 (by omega) h2]; rfl
theorem waits_off {s : Tm} (hk : ¬ s.k % 2 = 1) (m n : Int) : (s.skip m).irq = s.irq ∧ (s.skip n).reg 3 = s.f := by
  rw [Tm.skip_none (by omega), Tm.skip_none (by omega)]
  exact ⟨rfl, rfl⟩
end Go.Proofs.Ythhihmggaddlmaa
