/- Contracts of package video: the first position asked for. -/
import Derived.Test.YtambggbmkeemnaaChecked
import Derived.Test.YtambggbmkeemnaaVidC
import Derived.Below
import Derived.BigQuiet
import Derived.ChangeMaps5
import Derived.Deep.DeepCutAuto
import Derived.Deep.Draws
import Derived.Deep.MidRow
import Derived.Deep.OwnRows
import Derived.Deep.QuietTactic
import Derived.Deep.RegionHeld3
import Derived.Deep.RegionWith
import Derived.Deep.Slices
import Derived.Deep.WholeRow
import Derived.Laws.CopyOwn
import Derived.Lib.Hide
import Derived.Lib.SmallJoins
import Derived.OpenShut
import Derived.OrdersHeld
import Derived.OwnWalk
import Derived.RowKit3
import Derived.Shelf.Abstract
import Derived.StillTactics
import Derived.StillTail
import Derived.StillTailTactics
import Derived.WalkKit
namespace Go.Proofs.Ytambggbmkeemnaa
open Go.RowKit
set_option maxRecDepth 100000

/-- So many positions from one on are in the same line or below the picture. -/
theorem valike_pos {m : List Int} {p : Int} (hp : 0 ≤ p ∧ p < 2560) : 1 ≤ valike m p ∧ p + valike m p ≤ 2560 := by
  unfold valike
  split
  · omega
  · split
    · omega
    · split <;> omega
theorem valike_same {m : List Int} {p : Int} (hp : 0 ≤ p ∧ p < 2560) {j : Int} (h0 : 0 ≤ j) (hj : j < valike m p) : vcol m (p + j) = vcol m p ∧ vhit m (p + j) = vhit m p := by
  unfold valike at hj
  split at hj
  next h =>
    have e1 : vvis p = false := by unfold vvis; rw [decide_eq_false (show ¬ p / 64 < 32 by omega), Bool.and_false]
    have e2 : vvis (p + j) = false := by unfold vvis; rw [decide_eq_false (show ¬ (p + j) / 64 < 32 by omega), Bool.and_false]
    unfold vcol vhit
    rw [e1, e2]
    exact ⟨rfl, rfl⟩
  next h =>
    split at hj
    next h2 =>
      have e1 : vvis p = false := by unfold vvis; rw [decide_eq_false (show ¬ p % 64 < 48 by omega), Bool.false_and]
      have e2 : vvis (p + j) = false := by unfold vvis; rw [decide_eq_false (show ¬ (p + j) % 64 < 48 by omega), Bool.false_and]
      unfold vcol vhit
      rw [e1, e2]
      exact ⟨rfl, rfl⟩
    next h2 =>
      split at hj
      next h3 =>
        rw [show j = 0 by omega, Int.add_zero]
        exact ⟨rfl, rfl⟩
      next h3 =>
        have hL : (p + j) / 64 = p / 64 := by omega
        have c1 : vcov m p = false := vcov_none (by cases hh : vcrs m (p / 64) with
          | false => rfl
          | true => exact absurd hh h3)
        have c2 : vcov m (p + j) = false := vcov_none (by rw [hL]; cases hh : vcrs m (p / 64) with
          | false => rfl
          | true => exact absurd hh h3)
        have e1 : vvis (p + j) = vvis p := by
          unfold vvis
          rw [hL, decide_eq_true (show (p + j) % 64 < 48 by omega), decide_eq_true (show p % 64 < 48 by omega)]
        have e2 : vcellAt (p + j) = vcellAt p := by unfold vcellAt; rw [hL]; omega
        unfold vcol vhit vcell
        rw [e1, e2, c1, c2]
        exact ⟨rfl, rfl⟩
/-- The first of n next cycles in which the new position is one asked for, 0 if there is none. -/
def firstR (p : Int) (is : Int → Bool) (n k : Int) : Prop := (k = 0 ∧ ∀ j, 1 ≤ j → j ≤ n → is ((p + j) % 2560) = false) ∨ ((1 ≤ k ∧ k ≤ n) ∧ is ((p + k) % 2560) = true ∧ ∀ j, 1 ≤ j → j < k → is ((p + j) % 2560) = false)
theorem alike_step {p k : Int} {m : List Int} {is : Int → Bool}
    (hal : ∀ p, 0 ≤ p ∧ p < 2560 → is p = false → ∀ j, 0 ≤ j → j < valike m p → is (p + j) = false)
    (hno : ∀ j, 1 ≤ j → j < k → is ((p + j) % 2560) = false) (hi : is ((p + k) % 2560) = false) :
    ∀ j, 1 ≤ j → j < k + valike m ((p + k) % 2560) → is ((p + j) % 2560) = false := by
  intro j h1 h2
  by_cases h : j < k
  · exact hno j h1 h
  · have hb : 0 ≤ (p + k) % 2560 ∧ (p + k) % 2560 < 2560 := by omega
    have hv := valike_pos (m := m) hb
    have := hal _ hb hi (j - k) (by omega) (by omega)
    rw [show (p + j) % 2560 = (p + k) % 2560 + (j - k) by omega]
    exact this
theorem vidFirst_any (s : Vd) (g : Nat) (n : Int) (fn : Nat) (pre post : Array Value) (is : Int → Bool) (w : World) (h : rowB w g 53 s.cs) (hs : s.fit) (hn : n ≤ 2560) (hE : Enters Try.prog fn)
    (hal : ∀ p, 0 ≤ p ∧ p < 2560 → is p = false → ∀ j, 0 ≤ j → j < valike s.m p → is (p + j) = false)
    (hc : ∀ p w', 0 ≤ p ∧ p < 2560 → Below w.heap.size w w' → Calls Try.prog fn (pre.push (.int .i64 p) ++ post) w' fun e w'' => e = .returned (.bool (is p)) ∧ Below w'.heap.size w' w'') :
    Calls Try.prog 40 #[.pointer (some ⟨g, 0, none⟩), .int .i64 n, .func (.func fn) pre post] w fun e w' => ∃ k, e = .returned (.int .i64 k) ∧ firstR s.p is n k ∧ Below w.heap.size w w' := by
  have hEn : ∀ (args : Array Value) (w : World), (callFunc fn args).run Try.prog w = .ok (.enter fn args) w := hE
  clear hE
  have hp := hs.p
  have HAL := Lib.hid hal
  have HCC := Lib.hid hc
  clear hal hc
  go_enter Try.func40, Try.ntmps40
  go_wp2_with fail
  go_loopw [7] (fun i wr => ∃ k : Int, (1 ≤ k ∧ k ≤ 5120) ∧ i = .int .i64 k ∧ Hid (∀ j, 1 ≤ j → j < k → is ((s.p + j) % 2560) = false) ∧ Below w.heap.size w wr) (fun i _ => 5120 - (intOf i).toNat)
  case atStart => exact ⟨1, by decide, rfl, Lib.hid (fun j h1 h2 => absurd h1 (by omega)), Below.refl _ _⟩
  case round =>
    obtain ⟨k, ⟨k1, k2⟩, rfl, HNO, hbel⟩ := hrel
    have hr := rowB_below h hbel (rowB_lt h)
    have c0 := rowB_cell hr 0 (v := .int .i64 s.p) rfl
    by_cases hlt : k ≤ n
    · have hd : decide (k ≤ n) = true := decide_eq_true hlt
      have wk : wrap64 (s.p + k) = s.p + k := IntWalk.wrap64_in _ (by omega)
      have tk : (s.p + k).tmod 2560 = (s.p + k) % 2560 := Int.tmod_eq_emod_of_nonneg (by omega)
      have hb : 0 ≤ (s.p + k) % 2560 ∧ (s.p + k) % 2560 < 2560 := by omega
      have hC := HCC.out _ _ hb hbel
      have hst := fun h => alike_step (m := s.m) HAL.out HNO.out h
      obtain ⟨A, hA⟩ : ∃ A, (s.p + k) % 2560 = A := ⟨_, rfl⟩
      rw [hA] at hC hb tk hst
      have HST := Lib.hid hst
      have HA := Lib.hid hA
      clear hst hA
      cases hI : is A with
      | true =>
        rw [hI] at hC
        have HI := Lib.hid hI
        clear hI
        go_wp2_with (with_reducible refine hC.mono ?_; rintro e w1 ⟨rfl, hb1⟩)
        go_ret
        exact ⟨k, rfl, .inr ⟨⟨k1, hlt⟩, by rw [HA.out]; exact HI.out, HNO.out⟩, hbel.trans (hb1.mono hbel.size)⟩
      | false =>
        rw [hI] at hC
        have hst := HST.out hI
        have HST := Lib.hid hst
        clear hI hst
        have hv := valike_pos (m := s.m) hb
        obtain ⟨V, hV⟩ : ∃ V, valike s.m A = V := ⟨_, rfl⟩
        have hQ := fun w' (hw : rowB w' g 53 s.cs) => vidAlike_any s g A w' hw hs hb
        simp only [hV] at hQ
        rw [hV] at HST hv
        clear hV
        have wv : wrap64 (k + V) = k + V := IntWalk.wrap64_in _ (by omega)
        go_wp2_with (first
          | (with_reducible refine hC.mono ?_; rintro e w1 ⟨rfl, hb1⟩; have hr1 := rowB_below hr hb1 (rowB_lt hr))
          | (go_at_call 53; refine (hQ _ hr1).mono ?_; rintro e w2 ⟨rfl, rfl⟩))
        go_roundw
        case rel => exact ⟨k + V, by omega, by go_num, HST, hbel.trans (hb1.mono hbel.size)⟩
        case measure => simp [intOf]; omega
    · have hd : decide (k ≤ n) = false := decide_eq_false hlt
      go_wp2_with fail
      go_ret
      exact ⟨0, rfl, .inl ⟨rfl, fun j h1 h2 => HNO.out j h1 (by omega)⟩, hbel⟩
end Go.Proofs.Ytambggbmkeemnaa
