/- A part of the proof of ChipTicks: SndMath, TimMath. -/
import Derived.Test.YtakaebjojgeehaaGreatChipTicksK01
import Derived.Test.YtakaebjojgeehaaGreatChipTicksK02
import Derived.Test.YtakaebjojgeehaaGreatChipTicksK03
import Derived.Test.YtakaebjojgeehaaGreatChipTicksK04
import Derived.Test.YtakaebjojgeehaaGreatChipTicksK05
import Derived.Test.YtakaebjojgeehaaGreatChipTicksK07
import Derived.Below
import Derived.BigQuiet
import Derived.ChangeMaps5
import Derived.Deep.DeepCutAuto
import Derived.Deep.Draws
import Derived.Deep.MidRow
import Derived.Deep.OwnRows
import Derived.Deep.QuietTactic
import Derived.Deep.RegionHeld3
import Derived.Deep.RegionWith
import Derived.Deep.Slices
import Derived.Deep.WholeRow
import Derived.Lib.Hide
import Derived.Lib.SmallJoins
import Derived.OpenShut
import Derived.OrdersHeld
import Derived.OwnWalk
import Derived.RowKit3
import Derived.StillTactics
import Derived.StillTail
import Derived.StillTailTactics
import Derived.Test.YtakaebjojgeehaaGreatChecked
import Derived.WalkKit
namespace Go.Proofs.YtakaebjojgeehaaGreat
/-- A voice: period, volume, rate, count of the period, phase, count of the rate. -/
structure Vc where (p v r c f g : Int)
structure Vc.fit (s : Vc) : Prop where
  p : 0 ≤ s.p ∧ s.p < 4096
  v : 0 ≤ s.v ∧ s.v < 16
  r : 0 ≤ s.r ∧ s.r < 256
  c : 0 ≤ s.c ∧ s.c < 4096
  f : 0 ≤ s.f ∧ s.f < 2
  g : 0 ≤ s.g ∧ s.g < 16384
def Vc.of (l : List Int) (k : Nat) : Vc := ⟨lo (l.getD k 0) 12, lo (l.getD (k + 1) 0) 4, lo (l.getD (k + 2) 0) 8, lo (l.getD (k + 3) 0) 12, lo (l.getD (k + 4) 0) 1, lo (l.getD (k + 5) 0) 14⟩
theorem Vc.of_fit (l : List Int) (k : Nat) : (Vc.of l k).fit := ⟨⟨lo_nonneg _ _, lo_lt _ _⟩, ⟨lo_nonneg _ _, lo_lt _ _⟩, ⟨lo_nonneg _ _, lo_lt _ _⟩, ⟨lo_nonneg _ _, lo_lt _ _⟩, ⟨lo_nonneg _ _, lo_lt _ _⟩, ⟨lo_nonneg _ _, lo_lt _ _⟩⟩
def Vc.wave (s : Vc) : Vc := if 0 < s.p then (if s.p ≤ s.c + 1 then ⟨s.p, s.v, s.r, 0, 1 - s.f, s.g⟩ else ⟨s.p, s.v, s.r, s.c + 1, s.f, s.g⟩) else s
def Vc.fade (s : Vc) : Vc := if 0 < s.r ∧ 0 < s.v then (if 64 * s.r ≤ s.g + 1 then ⟨s.p, s.v - 1, s.r, s.c, s.f, 0⟩ else ⟨s.p, s.v, s.r, s.c, s.f, s.g + 1⟩) else s
def Vc.tick (s : Vc) : Vc := s.wave.fade
def Vc.rest (s : Vc) (o : Int) : Int := 
  let o1 := if 0 < s.p then min o (max 0 (s.p - s.c - 1)) else o
  if 0 < s.v * s.r then min o1 (max 0 (64 * s.r - s.g - 1)) else o1
def Vc.out (s : Vc) : Int := s.f * s.v
def Vc.write (s : Vc) (k x : Int) : Vc :=
  if k = 0 then ⟨s.p / 256 * 256 + x % 256, s.v, s.r, s.c, s.f, s.g⟩
  else if k = 1 then ⟨s.p % 256 + x % 16 * 256, s.v, s.r, s.c, s.f, s.g⟩
  else if k = 2 then ⟨s.p, x % 16, s.r, s.c, s.f, 0⟩
  else ⟨s.p, s.v, x % 256, s.c, s.f, s.g⟩
def Vc.reg (s : Vc) (k : Int) : Int := if k = 0 then s.p % 256 else if k = 1 then s.p / 256 else if k = 2 then s.v else s.r
def Vc.ns (s : Vc) : List Int := [s.p, s.v, s.r, s.c, s.f, s.g]
structure Sn where (a b : Vc)
structure Sn.fit (s : Sn) : Prop where
  a : s.a.fit
  b : s.b.fit
def Sn.of (l : List Int) : Sn := ⟨Vc.of l 0, Vc.of l 6⟩
theorem Sn.of_fit (l : List Int) : (Sn.of l).fit := ⟨Vc.of_fit l 0, Vc.of_fit l 6⟩
def Sn.ns (s : Sn) : List Int := [s.a.p, s.a.v, s.a.r, s.a.c, s.a.f, s.a.g, s.b.p, s.b.v, s.b.r, s.b.c, s.b.f, s.b.g]
theorem Vc.of_ns {s : Vc} (h : s.fit) (l : List Int) (k : Nat) (e0 : l.getD k 0 = s.p) (e1 : l.getD (k + 1) 0 = s.v) (e2 : l.getD (k + 2) 0 = s.r) (e3 : l.getD (k + 3) 0 = s.c) (e4 : l.getD (k + 4) 0 = s.f) (e5 : l.getD (k + 5) 0 = s.g) : Vc.of l k = s := by
  unfold Vc.of
  rw [e0, e1, e2, e3, e4, e5, show lo s.p 12 = s.p from lo_of h.p.1 h.p.2, show lo s.v 4 = s.v from lo_of h.v.1 h.v.2, show lo s.r 8 = s.r from lo_of h.r.1 h.r.2, show lo s.c 12 = s.c from lo_of h.c.1 h.c.2, show lo s.f 1 = s.f from lo_of h.f.1 h.f.2, show lo s.g 14 = s.g from lo_of h.g.1 h.g.2]
theorem Sn.of_ns {s : Sn} (h : s.fit) : Sn.of s.ns = s := by
  show Sn.mk _ _ = _
  rw [Vc.of_ns h.a s.ns 0 rfl rfl rfl rfl rfl rfl, Vc.of_ns h.b s.ns 6 rfl rfl rfl rfl rfl rfl]
def Sn.tick (s : Sn) : Sn := ⟨s.a.tick, s.b.tick⟩
def Sn.next (s : Sn) : Int := s.b.rest (s.a.rest 100000)
def Sn.out (s : Sn) : Int := s.a.out + s.b.out
def Sn.write (s : Sn) (a x : Int) : Sn := if 0 ≤ a ∧ a < 4 then ⟨s.a.write a x, s.b⟩ else if 4 ≤ a ∧ a < 8 then ⟨s.a, s.b.write (a - 4) x⟩ else s
def Sn.reg (s : Sn) (a : Int) : Int := if 0 ≤ a ∧ a < 4 then s.a.reg a else if 4 ≤ a ∧ a < 8 then s.b.reg (a - 4) else 0
theorem Vc.wave_fit {s : Vc} (h : s.fit) : s.wave.fit := by
  have := h.c; have := h.p; have := h.f
  unfold Vc.wave
  split
  · split
    · exact ⟨h.p, h.v, h.r, by dsimp only; omega, by dsimp only; omega, h.g⟩
    · exact ⟨h.p, h.v, h.r, by dsimp only; omega, h.f, h.g⟩
  · exact h
theorem Vc.fade_fit {s : Vc} (h : s.fit) : s.fade.fit := by
  have := h.g; have := h.v; have := h.r
  unfold Vc.fade
  split
  · split
    · exact ⟨h.p, by dsimp only; omega, h.r, h.c, h.f, by dsimp only; omega⟩
    · exact ⟨h.p, h.v, h.r, h.c, h.f, by dsimp only; omega⟩
  · exact h
theorem Vc.tick_fit {s : Vc} (h : s.fit) : s.tick.fit := Vc.fade_fit (Vc.wave_fit h)
theorem Vc.write_fit {s : Vc} (h : s.fit) (k x : Int) : (s.write k x).fit := by
  have := h.p
  unfold Vc.write
  split
  · exact ⟨by dsimp only; omega, h.v, h.r, h.c, h.f, h.g⟩
  · split
    · exact ⟨by dsimp only; omega, h.v, h.r, h.c, h.f, h.g⟩
    · split
      · exact ⟨h.p, by dsimp only; omega, h.r, h.c, h.f, by dsimp only; omega⟩
      · exact ⟨h.p, h.v, by dsimp only; omega, h.c, h.f, h.g⟩
theorem Sn.tick_fit {s : Sn} (h : s.fit) : s.tick.fit := ⟨Vc.tick_fit h.a, Vc.tick_fit h.b⟩
theorem Sn.write_fit {s : Sn} (h : s.fit) (a x : Int) : (s.write a x).fit := by
  unfold Sn.write
  split
  · exact ⟨Vc.write_fit h.a _ _, h.b⟩
  · split
    · exact ⟨h.a, Vc.write_fit h.b _ _⟩
    · exact h
end Go.Proofs.YtakaebjojgeehaaGreat
namespace Go.Proofs.YtakaebjojgeehaaGreat
theorem emod_next (r m : Int) (hm : 0 < m) : (r + 1) % m = if r % m + 1 = m then 0 else r % m + 1 := by
  have h0 := Int.emod_nonneg r (b := m) (by omega)
  have h1 := Int.emod_lt_of_pos r hm
  have h2 := Int.emod_add_mul_ediv r m
  generalize r % m = x at *
  generalize r / m = q at *
  split
  · have e : r + 1 = 0 + m * (q + 1) := by rw [Int.mul_add, Int.mul_one]; omega
    rw [e, Int.add_mul_emod_self_left, Int.zero_emod]
  · have e : r + 1 = (x + 1) + m * q := by omega
    rw [e, Int.add_mul_emod_self_left]
    exact Int.emod_eq_of_lt (by omega) (by omega)
theorem Tm.after_fit {s : Tm} (h : s.fit) {j : Int} (hj : 1 ≤ j) : (s.after j).fit := by
  obtain ⟨⟨f1, f2⟩, ⟨f3, f4⟩, ⟨f5, f6⟩, ⟨f7, f8⟩⟩ := h
  unfold Tm.after
  have h0 := Int.emod_nonneg (j - s.c - 1) (b := s.l + 1) (by omega)
  have h1 := Int.emod_lt_of_pos (j - s.c - 1) (b := s.l + 1) (by omega)
  split
  · exact ⟨by dsimp only; omega, ⟨f3, f4⟩, ⟨f5, f6⟩, ⟨f7, f8⟩⟩
  · split
    · exact ⟨by dsimp only; omega, ⟨f3, f4⟩, ⟨f5, f6⟩, by dsimp only; omega⟩
    · exact ⟨by dsimp only; omega, ⟨f3, f4⟩, by dsimp only; omega, by dsimp only; omega⟩
theorem Tm.skip_fit {s : Tm} (h : s.fit) (j : Int) : (s.skip j).fit := by
  unfold Tm.skip
  split
  · exact Tm.after_fit h (by omega)
  · exact h
theorem putN_word (n d : Int) (h0 : 0 ≤ n) (h1 : n < 65536) : (0 ≤ putN n 0 8 d ∧ putN n 0 8 d < 65536) ∧ (0 ≤ putN n 8 8 d ∧ putN n 8 8 d < 65536) := by
  have a : putN n 0 8 d = n % 4611686018427387904 / 256 * 256 + d % 256 * 1 + n % 1 := rfl
  have b : putN n 8 8 d = n % 4611686018427387904 / 65536 * 65536 + d % 256 * 256 + n % 256 := rfl
  rw [a, b]
  omega
theorem Tm.write_fit {s : Tm} (h : s.fit) (a d : Int) : (s.write a d).fit := by
  obtain ⟨⟨f1, f2⟩, ⟨f3, f4⟩, ⟨f5, f6⟩, ⟨f7, f8⟩⟩ := h
  have hp := putN_word s.l d f3 f4
  unfold Tm.write
  split
  · exact ⟨⟨f1, f2⟩, hp.1, ⟨f5, f6⟩, ⟨f7, f8⟩⟩
  · split
    · exact ⟨⟨f1, f2⟩, hp.2, ⟨f5, f6⟩, ⟨f7, f8⟩⟩
    · split
      · refine ⟨?_, ⟨f3, f4⟩, ⟨lo_nonneg _ _, lo_lt _ _⟩, ⟨f7, f8⟩⟩
        show 0 ≤ (if d / 128 % 2 = 1 then s.l else s.c) ∧ (if d / 128 % 2 = 1 then s.l else s.c) < 65536
        split <;> omega
      · exact ⟨⟨f1, f2⟩, ⟨f3, f4⟩, ⟨f5, f6⟩, ⟨f7, f8⟩⟩
theorem Tm.skip_none {s : Tm} {j : Int} (h : ¬ (0 < j ∧ s.k % 2 = 1)) : s.skip j = s := if_neg h
theorem Tm.skip_down {s : Tm} {j : Int} (h : s.k % 2 = 1) (h0 : 0 ≤ j) (hc : j ≤ s.c) : s.skip j = ⟨s.c - j, s.l, s.k, s.f⟩ := by
  unfold Tm.skip
  split
  · unfold Tm.after
    rw [if_pos hc]
  · obtain rfl : j = 0 := by omega
    rw [Int.sub_zero]
theorem Tm.skip_round {s : Tm} {j : Int} (h : s.k % 2 = 1) (h0 : 0 ≤ s.c) (hc : s.c < j) (h2 : s.k / 2 % 2 = 1) : s.skip j = ⟨s.l - (j - s.c - 1) % (s.l + 1), s.l, s.k, 1⟩ := by
  unfold Tm.skip
  rw [if_pos ⟨by omega, h⟩]
  unfold Tm.after
  rw [if_neg (by omega), if_pos h2]
theorem Tm.skip_once {s : Tm} {j : Int} (h : s.k % 2 = 1) (h0 : 0 ≤ s.c) (hc : s.c < j) (h2 : ¬ s.k / 2 % 2 = 1) : s.skip j = ⟨0, s.l, s.k - s.k % 2, 1⟩ := by
  unfold Tm.skip
  rw [if_pos ⟨by omega, h⟩]
  unfold Tm.after
  rw [if_neg (by omega), if_neg h2]
theorem Tm.skip_succ {s : Tm} (hs : s.fit) (n : Int) (hn : 0 ≤ n) : (s.skip n).skip 1 = s.skip (n + 1) := by
  obtain ⟨⟨f1, f2⟩, ⟨f3, f4⟩, ⟨f5, f6⟩, ⟨f7, f8⟩⟩ := hs
  by_cases hk : s.k % 2 = 1
  · rcases (by omega : n + 1 ≤ s.c ∨ n = s.c ∨ s.c < n) with h | h | h
    · rw [Tm.skip_down hk hn (by omega), Tm.skip_down (s := ⟨s.c - n, s.l, s.k, s.f⟩) hk (by decide) (by show 1 ≤ s.c - n; omega), Tm.skip_down hk (by omega) h]
      exact congrArg (fun x => Tm.mk x s.l s.k s.f) (by show s.c - n - 1 = _; omega)
    · rw [Tm.skip_down hk hn (by omega)]
      by_cases h2 : s.k / 2 % 2 = 1
      · rw [Tm.skip_round (s := ⟨s.c - n, s.l, s.k, s.f⟩) hk (by show 0 ≤ s.c - n; omega) (by show s.c - n < 1; omega) h2, Tm.skip_round hk f1 (by omega) h2]
        exact congrArg (fun x => Tm.mk (s.l - x % (s.l + 1)) s.l s.k 1) (by show 1 - (s.c - n) - 1 = _; omega)
      · rw [Tm.skip_once (s := ⟨s.c - n, s.l, s.k, s.f⟩) hk (by show 0 ≤ s.c - n; omega) (by show s.c - n < 1; omega) h2, Tm.skip_once hk f1 (by omega) h2]
    · by_cases h2 : s.k / 2 % 2 = 1
      · rw [Tm.skip_round hk f1 h h2, Tm.skip_round hk f1 (show s.c < n + 1 by omega) h2]
        have e := emod_next (n - s.c - 1) (s.l + 1) (by omega)
        have h0 := Int.emod_nonneg (n - s.c - 1) (b := s.l + 1) (by omega)
        have h1 := Int.emod_lt_of_pos (n - s.c - 1) (b := s.l + 1) (by omega)
        rw [show n + 1 - s.c - 1 = n - s.c - 1 + 1 by omega, e]
        generalize (n - s.c - 1) % (s.l + 1) = x at *
        by_cases hx : x + 1 = s.l + 1
        · rw [if_pos hx, Tm.skip_round (s := ⟨s.l - x, s.l, s.k, 1⟩) hk (by show 0 ≤ s.l - x; omega) (by show s.l - x < 1; omega) h2]
          refine congrArg (fun y => Tm.mk y s.l s.k 1) ?_
          show s.l - (1 - (s.l - x) - 1) % (s.l + 1) = s.l - 0
          rw [show 1 - (s.l - x) - 1 = 0 by omega, Int.zero_emod]
        · rw [if_neg hx, Tm.skip_down (s := ⟨s.l - x, s.l, s.k, 1⟩) hk (by decide) (by show 1 ≤ s.l - x; omega)]
          exact congrArg (fun y => Tm.mk y s.l s.k 1) (by show s.l - x - 1 = _; omega)
      · rw [Tm.skip_once hk f1 h h2, Tm.skip_once hk f1 (show s.c < n + 1 by omega) h2]
        exact Tm.skip_none (by show ¬ (_ ∧ (s.k - s.k % 2) % 2 = 1); omega)
  · rw [show s.skip n = s from Tm.skip_none (by omega), show s.skip 1 = s from Tm.skip_none (by omega), show s.skip (n + 1) = s from Tm.skip_none (by omega)]
/-- So many cycles, one by one. -/
def Tm.ticks (s : Tm) : Nat → Tm
  | 0 => s
  | n + 1 => (s.ticks n).skip 1
theorem Tm.ticks_skip {s : Tm} (hs : s.fit) (n : Nat) : s.ticks n = s.skip n := by
  induction n with
  | zero => exact (Tm.skip_none (by omega)).symm
  | succ n ih => rw [Tm.ticks, ih, Tm.skip_succ hs n (by omega)]; rfl
theorem Tm.ticks_fit {s : Tm} (hs : s.fit) (n : Nat) : (s.ticks n).fit := by rw [Tm.ticks_skip hs]; exact Tm.skip_fit hs _
end Go.Proofs.YtakaebjojgeehaaGreat
