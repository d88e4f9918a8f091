/- A chip with voices as plain data: many cycles at once. -/
import Derived.Test.YtbpjkdigihpohaaSndMath
import Derived.WalkKit
namespace Go.Proofs.Ytbpjkdigihpohaa

theorem div_next (m p : Int) (hp : 0 < p) : ((m + 1) / p = m / p ∧ (m + 1) % p = m % p + 1 ∧ m % p + 1 < p) ∨ ((m + 1) / p = m / p + 1 ∧ (m + 1) % p = 0 ∧ m % p + 1 = p) := by
  have h1 := Int.emod_nonneg m (b := p) (by omega)
  have h2 := Int.emod_lt_of_pos m hp
  have h3 : m = m % p + p * (m / p) := (Int.emod_add_mul_ediv m p).symm
  by_cases h : m % p + 1 < p
  · refine .inl ⟨?_, ?_, h⟩
    · have e : m + 1 = (m % p + 1) + p * (m / p) := by omega
      rw [e, Int.add_mul_ediv_left _ _ (by omega), Int.ediv_eq_zero_of_lt (by omega) h]
      omega
    · have e : m + 1 = (m % p + 1) + p * (m / p) := by omega
      rw [e, Int.add_mul_emod_self_left, Int.emod_eq_of_lt (by omega) h]
  · refine .inr ⟨?_, ?_, by omega⟩
    · have e : m + 1 = p * (m / p + 1) := by rw [Int.mul_add]; omega
      rw [e, Int.mul_ediv_cancel_left _ (by omega)]
    · have e : m + 1 = p * (m / p + 1) := by rw [Int.mul_add]; omega
      rw [e, Int.mul_emod_right]
/-- So many cycles, one by one. -/
def Vc.ticks (s : Vc) : Nat → Vc
  | 0 => s
  | n + 1 => (s.ticks n).tick
def Sn.ticks (s : Sn) : Nat → Sn
  | 0 => s
  | n + 1 => (s.ticks n).tick
theorem Vc.ticks_fit {s : Vc} (h : s.fit) (n : Nat) : (s.ticks n).fit := by
  induction n with
  | zero => exact h
  | succ n ih => exact Vc.tick_fit ih
theorem Sn.ticks_fit {s : Sn} (h : s.fit) (n : Nat) : (s.ticks n).fit := by
  induction n with
  | zero => exact h
  | succ n ih => exact Sn.tick_fit ih
theorem Sn.ticks_ab (s : Sn) (n : Nat) : s.ticks n = ⟨s.a.ticks n, s.b.ticks n⟩ := by
  induction n with
  | zero => rfl
  | succ n ih => show (s.ticks n).tick = _; rw [ih]; rfl
/-- A count that grows to its end, n cycles later: how often it has come there, and what it is. -/
def cyN (p c n : Int) : Int := if n < (if c + 1 < p then p - c else 1) then 0 else 1 + (n - (if c + 1 < p then p - c else 1)) / p
def cyC (p c n : Int) : Int := if n < (if c + 1 < p then p - c else 1) then c + n else (n - (if c + 1 < p then p - c else 1)) % p
theorem cy_zero (p c : Int) : cyN p c 0 = 0 ∧ cyC p c 0 = c := by
  unfold cyN cyC
  constructor
  · rw [if_pos (by split <;> omega)]
  · rw [if_pos (by split <;> omega)]; omega
theorem cy_next (p c n : Int) (hp : 0 < p) (hn : 0 ≤ n) :
    (p ≤ cyC p c n + 1 ∧ cyC p c (n + 1) = 0 ∧ cyN p c (n + 1) = cyN p c n + 1) ∨ (cyC p c n + 1 < p ∧ cyC p c (n + 1) = cyC p c n + 1 ∧ cyN p c (n + 1) = cyN p c n) := by
  unfold cyN cyC
  obtain ⟨t, ht⟩ : ∃ t, (if c + 1 < p then p - c else 1) = t := ⟨_, rfl⟩
  rw [ht]
  have ht1 : (c + 1 < p ∧ t = p - c) ∨ (¬ c + 1 < p ∧ t = 1) := by
    by_cases h : c + 1 < p
    · exact .inl ⟨h, by rw [← ht, if_pos h]⟩
    · exact .inr ⟨h, by rw [← ht, if_neg h]⟩
  by_cases h : n + 1 < t
  · rw [if_pos (show n < t by omega), if_pos h, if_pos (show n < t by omega), if_pos h]
    exact .inr ⟨by omega, by omega, rfl⟩
  · by_cases h2 : n < t
    · rw [if_pos h2, if_neg h, if_pos h2, if_neg h]
      rw [show n + 1 - t = 0 by omega, Int.zero_emod, Int.zero_ediv]
      exact .inl ⟨by omega, rfl, rfl⟩
    · rw [if_neg h2, if_neg h, if_neg h2, if_neg h]
      rw [show n + 1 - t = (n - t) + 1 by omega]
      rcases div_next (n - t) p hp with ⟨e1, e2, e3⟩ | ⟨e1, e2, e3⟩
      · rw [e1, e2]; exact .inr ⟨e3, rfl, rfl⟩
      · rw [e1, e2]; exact .inl ⟨by omega, rfl, by omega⟩
theorem cyN_bd (p c n : Int) (hp : 0 < p) : 0 ≤ cyN p c n := by
  unfold cyN
  generalize (if c + 1 < p then p - c else 1) = t
  split
  · exact Int.le_refl 0
  · have := Int.ediv_nonneg (a := n - t) (b := p) (by omega) (by omega)
    omega
/-- A voice so many cycles later. -/
def Vc.skipW (s : Vc) (n : Int) : Vc := if 0 < s.p then ⟨s.p, s.v, s.r, cyC s.p s.c n, (s.f + cyN s.p s.c n) % 2, s.g⟩ else s
def Vc.skipF (s : Vc) (n : Int) : Vc := if 0 < s.r ∧ 0 < s.v then (if cyN (64 * s.r) s.g n < s.v then ⟨s.p, s.v - cyN (64 * s.r) s.g n, s.r, s.c, s.f, cyC (64 * s.r) s.g n⟩ else ⟨s.p, 0, s.r, s.c, s.f, 0⟩) else s
def Vc.skip (s : Vc) (n : Int) : Vc := (s.skipW n).skipF n
theorem Vc.skip_zero {s : Vc} (h : s.fit) : s.skip 0 = s := by
  have hf := h.f
  obtain ⟨p, v, r, c, f, g⟩ := s
  have e1 := cy_zero p c
  have e2 := cy_zero (64 * r) g
  dsimp only at hf
  have hW : (⟨p, v, r, c, f, g⟩ : Vc).skipW 0 = ⟨p, v, r, c, f, g⟩ := by
    unfold Vc.skipW
    dsimp only
    rw [e1.1, e1.2, Int.add_zero, Int.emod_eq_of_lt hf.1 hf.2, ite_self]
  unfold Vc.skip
  rw [hW]
  unfold Vc.skipF
  dsimp only
  rw [e2.1, e2.2, Int.sub_zero]
  split
  · rw [if_pos (by omega)]
  · rfl
/-- The fading part of a voice that has moved on. -/
theorem Vc.skip_succ {s : Vc} (h : s.fit) (n : Int) (hn : 0 ≤ n) : (s.skip n).tick = s.skip (n + 1) := by
  have hc := h.c
  have hg := h.g
  have hf := h.f
  have hv := h.v
  obtain ⟨p, v, r, c, f, g⟩ := s
  dsimp only at hc hg hf hv
  unfold Vc.skip Vc.tick
  -- the wave part
  have hW : ∀ (v r g : Int), ((⟨p, v, r, c, f, g⟩ : Vc).skipW n).wave = (⟨p, v, r, c, f, g⟩ : Vc).skipW (n + 1) := fun v r g => by
    unfold Vc.skipW Vc.wave
    dsimp only
    by_cases hp : 0 < p
    · rw [if_pos hp, if_pos hp]
      dsimp only
      rw [if_pos hp]
      rcases cy_next p c n hp hn with ⟨a1, a2, a3⟩ | ⟨a1, a2, a3⟩
      · rw [if_pos a1, a2, a3]
        have : 1 - (f + cyN p c n) % 2 = (f + (cyN p c n + 1)) % 2 := by omega
        rw [this]
      · rw [if_neg (by omega), a2, a3]
    · rw [if_neg hp, if_neg hp]
      try dsimp only
      rw [if_neg hp]
  -- the two parts do not meet
  have hC : ∀ t : Vc, t.skipF n = ⟨t.p, (t.skipF n).v, t.r, t.c, t.f, (t.skipF n).g⟩ := fun t => by
    unfold Vc.skipF
    split
    · split <;> rfl
    · rfl
  obtain ⟨c1, f1, hWn⟩ : ∃ c1 f1, (⟨p, v, r, c, f, g⟩ : Vc).skipW n = ⟨p, v, r, c1, f1, g⟩ := by
    unfold Vc.skipW
    split
    · exact ⟨_, _, rfl⟩
    · exact ⟨_, _, rfl⟩
  have hWn1 := hW v r g
  rw [hWn] at hWn1 ⊢
  rw [← hWn1]
  have hw1 : ∃ c2 f2, ∀ (v g : Int), (⟨p, v, r, c1, f1, g⟩ : Vc).wave = ⟨p, v, r, c2, f2, g⟩ := by
    unfold Vc.wave
    by_cases hp : 0 < p
    · by_cases h2 : p ≤ c1 + 1
      · exact ⟨0, 1 - f1, fun v g => by dsimp only; rw [if_pos hp, if_pos h2]⟩
      · exact ⟨c1 + 1, f1, fun v g => by dsimp only; rw [if_pos hp, if_neg h2]⟩
    · exact ⟨c1, f1, fun v g => by dsimp only; rw [if_neg hp]⟩
  obtain ⟨c2, f2, hw1⟩ := hw1
  rw [hC]
  dsimp only
  rw [hw1, hw1]
  unfold Vc.skipF
  dsimp only
  by_cases hr : 0 < r ∧ 0 < v
  · rw [if_pos hr, if_pos hr]
    have hN0 := cyN_bd (64 * r) g n (by omega)
    rcases cy_next (64 * r) g n (by omega) hn with ⟨a1, a2, a3⟩ | ⟨a1, a2, a3⟩
    · rw [a2, a3]
      by_cases hd : cyN (64 * r) g n < v
      · rw [if_pos hd]
        unfold Vc.fade
        dsimp only
        rw [if_pos ⟨hr.1, by omega⟩, if_pos a1]
        by_cases hd2 : cyN (64 * r) g n + 1 < v
        · rw [if_pos hd2]
          congr 1
          omega
        · rw [if_neg hd2]
          congr 1
          omega
      · rw [if_neg hd, if_neg (by omega)]
        unfold Vc.fade
        dsimp only
        rw [if_neg (by omega)]
    · rw [a2, a3]
      by_cases hd : cyN (64 * r) g n < v
      · rw [if_pos hd, if_pos hd]
        unfold Vc.fade
        dsimp only
        rw [if_pos ⟨hr.1, by omega⟩, if_neg (by omega)]
      · rw [if_neg hd, if_neg hd]
        unfold Vc.fade
        dsimp only
        rw [if_neg (by omega)]
  · rw [if_neg hr, if_neg hr]
    unfold Vc.fade
    dsimp only
    rw [if_neg hr]
theorem Vc.ticks_skip {s : Vc} (h : s.fit) (n : Nat) : s.ticks n = s.skip n := by
  induction n with
  | zero => exact (Vc.skip_zero h).symm
  | succ n ih => rw [Vc.ticks, ih, Vc.skip_succ h n (by omega)]; rfl
/-- A voice without a rate: heard in every second period. -/
theorem Vc.turns (p : Int) (hp : 0 < p) (hp2 : p < 4096) (n : Nat) : ((⟨p, 7, 0, 0, 0, 0⟩ : Vc).ticks n).out = 7 * ((n : Int) / p % 2) := by
  have hfit : (⟨p, 7, 0, 0, 0, 0⟩ : Vc).fit := ⟨by dsimp only; omega, by dsimp only; omega, by dsimp only; omega, by dsimp only; omega, by dsimp only; omega, by dsimp only; omega⟩
  rw [Vc.ticks_skip hfit]
  have hW : (⟨p, 7, 0, 0, 0, 0⟩ : Vc).skip n = ⟨p, 7, 0, cyC p 0 n, (0 + cyN p 0 n) % 2, 0⟩ := by
    unfold Vc.skip
    have : (⟨p, 7, 0, 0, 0, 0⟩ : Vc).skipW n = ⟨p, 7, 0, cyC p 0 n, (0 + cyN p 0 n) % 2, 0⟩ := by unfold Vc.skipW; dsimp only; rw [if_pos hp]
    rw [this]
    unfold Vc.skipF
    dsimp only
    rw [if_neg (by omega)]
  rw [hW]
  show (0 + cyN p 0 n) % 2 * 7 = _
  have hN : cyN p 0 n = (n : Int) / p := by
    unfold cyN
    obtain ⟨t, ht⟩ : ∃ t, (if (0 : Int) + 1 < p then p - 0 else 1) = t := ⟨_, rfl⟩
    have ht1 : t = p := by rw [← ht]; split <;> omega
    rw [ht, ht1]
    split
    next h => rw [Int.ediv_eq_zero_of_lt (by omega) h]
    next h =>
      have e : (n : Int) = (n - p) + p * 1 := by omega
      rw [show (n : Int) / p = ((n - p) + p * 1) / p by rw [← e], Int.add_mul_ediv_left _ _ (by omega)]
      omega
  rw [hN, Int.zero_add, Int.mul_comm]
/-- A voice without a period fades by its rate alone. -/
theorem Vc.fades (v r : Int) (hv : 0 < v ∧ v < 16) (hr : 0 < r ∧ r < 256) : ((⟨0, v, r, 0, 0, 0⟩ : Vc).ticks (64 * r * v - 1).toNat).v = 1 ∧ ((⟨0, v, r, 0, 0, 0⟩ : Vc).ticks (64 * r * v).toNat).v = 0 := by
  have hfit : (⟨0, v, r, 0, 0, 0⟩ : Vc).fit := ⟨by dsimp only; omega, by dsimp only; omega, by dsimp only; omega, by dsimp only; omega, by dsimp only; omega, by dsimp only; omega⟩
  have hpos : 0 < 64 * r * v := Int.mul_pos (by omega) hv.1
  have hF : ∀ n : Int, 0 ≤ n → ((⟨0, v, r, 0, 0, 0⟩ : Vc).ticks n.toNat).v = if n / (64 * r) < v then v - n / (64 * r) else 0 := fun n hn => by
    rw [Vc.ticks_skip hfit, Int.toNat_of_nonneg hn]
    have hN : cyN (64 * r) 0 n = n / (64 * r) := by
      unfold cyN
      obtain ⟨t, ht⟩ : ∃ t, (if (0 : Int) + 1 < 64 * r then 64 * r - 0 else 1) = t := ⟨_, rfl⟩
      have ht1 : t = 64 * r := by rw [← ht]; split <;> omega
      rw [ht, ht1]
      split
      next h => rw [Int.ediv_eq_zero_of_lt (by omega) h]
      next h =>
        have e : n = (n - 64 * r) + 64 * r * 1 := by omega
        rw [show n / (64 * r) = ((n - 64 * r) + 64 * r * 1) / (64 * r) by rw [← e], Int.add_mul_ediv_left _ _ (by omega)]
        omega
    unfold Vc.skip
    have : (⟨0, v, r, 0, 0, 0⟩ : Vc).skipW n = ⟨0, v, r, 0, 0, 0⟩ := by unfold Vc.skipW; dsimp only; rw [if_neg (by omega)]
    rw [this]
    unfold Vc.skipF
    dsimp only
    rw [if_pos ⟨hr.1, hv.1⟩, hN]
    split <;> rfl
  refine ⟨?_, ?_⟩
  · rw [hF _ (by omega)]
    have e : (64 * r * v - 1) / (64 * r) = v - 1 := by
      have : 64 * r * v - 1 = (64 * r - 1) + 64 * r * (v - 1) := by rw [Int.mul_sub]; omega
      rw [this, Int.add_mul_ediv_left _ _ (by omega), Int.ediv_eq_zero_of_lt (by omega) (by omega)]
      omega
    rw [e, if_pos (by omega)]
    omega
  · rw [hF _ (by omega), Int.mul_ediv_cancel_left _ (by omega), if_neg (by omega)]
end Go.Proofs.Ytbpjkdigihpohaa
