/- A chip with lines as plain data: its numbers, the bits that it drives and those that are read. -/
import Derived.Test.YtambggbmkeemnaaBitMath
import Derived.WalkKit
namespace Go.Proofs.Ytambggbmkeemnaa
open Go.RowKit

/-- A port's numbers: lines, latch, mask. -/
structure Pt where (n l m : Int)
def Pt.of (l : List Int) : Pt := ⟨lo (l.getD 0 0) 8, lo (l.getD 1 0) 8, lo (l.getD 2 0) 8⟩
def Pt.cs (s : Pt) : Array Value := #[.int .i64 s.n, .int .i64 s.l, .int .i64 s.m]
def Pt.ns (s : Pt) : List Int := [s.n, s.l, s.m]
structure Pt.fit (s : Pt) : Prop where
  n : 0 ≤ s.n ∧ s.n < 256
  l : 0 ≤ s.l ∧ s.l < 256
  m : 0 ≤ s.m ∧ s.m < 256
theorem Pt.of_fit (l : List Int) : (Pt.of l).fit :=
  ⟨⟨lo_nonneg _ _, lo_lt _ _⟩, ⟨lo_nonneg _ _, lo_lt _ _⟩, ⟨lo_nonneg _ _, lo_lt _ _⟩⟩
theorem Pt.of_ns {s : Pt} (h : s.fit) : Pt.of s.ns = s := by
  obtain ⟨n, l, m⟩ := s
  obtain ⟨h1, h2, h3⟩ := h
  show Pt.mk _ _ _ = _
  rw [show lo (Pt.ns ⟨n, l, m⟩ |>.getD 0 0) 8 = n from lo_of h1.1 h1.2, show lo (Pt.ns ⟨n, l, m⟩ |>.getD 1 0) 8 = l from lo_of h2.1 h2.2, show lo (Pt.ns ⟨n, l, m⟩ |>.getD 2 0) 8 = m from lo_of h3.1 h3.2]
/-- What the chip drives, and what is read of its lines. -/
def Pt.drv (s : Pt) : Int := bits .and .i64 s.l s.m
def Pt.both (s : Pt) : Int := bits .or .i64 s.drv (bits .andNot .i64 s.n s.m)
def Pt.reg (s : Pt) (a : Int) : Int := if a = 0 then s.both else if a = 1 then s.m else 0
def Pt.write (s : Pt) (a d : Int) : Pt := if a = 0 then ⟨s.n, lo d 8, s.m⟩ else if a = 1 then ⟨s.n, s.l, lo d 8⟩ else s
def Pt.inp (s : Pt) (d : Int) : Pt := ⟨lo d 8, s.l, s.m⟩

theorem ptWrap_small {n : Nat} (h : n < 256) : IntKind.i64.wrap (n : Int) = n := IntWalk.i64_in _ (by omega)
theorem ptAnd_nat {a b : Nat} (ha : a < 256) (hb : b < 256) : bits .and .i64 (a : Int) (b : Int) = ((a &&& b : Nat) : Int) := by
  show IntKind.i64.wrap ((BitVec.ofInt 64 (a : Int) &&& BitVec.ofInt 64 (b : Int)).toNat : Int) = _
  rw [BitVec.toNat_and, nat_ofInt _ (by omega), nat_ofInt _ (by omega)]
  exact ptWrap_small (Nat.lt_of_le_of_lt Nat.and_le_left ha)
theorem ptOr_nat {a b : Nat} (ha : a < 256) (hb : b < 256) : bits .or .i64 (a : Int) (b : Int) = ((a ||| b : Nat) : Int) := by
  show IntKind.i64.wrap ((BitVec.ofInt 64 (a : Int) ||| BitVec.ofInt 64 (b : Int)).toNat : Int) = _
  rw [BitVec.toNat_or, nat_ofInt _ (by omega), nat_ofInt _ (by omega)]
  exact ptWrap_small (Nat.or_lt_two_pow (n := 8) ha hb)
theorem ptAndNot_nat {a b : Nat} (ha : a < 256) (hb : b < 256) : bits .andNot .i64 (a : Int) (b : Int) = ((a &&& (18446744073709551615 - b) : Nat) : Int) := by
  show IntKind.i64.wrap ((BitVec.ofInt 64 (a : Int) &&& ~~~ BitVec.ofInt 64 (b : Int)).toNat : Int) = _
  rw [BitVec.toNat_and, BitVec.toNat_not, nat_ofInt _ (by omega), nat_ofInt _ (by omega)]
  rw [show 2 ^ 64 - 1 - b = 18446744073709551615 - b from rfl]
  exact ptWrap_small (Nat.lt_of_le_of_lt Nat.and_le_left ha)
theorem ptNot_bit {b i : Nat} (hb : b < 256) (h : i < 64) : (18446744073709551615 - b).testBit i = !b.testBit i := by
  have := Nat.testBit_two_pow_sub_succ (n := 64) (x := b) (by omega) i
  rw [show 2 ^ 64 - (b + 1) = 18446744073709551615 - b by omega] at this
  rw [this]
  simp [h]
theorem ptBit_nat (a i : Nat) : ((a : Int) / 2 ^ i) % 2 = ((a.testBit i).toNat : Int) := by
  rw [Nat.toNat_testBit]
  simp
/-- The bit of the latch or that of the lines, as the mask says. -/
def pickB (n l m : Int) (i : Nat) : Int := if m / 2 ^ i % 2 = 1 then l / 2 ^ i % 2 else n / 2 ^ i % 2
theorem pickB_bd (n l m : Int) (i : Nat) : 0 ≤ pickB n l m i ∧ pickB n l m i ≤ 1 := by
  unfold pickB
  have h1 := Int.emod_nonneg (l / 2 ^ i) (b := 2) (by decide)
  have h2 := Int.emod_lt_of_pos (l / 2 ^ i) (b := 2) (by decide)
  have h3 := Int.emod_nonneg (n / 2 ^ i) (b := 2) (by decide)
  have h4 := Int.emod_lt_of_pos (n / 2 ^ i) (b := 2) (by decide)
  split <;> omega
theorem Pt.nat {s : Pt} (h : s.fit) : ∃ n l m : Nat, s = ⟨n, l, m⟩ ∧ n < 256 ∧ l < 256 ∧ m < 256 := by
  obtain ⟨n, l, m⟩ := s
  obtain ⟨⟨h1, h2⟩, ⟨h3, h4⟩, ⟨h5, h6⟩⟩ := h
  dsimp only at *
  exact ⟨n.toNat, l.toNat, m.toNat, by rw [Int.toNat_of_nonneg h1, Int.toNat_of_nonneg h3, Int.toNat_of_nonneg h5], by omega, by omega, by omega⟩
theorem Pt.drv_bd {s : Pt} (h : s.fit) : 0 ≤ s.drv ∧ s.drv < 256 := by
  obtain ⟨n, l, m, rfl, hn, hl, hm⟩ := Pt.nat h
  have e : Pt.drv ⟨n, l, m⟩ = ((l &&& m : Nat) : Int) := ptAnd_nat hl hm
  have := Nat.lt_of_le_of_lt (Nat.and_le_left (n := l) (m := m)) hl
  rw [e]
  omega
theorem Pt.drv_bit {s : Pt} (h : s.fit) (i : Nat) : s.drv / 2 ^ i % 2 = pickB 0 s.l s.m i := by
  obtain ⟨n, l, m, rfl, hn, hl, hm⟩ := Pt.nat h
  have e : Pt.drv ⟨n, l, m⟩ = ((l &&& m : Nat) : Int) := ptAnd_nat hl hm
  unfold pickB
  rw [e, ptBit_nat, Nat.testBit_and, ptBit_nat, ptBit_nat, Int.zero_ediv]
  cases l.testBit i <;> cases m.testBit i <;> rfl
theorem Pt.both_nat {n l m : Nat} (hn : n < 256) (hl : l < 256) (hm : m < 256) : Pt.both ⟨n, l, m⟩ = (((l &&& m) ||| (n &&& (18446744073709551615 - m)) : Nat) : Int) := by
  unfold Pt.both Pt.drv
  dsimp only
  rw [ptAnd_nat hl hm, ptAndNot_nat hn hm, ptOr_nat (Nat.lt_of_le_of_lt Nat.and_le_left hl) (Nat.lt_of_le_of_lt Nat.and_le_left hn)]
theorem Pt.both_bd {s : Pt} (h : s.fit) : 0 ≤ s.both ∧ s.both < 256 := by
  obtain ⟨n, l, m, rfl, hn, hl, hm⟩ := Pt.nat h
  rw [Pt.both_nat hn hl hm]
  have := Nat.or_lt_two_pow (n := 8) (Nat.lt_of_le_of_lt (Nat.and_le_left (n := l) (m := m)) hl) (Nat.lt_of_le_of_lt (Nat.and_le_left (n := n) (m := 18446744073709551615 - m)) hn)
  omega
theorem Pt.both_bit {s : Pt} (h : s.fit) (i : Nat) (hi : i < 64) : s.both / 2 ^ i % 2 = pickB s.n s.l s.m i := by
  obtain ⟨n, l, m, rfl, hn, hl, hm⟩ := Pt.nat h
  unfold pickB
  rw [Pt.both_nat hn hl hm, ptBit_nat, Nat.testBit_or, Nat.testBit_and, Nat.testBit_and, ptNot_bit hm hi, ptBit_nat, ptBit_nat, ptBit_nat]
  cases n.testBit i <;> cases l.testBit i <;> cases m.testBit i <;> rfl
/-- The sum of the first k bits that are picked. -/
def sumB (n l m : Int) : Nat → Int
  | 0 => 0
  | k + 1 => sumB n l m k + pickB n l m k * 2 ^ k
theorem sumB_mod {s : Pt} (h : s.fit) (k : Nat) (hk : k ≤ 64) : sumB s.n s.l s.m k = s.both % 2 ^ k := by
  induction k with
  | zero => rw [Int.pow_zero, Int.emod_one]; rfl
  | succ k ih =>
    rw [sumB, ih (by omega), ← Pt.both_bit h k (by omega)]
    have e := lo_div s.both k 1
    unfold lo at e
    rw [show (2 : Int) ^ 1 = 2 from rfl] at e
    rw [← e]
    have h1 := Int.emod_add_mul_ediv (s.both % 2 ^ (k + 1)) (2 ^ k)
    have h2 : s.both % 2 ^ (k + 1) % 2 ^ k = s.both % 2 ^ k := Int.emod_emod_of_dvd _ ⟨2, by rw [p2_succ, Int.mul_comm]⟩
    rw [h2] at h1
    rw [Int.mul_comm] at h1
    exact h1
theorem sumB_both {s : Pt} (h : s.fit) : sumB s.n s.l s.m 8 = s.both := by
  rw [sumB_mod h 8 (by decide)]
  have := Pt.both_bd h
  exact Int.emod_eq_of_lt this.1 this.2
theorem sumB_bd (n l m : Int) (k : Nat) (hk : k ≤ 8) : 0 ≤ sumB n l m k ∧ sumB n l m k < 2 ^ k := by
  induction k with
  | zero => exact ⟨Int.le_refl 0, show (0 : Int) < 2 ^ 0 by decide⟩
  | succ k ih =>
    have := ih (by omega)
    have hb := pickB_bd n l m k
    have hp := p2_pos k
    rw [sumB, p2_succ]
    rcases (by omega : pickB n l m k = 0 ∨ pickB n l m k = 1) with e | e <;> rw [e] <;> omega
end Go.Proofs.Ytambggbmkeemnaa
