/- A chip that sends bytes as plain data. -/
import Derived.Test.YtofodkilbigbdaaBitMath
import Derived.WalkKit
namespace Go.Proofs.Ytofodkilbigbdaa
open Go.RowKit

/-- A serial chip's numbers: the byte being sent, the cycles left, the byte received, is there one, was one lost, control, how many sent, the last one. -/
structure Sr where (d c r t o k n z : Int)
def Sr.of (l : List Int) : Sr := ⟨lo (l.getD 0 0) 8, lo (l.getD 1 0) 6, lo (l.getD 2 0) 8, lo (l.getD 3 0) 1, lo (l.getD 4 0) 1, lo (l.getD 5 0) 2, lo (l.getD 6 0) 20, lo (l.getD 7 0) 8⟩
def Sr.cs (s : Sr) : Array Value := #[.int .i64 s.d, .int .i64 s.c, .int .i64 s.r, .int .i64 s.t, .int .i64 s.o, .int .i64 s.k, .int .i64 s.n, .int .i64 s.z]
def Sr.ns (s : Sr) : List Int := [s.d, s.c, s.r, s.t, s.o, s.k, s.n, s.z]
structure Sr.fit (s : Sr) : Prop where
  d : 0 ≤ s.d ∧ s.d < 256
  c : 0 ≤ s.c ∧ s.c < 64
  r : 0 ≤ s.r ∧ s.r < 256
  t : 0 ≤ s.t ∧ s.t < 2
  o : 0 ≤ s.o ∧ s.o < 2
  k : 0 ≤ s.k ∧ s.k < 4
  n : 0 ≤ s.n ∧ s.n < 1048576
  z : 0 ≤ s.z ∧ s.z < 256
theorem Sr.of_fit (l : List Int) : (Sr.of l).fit :=
  ⟨⟨lo_nonneg _ _, lo_lt _ _⟩, ⟨lo_nonneg _ _, lo_lt _ _⟩, ⟨lo_nonneg _ _, lo_lt _ _⟩, ⟨lo_nonneg _ _, lo_lt _ _⟩, ⟨lo_nonneg _ _, lo_lt _ _⟩, ⟨lo_nonneg _ _, lo_lt _ _⟩, ⟨lo_nonneg _ _, lo_lt _ _⟩, ⟨lo_nonneg _ _, lo_lt _ _⟩⟩
theorem Sr.of_ns {s : Sr} (h : s.fit) : Sr.of s.ns = s := by
  obtain ⟨d, c, r, t, o, k, n, z⟩ := s
  obtain ⟨h1, h2, h3, h4, h5, h6, h7, h8⟩ := h
  dsimp only at *
  show Sr.mk (lo d 8) (lo c 6) (lo r 8) (lo t 1) (lo o 1) (lo k 2) (lo n 20) (lo z 8) = _
  rw [show lo d 8 = d from lo_of h1.1 h1.2, show lo c 6 = c from lo_of h2.1 h2.2, show lo r 8 = r from lo_of h3.1 h3.2, show lo t 1 = t from lo_of h4.1 h4.2, show lo o 1 = o from lo_of h5.1 h5.2, show lo k 2 = k from lo_of h6.1 h6.2, show lo n 20 = n from lo_of h7.1 h7.2, show lo z 8 = z from lo_of h8.1 h8.2]
def Sr.status (s : Sr) : Int := s.t + 2 * (if 0 < s.c then 1 else 0) + 4 * s.o
def Sr.reg (s : Sr) (a : Int) : Int := if a = 0 then s.r else if a = 1 then s.status else if a = 2 then s.k else 0
def Sr.read (s : Sr) (a : Int) : Sr := if a = 0 then ⟨s.d, s.c, s.r, 0, s.o, s.k, s.n, s.z⟩ else if a = 1 then ⟨s.d, s.c, s.r, s.t, 0, s.k, s.n, s.z⟩ else s
def Sr.write (s : Sr) (a d : Int) : Sr := if a = 0 then (if 0 < s.c then s else ⟨lo d 8, 40, s.r, s.t, s.o, s.k, s.n, s.z⟩) else if a = 2 then ⟨s.d, s.c, s.r, s.t, s.o, lo d 2, s.n, s.z⟩ else s
def Sr.inp (s : Sr) (d : Int) : Sr := if s.t = 1 then ⟨s.d, s.c, s.r, s.t, 1, s.k, s.n, s.z⟩ else ⟨s.d, s.c, lo d 8, 1, s.o, s.k, s.n, s.z⟩
def Sr.irq (s : Sr) : Bool := (decide (s.k % 2 = 1) && decide (s.t = 1)) || (decide (2 ≤ s.k) && decide (s.c = 0))
def Sr.out (s : Sr) : Int := s.n * 256 + s.z
def Sr.next (s : Sr) : Int := if 0 < s.c then s.c - 1 else 100000
/-- So many cycles at once. -/
def Sr.skip (s : Sr) (j : Int) : Sr :=
  if 0 < j ∧ 0 < s.c then
    if j < s.c then ⟨s.d, s.c - j, s.r, s.t, s.o, s.k, s.n, s.z⟩ else ⟨s.d, 0, s.r, s.t, s.o, s.k, lo (s.n + 1) 20, s.d⟩
  else s
theorem srZero : (0 : Int) ≤ 0 ∧ (0 : Int) < 2 := by decide
theorem srOne : (0 : Int) ≤ 1 ∧ (1 : Int) < 2 := by decide
theorem srNone : (0 : Int) ≤ 0 ∧ (0 : Int) < 64 := by decide
theorem srForty : (0 : Int) ≤ 40 ∧ (40 : Int) < 64 := by decide
theorem Sr.skip_none {s : Sr} {j : Int} (h : ¬ (0 < j ∧ 0 < s.c)) : s.skip j = s := if_neg h
theorem Sr.skip_down {s : Sr} {j : Int} (h0 : 0 ≤ j) (hc : j < s.c) : s.skip j = ⟨s.d, s.c - j, s.r, s.t, s.o, s.k, s.n, s.z⟩ := by
  unfold Sr.skip
  split
  · rfl
  · have e : j = 0 := by omega
    obtain ⟨d, c, r, t, o, k, n, z⟩ := s
    dsimp only at *
    rw [e, Int.sub_zero]
theorem Sr.skip_sent {s : Sr} {j : Int} (h0 : 0 < s.c) (hc : s.c ≤ j) : s.skip j = ⟨s.d, 0, s.r, s.t, s.o, s.k, lo (s.n + 1) 20, s.d⟩ := by
  unfold Sr.skip
  rw [if_pos ⟨by omega, h0⟩, if_neg (by omega)]
theorem Sr.write_fit {s : Sr} (h : s.fit) (a d : Int) : (s.write a d).fit := by
  unfold Sr.write
  split
  · split
    · exact h
    · exact ⟨⟨lo_nonneg _ _, lo_lt _ _⟩, srForty, h.r, h.t, h.o, h.k, h.n, h.z⟩
  · split
    · exact ⟨h.d, h.c, h.r, h.t, h.o, ⟨lo_nonneg _ _, lo_lt _ _⟩, h.n, h.z⟩
    · exact h
theorem Sr.inp_fit {s : Sr} (h : s.fit) (d : Int) : (s.inp d).fit := by
  unfold Sr.inp
  split
  · exact ⟨h.d, h.c, h.r, h.t, srOne, h.k, h.n, h.z⟩
  · exact ⟨h.d, h.c, ⟨lo_nonneg _ _, lo_lt _ _⟩, srOne, h.o, h.k, h.n, h.z⟩
theorem Sr.read_fit {s : Sr} (h : s.fit) (a : Int) : (s.read a).fit := by
  unfold Sr.read
  split
  · exact ⟨h.d, h.c, h.r, srZero, h.o, h.k, h.n, h.z⟩
  · split
    · exact ⟨h.d, h.c, h.r, h.t, srZero, h.k, h.n, h.z⟩
    · exact h
theorem Sr.skip_fit {s : Sr} (h : s.fit) (j : Int) : (s.skip j).fit := by
  have hc := h.c
  unfold Sr.skip
  split
  · split
    · exact ⟨h.d, by dsimp only; omega, h.r, h.t, h.o, h.k, h.n, h.z⟩
    · exact ⟨h.d, srNone, h.r, h.t, h.o, h.k, ⟨lo_nonneg _ _, lo_lt _ _⟩, h.d⟩
  · exact h
theorem Sr.skip_succ {s : Sr} (hs : s.fit) (n : Int) (hn : 0 ≤ n) : (s.skip n).skip 1 = s.skip (n + 1) := by
  have hc := hs.c
  by_cases h0 : 0 < s.c
  · rcases (by omega : n + 1 < s.c ∨ n + 1 = s.c ∨ s.c ≤ n) with h | h | h
    · rw [Sr.skip_down hn (by omega), Sr.skip_down (s := ⟨s.d, s.c - n, s.r, s.t, s.o, s.k, s.n, s.z⟩) (by decide) (by show 1 < s.c - n; omega), Sr.skip_down (by omega) h]
      exact congrArg (fun x => Sr.mk s.d x s.r s.t s.o s.k s.n s.z) (by show s.c - n - 1 = _; omega)
    · rw [Sr.skip_down hn (by omega), Sr.skip_sent (s := ⟨s.d, s.c - n, s.r, s.t, s.o, s.k, s.n, s.z⟩) (by show 0 < s.c - n; omega) (by show s.c - n ≤ 1; omega), Sr.skip_sent h0 (by omega)]
    · rw [Sr.skip_sent h0 h, Sr.skip_sent h0 (show s.c ≤ n + 1 by omega)]
      exact Sr.skip_none (by show ¬ (_ ∧ (0 : Int) < 0); omega)
  · rw [show s.skip n = s from Sr.skip_none (by omega), show s.skip 1 = s from Sr.skip_none (by omega), show s.skip (n + 1) = s from Sr.skip_none (by omega)]
/-- So many cycles, one by one. -/
def Sr.ticks (s : Sr) : Nat → Sr
  | 0 => s
  | n + 1 => (s.ticks n).skip 1
theorem Sr.ticks_skip {s : Sr} (hs : s.fit) (n : Nat) : s.ticks n = s.skip n := by
  induction n with
  | zero => exact (Sr.skip_none (by omega)).symm
  | succ n ih => rw [Sr.ticks, ih, Sr.skip_succ hs n (by omega)]; rfl
theorem Sr.ticks_fit {s : Sr} (hs : s.fit) (n : Nat) : (s.ticks n).fit := by rw [Sr.ticks_skip hs]; exact Sr.skip_fit hs _
/-- The bits of the registers as the walks print them. -/
theorem srOr (t o : Int) (ht : 0 ≤ t ∧ t < 2) (ho : 0 ≤ o ∧ o < 2) : bits .or .i64 t (o * 4) = t + 4 * o ∧ bits .or .i64 (t + 4 * o) 2 = t + 2 + 4 * o := by
  rcases (by omega : t = 0 ∨ t = 1) with rfl | rfl <;> rcases (by omega : o = 0 ∨ o = 1) with rfl | rfl <;> decide
theorem srAnd (k : Int) (hk : 0 ≤ k ∧ k < 4) : bits .and .i64 k 1 = k % 2 ∧ bits .and .i64 k 2 = (if 2 ≤ k then 2 else 0) := by
  rcases (by omega : k = 0 ∨ k = 1 ∨ k = 2 ∨ k = 3) with rfl | rfl | rfl | rfl <;> decide
theorem srJoin (n z : Int) (hn : 0 ≤ n ∧ n < 1048576) (hz : 0 ≤ z ∧ z < 256) : bits .or .i64 (n * 256) z = n * 256 + z := by
  obtain ⟨a, rfl⟩ : ∃ a : Nat, n = a := ⟨n.toNat, by omega⟩
  obtain ⟨b, rfl⟩ : ∃ b : Nat, z = b := ⟨z.toNat, by omega⟩
  have hb : b < 2 ^ 8 := by omega
  have e : ((a : Int) * 256 : Int) = ((a <<< 8 : Nat) : Int) := by rw [Nat.shiftLeft_eq]; omega
  rw [e]
  show IntKind.i64.wrap ((BitVec.ofInt 64 ((a <<< 8 : Nat) : Int) ||| BitVec.ofInt 64 (b : Int)).toNat : Int) = _
  have hs : a <<< 8 < 2 ^ 28 := by rw [Nat.shiftLeft_eq]; omega
  rw [BitVec.toNat_or, nat_ofInt _ (by omega), nat_ofInt _ (by omega), ← Nat.shiftLeft_add_eq_or_of_lt hb]
  exact IntWalk.i64_in _ (by omega)
end Go.Proofs.Ytofodkilbigbdaa
