/- A part of the proof of ChipBanks: SerMath. -/
import Derived.Test.YtakaebjojgeehaaChipBanksK01
import Derived.WalkKit
namespace Go.Proofs.Ytakaebjojgeehaa
open Go.RowKit
/-- A serial chip's numbers: the byte being sent, the cycles left, the byte received, is there one, was one lost, control, how many sent, the last one. -/
structure Sr where (d c r t o k n z : Int)
def Sr.of (l : List Int) : Sr := ⟨lo (l.getD 0 0) 8, lo (l.getD 1 0) 6, lo (l.getD 2 0) 8, lo (l.getD 3 0) 1, lo (l.getD 4 0) 1, lo (l.getD 5 0) 2, lo (l.getD 6 0) 20, lo (l.getD 7 0) 8⟩
def Sr.cs (s : Sr) : Array Value := #[.int .i64 s.d, .int .i64 s.c, .int .i64 s.r, .int .i64 s.t, .int .i64 s.o, .int .i64 s.k, .int .i64 s.n, .int .i64 s.z]
def Sr.ns (s : Sr) : List Int := [s.d, s.c, s.r, s.t, s.o, s.k, s.n, s.z]
structure Sr.fit (s : Sr) : Prop where
  d : 0 ≤ s.d ∧ s.d < 256
  c : 0 ≤ s.c ∧ s.c < 64
  r : 0 ≤ s.r ∧ s.r < 256
  t : 0 ≤ s.t ∧ s.t < 2
  o : 0 ≤ s.o ∧ s.o < 2
  k : 0 ≤ s.k ∧ s.k < 4
  n : 0 ≤ s.n ∧ s.n < 1048576
  z : 0 ≤ s.z ∧ s.z < 256
theorem Sr.of_fit (l : List Int) : (Sr.of l).fit :=
  ⟨⟨lo_nonneg _ _, lo_lt _ _⟩, ⟨lo_nonneg _ _, lo_lt _ _⟩, ⟨lo_nonneg _ _, lo_lt _ _⟩, ⟨lo_nonneg _ _, lo_lt _ _⟩, ⟨lo_nonneg _ _, lo_lt _ _⟩, ⟨lo_nonneg _ _, lo_lt _ _⟩, ⟨lo_nonneg _ _, lo_lt _ _⟩, ⟨lo_nonneg _ _, lo_lt _ _⟩⟩
def Sr.status (s : Sr) : Int := s.t + 2 * (if 0 < s.c then 1 else 0) + 4 * s.o
def Sr.reg (s : Sr) (a : Int) : Int := if a = 0 then s.r else if a = 1 then s.status else if a = 2 then s.k else 0
def Sr.read (s : Sr) (a : Int) : Sr := if a = 0 then ⟨s.d, s.c, s.r, 0, s.o, s.k, s.n, s.z⟩ else if a = 1 then ⟨s.d, s.c, s.r, s.t, 0, s.k, s.n, s.z⟩ else s
def Sr.write (s : Sr) (a d : Int) : Sr := if a = 0 then (if 0 < s.c then s else ⟨lo d 8, 40, s.r, s.t, s.o, s.k, s.n, s.z⟩) else if a = 2 then ⟨s.d, s.c, s.r, s.t, s.o, lo d 2, s.n, s.z⟩ else s
def Sr.out (s : Sr) : Int := s.n * 256 + s.z
def Sr.next (s : Sr) : Int := if 0 < s.c then s.c - 1 else 100000
theorem srZero : (0 : Int) ≤ 0 ∧ (0 : Int) < 2 := by decide
theorem srForty : (0 : Int) ≤ 40 ∧ (40 : Int) < 64 := by decide
theorem Sr.write_fit {s : Sr} (h : s.fit) (a d : Int) : (s.write a d).fit := by
  unfold Sr.write
  split
  · split
    · exact h
    · exact ⟨⟨lo_nonneg _ _, lo_lt _ _⟩, srForty, h.r, h.t, h.o, h.k, h.n, h.z⟩
  · split
    · exact ⟨h.d, h.c, h.r, h.t, h.o, ⟨lo_nonneg _ _, lo_lt _ _⟩, h.n, h.z⟩
    · exact h
theorem Sr.read_fit {s : Sr} (h : s.fit) (a : Int) : (s.read a).fit := by
  unfold Sr.read
  split
  · exact ⟨h.d, h.c, h.r, srZero, h.o, h.k, h.n, h.z⟩
  · split
    · exact ⟨h.d, h.c, h.r, h.t, srZero, h.k, h.n, h.z⟩
    · exact h
/-- The bits of the registers as the walks print them. -/
theorem srOr (t o : Int) (ht : 0 ≤ t ∧ t < 2) (ho : 0 ≤ o ∧ o < 2) : bits .or .i64 t (o * 4) = t + 4 * o ∧ bits .or .i64 (t + 4 * o) 2 = t + 2 + 4 * o := by
  rcases (by omega : t = 0 ∨ t = 1) with rfl | rfl <;> rcases (by omega : o = 0 ∨ o = 1) with rfl | rfl <;> decide
end Go.Proofs.Ytakaebjojgeehaa
