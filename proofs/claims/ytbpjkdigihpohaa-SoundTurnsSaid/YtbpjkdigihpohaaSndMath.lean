/- A chip with voices as plain data. -/
import Derived.Test.YtbpjkdigihpohaaBitMath
import Derived.WalkKit
namespace Go.Proofs.Ytbpjkdigihpohaa

/-- A voice: period, volume, rate, count of the period, phase, count of the rate. -/
structure Vc where (p v r c f g : Int)
structure Vc.fit (s : Vc) : Prop where
  p : 0 ≤ s.p ∧ s.p < 4096
  v : 0 ≤ s.v ∧ s.v < 16
  r : 0 ≤ s.r ∧ s.r < 256
  c : 0 ≤ s.c ∧ s.c < 4096
  f : 0 ≤ s.f ∧ s.f < 2
  g : 0 ≤ s.g ∧ s.g < 16384
def Vc.of (l : List Int) (k : Nat) : Vc := ⟨lo (l.getD k 0) 12, lo (l.getD (k + 1) 0) 4, lo (l.getD (k + 2) 0) 8, lo (l.getD (k + 3) 0) 12, lo (l.getD (k + 4) 0) 1, lo (l.getD (k + 5) 0) 14⟩
theorem Vc.of_fit (l : List Int) (k : Nat) : (Vc.of l k).fit := ⟨⟨lo_nonneg _ _, lo_lt _ _⟩, ⟨lo_nonneg _ _, lo_lt _ _⟩, ⟨lo_nonneg _ _, lo_lt _ _⟩, ⟨lo_nonneg _ _, lo_lt _ _⟩, ⟨lo_nonneg _ _, lo_lt _ _⟩, ⟨lo_nonneg _ _, lo_lt _ _⟩⟩
def Vc.wave (s : Vc) : Vc := if 0 < s.p then (if s.p ≤ s.c + 1 then ⟨s.p, s.v, s.r, 0, 1 - s.f, s.g⟩ else ⟨s.p, s.v, s.r, s.c + 1, s.f, s.g⟩) else s
def Vc.fade (s : Vc) : Vc := if 0 < s.r ∧ 0 < s.v then (if 64 * s.r ≤ s.g + 1 then ⟨s.p, s.v - 1, s.r, s.c, s.f, 0⟩ else ⟨s.p, s.v, s.r, s.c, s.f, s.g + 1⟩) else s
def Vc.tick (s : Vc) : Vc := s.wave.fade
def Vc.rest (s : Vc) (o : Int) : Int := 
  let o1 := if 0 < s.p then min o (max 0 (s.p - s.c - 1)) else o
  if 0 < s.v * s.r then min o1 (max 0 (64 * s.r - s.g - 1)) else o1
def Vc.out (s : Vc) : Int := s.f * s.v
def Vc.write (s : Vc) (k x : Int) : Vc :=
  if k = 0 then ⟨s.p / 256 * 256 + x % 256, s.v, s.r, s.c, s.f, s.g⟩
  else if k = 1 then ⟨s.p % 256 + x % 16 * 256, s.v, s.r, s.c, s.f, s.g⟩
  else if k = 2 then ⟨s.p, x % 16, s.r, s.c, s.f, 0⟩
  else ⟨s.p, s.v, x % 256, s.c, s.f, s.g⟩
def Vc.reg (s : Vc) (k : Int) : Int := if k = 0 then s.p % 256 else if k = 1 then s.p / 256 else if k = 2 then s.v else s.r
def Vc.ns (s : Vc) : List Int := [s.p, s.v, s.r, s.c, s.f, s.g]
structure Sn where (a b : Vc)
structure Sn.fit (s : Sn) : Prop where
  a : s.a.fit
  b : s.b.fit
def Sn.of (l : List Int) : Sn := ⟨Vc.of l 0, Vc.of l 6⟩
theorem Sn.of_fit (l : List Int) : (Sn.of l).fit := ⟨Vc.of_fit l 0, Vc.of_fit l 6⟩
def Sn.ns (s : Sn) : List Int := [s.a.p, s.a.v, s.a.r, s.a.c, s.a.f, s.a.g, s.b.p, s.b.v, s.b.r, s.b.c, s.b.f, s.b.g]
theorem Vc.of_ns {s : Vc} (h : s.fit) (l : List Int) (k : Nat) (e0 : l.getD k 0 = s.p) (e1 : l.getD (k + 1) 0 = s.v) (e2 : l.getD (k + 2) 0 = s.r) (e3 : l.getD (k + 3) 0 = s.c) (e4 : l.getD (k + 4) 0 = s.f) (e5 : l.getD (k + 5) 0 = s.g) : Vc.of l k = s := by
  unfold Vc.of
  rw [e0, e1, e2, e3, e4, e5, show lo s.p 12 = s.p from lo_of h.p.1 h.p.2, show lo s.v 4 = s.v from lo_of h.v.1 h.v.2, show lo s.r 8 = s.r from lo_of h.r.1 h.r.2, show lo s.c 12 = s.c from lo_of h.c.1 h.c.2, show lo s.f 1 = s.f from lo_of h.f.1 h.f.2, show lo s.g 14 = s.g from lo_of h.g.1 h.g.2]
theorem Sn.of_ns {s : Sn} (h : s.fit) : Sn.of s.ns = s := by
  show Sn.mk _ _ = _
  rw [Vc.of_ns h.a s.ns 0 rfl rfl rfl rfl rfl rfl, Vc.of_ns h.b s.ns 6 rfl rfl rfl rfl rfl rfl]
def Sn.tick (s : Sn) : Sn := ⟨s.a.tick, s.b.tick⟩
def Sn.next (s : Sn) : Int := s.b.rest (s.a.rest 100000)
def Sn.out (s : Sn) : Int := s.a.out + s.b.out
def Sn.write (s : Sn) (a x : Int) : Sn := if 0 ≤ a ∧ a < 4 then ⟨s.a.write a x, s.b⟩ else if 4 ≤ a ∧ a < 8 then ⟨s.a, s.b.write (a - 4) x⟩ else s
def Sn.reg (s : Sn) (a : Int) : Int := if 0 ≤ a ∧ a < 4 then s.a.reg a else if 4 ≤ a ∧ a < 8 then s.b.reg (a - 4) else 0
theorem Vc.wave_fit {s : Vc} (h : s.fit) : s.wave.fit := by
  have := h.c; have := h.p; have := h.f
  unfold Vc.wave
  split
  · split
    · exact ⟨h.p, h.v, h.r, by dsimp only; omega, by dsimp only; omega, h.g⟩
    · exact ⟨h.p, h.v, h.r, by dsimp only; omega, h.f, h.g⟩
  · exact h
theorem Vc.fade_fit {s : Vc} (h : s.fit) : s.fade.fit := by
  have := h.g; have := h.v; have := h.r
  unfold Vc.fade
  split
  · split
    · exact ⟨h.p, by dsimp only; omega, h.r, h.c, h.f, by dsimp only; omega⟩
    · exact ⟨h.p, h.v, h.r, h.c, h.f, by dsimp only; omega⟩
  · exact h
theorem Vc.tick_fit {s : Vc} (h : s.fit) : s.tick.fit := Vc.fade_fit (Vc.wave_fit h)
theorem Vc.write_fit {s : Vc} (h : s.fit) (k x : Int) : (s.write k x).fit := by
  have := h.p
  unfold Vc.write
  split
  · exact ⟨by dsimp only; omega, h.v, h.r, h.c, h.f, h.g⟩
  · split
    · exact ⟨by dsimp only; omega, h.v, h.r, h.c, h.f, h.g⟩
    · split
      · exact ⟨h.p, by dsimp only; omega, h.r, h.c, h.f, by dsimp only; omega⟩
      · exact ⟨h.p, h.v, by dsimp only; omega, h.c, h.f, h.g⟩
theorem Sn.tick_fit {s : Sn} (h : s.fit) : s.tick.fit := ⟨Vc.tick_fit h.a, Vc.tick_fit h.b⟩
theorem Sn.write_fit {s : Sn} (h : s.fit) (a x : Int) : (s.write a x).fit := by
  unfold Sn.write
  split
  · exact ⟨Vc.write_fit h.a _ _, h.b⟩
  · split
    · exact ⟨h.a, Vc.write_fit h.b _ _⟩
    · exact h
/-- The voices up to the k-th have had their cycle. -/
def Sn.upto (s : Sn) (k : Nat) : Sn := ⟨if 0 < k then s.a.tick else s.a, if 1 < k then s.b.tick else s.b⟩
def Sn.vc (s : Sn) (k : Nat) : Vc := if k = 0 then s.a else s.b
end Go.Proofs.Ytbpjkdigihpohaa
