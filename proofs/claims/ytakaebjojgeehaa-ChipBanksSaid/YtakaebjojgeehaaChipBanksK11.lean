/- A part of the proof of ChipBanks: DevSame, SndMath, TimMath. -/
import Derived.Test.YtakaebjojgeehaaChipBanksK01
import Derived.Test.YtakaebjojgeehaaChipBanksK02
import Derived.Test.YtakaebjojgeehaaChipBanksK03
import Derived.Test.YtakaebjojgeehaaChipBanksK04
import Derived.Test.YtakaebjojgeehaaChipBanksK05
import Derived.Test.YtakaebjojgeehaaChipBanksK06
import Derived.Test.YtakaebjojgeehaaChipBanksK07
import Derived.Test.YtakaebjojgeehaaChipBanksK08
import Derived.Test.YtakaebjojgeehaaChipBanksK09
import Derived.Test.YtakaebjojgeehaaChipBanksK10
import Derived.Below
import Derived.BigQuiet
import Derived.ChangeMaps5
import Derived.Deep.DeepCutAuto
import Derived.Deep.Draws
import Derived.Deep.MidRow
import Derived.Deep.OwnRows
import Derived.Deep.QuietTactic
import Derived.Deep.RegionHeld3
import Derived.Deep.RegionWith
import Derived.Deep.Slices
import Derived.Deep.WholeRow
import Derived.Lib.Hide
import Derived.Lib.SmallJoins
import Derived.OpenShut
import Derived.OrdersHeld
import Derived.OwnWalk
import Derived.RowKit3
import Derived.StillTactics
import Derived.StillTail
import Derived.StillTailTactics
import Derived.Test.YtakaebjojgeehaaChecked
import Derived.WalkKit
namespace Go.Proofs.Ytakaebjojgeehaa
open Go.RowKit
set_option maxRecDepth 100000
theorem agCh : isAg Try.prog 24 5 := ⟨⟨_, Try.underlying24, rfl⟩, by kernel_rfl⟩
theorem ccells {w : World} {g : Nat} {t : TypeId} {a b c d e : Value} (h : rowB w g t #[a, b, c, d, e]) : w.cell? ⟨g, 0, none⟩ = some a ∧ w.cell? ⟨g, 1, none⟩ = some b ∧ w.cell? ⟨g, 2, none⟩ = some c ∧ w.cell? ⟨g, 3, none⟩ = some d ∧ w.cell? ⟨g, 4, none⟩ = some e :=
  ⟨rowB_cell h 0 rfl, rowB_cell h 1 rfl, rowB_cell h 2 rfl, rowB_cell h 3 rfl, rowB_cell h 4 rfl⟩
theorem isByt_none (w : World) : isByt w (.slice none 0 0) [] := .inl ⟨none, 0, rfl, rfl⟩
end Go.Proofs.Ytakaebjojgeehaa
namespace Go.Proofs.Ytakaebjojgeehaa
/-- A voice: period, volume, rate, count of the period, phase, count of the rate. -/
structure Vc where (p v r c f g : Int)
structure Vc.fit (s : Vc) : Prop where
  p : 0 ≤ s.p ∧ s.p < 4096
  v : 0 ≤ s.v ∧ s.v < 16
  r : 0 ≤ s.r ∧ s.r < 256
  c : 0 ≤ s.c ∧ s.c < 4096
  f : 0 ≤ s.f ∧ s.f < 2
  g : 0 ≤ s.g ∧ s.g < 16384
def Vc.of (l : List Int) (k : Nat) : Vc := ⟨lo (l.getD k 0) 12, lo (l.getD (k + 1) 0) 4, lo (l.getD (k + 2) 0) 8, lo (l.getD (k + 3) 0) 12, lo (l.getD (k + 4) 0) 1, lo (l.getD (k + 5) 0) 14⟩
theorem Vc.of_fit (l : List Int) (k : Nat) : (Vc.of l k).fit := ⟨⟨lo_nonneg _ _, lo_lt _ _⟩, ⟨lo_nonneg _ _, lo_lt _ _⟩, ⟨lo_nonneg _ _, lo_lt _ _⟩, ⟨lo_nonneg _ _, lo_lt _ _⟩, ⟨lo_nonneg _ _, lo_lt _ _⟩, ⟨lo_nonneg _ _, lo_lt _ _⟩⟩
def Vc.rest (s : Vc) (o : Int) : Int := 
  let o1 := if 0 < s.p then min o (max 0 (s.p - s.c - 1)) else o
  if 0 < s.v * s.r then min o1 (max 0 (64 * s.r - s.g - 1)) else o1
def Vc.out (s : Vc) : Int := s.f * s.v
def Vc.write (s : Vc) (k x : Int) : Vc :=
  if k = 0 then ⟨s.p / 256 * 256 + x % 256, s.v, s.r, s.c, s.f, s.g⟩
  else if k = 1 then ⟨s.p % 256 + x % 16 * 256, s.v, s.r, s.c, s.f, s.g⟩
  else if k = 2 then ⟨s.p, x % 16, s.r, s.c, s.f, 0⟩
  else ⟨s.p, s.v, x % 256, s.c, s.f, s.g⟩
def Vc.reg (s : Vc) (k : Int) : Int := if k = 0 then s.p % 256 else if k = 1 then s.p / 256 else if k = 2 then s.v else s.r
def Vc.ns (s : Vc) : List Int := [s.p, s.v, s.r, s.c, s.f, s.g]
structure Sn where (a b : Vc)
structure Sn.fit (s : Sn) : Prop where
  a : s.a.fit
  b : s.b.fit
def Sn.of (l : List Int) : Sn := ⟨Vc.of l 0, Vc.of l 6⟩
theorem Sn.of_fit (l : List Int) : (Sn.of l).fit := ⟨Vc.of_fit l 0, Vc.of_fit l 6⟩
def Sn.ns (s : Sn) : List Int := [s.a.p, s.a.v, s.a.r, s.a.c, s.a.f, s.a.g, s.b.p, s.b.v, s.b.r, s.b.c, s.b.f, s.b.g]
def Sn.next (s : Sn) : Int := s.b.rest (s.a.rest 100000)
def Sn.out (s : Sn) : Int := s.a.out + s.b.out
def Sn.write (s : Sn) (a x : Int) : Sn := if 0 ≤ a ∧ a < 4 then ⟨s.a.write a x, s.b⟩ else if 4 ≤ a ∧ a < 8 then ⟨s.a, s.b.write (a - 4) x⟩ else s
def Sn.reg (s : Sn) (a : Int) : Int := if 0 ≤ a ∧ a < 4 then s.a.reg a else if 4 ≤ a ∧ a < 8 then s.b.reg (a - 4) else 0
theorem Vc.write_fit {s : Vc} (h : s.fit) (k x : Int) : (s.write k x).fit := by
  have := h.p
  unfold Vc.write
  split
  · exact ⟨by dsimp only; omega, h.v, h.r, h.c, h.f, h.g⟩
  · split
    · exact ⟨by dsimp only; omega, h.v, h.r, h.c, h.f, h.g⟩
    · split
      · exact ⟨h.p, by dsimp only; omega, h.r, h.c, h.f, by dsimp only; omega⟩
      · exact ⟨h.p, h.v, by dsimp only; omega, h.c, h.f, h.g⟩
theorem Sn.write_fit {s : Sn} (h : s.fit) (a x : Int) : (s.write a x).fit := by
  unfold Sn.write
  split
  · exact ⟨Vc.write_fit h.a _ _, h.b⟩
  · split
    · exact ⟨h.a, Vc.write_fit h.b _ _⟩
    · exact h
end Go.Proofs.Ytakaebjojgeehaa
namespace Go.Proofs.Ytakaebjojgeehaa
theorem putN_word (n d : Int) (h0 : 0 ≤ n) (h1 : n < 65536) : (0 ≤ putN n 0 8 d ∧ putN n 0 8 d < 65536) ∧ (0 ≤ putN n 8 8 d ∧ putN n 8 8 d < 65536) := by
  have a : putN n 0 8 d = n % 4611686018427387904 / 256 * 256 + d % 256 * 1 + n % 1 := rfl
  have b : putN n 8 8 d = n % 4611686018427387904 / 65536 * 65536 + d % 256 * 256 + n % 256 := rfl
  rw [a, b]
  omega
theorem Tm.write_fit {s : Tm} (h : s.fit) (a d : Int) : (s.write a d).fit := by
  obtain ⟨⟨f1, f2⟩, ⟨f3, f4⟩, ⟨f5, f6⟩, ⟨f7, f8⟩⟩ := h
  have hp := putN_word s.l d f3 f4
  unfold Tm.write
  split
  · exact ⟨⟨f1, f2⟩, hp.1, ⟨f5, f6⟩, ⟨f7, f8⟩⟩
  · split
    · exact ⟨⟨f1, f2⟩, hp.2, ⟨f5, f6⟩, ⟨f7, f8⟩⟩
    · split
      · refine ⟨?_, ⟨f3, f4⟩, ⟨lo_nonneg _ _, lo_lt _ _⟩, ⟨f7, f8⟩⟩
        show 0 ≤ (if d / 128 % 2 = 1 then s.l else s.c) ∧ (if d / 128 % 2 = 1 then s.l else s.c) < 65536
        split <;> omega
      · exact ⟨⟨f1, f2⟩, ⟨f3, f4⟩, ⟨f5, f6⟩, ⟨f7, f8⟩⟩
end Go.Proofs.Ytakaebjojgeehaa
