/- A part of the proof of ChipBanks: DrvMath. -/
import Derived.Test.YtakaebjojgeehaaChipBanksK03
import Derived.WalkKit
namespace Go.Proofs.Ytakaebjojgeehaa
/-- A drive: disk, track, command, sector, bytes done, cycles left, data, ready, lost, control; the bytes of all disks. -/
structure Dr where (k t c e n l d r o b : Int) (m : List Int)
def Dr.ns (s : Dr) : List Int := [s.k, s.t, s.c, s.e, s.n, s.l, s.d, s.r, s.o, s.b]
structure Dr.fit (s : Dr) : Prop where
  k : (0 ≤ s.k ∧ s.k < 256) ∧ s.k * 256 ≤ s.m.length
  t : 0 ≤ s.t ∧ s.t < 4
  c : 0 ≤ s.c ∧ s.c < 5
  e : 0 ≤ s.e ∧ s.e < 4
  n : 0 ≤ s.n ∧ s.n < 16
  l : 0 ≤ s.l ∧ s.l < 64
  d : 0 ≤ s.d ∧ s.d < 256
  r : 0 ≤ s.r ∧ s.r < 2
  o : 0 ≤ s.o ∧ s.o < 2
  b : 0 ≤ s.b ∧ s.b < 2
  m : s.m.length % 256 = 0
  y : ∀ x ∈ s.m, 0 ≤ x ∧ x < 256
/-- The bytes of all disks: a rest is left out. -/
def drM (lb : List Int) : List Int := lb.take (lb.length / 256 * 256)
theorem drM_len (lb : List Int) : (drM lb).length = lb.length / 256 * 256 := by
  unfold drM
  rw [List.length_take]
  omega
def Dr.of (l lb : List Int) : Dr :=
  ⟨if ((drM lb).length : Int) < l.getD 0 0 % 256 * 256 then 0 else l.getD 0 0 % 256, l.getD 1 0 % 4, if 4 < l.getD 2 0 % 8 then 0 else l.getD 2 0 % 8, l.getD 3 0 % 4, l.getD 4 0 % 16, l.getD 5 0 % 64, l.getD 6 0 % 256, l.getD 7 0 % 2, l.getD 8 0 % 2, l.getD 9 0 % 2, drM lb⟩
theorem Dr.of_fit (l lb : List Int) (hb : ∀ x ∈ lb, 0 ≤ x ∧ x < 256) : (Dr.of l lb).fit := by
  refine ⟨?_, ?_, ?_, ?_, ?_, ?_, ?_, ?_, ?_, ?_, ?_, ?_⟩
  · show (0 ≤ (if ((drM lb).length : Int) < l.getD 0 0 % 256 * 256 then (0 : Int) else l.getD 0 0 % 256) ∧ _) ∧ _
    split
    · exact ⟨⟨by omega, by show (if ((drM lb).length : Int) < l.getD 0 0 % 256 * 256 then (0 : Int) else l.getD 0 0 % 256) < 256; rw [if_pos ‹_›]; decide⟩, by show (if ((drM lb).length : Int) < l.getD 0 0 % 256 * 256 then (0 : Int) else l.getD 0 0 % 256) * 256 ≤ ((drM lb).length : Int); rw [if_pos ‹_›]; omega⟩
    · exact ⟨⟨by omega, by show (if ((drM lb).length : Int) < l.getD 0 0 % 256 * 256 then (0 : Int) else l.getD 0 0 % 256) < 256; rw [if_neg ‹_›]; omega⟩, by show (if ((drM lb).length : Int) < l.getD 0 0 % 256 * 256 then (0 : Int) else l.getD 0 0 % 256) * 256 ≤ ((drM lb).length : Int); rw [if_neg ‹_›]; omega⟩
  · show 0 ≤ l.getD 1 0 % 4 ∧ l.getD 1 0 % 4 < 4
    omega
  · show 0 ≤ (if 4 < l.getD 2 0 % 8 then (0 : Int) else l.getD 2 0 % 8) ∧ (if 4 < l.getD 2 0 % 8 then (0 : Int) else l.getD 2 0 % 8) < 5
    split <;> omega
  · show 0 ≤ l.getD 3 0 % 4 ∧ l.getD 3 0 % 4 < 4
    omega
  · show 0 ≤ l.getD 4 0 % 16 ∧ l.getD 4 0 % 16 < 16
    omega
  · show 0 ≤ l.getD 5 0 % 64 ∧ l.getD 5 0 % 64 < 64
    omega
  · show 0 ≤ l.getD 6 0 % 256 ∧ l.getD 6 0 % 256 < 256
    omega
  · show 0 ≤ l.getD 7 0 % 2 ∧ l.getD 7 0 % 2 < 2
    omega
  · show 0 ≤ l.getD 8 0 % 2 ∧ l.getD 8 0 % 2 < 2
    omega
  · show 0 ≤ l.getD 9 0 % 2 ∧ l.getD 9 0 % 2 < 2
    omega
  · show (drM lb).length % 256 = 0
    rw [drM_len]
    omega
  · exact fun x hx => hb x (List.mem_of_mem_take hx)
/-- One if it is so. -/
def oneD (b : Bool) : Int := if b = true then 1 else 0
def Dr.status (s : Dr) : Int := oneD (decide (0 < s.c)) + 2 * s.r + 4 * s.o + 8 * oneD (s.k == 0)
def Dr.reg (s : Dr) (a : Int) : Int := if a = 0 then s.status else if a = 1 then s.d else if a = 2 then s.t else if a = 3 then s.b else 0
def Dr.read (s : Dr) (a : Int) : Dr := if a = 0 then { s with o := 0 } else if a = 1 ∧ s.c ≠ 4 then { s with r := 0 } else s
def Dr.write (s : Dr) (a x : Int) : Dr :=
  if a = 0 then (if s.c ≠ 0 ∨ x % 16 = 0 ∨ 4 < x % 16 ∨ (2 < x % 16 ∧ s.k = 0) then s else { s with c := x % 16, e := x % 256 / 16 % 4, n := 0, l := 30, r := oneD (x % 16 == 4) })
  else if a = 1 then (if s.c = 4 then { s with d := x % 256, r := 0 } else { s with d := x % 256 })
  else if a = 3 then { s with b := x % 2 } else s
/-- The byte that is next. -/
def Dr.at (s : Dr) : Int := 256 * s.k - 256 + 64 * s.t + 16 * s.e + s.n
def Dr.byte (s : Dr) : Dr := if s.c = 3 then { s with o := if s.r = 1 then 1 else s.o, d := vreg s.m s.at.toNat } else { s with o := if s.r = 1 then 1 else s.o, m := s.m.set s.at.toNat s.d }
def Dr.next (s : Dr) : Int := if 0 < s.c then (if 1 < s.l then s.l - 1 else 0) else 100000
theorem Dr.read_fit {s : Dr} (h : s.fit) (a : Int) : (s.read a).fit := by
  unfold Dr.read
  split
  · exact ⟨h.k, h.t, h.c, h.e, h.n, h.l, h.d, h.r, ⟨(by decide : (0 : Int) ≤ 0), (by decide : (0 : Int) < 2)⟩, h.b, h.m, h.y⟩
  · split
    · exact ⟨h.k, h.t, h.c, h.e, h.n, h.l, h.d, ⟨(by decide : (0 : Int) ≤ 0), (by decide : (0 : Int) < 2)⟩, h.o, h.b, h.m, h.y⟩
    · exact h
theorem oneD_bd (b : Bool) : 0 ≤ oneD b ∧ oneD b < 2 := by cases b <;> decide
theorem Dr.write_fit {s : Dr} (h : s.fit) (a x : Int) : (s.write a x).fit := by
  unfold Dr.write
  split
  · split
    · exact h
    · exact ⟨h.k, h.t, by dsimp only; omega, by dsimp only; omega, ⟨(by decide : (0 : Int) ≤ 0), (by decide : (0 : Int) < 16)⟩, ⟨(by decide : (0 : Int) ≤ 30), (by decide : (30 : Int) < 64)⟩, h.d, oneD_bd _, h.o, h.b, h.m, h.y⟩
  · split
    · split
      · exact ⟨h.k, h.t, h.c, h.e, h.n, h.l, by dsimp only; omega, ⟨(by decide : (0 : Int) ≤ 0), (by decide : (0 : Int) < 2)⟩, h.o, h.b, h.m, h.y⟩
      · exact ⟨h.k, h.t, h.c, h.e, h.n, h.l, by dsimp only; omega, h.r, h.o, h.b, h.m, h.y⟩
    · split
      · exact ⟨h.k, h.t, h.c, h.e, h.n, h.l, h.d, h.r, h.o, by dsimp only; omega, h.m, h.y⟩
      · exact h
end Go.Proofs.Ytakaebjojgeehaa
