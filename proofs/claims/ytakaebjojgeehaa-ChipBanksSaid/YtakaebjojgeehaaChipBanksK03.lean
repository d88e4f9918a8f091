/- A part of the proof of ChipBanks: RefRows, RefArgs, VidMath. -/
import Derived.Test.YtakaebjojgeehaaChipBanksK01
import Derived.Below
import Derived.BigQuiet
import Derived.Deep.Draws
import Derived.Deep.OwnRows
import Derived.Deep.QuietTactic
import Derived.Lib.Hide
import Derived.OwnWalk
import Derived.RowKit3
import Derived.WalkKit
namespace Go.Proofs.Ytakaebjojgeehaa
open Go.RowKit
/-- The slice v of numbers belongs to the call (its block has a number from B on) and holds the list. -/
def own (B : Nat) (w : World) (v : Value) (l : List Int) : Prop := w.ownsRow B 3 1 v l.length (l.map (Value.int .i64))

/-- The slice v reads as the list. -/
def isRow (w : World) (v : Value) (l : List Int) : Prop :=
  (v = .slice none 0 0 ∧ l = []) ∨
  ∃ b off cap, v = .slice (some ⟨b, off, none⟩) l.length cap ∧ b < w.heap.size ∧ l.length ≤ cap ∧ cap ≤ 9223372036854775807 ∧ ∀ j, j < l.length → w.cell? ⟨b, off + j, none⟩ = some (.int .i64 (l.getD j 0))

end Go.Proofs.Ytakaebjojgeehaa
namespace Go.Proofs.Ytakaebjojgeehaa
open Go.RowKit
/-- The slice v reads as the list; of an empty one nothing more is known. -/
def isArg (w : World) (v : Value) (l : List Int) : Prop :=
  (∃ a cap, v = .slice a 0 cap ∧ l = []) ∨
  ∃ b off cap, v = .slice (some ⟨b, off, none⟩) l.length cap ∧ b < w.heap.size ∧ l.length ≤ cap ∧ cap ≤ 9223372036854775807 ∧ ∀ j, j < l.length → w.cell? ⟨b, off + j, none⟩ = some (.int .i64 (l.getD j 0))

theorem isArg_below {B : Nat} {w w' : World} {v : Value} {l : List Int} (h : isArg w v l) (hb : Below B w w') (hB : w.heap.size ≤ B) : isArg w' v l := by
  rcases h with h | ⟨b, off, cap, rfl, h1, h2, h3, h4⟩
  · exact .inl h
  · refine .inr ⟨b, off, cap, rfl, Nat.lt_of_lt_of_le h1 hb.size, h2, h3, fun j hj => ?_⟩
    rw [hb.cell (p := ⟨b, off + j, none⟩) (by show b < B; omega)]; exact h4 j hj
end Go.Proofs.Ytakaebjojgeehaa
namespace Go.Proofs.Ytakaebjojgeehaa
/-- A byte of the registers. -/
def vreg (m : List Int) (i : Nat) : Int := m.getD i 0
/-- The cell of a position (its place among the bytes, its low four bits). -/
def vcellAt (p : Int) : Int := 8 + p / 64 / 8 * 6 + p % 64 / 8
def vcell (m : List Int) (p : Int) : Int := vreg m (vcellAt p).toNat % 16
/-- Is a position visible, does the sprite cover it? -/
def vvis (p : Int) : Bool := decide (p % 64 < 48) && decide (p / 64 < 32)
def vrow (m : List Int) (p : Int) : Bool := decide (vreg m 2 ≤ p / 64) && decide (p / 64 < vreg m 2 + 8)
def vbit (m : List Int) (i : Nat) : Bool := decide (128 ≤ vreg m 4 * 2 ^ i % 256)
def vcov (m : List Int) (p : Int) : Bool := decide (vreg m 1 ≤ p % 64) && decide (p % 64 < vreg m 1 + 8) && (vrow m p && vbit m (p % 64 - vreg m 1).toNat)
/-- The color of a position, and whether the sprite hits a cell there. -/
def vcol (m : List Int) (p : Int) : Int := if vvis p = true then (if vcov m p = true then vreg m 3 % 16 else vcell m p) else vreg m 0 % 16
/-- A video chip: the position, whether there was a hit, the registers. -/
structure Vd where (p h : Int) (m : List Int)
structure Vd.fit (s : Vd) : Prop where
  p : 0 ≤ s.p ∧ s.p < 2560
  h : 0 ≤ s.h ∧ s.h < 2
  m : s.m.length = 32
  b : ∀ i, 0 ≤ vreg s.m i ∧ vreg s.m i < 256
def Vd.reg (s : Vd) (a : Int) : Int := if a = 5 then s.p / 64 else if a = 6 then s.p % 64 else if a = 7 then s.h else if 0 ≤ a ∧ a < 32 then vreg s.m a.toNat else 0
def Vd.read (s : Vd) (a : Int) : Vd := if a = 7 then ⟨s.p, 0, s.m⟩ else s
def Vd.write (s : Vd) (a d : Int) : Vd := if 0 ≤ a ∧ a < 32 ∧ ¬ (5 ≤ a ∧ a ≤ 7) then ⟨s.p, s.h, s.m.set a.toNat (d % 256)⟩ else s
def Vd.out (s : Vd) : Int := vcol s.m s.p
/-- The cycles for which the color stays: the reference's count from the end of a frame. -/
def Vd.restsFrom (s : Vd) : Nat → Int → Int
  | 0, o => o
  | k + 1, o => s.restsFrom k (if vcol s.m ((s.p + (k + 1)) % 2560) = vcol s.m s.p then o else k)
def Vd.next (s : Vd) : Int := s.restsFrom 2560 100000
theorem Vd.reg_bd {m : List Int} (h : ∀ x ∈ m, 0 ≤ x ∧ x < 256) (i : Nat) : 0 ≤ vreg m i ∧ vreg m i < 256 := by
  unfold vreg
  rw [List.getD_eq_getElem?_getD]
  cases hm : m[i]? with
  | none => exact ⟨by decide, by decide⟩
  | some x => exact h x (List.mem_of_getElem? hm)
theorem Vd.write_fit {s : Vd} (hs : s.fit) (a d : Int) : (s.write a d).fit := by
  unfold Vd.write
  split
  · refine ⟨hs.p, hs.h, by rw [List.length_set]; exact hs.m, fun i => ?_⟩
    show 0 ≤ vreg (s.m.set _ _) i ∧ vreg (s.m.set _ _) i < 256
    unfold vreg
    rw [List.getD_eq_getElem?_getD, List.getElem?_set]
    split
    · split
      · exact ⟨Int.emod_nonneg _ (by decide), Int.emod_lt_of_pos _ (by decide)⟩
      · exact ⟨by decide, by decide⟩
    · rw [← List.getD_eq_getElem?_getD]; exact hs.b i
  · exact hs
end Go.Proofs.Ytakaebjojgeehaa
