/- A chip that draws as plain data: what is seen of a picture. -/
import Derived.WalkKit
namespace Go.Proofs.Ytmjddoboogccoaa

/-- A byte of the registers. -/
def vreg (m : List Int) (i : Nat) : Int := m.getD i 0
/-- The cell of a position (its place among the bytes, its low four bits). -/
def vcellAt (p : Int) : Int := 8 + p / 64 / 8 * 6 + p % 64 / 8
def vcell (m : List Int) (p : Int) : Int := vreg m (vcellAt p).toNat % 16
/-- Is a position visible, does the sprite cover it? -/
def vvis (p : Int) : Bool := decide (p % 64 < 48) && decide (p / 64 < 32)
def vrow (m : List Int) (p : Int) : Bool := decide (vreg m 2 ≤ p / 64) && decide (p / 64 < vreg m 2 + 8)
def vbit (m : List Int) (i : Nat) : Bool := decide (128 ≤ vreg m 4 * 2 ^ i % 256)
def vcov (m : List Int) (p : Int) : Bool := decide (vreg m 1 ≤ p % 64) && decide (p % 64 < vreg m 1 + 8) && (vrow m p && vbit m (p % 64 - vreg m 1).toNat)
/-- The color of a position, and whether the sprite hits a cell there. -/
def vcol (m : List Int) (p : Int) : Int := if vvis p = true then (if vcov m p = true then vreg m 3 % 16 else vcell m p) else vreg m 0 % 16
def vhit (m : List Int) (p : Int) : Bool := vvis p && (vcov m p && decide (0 < vcell m p))
/-- Is the sprite met at column i of its own? -/
def vmet (m : List Int) (p : Int) (i : Nat) : Bool := decide (p % 64 = vreg m 1 + i) && (vrow m p && vbit m i)
theorem vcov_met {m : List Int} {p : Int} : vcov m p = true ↔ ∃ i : Nat, i < 8 ∧ vmet m p i = true := by
  unfold vcov vmet
  simp only [Bool.and_eq_true, decide_eq_true_eq]
  constructor
  · rintro ⟨⟨h1, h2⟩, h3, h4⟩
    exact ⟨(p % 64 - vreg m 1).toNat, by omega, by omega, h3, h4⟩
  · rintro ⟨i, hi, h1, h3, h4⟩
    refine ⟨⟨by omega, by omega⟩, h3, ?_⟩
    rw [show (p % 64 - vreg m 1).toNat = i by omega]
    exact h4
/-- A video chip: the position, whether there was a hit, the registers. -/
structure Vd where (p h : Int) (m : List Int)
structure Vd.fit (s : Vd) : Prop where
  p : 0 ≤ s.p ∧ s.p < 2560
  h : 0 ≤ s.h ∧ s.h < 2
  m : s.m.length = 32
  b : ∀ i, 0 ≤ vreg s.m i ∧ vreg s.m i < 256
def Vd.reg (s : Vd) (a : Int) : Int := if a = 5 then s.p / 64 else if a = 6 then s.p % 64 else if a = 7 then s.h else if 0 ≤ a ∧ a < 32 then vreg s.m a.toNat else 0
def Vd.read (s : Vd) (a : Int) : Vd := if a = 7 then ⟨s.p, 0, s.m⟩ else s
def Vd.write (s : Vd) (a d : Int) : Vd := if 0 ≤ a ∧ a < 32 ∧ ¬ (5 ≤ a ∧ a ≤ 7) then ⟨s.p, s.h, s.m.set a.toNat (d % 256)⟩ else s
def Vd.out (s : Vd) : Int := vcol s.m s.p
def Vd.tick (s : Vd) : Vd := ⟨(s.p + 1) % 2560, if vhit s.m ((s.p + 1) % 2560) = true then 1 else s.h, s.m⟩
/-- The cycles for which the color stays: the reference's count from the end of a frame. -/
def Vd.restsFrom (s : Vd) : Nat → Int → Int
  | 0, o => o
  | k + 1, o => s.restsFrom k (if vcol s.m ((s.p + (k + 1)) % 2560) = vcol s.m s.p then o else k)
def Vd.next (s : Vd) : Int := s.restsFrom 2560 100000
theorem Vd.reg_bd {m : List Int} (h : ∀ x ∈ m, 0 ≤ x ∧ x < 256) (i : Nat) : 0 ≤ vreg m i ∧ vreg m i < 256 := by
  unfold vreg
  rw [List.getD_eq_getElem?_getD]
  cases hm : m[i]? with
  | none => exact ⟨by decide, by decide⟩
  | some x => exact h x (List.mem_of_getElem? hm)
theorem Vd.write_fit {s : Vd} (hs : s.fit) (a d : Int) : (s.write a d).fit := by
  unfold Vd.write
  split
  · refine ⟨hs.p, hs.h, by rw [List.length_set]; exact hs.m, fun i => ?_⟩
    show 0 ≤ vreg (s.m.set _ _) i ∧ vreg (s.m.set _ _) i < 256
    unfold vreg
    rw [List.getD_eq_getElem?_getD, List.getElem?_set]
    split
    · split
      · exact ⟨Int.emod_nonneg _ (by decide), Int.emod_lt_of_pos _ (by decide)⟩
      · exact ⟨by decide, by decide⟩
    · rw [← List.getD_eq_getElem?_getD]; exact hs.b i
  · exact hs
theorem Vd.tick_fit {s : Vd} (hs : s.fit) : s.tick.fit := by
  refine ⟨⟨Int.emod_nonneg _ (by decide), Int.emod_lt_of_pos _ (by decide)⟩, ?_, hs.m, hs.b⟩
  unfold Vd.tick
  dsimp only
  split
  · exact ⟨by decide, by decide⟩
  · exact hs.h
end Go.Proofs.Ytmjddoboogccoaa
