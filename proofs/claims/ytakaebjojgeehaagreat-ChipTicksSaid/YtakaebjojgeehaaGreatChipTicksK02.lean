/- A part of the proof of ChipTicks: RefRows, RefArgs, RefWalks, VidMath, DrvMath. -/
import Derived.Test.YtakaebjojgeehaaGreatChipTicksK01
import Derived.Below
import Derived.BigQuiet
import Derived.Deep.Draws
import Derived.Deep.OwnRows
import Derived.Deep.QuietTactic
import Derived.Lib.Hide
import Derived.OwnWalk
import Derived.RowKit3
import Derived.Test.YtakaebjojgeehaaGreatChecked
import Derived.WalkKit
namespace Go.Proofs.YtakaebjojgeehaaGreat
open Go.RowKit
/-- The slice v of numbers belongs to the call (its block has a number from B on) and holds the list. -/
def own (B : Nat) (w : World) (v : Value) (l : List Int) : Prop := w.ownsRow B 3 1 v l.length (l.map (Value.int .i64))

/-- The slice v reads as the list. -/
def isRow (w : World) (v : Value) (l : List Int) : Prop :=
  (v = .slice none 0 0 ∧ l = []) ∨
  ∃ b off cap, v = .slice (some ⟨b, off, none⟩) l.length cap ∧ b < w.heap.size ∧ l.length ≤ cap ∧ cap ≤ 9223372036854775807 ∧ ∀ j, j < l.length → w.cell? ⟨b, off + j, none⟩ = some (.int .i64 (l.getD j 0))

end Go.Proofs.YtakaebjojgeehaaGreat
namespace Go.Proofs.YtakaebjojgeehaaGreat
open Go.RowKit
/-- The slice v reads as the list; of an empty one nothing more is known. -/
def isArg (w : World) (v : Value) (l : List Int) : Prop :=
  (∃ a cap, v = .slice a 0 cap ∧ l = []) ∨
  ∃ b off cap, v = .slice (some ⟨b, off, none⟩) l.length cap ∧ b < w.heap.size ∧ l.length ≤ cap ∧ cap ≤ 9223372036854775807 ∧ ∀ j, j < l.length → w.cell? ⟨b, off + j, none⟩ = some (.int .i64 (l.getD j 0))

theorem isArg_below {B : Nat} {w w' : World} {v : Value} {l : List Int} (h : isArg w v l) (hb : Below B w w') (hB : w.heap.size ≤ B) : isArg w' v l := by
  rcases h with h | ⟨b, off, cap, rfl, h1, h2, h3, h4⟩
  · exact .inl h
  · refine .inr ⟨b, off, cap, rfl, Nat.lt_of_lt_of_le h1 hb.size, h2, h3, fun j hj => ?_⟩
    rw [hb.cell (p := ⟨b, off + j, none⟩) (by show b < B; omega)]; exact h4 j hj
theorem cell_block {w : World} {a : Addr} {v : Value} (h : w.cell? a = some v) : a.block < w.heap.size ∧ a.spot = none := by
  unfold World.cell? at h
  split at h
  · rename_i hg
    split at h
    · cases h
    · rename_i hs
      refine ⟨(Array.getElem?_eq_some_iff.1 hg).1, ?_⟩
      cases e : a.spot with
      | none => rfl
      | some _ => rw [e] at hs; simp at hs
  · cases h
end Go.Proofs.YtakaebjojgeehaaGreat
namespace Go.Proofs.YtakaebjojgeehaaGreat
open Go.RowKit
theorem limit_any (n a b : Int) (h : a ≤ b) (w : World) :
    Calls Tryz.prog 19 #[.int .i64 n, .int .i64 a, .int .i64 b] w fun e w' => e = .returned (.int .i64 (near n a b)) ∧ w = w' := by
  go_enter Tryz.func19, Tryz.ntmps19
  go_wp2
  all_goals
    go_ret
    refine ⟨ret_int ?_, rfl⟩
    unfold near
    omega

end Go.Proofs.YtakaebjojgeehaaGreat
namespace Go.Proofs.YtakaebjojgeehaaGreat
/-- A byte of the registers. -/
def vreg (m : List Int) (i : Nat) : Int := m.getD i 0
/-- The cell of a position (its place among the bytes, its low four bits). -/
def vcellAt (p : Int) : Int := 8 + p / 64 / 8 * 6 + p % 64 / 8
def vcell (m : List Int) (p : Int) : Int := vreg m (vcellAt p).toNat % 16
/-- Is a position visible, does the sprite cover it? -/
def vvis (p : Int) : Bool := decide (p % 64 < 48) && decide (p / 64 < 32)
def vrow (m : List Int) (p : Int) : Bool := decide (vreg m 2 ≤ p / 64) && decide (p / 64 < vreg m 2 + 8)
def vbit (m : List Int) (i : Nat) : Bool := decide (128 ≤ vreg m 4 * 2 ^ i % 256)
def vcov (m : List Int) (p : Int) : Bool := decide (vreg m 1 ≤ p % 64) && decide (p % 64 < vreg m 1 + 8) && (vrow m p && vbit m (p % 64 - vreg m 1).toNat)
/-- The color of a position, and whether the sprite hits a cell there. -/
def vcol (m : List Int) (p : Int) : Int := if vvis p = true then (if vcov m p = true then vreg m 3 % 16 else vcell m p) else vreg m 0 % 16
def vhit (m : List Int) (p : Int) : Bool := vvis p && (vcov m p && decide (0 < vcell m p))
/-- Is the sprite met at column i of its own? -/
def vmet (m : List Int) (p : Int) (i : Nat) : Bool := decide (p % 64 = vreg m 1 + i) && (vrow m p && vbit m i)
theorem vcov_met {m : List Int} {p : Int} : vcov m p = true ↔ ∃ i : Nat, i < 8 ∧ vmet m p i = true := by
  unfold vcov vmet
  simp only [Bool.and_eq_true, decide_eq_true_eq]
  constructor
  · rintro ⟨⟨h1, h2⟩, h3, h4⟩
    exact ⟨(p % 64 - vreg m 1).toNat, by omega, by omega, h3, h4⟩
  · rintro ⟨i, hi, h1, h3, h4⟩
    refine ⟨⟨by omega, by omega⟩, h3, ?_⟩
    rw [show (p % 64 - vreg m 1).toNat = i by omega]
    exact h4
/-- A video chip: the position, whether there was a hit, the registers. -/
structure Vd where (p h : Int) (m : List Int)
structure Vd.fit (s : Vd) : Prop where
  p : 0 ≤ s.p ∧ s.p < 2560
  h : 0 ≤ s.h ∧ s.h < 2
  m : s.m.length = 32
  b : ∀ i, 0 ≤ vreg s.m i ∧ vreg s.m i < 256
def Vd.reg (s : Vd) (a : Int) : Int := if a = 5 then s.p / 64 else if a = 6 then s.p % 64 else if a = 7 then s.h else if 0 ≤ a ∧ a < 32 then vreg s.m a.toNat else 0
def Vd.read (s : Vd) (a : Int) : Vd := if a = 7 then ⟨s.p, 0, s.m⟩ else s
def Vd.write (s : Vd) (a d : Int) : Vd := if 0 ≤ a ∧ a < 32 ∧ ¬ (5 ≤ a ∧ a ≤ 7) then ⟨s.p, s.h, s.m.set a.toNat (d % 256)⟩ else s
def Vd.out (s : Vd) : Int := vcol s.m s.p
def Vd.tick (s : Vd) : Vd := ⟨(s.p + 1) % 2560, if vhit s.m ((s.p + 1) % 2560) = true then 1 else s.h, s.m⟩
/-- The cycles for which the color stays: the reference's count from the end of a frame. -/
def Vd.restsFrom (s : Vd) : Nat → Int → Int
  | 0, o => o
  | k + 1, o => s.restsFrom k (if vcol s.m ((s.p + (k + 1)) % 2560) = vcol s.m s.p then o else k)
def Vd.next (s : Vd) : Int := s.restsFrom 2560 100000
theorem Vd.reg_bd {m : List Int} (h : ∀ x ∈ m, 0 ≤ x ∧ x < 256) (i : Nat) : 0 ≤ vreg m i ∧ vreg m i < 256 := by
  unfold vreg
  rw [List.getD_eq_getElem?_getD]
  cases hm : m[i]? with
  | none => exact ⟨by decide, by decide⟩
  | some x => exact h x (List.mem_of_getElem? hm)
theorem Vd.write_fit {s : Vd} (hs : s.fit) (a d : Int) : (s.write a d).fit := by
  unfold Vd.write
  split
  · refine ⟨hs.p, hs.h, by rw [List.length_set]; exact hs.m, fun i => ?_⟩
    show 0 ≤ vreg (s.m.set _ _) i ∧ vreg (s.m.set _ _) i < 256
    unfold vreg
    rw [List.getD_eq_getElem?_getD, List.getElem?_set]
    split
    · split
      · exact ⟨Int.emod_nonneg _ (by decide), Int.emod_lt_of_pos _ (by decide)⟩
      · exact ⟨by decide, by decide⟩
    · rw [← List.getD_eq_getElem?_getD]; exact hs.b i
  · exact hs
theorem Vd.tick_fit {s : Vd} (hs : s.fit) : s.tick.fit := by
  refine ⟨⟨Int.emod_nonneg _ (by decide), Int.emod_lt_of_pos _ (by decide)⟩, ?_, hs.m, hs.b⟩
  unfold Vd.tick
  dsimp only
  split
  · exact ⟨by decide, by decide⟩
  · exact hs.h
end Go.Proofs.YtakaebjojgeehaaGreat
namespace Go.Proofs.YtakaebjojgeehaaGreat
/-- A drive: disk, track, command, sector, bytes done, cycles left, data, ready, lost, control; the bytes of all disks. -/
structure Dr where (k t c e n l d r o b : Int) (m : List Int)
def Dr.ns (s : Dr) : List Int := [s.k, s.t, s.c, s.e, s.n, s.l, s.d, s.r, s.o, s.b]
structure Dr.fit (s : Dr) : Prop where
  k : (0 ≤ s.k ∧ s.k < 256) ∧ s.k * 256 ≤ s.m.length
  t : 0 ≤ s.t ∧ s.t < 4
  c : 0 ≤ s.c ∧ s.c < 5
  e : 0 ≤ s.e ∧ s.e < 4
  n : 0 ≤ s.n ∧ s.n < 16
  l : 0 ≤ s.l ∧ s.l < 64
  d : 0 ≤ s.d ∧ s.d < 256
  r : 0 ≤ s.r ∧ s.r < 2
  o : 0 ≤ s.o ∧ s.o < 2
  b : 0 ≤ s.b ∧ s.b < 2
  m : s.m.length % 256 = 0
  y : ∀ x ∈ s.m, 0 ≤ x ∧ x < 256
/-- The bytes of all disks: a rest is left out. -/
def drM (lb : List Int) : List Int := lb.take (lb.length / 256 * 256)
theorem drM_len (lb : List Int) : (drM lb).length = lb.length / 256 * 256 := by
  unfold drM
  rw [List.length_take]
  omega
theorem drM_self {lb : List Int} (h : lb.length % 256 = 0) : drM lb = lb := by
  unfold drM
  exact List.take_of_length_le (by omega)
def Dr.of (l lb : List Int) : Dr :=
  ⟨if ((drM lb).length : Int) < l.getD 0 0 % 256 * 256 then 0 else l.getD 0 0 % 256, l.getD 1 0 % 4, if 4 < l.getD 2 0 % 8 then 0 else l.getD 2 0 % 8, l.getD 3 0 % 4, l.getD 4 0 % 16, l.getD 5 0 % 64, l.getD 6 0 % 256, l.getD 7 0 % 2, l.getD 8 0 % 2, l.getD 9 0 % 2, drM lb⟩
theorem Dr.of_fit (l lb : List Int) (hb : ∀ x ∈ lb, 0 ≤ x ∧ x < 256) : (Dr.of l lb).fit := by
  refine ⟨?_, ?_, ?_, ?_, ?_, ?_, ?_, ?_, ?_, ?_, ?_, ?_⟩
  · show (0 ≤ (if ((drM lb).length : Int) < l.getD 0 0 % 256 * 256 then (0 : Int) else l.getD 0 0 % 256) ∧ _) ∧ _
    split
    · exact ⟨⟨by omega, by show (if ((drM lb).length : Int) < l.getD 0 0 % 256 * 256 then (0 : Int) else l.getD 0 0 % 256) < 256; rw [if_pos ‹_›]; decide⟩, by show (if ((drM lb).length : Int) < l.getD 0 0 % 256 * 256 then (0 : Int) else l.getD 0 0 % 256) * 256 ≤ ((drM lb).length : Int); rw [if_pos ‹_›]; omega⟩
    · exact ⟨⟨by omega, by show (if ((drM lb).length : Int) < l.getD 0 0 % 256 * 256 then (0 : Int) else l.getD 0 0 % 256) < 256; rw [if_neg ‹_›]; omega⟩, by show (if ((drM lb).length : Int) < l.getD 0 0 % 256 * 256 then (0 : Int) else l.getD 0 0 % 256) * 256 ≤ ((drM lb).length : Int); rw [if_neg ‹_›]; omega⟩
  · show 0 ≤ l.getD 1 0 % 4 ∧ l.getD 1 0 % 4 < 4
    omega
  · show 0 ≤ (if 4 < l.getD 2 0 % 8 then (0 : Int) else l.getD 2 0 % 8) ∧ (if 4 < l.getD 2 0 % 8 then (0 : Int) else l.getD 2 0 % 8) < 5
    split <;> omega
  · show 0 ≤ l.getD 3 0 % 4 ∧ l.getD 3 0 % 4 < 4
    omega
  · show 0 ≤ l.getD 4 0 % 16 ∧ l.getD 4 0 % 16 < 16
    omega
  · show 0 ≤ l.getD 5 0 % 64 ∧ l.getD 5 0 % 64 < 64
    omega
  · show 0 ≤ l.getD 6 0 % 256 ∧ l.getD 6 0 % 256 < 256
    omega
  · show 0 ≤ l.getD 7 0 % 2 ∧ l.getD 7 0 % 2 < 2
    omega
  · show 0 ≤ l.getD 8 0 % 2 ∧ l.getD 8 0 % 2 < 2
    omega
  · show 0 ≤ l.getD 9 0 % 2 ∧ l.getD 9 0 % 2 < 2
    omega
  · show (drM lb).length % 256 = 0
    rw [drM_len]
    omega
  · exact fun x hx => hb x (List.mem_of_mem_take hx)
theorem Dr.of_ns {s : Dr} (h : s.fit) : Dr.of s.ns s.m = s := by
  obtain ⟨k, t, c, e, n, l, d, r, o, b, m⟩ := s
  obtain ⟨h1, h2, h3, h4, h5, h6, h7, h8, h9, h10, h11, h12⟩ := h
  dsimp only at *
  show Dr.mk (if ((drM m).length : Int) < k % 256 * 256 then 0 else k % 256) (t % 4) (if 4 < c % 8 then 0 else c % 8) (e % 4) (n % 16) (l % 64) (d % 256) (r % 2) (o % 2) (b % 2) (drM m) = _
  rw [drM_self h11, Int.emod_eq_of_lt h1.1.1 h1.1.2, Int.emod_eq_of_lt h2.1 h2.2, Int.emod_eq_of_lt h3.1 (show c < 8 by omega), Int.emod_eq_of_lt h4.1 h4.2, Int.emod_eq_of_lt h5.1 h5.2, Int.emod_eq_of_lt h6.1 h6.2, Int.emod_eq_of_lt h7.1 h7.2, Int.emod_eq_of_lt h8.1 h8.2, Int.emod_eq_of_lt h9.1 h9.2, Int.emod_eq_of_lt h10.1 h10.2, if_neg (by omega), if_neg (by omega)]
/-- One if it is so. -/
def oneD (b : Bool) : Int := if b = true then 1 else 0
def Dr.status (s : Dr) : Int := oneD (decide (0 < s.c)) + 2 * s.r + 4 * s.o + 8 * oneD (s.k == 0)
def Dr.reg (s : Dr) (a : Int) : Int := if a = 0 then s.status else if a = 1 then s.d else if a = 2 then s.t else if a = 3 then s.b else 0
def Dr.read (s : Dr) (a : Int) : Dr := if a = 0 then { s with o := 0 } else if a = 1 ∧ s.c ≠ 4 then { s with r := 0 } else s
def Dr.write (s : Dr) (a x : Int) : Dr :=
  if a = 0 then (if s.c ≠ 0 ∨ x % 16 = 0 ∨ 4 < x % 16 ∨ (2 < x % 16 ∧ s.k = 0) then s else { s with c := x % 16, e := x % 256 / 16 % 4, n := 0, l := 30, r := oneD (x % 16 == 4) })
  else if a = 1 then (if s.c = 4 then { s with d := x % 256, r := 0 } else { s with d := x % 256 })
  else if a = 3 then { s with b := x % 2 } else s
/-- The byte that is next. -/
def Dr.at (s : Dr) : Int := 256 * s.k - 256 + 64 * s.t + 16 * s.e + s.n
/-- A byte is done. -/
def Dr.done (s : Dr) : Dr := if s.n + 1 = 16 then { s with c := 0, n := 0, l := 0, r := if s.c = 4 then 0 else 1 } else { s with n := s.n + 1, l := 20, r := 1 }
def Dr.move (s : Dr) : Dr :=
  { s with t := (if s.c = 1 then (if s.t < 3 then s.t + 1 else s.t) else (if 0 < s.t then s.t - 1 else s.t)), c := 0, l := 0 }
def Dr.byte (s : Dr) : Dr := if s.c = 3 then { s with o := if s.r = 1 then 1 else s.o, d := vreg s.m s.at.toNat } else { s with o := if s.r = 1 then 1 else s.o, m := s.m.set s.at.toNat s.d }
def Dr.tick (s : Dr) : Dr :=
  if s.c = 0 then s else if 2 < s.c ∧ s.k = 0 then { s with c := 0 } else if 1 < s.l then { s with l := s.l - 1 } else if s.c < 3 then s.move else s.byte.done
def Dr.next (s : Dr) : Int := if 0 < s.c then (if 1 < s.l then s.l - 1 else 0) else 100000
theorem Dr.at_bd {s : Dr} (h : s.fit) (hk : s.k ≠ 0) : 0 ≤ s.at ∧ s.at < s.m.length := by
  have h1 := h.k
  have h2 := h.t
  have h3 := h.e
  have h4 := h.n
  unfold Dr.at
  omega
theorem Dr.read_fit {s : Dr} (h : s.fit) (a : Int) : (s.read a).fit := by
  unfold Dr.read
  split
  · exact ⟨h.k, h.t, h.c, h.e, h.n, h.l, h.d, h.r, ⟨(by decide : (0 : Int) ≤ 0), (by decide : (0 : Int) < 2)⟩, h.b, h.m, h.y⟩
  · split
    · exact ⟨h.k, h.t, h.c, h.e, h.n, h.l, h.d, ⟨(by decide : (0 : Int) ≤ 0), (by decide : (0 : Int) < 2)⟩, h.o, h.b, h.m, h.y⟩
    · exact h
theorem oneD_bd (b : Bool) : 0 ≤ oneD b ∧ oneD b < 2 := by cases b <;> decide
theorem Dr.write_fit {s : Dr} (h : s.fit) (a x : Int) : (s.write a x).fit := by
  unfold Dr.write
  split
  · split
    · exact h
    · exact ⟨h.k, h.t, by dsimp only; omega, by dsimp only; omega, ⟨(by decide : (0 : Int) ≤ 0), (by decide : (0 : Int) < 16)⟩, ⟨(by decide : (0 : Int) ≤ 30), (by decide : (30 : Int) < 64)⟩, h.d, oneD_bd _, h.o, h.b, h.m, h.y⟩
  · split
    · split
      · exact ⟨h.k, h.t, h.c, h.e, h.n, h.l, by dsimp only; omega, ⟨(by decide : (0 : Int) ≤ 0), (by decide : (0 : Int) < 2)⟩, h.o, h.b, h.m, h.y⟩
      · exact ⟨h.k, h.t, h.c, h.e, h.n, h.l, by dsimp only; omega, h.r, h.o, h.b, h.m, h.y⟩
    · split
      · exact ⟨h.k, h.t, h.c, h.e, h.n, h.l, h.d, h.r, h.o, by dsimp only; omega, h.m, h.y⟩
      · exact h
theorem Dr.move_fit {s : Dr} (h : s.fit) : s.move.fit := by
  have ht := h.t
  refine ⟨h.k, ?_, ⟨(by decide : (0 : Int) ≤ 0), (by decide : (0 : Int) < 5)⟩, h.e, h.n, ⟨(by decide : (0 : Int) ≤ 0), (by decide : (0 : Int) < 64)⟩, h.d, h.r, h.o, h.b, h.m, h.y⟩
  show 0 ≤ (if s.c = 1 then (if s.t < 3 then s.t + 1 else s.t) else (if 0 < s.t then s.t - 1 else s.t)) ∧ (if s.c = 1 then (if s.t < 3 then s.t + 1 else s.t) else (if 0 < s.t then s.t - 1 else s.t)) < 4
  split <;> split <;> omega
theorem Dr.byte_fit {s : Dr} (h : s.fit) : s.byte.fit := by
  have ho : 0 ≤ (if s.r = 1 then (1 : Int) else s.o) ∧ (if s.r = 1 then (1 : Int) else s.o) < 2 := by
    have := h.o
    split <;> omega
  unfold Dr.byte
  split
  · exact ⟨h.k, h.t, h.c, h.e, h.n, h.l, Vd.reg_bd h.y _, h.r, ho, h.b, h.m, h.y⟩
  · refine ⟨by dsimp only; rw [List.length_set]; exact h.k, h.t, h.c, h.e, h.n, h.l, h.d, h.r, ho, h.b, by dsimp only; rw [List.length_set]; exact h.m, fun x hx => ?_⟩
    dsimp only at hx
    rcases List.mem_or_eq_of_mem_set hx with h1 | rfl
    · exact h.y x h1
    · exact h.d
theorem Dr.done_fit {s : Dr} (h : s.fit) : s.done.fit := by
  have hn := h.n
  unfold Dr.done
  split
  · refine ⟨h.k, h.t, ⟨(by decide : (0 : Int) ≤ 0), (by decide : (0 : Int) < 5)⟩, h.e, ⟨(by decide : (0 : Int) ≤ 0), (by decide : (0 : Int) < 16)⟩, ⟨(by decide : (0 : Int) ≤ 0), (by decide : (0 : Int) < 64)⟩, h.d, ?_, h.o, h.b, h.m, h.y⟩
    show 0 ≤ (if s.c = 4 then (0 : Int) else 1) ∧ (if s.c = 4 then (0 : Int) else 1) < 2
    split <;> omega
  · exact ⟨h.k, h.t, h.c, h.e, by dsimp only; omega, ⟨(by decide : (0 : Int) ≤ 20), (by decide : (20 : Int) < 64)⟩, h.d, ⟨(by decide : (0 : Int) ≤ 1), (by decide : (1 : Int) < 2)⟩, h.o, h.b, h.m, h.y⟩
theorem Dr.tick_fit {s : Dr} (h : s.fit) : s.tick.fit := by
  have hl := h.l
  unfold Dr.tick
  split
  · exact h
  · split
    · exact ⟨h.k, h.t, ⟨(by decide : (0 : Int) ≤ 0), (by decide : (0 : Int) < 5)⟩, h.e, h.n, h.l, h.d, h.r, h.o, h.b, h.m, h.y⟩
    · split
      · exact ⟨h.k, h.t, h.c, h.e, h.n, by dsimp only; omega, h.d, h.r, h.o, h.b, h.m, h.y⟩
      · split
        · exact Dr.move_fit h
        · exact Dr.done_fit (Dr.byte_fit h)
end Go.Proofs.YtakaebjojgeehaaGreat
