/- A chip for disks as plain data: many cycles. -/
import Derived.Test.YtmjddoboogccoaaDrvMath
import Derived.WalkKit
namespace Go.Proofs.Ytmjddoboogccoaa

/-- So many cycles, one by one. -/
def Dr.ticks (s : Dr) : Nat → Dr
  | 0 => s
  | n + 1 => (s.ticks n).tick
theorem Dr.ticks_fit {s : Dr} (h : s.fit) (n : Nat) : (s.ticks n).fit := by
  induction n with
  | zero => exact h
  | succ n ih => exact Dr.tick_fit ih
theorem Dr.ticks_add (s : Dr) (a b : Nat) : s.ticks (a + b) = (s.ticks a).ticks b := by
  induction b with
  | zero => rfl
  | succ b ih => show (s.ticks (a + b)).tick = _; rw [ih]; rfl
theorem Dr.ticks_idle (s : Dr) (h : s.c = 0) (n : Nat) : s.ticks n = s := by
  induction n with
  | zero => rfl
  | succ n ih => show (s.ticks n).tick = _; rw [ih]; unfold Dr.tick; rw [if_pos h]
theorem Dr.byte_len (s : Dr) : s.byte.m.length = s.m.length := by
  unfold Dr.byte
  split
  · rfl
  · exact List.length_set
theorem Dr.done_m (s : Dr) : s.done.m = s.m := by
  unfold Dr.done
  split <;> rfl
theorem Dr.ticks_len (s : Dr) (n : Nat) : (s.ticks n).m.length = s.m.length := by
  induction n with
  | zero => rfl
  | succ n ih =>
    show (s.ticks n).tick.m.length = _
    rw [← ih]
    generalize s.ticks n = t
    unfold Dr.tick
    split
    · rfl
    · split
      · rfl
      · split
        · rfl
        · split
          · rfl
          · rw [Dr.done_m, Dr.byte_len]
/-- A count goes down. -/
theorem Dr.ticks_down (s : Dr) (h1 : s.c ≠ 0) (h2 : ¬ (2 < s.c ∧ s.k = 0)) (j : Nat) (hj : (j : Int) < s.l) : s.ticks j = { s with l := s.l - j } := by
  induction j with
  | zero => show s = _; rw [show s.l - ((0 : Nat) : Int) = s.l by omega]
  | succ j ih =>
    show (s.ticks j).tick = _
    rw [ih (by omega)]
    unfold Dr.tick
    dsimp only
    rw [if_neg h1, if_neg h2, if_pos (by omega), show s.l - (j : Int) - 1 = s.l - ((j + 1 : Nat) : Int) by omega]
/-- .. to its end. -/
theorem Dr.ticks_end (s : Dr) (h1 : s.c ≠ 0) (h2 : ¬ (2 < s.c ∧ s.k = 0)) (h3 : 0 < s.l) : s.ticks s.l.toNat = ({ s with l := 1 } : Dr).tick := by
  have e : s.l.toNat = (s.l.toNat - 1) + 1 := by omega
  rw [e]
  show (s.ticks (s.l.toNat - 1)).tick = _
  rw [Dr.ticks_down s h1 h2 _ (by omega), show s.l - ((s.l.toNat - 1 : Nat) : Int) = 1 by omega]
/-- A step: in or back. -/
theorem Dr.step_in (s : Dr) (hc : s.c = 0) : (s.write 0 1).ticks 30 = { s with t := if s.t < 3 then s.t + 1 else s.t, c := 0, e := 0, n := 0, l := 0, r := 0 } := by
  have e : s.write 0 1 = { s with c := 1, e := 0, n := 0, l := 30, r := 0 } := by
    unfold Dr.write
    rw [if_pos rfl, if_neg (by omega)]
    rfl
  rw [e]
  have h := Dr.ticks_end { s with c := 1, e := 0, n := 0, l := 30, r := 0 } (by dsimp only; decide) (by dsimp only; omega) (by dsimp only; decide)
  refine Eq.trans h ?_
  rfl
theorem Dr.step_back (s : Dr) (hc : s.c = 0) : (s.write 0 2).ticks 30 = { s with t := if 0 < s.t then s.t - 1 else s.t, c := 0, e := 0, n := 0, l := 0, r := 0 } := by
  have e : s.write 0 2 = { s with c := 2, e := 0, n := 0, l := 30, r := 0 } := by
    unfold Dr.write
    rw [if_pos rfl, if_neg (by omega)]
    rfl
  rw [e]
  have h := Dr.ticks_end { s with c := 2, e := 0, n := 0, l := 30, r := 0 } (by dsimp only; decide) (by dsimp only; omega) (by dsimp only; decide)
  refine Eq.trans h ?_
  rfl
/-- Where a sector begins. -/
def Dr.base (s : Dr) (e : Int) : Int := 256 * s.k - 256 + 64 * s.t + 16 * e
/-- A sector is fetched: so many bytes have been read. -/
def Dr.fet (s : Dr) (e : Int) (i : Nat) : Dr :=
  if i < 16 then { s with c := 3, e := e, n := i, l := if i = 0 then 30 else 20, r := 0, d := if i = 0 then s.d else vreg s.m (s.base e + (i - 1 : Nat)).toNat }
  else { s with c := 0, e := e, n := 0, l := 0, r := 0, d := vreg s.m (s.base e + 15).toNat }
theorem Dr.fet_start (s : Dr) (hc : s.c = 0) (hk : s.k ≠ 0) (e : Int) (he : 0 ≤ e ∧ e < 4) : s.write 0 (3 + 16 * e) = s.fet e 0 := by
  unfold Dr.write Dr.fet
  rw [if_pos rfl, if_neg (by omega), if_pos (by decide), if_pos rfl, if_pos rfl, show (3 + 16 * e) % 16 = 3 by omega, show (3 + 16 * e) % 256 / 16 % 4 = e by omega]
  rfl
theorem Dr.fet_next (s : Dr) (hk : s.k ≠ 0) (e : Int) (i : Nat) (hi : i < 16) :
    ((s.fet e i).ticks (if i = 0 then 30 else 20)).reg 1 = vreg s.m (s.base e + i).toNat ∧ ((s.fet e i).ticks (if i = 0 then 30 else 20)).read 1 = s.fet e (i + 1) := by
  obtain ⟨D, hD⟩ : ∃ D, (if i = 0 then s.d else vreg s.m (s.base e + (i - 1 : Nat)).toNat) = D := ⟨_, rfl⟩
  have hu : s.fet e i = { s with c := 3, e := e, n := i, l := if i = 0 then 30 else 20, r := 0, d := D } := by
    unfold Dr.fet
    rw [if_pos hi, hD]
  have hl : (if i = 0 then 30 else 20) = ((if i = 0 then 30 else 20 : Int)).toNat := by split <;> rfl
  have hT : (s.fet e i).ticks (if i = 0 then 30 else 20) = (Dr.byte { s with c := 3, e := e, n := i, l := 1, r := 0, d := D }).done := by
    rw [hu, hl]
    have h := Dr.ticks_end { s with c := 3, e := e, n := i, l := if i = 0 then 30 else 20, r := 0, d := D } (by dsimp only; decide) (by dsimp only; omega) (by dsimp only; split <;> decide)
    refine Eq.trans h ?_
    unfold Dr.tick
    dsimp only
    rw [if_neg (by decide), if_neg (by omega), if_neg (by decide), if_neg (by decide)]
  rw [hT]
  have hb : Dr.byte { s with c := 3, e := e, n := i, l := 1, r := 0, d := D } = { s with c := 3, e := e, n := i, l := 1, r := 0, d := vreg s.m (s.base e + i).toNat } := by
    unfold Dr.byte
    dsimp only
    rw [if_pos rfl, if_neg (by decide)]
    rfl
  rw [hb]
  unfold Dr.done
  dsimp only
  by_cases h : i = 15
  · subst h
    rw [if_pos (by decide)]
    refine ⟨rfl, ?_⟩
    unfold Dr.read Dr.fet
    rw [if_neg (by decide), if_pos ⟨rfl, by dsimp only; decide⟩, if_neg (by decide)]
    rfl
  · rw [if_neg (by omega)]
    refine ⟨rfl, ?_⟩
    unfold Dr.read Dr.fet
    rw [if_neg (by decide), if_pos ⟨rfl, by dsimp only; decide⟩, if_pos (show i + 1 < 16 by omega), if_neg (show ¬ i + 1 = 0 by omega), if_neg (show ¬ i + 1 = 0 by omega), show i + 1 - 1 = i by omega]
    rfl
/-- Bytes put one behind the other. -/
def sset (m : List Int) (b : Nat) (x : List Int) : Nat → List Int
  | 0 => m
  | i + 1 => (sset m b x i).set (b + i) (x.getD i 0)
theorem sset_len (m : List Int) (b : Nat) (x : List Int) (i : Nat) : (sset m b x i).length = m.length := by
  induction i with
  | zero => rfl
  | succ i ih => show ((sset m b x i).set _ _).length = _; rw [List.length_set, ih]
theorem sset_get (m : List Int) (b : Nat) (x : List Int) (i j : Nat) (hb : b + i ≤ m.length) : vreg (sset m b x i) j = if b ≤ j ∧ j < b + i then x.getD (j - b) 0 else vreg m j := by
  induction i with
  | zero => rw [if_neg (by omega)]; rfl
  | succ i ih =>
    show vreg ((sset m b x i).set (b + i) (x.getD i 0)) j = _
    unfold vreg at ih ⊢
    rw [List.getD_eq_getElem?_getD, List.getElem?_set]
    by_cases h : b + i = j
    · subst h
      rw [if_pos rfl, if_pos (by rw [sset_len]; omega), if_pos (by omega), show b + i - b = i by omega]
      rfl
    · rw [if_neg h, ← List.getD_eq_getElem?_getD, ih (by omega)]
      by_cases h2 : b ≤ j ∧ j < b + i
      · rw [if_pos h2, if_pos (by omega)]
      · rw [if_neg h2, if_neg (by omega)]
/-- A sector is stored: so many bytes have been written. -/
def Dr.sto (s : Dr) (e : Int) (x : List Int) (i : Nat) : Dr :=
  if i < 16 then { s with c := 4, e := e, n := i, l := if i = 0 then 30 else 20, r := 1, d := if i = 0 then s.d else x.getD (i - 1) 0, m := sset s.m (s.base e).toNat x i }
  else { s with c := 0, e := e, n := 0, l := 0, r := 0, d := x.getD 15 0, m := sset s.m (s.base e).toNat x 16 }
theorem Dr.sto_start (s : Dr) (hc : s.c = 0) (hk : s.k ≠ 0) (e : Int) (he : 0 ≤ e ∧ e < 4) (x : List Int) : s.write 0 (4 + 16 * e) = s.sto e x 0 := by
  unfold Dr.write Dr.sto
  rw [if_pos rfl, if_neg (by omega), if_pos (by decide), if_pos rfl, if_pos rfl, show (4 + 16 * e) % 16 = 4 by omega, show (4 + 16 * e) % 256 / 16 % 4 = e by omega]
  rfl
theorem Dr.sto_next (s : Dr) (hk : s.k ≠ 0) (e : Int) (hb : 0 ≤ s.base e) (x : List Int) (i : Nat) (hi : i < 16) (hx : 0 ≤ x.getD i 0 ∧ x.getD i 0 < 256) :
    ((s.sto e x i).write 1 (x.getD i 0)).ticks (if i = 0 then 30 else 20) = s.sto e x (i + 1) := by
  have hu : (s.sto e x i).write 1 (x.getD i 0) = { s with c := 4, e := e, n := i, l := if i = 0 then 30 else 20, r := 0, d := x.getD i 0, m := sset s.m (s.base e).toNat x i } := by
    unfold Dr.sto Dr.write
    rw [if_pos hi, if_neg (by decide), if_pos rfl, if_pos rfl, Int.emod_eq_of_lt hx.1 hx.2]
  have hl : (if i = 0 then 30 else 20) = ((if i = 0 then 30 else 20 : Int)).toNat := by split <;> rfl
  rw [hu, hl]
  have h := Dr.ticks_end { s with c := 4, e := e, n := i, l := if i = 0 then 30 else 20, r := 0, d := x.getD i 0, m := sset s.m (s.base e).toNat x i } (by dsimp only; decide) (by dsimp only; omega) (by dsimp only; split <;> decide)
  refine Eq.trans h ?_
  unfold Dr.tick
  dsimp only
  rw [if_neg (by decide), if_neg (by omega), if_neg (by decide), if_neg (by decide)]
  have hby : Dr.byte { s with c := 4, e := e, n := i, l := 1, r := 0, d := x.getD i 0, m := sset s.m (s.base e).toNat x i } = { s with c := 4, e := e, n := i, l := 1, r := 0, d := x.getD i 0, m := sset s.m (s.base e).toNat x (i + 1) } := by
    unfold Dr.byte
    dsimp only
    rw [if_neg (by decide), if_neg (by decide)]
    have : (Dr.at { s with c := 4, e := e, n := i, l := 1, r := 0, d := x.getD i 0, m := sset s.m (s.base e).toNat x i }).toNat = (s.base e).toNat + i := by
      show (s.base e + i).toNat = _
      omega
    rw [this]
    rfl
  rw [hby]
  unfold Dr.done
  dsimp only
  by_cases h : i = 15
  · subst h
    rw [if_pos (by decide)]
    unfold Dr.sto
    rw [if_pos (show (4 : Int) = 4 from rfl), if_neg (show ¬ (15 + 1 < 16) by decide)]
  · rw [if_neg (by omega)]
    unfold Dr.sto
    rw [if_pos (show i + 1 < 16 by omega), if_neg (show ¬ i + 1 = 0 by omega), if_neg (show ¬ i + 1 = 0 by omega), show i + 1 - 1 = i by omega]
    rfl
/-- A drive without a command, with a disk, on a track. -/
def Dr.idle (s : Dr) (t : Int) : Dr := { s with t := t, c := 0, e := 0, n := 0, l := 0, r := 0 }
theorem Dr.step_mid (s : Dr) (hc : s.c = 0) (x y : Int) (hx : x = 1 ∨ x = 2) (j : Nat) (hj : j < 30) (t : Int) (ht : t = if x = 1 then (if s.t < 3 then s.t + 1 else s.t) else (if 0 < s.t then s.t - 1 else s.t)) :
    ((((s.write 0 x).ticks j).write 0 y).ticks 30) = s.idle t := by
  have e : s.write 0 x = { s with c := x, e := 0, n := 0, l := 30, r := 0 } := by
    unfold Dr.write
    rcases hx with rfl | rfl
    · rw [if_pos rfl, if_neg (by omega)]; rfl
    · rw [if_pos rfl, if_neg (by omega)]; rfl
  have h30 : (s.write 0 x).ticks 30 = s.idle t := by
    rcases hx with rfl | rfl
    · rw [Dr.step_in s hc, ht]; rfl
    · rw [Dr.step_back s hc, ht]; rfl
  have hj2 : (s.write 0 x).ticks j = { s with c := x, e := 0, n := 0, l := 30 - j, r := 0 } := by
    rw [e]
    exact Dr.ticks_down { s with c := x, e := 0, n := 0, l := 30, r := 0 } (by dsimp only; omega) (by dsimp only; omega) j (by dsimp only; omega)
  have hw : ((s.write 0 x).ticks j).write 0 y = (s.write 0 x).ticks j := by
    rw [hj2]
    unfold Dr.write
    rw [if_pos rfl, if_pos (.inl (by dsimp only; omega))]
  rw [hw, ← Dr.ticks_add, show j + 30 = 30 + j by omega, Dr.ticks_add, h30]
  exact Dr.ticks_idle _ rfl _
end Go.Proofs.Ytmjddoboogccoaa
