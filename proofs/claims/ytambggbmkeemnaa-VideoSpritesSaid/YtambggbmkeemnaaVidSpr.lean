/- A sprite on cells of one color, as plain data: where it is seen, how many dots, what it hits. -/
import Derived.Test.YtambggbmkeemnaaChecked
import Derived.Test.YtambggbmkeemnaaVidCa
import Derived.Test.YtambggbmkeemnaaVidNext
import Derived.Below
import Derived.BigQuiet
import Derived.ChangeMaps5
import Derived.Deep.DeepCutAuto
import Derived.Deep.Draws
import Derived.Deep.MidRow
import Derived.Deep.OwnRows
import Derived.Deep.QuietTactic
import Derived.Deep.RegionHeld3
import Derived.Deep.RegionWith
import Derived.Deep.Slices
import Derived.Deep.WholeRow
import Derived.Laws.CopyOwn
import Derived.Lib.Hide
import Derived.Lib.SmallJoins
import Derived.OpenShut
import Derived.OrdersHeld
import Derived.OwnWalk
import Derived.RowKit3
import Derived.Shelf.Abstract
import Derived.StillTactics
import Derived.StillTail
import Derived.StillTailTactics
import Derived.WalkKit
namespace Go.Proofs.Ytambggbmkeemnaa

theorem Vd.write_reg {s : Vd} (hs : s.fit) (a d : Int) (i : Nat) : vreg (s.write a d).m i = if (0 ≤ a ∧ a < 32 ∧ ¬ (5 ≤ a ∧ a ≤ 7)) ∧ i = a.toNat then d % 256 else vreg s.m i := by
  have hl := hs.m
  unfold Vd.write
  by_cases h : 0 ≤ a ∧ a < 32 ∧ ¬ (5 ≤ a ∧ a ≤ 7)
  · rw [if_pos h]
    show vreg (s.m.set a.toNat (d % 256)) i = _
    unfold vreg
    rw [List.getD_eq_getElem?_getD, List.getElem?_set]
    by_cases e : a.toNat = i
    · rw [if_pos e, if_pos (by omega), if_pos ⟨h, e.symm⟩]; rfl
    · rw [if_neg e, if_neg (fun x => e x.2.symm), ← List.getD_eq_getElem?_getD]
  · rw [if_neg h, if_neg (fun x => h x.1)]
theorem Vd.write_ph (s : Vd) (a d : Int) : (s.write a d).p = s.p ∧ (s.write a d).h = s.h := by
  unfold Vd.write
  split
  · exact ⟨rfl, rfl⟩
  · exact ⟨rfl, rfl⟩
/-- The first five registers, written. -/
def spV (x y : Int) (i : Nat) : Int := [0, x, y, 9, 255].getD i 0
def sp5 (x y : Int) : Nat → Vd
  | 0 => ⟨2559, 0, zeros32⟩
  | n + 1 => (sp5 x y n).write n (spV x y n)
def sp24 (s : Vd) (c : Int) : Nat → Vd
  | 0 => s
  | n + 1 => (sp24 s c n).write (8 + (n : Int)) c
theorem sp5_fit (x y : Int) (n : Nat) : (sp5 x y n).fit := by
  induction n with
  | zero => exact Vd.ofN_fit [] [] (fun x hx => by cases hx)
  | succ n ih => exact Vd.write_fit ih _ _
theorem sp24_fit {s : Vd} (hs : s.fit) (c : Int) (n : Nat) : (sp24 s c n).fit := by
  induction n with
  | zero => exact hs
  | succ n ih => exact Vd.write_fit ih _ _
theorem sp5_ph (x y : Int) (n : Nat) : (sp5 x y n).p = 2559 ∧ (sp5 x y n).h = 0 := by
  induction n with
  | zero => exact ⟨rfl, rfl⟩
  | succ n ih =>
    have := Vd.write_ph (sp5 x y n) n (spV x y n)
    exact ⟨this.1.trans ih.1, this.2.trans ih.2⟩
theorem sp24_ph (s : Vd) (c : Int) (n : Nat) : (sp24 s c n).p = s.p ∧ (sp24 s c n).h = s.h := by
  induction n with
  | zero => exact ⟨rfl, rfl⟩
  | succ n ih =>
    have := Vd.write_ph (sp24 s c n) (8 + (n : Int)) c
    exact ⟨this.1.trans ih.1, this.2.trans ih.2⟩
theorem sp24_reg {s : Vd} (hs : s.fit) (c : Int) (n : Nat) (hn : n ≤ 24) (i : Nat) : vreg (sp24 s c n).m i = if 8 ≤ i ∧ i < 8 + n then c % 256 else vreg s.m i := by
  induction n with
  | zero => rw [if_neg (by omega)]; rfl
  | succ n ih =>
    show vreg ((sp24 s c n).write (8 + (n : Int)) c).m i = _
    rw [Vd.write_reg (sp24_fit hs c n), ih (by omega)]
    by_cases e : i = 8 + n
    · rw [if_pos ⟨by omega, by omega⟩, if_pos (by omega)]
    · rw [if_neg (by omega)]
      by_cases h : 8 ≤ i ∧ i < 8 + n
      · rw [if_pos h, if_pos (by omega)]
      · rw [if_neg h, if_neg (by omega)]
theorem sp5_reg {x y : Int} (hx : 0 ≤ x ∧ x < 60) (hy : 0 ≤ y ∧ y < 40) : vreg (sp5 x y 5).m 0 = 0 ∧ vreg (sp5 x y 5).m 1 = x ∧ vreg (sp5 x y 5).m 2 = y ∧ vreg (sp5 x y 5).m 3 = 9 ∧ vreg (sp5 x y 5).m 4 = 255 := by
  have e1 : x % 256 = x := Int.emod_eq_of_lt (by omega) (by omega)
  have e2 : y % 256 = y := Int.emod_eq_of_lt (by omega) (by omega)
  refine ⟨rfl, ?_, ?_, rfl, rfl⟩
  · exact (show vreg (sp5 x y 5).m 1 = x % 256 from rfl).trans e1
  · exact (show vreg (sp5 x y 5).m 2 = y % 256 from rfl).trans e2
/-- The place where a sprite is seen: so wide, so high. -/
def spW (x : Int) : Int := if x ≤ 40 then 8 else if x ≤ 48 then 48 - x else 0
def spH (y : Int) : Int := if y ≤ 24 then 8 else if y ≤ 32 then 32 - y else 0
def spOn (x y p : Int) : Bool := (decide (x ≤ p % 64) && decide (p % 64 < x + spW x)) && (decide (y ≤ p / 64) && decide (p / 64 < y + spH y))
/-- The state that the law makes. -/
structure spOk (x y c : Int) (m : List Int) : Prop where
  r0 : vreg m 0 = 0
  r1 : vreg m 1 = x
  r2 : vreg m 2 = y
  r3 : vreg m 3 = 9
  r4 : vreg m 4 = 255
  rc : ∀ i, 8 ≤ i → i < 32 → vreg m i = c
theorem spOk_made {x y c : Int} (hx : 0 ≤ x ∧ x < 60) (hy : 0 ≤ y ∧ y < 40) (hc : 0 ≤ c ∧ c < 2) : spOk x y c (sp24 (sp5 x y 5) c 24).m := by
  obtain ⟨h0, h1, h2, h3, h4⟩ := sp5_reg hx hy
  have hr := sp24_reg (sp5_fit x y 5) c 24 (Nat.le_refl _)
  refine ⟨?_, ?_, ?_, ?_, ?_, fun i h1 h2 => ?_⟩
  · rw [hr, if_neg (by omega)]; exact h0
  · rw [hr, if_neg (by omega)]; exact h1
  · rw [hr, if_neg (by omega)]; exact h2
  · rw [hr, if_neg (by omega)]; exact h3
  · rw [hr, if_neg (by omega)]; exact h4
  · rw [hr, if_pos (by omega)]; exact Int.emod_eq_of_lt (by omega) (by omega)
theorem bit255 (i : Nat) (h : i < 8) : decide (128 ≤ (255 : Int) * 2 ^ i % 256) = true := by
  rcases (by omega : i = 0 ∨ i = 1 ∨ i = 2 ∨ i = 3 ∨ i = 4 ∨ i = 5 ∨ i = 6 ∨ i = 7) with rfl | rfl | rfl | rfl | rfl | rfl | rfl | rfl <;> decide
theorem spOn_cov {x y c : Int} {m : List Int} (h : spOk x y c m) (_hx : 0 ≤ x ∧ x < 60) (_hy : 0 ≤ y ∧ y < 40) (p : Int) (_hp : 0 ≤ p ∧ p < 2560) : (vvis p && vcov m p) = spOn x y p := by
  unfold vvis vcov vrow vbit spOn
  rw [h.r1, h.r2, h.r4]
  have hW : spW x = if x ≤ 40 then 8 else if x ≤ 48 then 48 - x else 0 := rfl
  have hH : spH y = if y ≤ 24 then 8 else if y ≤ 32 then 32 - y else 0 := rfl
  generalize spW x = W at *
  generalize spH y = H at *
  obtain ⟨D, hD⟩ : ∃ D, p % 64 = D := ⟨_, rfl⟩
  obtain ⟨L, hL⟩ : ∃ L, p / 64 = L := ⟨_, rfl⟩
  rw [hD, hL]
  by_cases hon : (x ≤ D ∧ D < x + W) ∧ (y ≤ L ∧ L < y + H)
  · have h1 : D < 48 ∧ L < 32 ∧ D < x + 8 ∧ L < y + 8 := by
      split at hW <;> split at hH <;> (try split at hW) <;> (try split at hH) <;> omega
    rw [decide_eq_true h1.1, decide_eq_true h1.2.1, decide_eq_true hon.1.1, decide_eq_true h1.2.2.1, decide_eq_true hon.2.1, decide_eq_true h1.2.2.2, decide_eq_true hon.1.2, decide_eq_true hon.2.2, bit255 _ (by omega)]
    rfl
  · have e : ((decide (x ≤ D) && decide (D < x + W)) && (decide (y ≤ L) && decide (L < y + H))) = false := by
      cases hh : ((decide (x ≤ D) && decide (D < x + W)) && (decide (y ≤ L) && decide (L < y + H))) with
      | false => rfl
      | true =>
        simp only [Bool.and_eq_true, decide_eq_true_eq] at hh
        exact absurd hh hon
    rw [e]
    cases hh : ((decide (D < 48) && decide (L < 32)) && ((decide (x ≤ D) && decide (D < x + 8)) && ((decide (y ≤ L) && decide (L < y + 8)) && decide (128 ≤ (255 : Int) * 2 ^ (D - x).toNat % 256)))) with
    | false => rfl
    | true =>
      exfalso
      simp only [Bool.and_eq_true, decide_eq_true_eq] at hh
      refine hon ?_
      obtain ⟨⟨h1, h2⟩, ⟨h3, h4⟩, ⟨h5, h6⟩, _⟩ := hh
      split at hW <;> split at hH <;> (try split at hW) <;> (try split at hH) <;> omega
theorem sp_cell {x y c : Int} {m : List Int} (h : spOk x y c m) (hc : 0 ≤ c ∧ c < 2) (p : Int) (_hp : 0 ≤ p ∧ p < 2560) (hv : vvis p = true) : vcell m p = c := by
  unfold vvis at hv
  simp only [Bool.and_eq_true, decide_eq_true_eq] at hv
  unfold vcell vcellAt
  rw [h.rc _ (by omega) (by omega)]
  exact Int.emod_eq_of_lt hc.1 (by omega)
theorem sp_col {x y c : Int} {m : List Int} (h : spOk x y c m) (hx : 0 ≤ x ∧ x < 60) (hy : 0 ≤ y ∧ y < 40) (hc : 0 ≤ c ∧ c < 2) (p : Int) (hp : 0 ≤ p ∧ p < 2560) : (vcol m p == 9) = spOn x y p := by
  rw [← spOn_cov h hx hy p hp]
  unfold vcol
  cases hv : vvis p with
  | false =>
    rw [if_neg (by decide), h.r0]
    rfl
  | true =>
    rw [if_pos rfl, Bool.true_and, sp_cell h hc p hp hv, h.r3]
    cases hcv : vcov m p with
    | true => rw [if_pos rfl]; rfl
    | false =>
      rw [if_neg (by decide)]
      exact beq_eq_false_iff_ne.2 (by omega)
theorem sp_hit {x y c : Int} {m : List Int} (h : spOk x y c m) (hx : 0 ≤ x ∧ x < 60) (hy : 0 ≤ y ∧ y < 40) (hc : 0 ≤ c ∧ c < 2) (p : Int) (hp : 0 ≤ p ∧ p < 2560) : vhit m p = (spOn x y p && decide (0 < c)) := by
  rw [← spOn_cov h hx hy p hp]
  unfold vhit
  cases hv : vvis p with
  | false => rfl
  | true => rw [sp_cell h hc p hp hv, Bool.true_and, Bool.true_and]
/-- The dots seen at the first n positions. -/
def spN (x y : Int) : Nat → Int
  | 0 => 0
  | n + 1 => spN x y n + (if spOn x y n = true then 1 else 0)
theorem spN_bd (x y : Int) (n : Nat) : 0 ≤ spN x y n ∧ spN x y n ≤ n := by
  induction n with
  | zero => exact ⟨Int.le_refl 0, Int.le_refl 0⟩
  | succ n ih =>
    show 0 ≤ spN x y n + _ ∧ spN x y n + _ ≤ _
    split <;> omega
def spT (a b t : Int) : Int := if t ≤ a then 0 else if t - a ≤ b then t - a else b
theorem spN_is {x y : Int} (hx : 0 ≤ x ∧ x < 60) (hy : 0 ≤ y ∧ y < 40) (n : Nat) :
    spN x y n = spT y (spH y) ((n : Int) / 64) * spW x + (if y ≤ (n : Int) / 64 ∧ (n : Int) / 64 < y + spH y then spT x (spW x) ((n : Int) % 64) else 0) := by
  have hW : 0 ≤ spW x ∧ (0 < spW x → x + spW x ≤ 48) := by unfold spW; split <;> (try split) <;> omega
  have hH : 0 ≤ spH y ∧ (0 < spH y → y + spH y ≤ 32) := by unfold spH; split <;> (try split) <;> omega
  induction n with
  | zero =>
    have e1 : spT y (spH y) 0 = 0 := by unfold spT; rw [if_pos (by omega)]
    have e2 : spT x (spW x) 0 = 0 := by unfold spT; rw [if_pos (by omega)]
    show (0 : Int) = spT y (spH y) 0 * spW x + (if _ then spT x (spW x) 0 else 0)
    rw [e1, e2, ite_self]
    omega
  | succ n ih =>
    show spN x y n + (if spOn x y n = true then 1 else 0) = _
    rw [ih]
    unfold spOn
    simp only [Bool.and_eq_true, decide_eq_true_eq]
    generalize spW x = W at *
    generalize spH y = H at *
    obtain ⟨L, hL⟩ : ∃ L, (n : Int) / 64 = L := ⟨_, rfl⟩
    obtain ⟨D, hD⟩ : ∃ D, (n : Int) % 64 = D := ⟨_, rfl⟩
    rw [hL, hD]
    have hD2 : 0 ≤ D ∧ D < 64 := by omega
    by_cases hd : D + 1 < 64
    · rw [show (((n + 1 : Nat) : Int)) / 64 = L by omega, show (((n + 1 : Nat) : Int)) % 64 = D + 1 by omega]
      have hT : spT x W (D + 1) = spT x W D + (if x ≤ D ∧ D < x + W then 1 else 0) := by
        unfold spT
        split <;> split <;> split <;> (try split) <;> (try split) <;> omega
      by_cases hr : y ≤ L ∧ L < y + H
      · rw [if_pos hr, if_pos hr, hT]
        by_cases hc : x ≤ D ∧ D < x + W
        · rw [if_pos ⟨hc, hr⟩, if_pos hc]; omega
        · rw [if_neg (fun h => hc h.1), if_neg hc]; omega
      · rw [if_neg hr, if_neg hr, if_neg (fun h => hr h.2)]; omega
    · rw [show (((n + 1 : Nat) : Int)) / 64 = L + 1 by omega, show (((n + 1 : Nat) : Int)) % 64 = 0 by omega]
      have e2 : spT x W 0 = 0 := by unfold spT; rw [if_pos (by omega)]
      rw [e2, ite_self]
      have hT : spT y H (L + 1) = spT y H L + (if y ≤ L ∧ L < y + H then 1 else 0) := by
        unfold spT
        split <;> split <;> split <;> (try split) <;> (try split) <;> omega
      rw [hT]
      by_cases hr : y ≤ L ∧ L < y + H
      · rw [if_pos hr, if_pos hr]
        have eD : D = 63 := by omega
        have e3 : spT x W D = W := by
          unfold spT
          rw [eD]
          split
          · omega
          · split <;> omega
        rw [e3, if_neg (by omega), Int.add_mul]
        omega
      · rw [if_neg hr, if_neg hr, if_neg (fun h => hr h.2)]
        simp only [Int.add_zero]
theorem spN_all {x y : Int} (hx : 0 ≤ x ∧ x < 60) (hy : 0 ≤ y ∧ y < 40) : spN x y 2560 = spW x * spH y := by
  rw [spN_is hx hy]
  have hH : 0 ≤ spH y ∧ (0 < spH y → y + spH y ≤ 32) := by unfold spH; split <;> (try split) <;> omega
  have e : spT y (spH y) (((2560 : Nat) : Int) / 64) = spH y := by
    unfold spT
    split
    · omega
    · split <;> omega
  rw [e, if_neg (by omega), Int.mul_comm, Int.add_zero]
theorem sp_ticks {x y c : Int} {s : Vd} (hs : s.fit) (h : spOk x y c s.m) (hp : s.p = 2559) (hh : s.h = 0) (hx : 0 ≤ x ∧ x < 60) (hy : 0 ≤ y ∧ y < 40) (hc : 0 ≤ c ∧ c < 2) (n : Nat) (hn : n ≤ 2560) :
    (s.ticks n).h = if 0 < c ∧ 0 < spN x y n then 1 else 0 := by
  induction n with
  | zero => rw [if_neg (fun h => by have := h.2; unfold spN at this; omega)]; exact hh
  | succ n ih =>
    show (if vhit (s.ticks n).m (((s.ticks n).p + 1) % 2560) = true then 1 else (s.ticks n).h) = _
    rw [Vd.ticks_m, Vd.ticks_p hs, hp, show ((2559 + (n : Int)) % 2560 + 1) % 2560 = n by omega, sp_hit h hx hy hc n (by omega), ih (by omega)]
    have hb := spN_bd x y n
    have hN : spN x y (n + 1) = spN x y n + (if spOn x y n = true then 1 else 0) := rfl
    rw [hN]
    cases hon : spOn x y n with
    | false =>
      rw [Bool.false_and, if_neg (by decide), if_neg (by decide : ¬ false = true), Int.add_zero]
    | true =>
      rw [Bool.true_and, if_pos rfl]
      by_cases h0 : 0 < c
      · rw [decide_eq_true h0, if_pos rfl, if_pos ⟨h0, by omega⟩]
      · rw [decide_eq_false h0, if_neg (by decide), if_neg (fun h => h0 h.1), if_neg (fun h => h0 h.1)]
theorem sp_out {x y c : Int} {s : Vd} (hs : s.fit) (h : spOk x y c s.m) (hp : s.p = 2559) (hx : 0 ≤ x ∧ x < 60) (hy : 0 ≤ y ∧ y < 40) (hc : 0 ≤ c ∧ c < 2) (n : Nat) (hn : n < 2560) :
    ((s.ticks (n + 1)).out == 9) = spOn x y n := by
  have e : (s.ticks (n + 1)).out = vcol s.m n := by
    unfold Vd.out
    rw [Vd.ticks_m, Vd.ticks_p hs, hp, show (2559 + ((n + 1 : Nat) : Int)) % 2560 = n by omega]
  rw [e]
  exact sp_col h hx hy hc n (by omega)
end Go.Proofs.Ytambggbmkeemnaa
