/- A chip that draws as plain data: many cycles at once, and for how many the color stays. -/
import Derived.Test.YtambggbmkeemnaaChecked
import Derived.Test.YtambggbmkeemnaaVidCc
import Derived.Below
import Derived.BigQuiet
import Derived.ChangeMaps5
import Derived.Deep.DeepCutAuto
import Derived.Deep.Draws
import Derived.Deep.MidRow
import Derived.Deep.OwnRows
import Derived.Deep.QuietTactic
import Derived.Deep.RegionHeld3
import Derived.Deep.RegionWith
import Derived.Deep.Slices
import Derived.Deep.WholeRow
import Derived.Laws.CopyOwn
import Derived.Lib.Hide
import Derived.Lib.SmallJoins
import Derived.OpenShut
import Derived.OrdersHeld
import Derived.OwnWalk
import Derived.RowKit3
import Derived.Shelf.Abstract
import Derived.StillTactics
import Derived.StillTail
import Derived.StillTailTactics
import Derived.WalkKit
namespace Go.Proofs.Ytambggbmkeemnaa

/-- So many cycles, one by one. -/
def Vd.ticks (s : Vd) : Nat → Vd
  | 0 => s
  | n + 1 => (s.ticks n).tick
theorem Vd.ticks_fit {s : Vd} (hs : s.fit) (n : Nat) : (s.ticks n).fit := by
  induction n with
  | zero => exact hs
  | succ n ih => exact Vd.tick_fit ih
theorem Vd.ticks_m (s : Vd) (n : Nat) : (s.ticks n).m = s.m := by
  induction n with
  | zero => rfl
  | succ n ih => exact ih
theorem Vd.ticks_p {s : Vd} (hs : s.fit) (n : Nat) : (s.ticks n).p = (s.p + n) % 2560 := by
  have := hs.p
  induction n with
  | zero => show s.p = (s.p + (0 : Nat)) % 2560; omega
  | succ n ih =>
    show ((s.ticks n).p + 1) % 2560 = _
    rw [ih]
    omega
theorem Vd.ticks_hit {s : Vd} (hs : s.fit) (n : Nat) (j : Int) (h1 : 1 ≤ j) (h2 : j ≤ n) (h : vhit s.m ((s.p + j) % 2560) = true) : (s.ticks n).h = 1 := by
  induction n with
  | zero => omega
  | succ n ih =>
    show (if vhit (s.ticks n).m (((s.ticks n).p + 1) % 2560) = true then 1 else (s.ticks n).h) = 1
    rw [Vd.ticks_m, Vd.ticks_p hs]
    by_cases e : j = n + 1
    · rw [if_pos]
      rw [show ((s.p + (n : Int)) % 2560 + 1) % 2560 = (s.p + j) % 2560 by omega]
      exact h
    · rw [ih (by omega)]
      exact ite_self _
theorem Vd.ticks_none {s : Vd} (hs : s.fit) (n : Nat) (h : ∀ j : Int, 1 ≤ j → j ≤ n → vhit s.m ((s.p + j) % 2560) = false) : (s.ticks n).h = s.h := by
  induction n with
  | zero => rfl
  | succ n ih =>
    show (if vhit (s.ticks n).m (((s.ticks n).p + 1) % 2560) = true then 1 else (s.ticks n).h) = s.h
    rw [Vd.ticks_m, Vd.ticks_p hs, if_neg, ih (fun j h1 h2 => h j h1 (by omega))]
    have := h ((n : Int) + 1) (by omega) (by omega)
    rw [show (s.p + ((n : Int) + 1)) % 2560 = ((s.p + (n : Int)) % 2560 + 1) % 2560 by omega] at this
    rw [this]
    decide
/-- The state after so many cycles by the first hit of a frame. -/
theorem Vd.ticks_first {s : Vd} (hs : s.fit) {k K : Int} (h : firstR s.p (vhit s.m) (if 2560 < k then 2560 else k) K) (hk : 0 ≤ k) :
    s.ticks k.toNat = ⟨(s.p + k % 2560) % 2560, if 0 < K then 1 else s.h, s.m⟩ := by
  have hp := Vd.ticks_p hs k.toNat
  have hm := Vd.ticks_m s k.toNat
  have hh : (s.ticks k.toNat).h = if 0 < K then 1 else s.h := by
    rcases h with ⟨rfl, h⟩ | ⟨⟨h1, h2⟩, h3, _⟩
    · rw [if_neg (by decide)]
      refine Vd.ticks_none hs _ fun j h1 h2 => ?_
      split at h
      next hb =>
        have := h ((j - 1) % 2560 + 1) (by omega) (by omega)
        rw [show (s.p + ((j - 1) % 2560 + 1)) % 2560 = (s.p + j) % 2560 by omega] at this
        exact this
      next hb => exact h j h1 (by omega)
    · rw [if_pos (by omega)]
      refine Vd.ticks_hit hs _ K h1 ?_ h3
      split at h2 <;> omega
  generalize s.ticks k.toNat = t at *
  obtain ⟨p, f, m⟩ := t
  dsimp only at hp hm hh
  rw [hp, hm, hh, show (s.p + (k.toNat : Int)) % 2560 = (s.p + k % 2560) % 2560 by omega]
theorem Vd.rests_none (s : Vd) (n : Nat) (o : Int) (h : ∀ j : Int, 1 ≤ j → j ≤ n → vcol s.m ((s.p + j) % 2560) = vcol s.m s.p) : s.restsFrom n o = o := by
  induction n generalizing o with
  | zero => rfl
  | succ n ih =>
    show s.restsFrom n (if _ then o else _) = o
    rw [if_pos (h (n + 1) (by omega) (by omega))]
    exact ih o fun j h1 h2 => h j h1 (by omega)
theorem Vd.rests_some (s : Vd) (n : Nat) (o K : Int) (h1 : 1 ≤ K) (h2 : K ≤ n) (hd : vcol s.m ((s.p + K) % 2560) ≠ vcol s.m s.p) (h : ∀ j : Int, 1 ≤ j → j < K → vcol s.m ((s.p + j) % 2560) = vcol s.m s.p) : s.restsFrom n o = K - 1 := by
  induction n generalizing o with
  | zero => omega
  | succ n ih =>
    show s.restsFrom n (if _ then o else (n : Int)) = K - 1
    by_cases e : K = n + 1
    · rw [if_neg (by rw [← e]; exact hd), Vd.rests_none s n _ (fun j h3 h4 => h j h3 (by omega))]
      omega
    · exact ih _ (by omega)
theorem Vd.next_first {s : Vd} (hs : s.fit) {K : Int} (h : firstR s.p (fun q => vcol s.m q != vcol s.m s.p) 2559 K) : s.next = if K = 0 then 100000 else K - 1 := by
  have hp := hs.p
  unfold Vd.next
  rcases h with ⟨rfl, h⟩ | ⟨⟨h1, h2⟩, h3, h4⟩
  · rw [if_pos rfl]
    refine Vd.rests_none s 2560 _ fun j h1 h2 => ?_
    by_cases e : j = 2560
    · rw [e, show (s.p + 2560) % 2560 = s.p by omega]
    · have := h j h1 (by omega)
      simpa using this
  · rw [if_neg (by omega)]
    exact Vd.rests_some s 2560 _ K h1 (by omega) (by simpa using h3) fun j h5 h6 => by simpa using h4 j h5 h6
theorem vis_next {m : List Int} {c : Int} : ∀ p, 0 ≤ p ∧ p < 2560 → (vcol m p != c) = false → ∀ j, 0 ≤ j → j < valike m p → (vcol m (p + j) != c) = false := fun p hp h j h0 hj => by
  rw [(valike_same hp h0 hj).1]; exact h
theorem vis_hit {m : List Int} : ∀ p, 0 ≤ p ∧ p < 2560 → vhit m p = false → ∀ j, 0 ≤ j → j < valike m p → vhit m (p + j) = false := fun p hp h j h0 hj => by
  rw [(valike_same hp h0 hj).2]; exact h
end Go.Proofs.Ytambggbmkeemnaa
