/- A part of the proof of ChipTicks: VidCc, VidNext, VidCe, DevOpen. -/
import Derived.Test.YtakaebjojgeehaaGreatChipTicksK01
import Derived.Test.YtakaebjojgeehaaGreatChipTicksK02
import Derived.Test.YtakaebjojgeehaaGreatChipTicksK03
import Derived.Test.YtakaebjojgeehaaGreatChipTicksK04
import Derived.Test.YtakaebjojgeehaaGreatChipTicksK05
import Derived.Test.YtakaebjojgeehaaGreatChipTicksK06
import Derived.Test.YtakaebjojgeehaaGreatChipTicksK09
import Derived.Test.YtakaebjojgeehaaGreatChipTicksK12
import Derived.Test.YtakaebjojgeehaaGreatChipTicksK16
import Derived.Test.YtakaebjojgeehaaGreatChipTicksK23
import Derived.Test.YtakaebjojgeehaaGreatChipTicksK25
import Derived.Test.YtakaebjojgeehaaGreatChipTicksK26
import Derived.Test.YtakaebjojgeehaaGreatChipTicksK27
import Derived.Below
import Derived.BigQuiet
import Derived.ChangeMaps5
import Derived.Deep.DeepCutAuto
import Derived.Deep.Draws
import Derived.Deep.MidRow
import Derived.Deep.OwnRows
import Derived.Deep.QuietTactic
import Derived.Deep.RegionHeld3
import Derived.Deep.RegionWith
import Derived.Deep.Slices
import Derived.Deep.WholeRow
import Derived.Laws.CopyOwn
import Derived.Lib.Hide
import Derived.Lib.SmallJoins
import Derived.OpenShut
import Derived.OrdersHeld
import Derived.OwnWalk
import Derived.RowKit3
import Derived.Shelf.Abstract
import Derived.StillTactics
import Derived.StillTail
import Derived.StillTailTactics
import Derived.Test.YtakaebjojgeehaaGreatChecked
import Derived.WalkKit
namespace Go.Proofs.YtakaebjojgeehaaGreat
open Go.RowKit
set_option maxRecDepth 100000
/-- So many positions from one on are in the same line or below the picture. -/
theorem valike_pos {m : List Int} {p : Int} (hp : 0 ≤ p ∧ p < 2560) : 1 ≤ valike m p ∧ p + valike m p ≤ 2560 := by
  unfold valike
  split
  · omega
  · split
    · omega
    · split <;> omega
theorem valike_same {m : List Int} {p : Int} (hp : 0 ≤ p ∧ p < 2560) {j : Int} (h0 : 0 ≤ j) (hj : j < valike m p) : vcol m (p + j) = vcol m p ∧ vhit m (p + j) = vhit m p := by
  unfold valike at hj
  split at hj
  next h =>
    have e1 : vvis p = false := by unfold vvis; rw [decide_eq_false (show ¬ p / 64 < 32 by omega), Bool.and_false]
    have e2 : vvis (p + j) = false := by unfold vvis; rw [decide_eq_false (show ¬ (p + j) / 64 < 32 by omega), Bool.and_false]
    unfold vcol vhit
    rw [e1, e2]
    exact ⟨rfl, rfl⟩
  next h =>
    split at hj
    next h2 =>
      have e1 : vvis p = false := by unfold vvis; rw [decide_eq_false (show ¬ p % 64 < 48 by omega), Bool.false_and]
      have e2 : vvis (p + j) = false := by unfold vvis; rw [decide_eq_false (show ¬ (p + j) % 64 < 48 by omega), Bool.false_and]
      unfold vcol vhit
      rw [e1, e2]
      exact ⟨rfl, rfl⟩
    next h2 =>
      split at hj
      next h3 =>
        rw [show j = 0 by omega, Int.add_zero]
        exact ⟨rfl, rfl⟩
      next h3 =>
        have hL : (p + j) / 64 = p / 64 := by omega
        have c1 : vcov m p = false := vcov_none (by cases hh : vcrs m (p / 64) with
          | false => rfl
          | true => exact absurd hh h3)
        have c2 : vcov m (p + j) = false := vcov_none (by rw [hL]; cases hh : vcrs m (p / 64) with
          | false => rfl
          | true => exact absurd hh h3)
        have e1 : vvis (p + j) = vvis p := by
          unfold vvis
          rw [hL, decide_eq_true (show (p + j) % 64 < 48 by omega), decide_eq_true (show p % 64 < 48 by omega)]
        have e2 : vcellAt (p + j) = vcellAt p := by unfold vcellAt; rw [hL]; omega
        unfold vcol vhit vcell
        rw [e1, e2, c1, c2]
        exact ⟨rfl, rfl⟩
/-- The first of n next cycles in which the new position is one asked for, 0 if there is none. -/
def firstR (p : Int) (is : Int → Bool) (n k : Int) : Prop := (k = 0 ∧ ∀ j, 1 ≤ j → j ≤ n → is ((p + j) % 2560) = false) ∨ ((1 ≤ k ∧ k ≤ n) ∧ is ((p + k) % 2560) = true ∧ ∀ j, 1 ≤ j → j < k → is ((p + j) % 2560) = false)
theorem alike_step {p k : Int} {m : List Int} {is : Int → Bool}
    (hal : ∀ p, 0 ≤ p ∧ p < 2560 → is p = false → ∀ j, 0 ≤ j → j < valike m p → is (p + j) = false)
    (hno : ∀ j, 1 ≤ j → j < k → is ((p + j) % 2560) = false) (hi : is ((p + k) % 2560) = false) :
    ∀ j, 1 ≤ j → j < k + valike m ((p + k) % 2560) → is ((p + j) % 2560) = false := by
  intro j h1 h2
  by_cases h : j < k
  · exact hno j h1 h
  · have hb : 0 ≤ (p + k) % 2560 ∧ (p + k) % 2560 < 2560 := by omega
    have hv := valike_pos (m := m) hb
    have := hal _ hb hi (j - k) (by omega) (by omega)
    rw [show (p + j) % 2560 = (p + k) % 2560 + (j - k) by omega]
    exact this
theorem vidFirst_any (s : Vd) (g : Nat) (n : Int) (fn : Nat) (pre post : Array Value) (is : Int → Bool) (w : World) (h : rowB w g 91 s.cs) (hs : s.fit) (hn : n ≤ 2560) (hE : Enters Tryz.prog fn)
    (hal : ∀ p, 0 ≤ p ∧ p < 2560 → is p = false → ∀ j, 0 ≤ j → j < valike s.m p → is (p + j) = false)
    (hc : ∀ p w', 0 ≤ p ∧ p < 2560 → Below w.heap.size w w' → Calls Tryz.prog fn (pre.push (.int .i64 p) ++ post) w' fun e w'' => e = .returned (.bool (is p)) ∧ Below w'.heap.size w' w'') :
    Calls Tryz.prog 86 #[.pointer (some ⟨g, 0, none⟩), .int .i64 n, .func (.func fn) pre post] w fun e w' => ∃ k, e = .returned (.int .i64 k) ∧ firstR s.p is n k ∧ Below w.heap.size w w' := by
  have hEn : ∀ (args : Array Value) (w : World), (callFunc fn args).run Tryz.prog w = .ok (.enter fn args) w := hE
  clear hE
  have hp := hs.p
  have HAL := Lib.hid hal
  have HCC := Lib.hid hc
  clear hal hc
  go_enter Tryz.func86, Tryz.ntmps86
  go_wp2_with fail
  go_loopw [7] (fun i wr => ∃ k : Int, (1 ≤ k ∧ k ≤ 5120) ∧ i = .int .i64 k ∧ Hid (∀ j, 1 ≤ j → j < k → is ((s.p + j) % 2560) = false) ∧ Below w.heap.size w wr) (fun i _ => 5120 - (intOf i).toNat)
  case atStart => exact ⟨1, by decide, rfl, Lib.hid (fun j h1 h2 => absurd h1 (by omega)), Below.refl _ _⟩
  case round =>
    obtain ⟨k, ⟨k1, k2⟩, rfl, HNO, hbel⟩ := hrel
    have hr := rowB_below h hbel (rowB_lt h)
    have c0 := rowB_cell hr 0 (v := .int .i64 s.p) rfl
    by_cases hlt : k ≤ n
    · have hd : decide (k ≤ n) = true := decide_eq_true hlt
      have wk : wrap64 (s.p + k) = s.p + k := IntWalk.wrap64_in _ (by omega)
      have tk : (s.p + k).tmod 2560 = (s.p + k) % 2560 := Int.tmod_eq_emod_of_nonneg (by omega)
      have hb : 0 ≤ (s.p + k) % 2560 ∧ (s.p + k) % 2560 < 2560 := by omega
      have hC := HCC.out _ _ hb hbel
      have hst := fun h => alike_step (m := s.m) HAL.out HNO.out h
      obtain ⟨A, hA⟩ : ∃ A, (s.p + k) % 2560 = A := ⟨_, rfl⟩
      rw [hA] at hC hb tk hst
      have HST := Lib.hid hst
      have HA := Lib.hid hA
      clear hst hA
      cases hI : is A with
      | true =>
        rw [hI] at hC
        have HI := Lib.hid hI
        clear hI
        go_wp2_with (with_reducible refine hC.mono ?_; rintro e w1 ⟨rfl, hb1⟩)
        go_ret
        exact ⟨k, rfl, .inr ⟨⟨k1, hlt⟩, by rw [HA.out]; exact HI.out, HNO.out⟩, hbel.trans (hb1.mono hbel.size)⟩
      | false =>
        rw [hI] at hC
        have hst := HST.out hI
        have HST := Lib.hid hst
        clear hI hst
        have hv := valike_pos (m := s.m) hb
        obtain ⟨V, hV⟩ : ∃ V, valike s.m A = V := ⟨_, rfl⟩
        have hQ := fun w' (hw : rowB w' g 91 s.cs) => vidAlike_any s g A w' hw hs hb
        simp only [hV] at hQ
        rw [hV] at HST hv
        clear hV
        have wv : wrap64 (k + V) = k + V := IntWalk.wrap64_in _ (by omega)
        go_wp2_with (first
          | (with_reducible refine hC.mono ?_; rintro e w1 ⟨rfl, hb1⟩; have hr1 := rowB_below hr hb1 (rowB_lt hr))
          | (go_at_call 127; refine (hQ _ hr1).mono ?_; rintro e w2 ⟨rfl, rfl⟩))
        go_roundw
        case rel => exact ⟨k + V, by omega, by go_num, HST, hbel.trans (hb1.mono hbel.size)⟩
        case measure => simp [intOf]; omega
    · have hd : decide (k ≤ n) = false := decide_eq_false hlt
      go_wp2_with fail
      go_ret
      exact ⟨0, rfl, .inl ⟨rfl, fun j h1 h2 => HNO.out j h1 (by omega)⟩, hbel⟩
end Go.Proofs.YtakaebjojgeehaaGreat
namespace Go.Proofs.YtakaebjojgeehaaGreat
/-- So many cycles, one by one. -/
def Vd.ticks (s : Vd) : Nat → Vd
  | 0 => s
  | n + 1 => (s.ticks n).tick
theorem Vd.ticks_fit {s : Vd} (hs : s.fit) (n : Nat) : (s.ticks n).fit := by
  induction n with
  | zero => exact hs
  | succ n ih => exact Vd.tick_fit ih
theorem Vd.ticks_m (s : Vd) (n : Nat) : (s.ticks n).m = s.m := by
  induction n with
  | zero => rfl
  | succ n ih => exact ih
theorem Vd.ticks_p {s : Vd} (hs : s.fit) (n : Nat) : (s.ticks n).p = (s.p + n) % 2560 := by
  have := hs.p
  induction n with
  | zero => show s.p = (s.p + (0 : Nat)) % 2560; omega
  | succ n ih =>
    show ((s.ticks n).p + 1) % 2560 = _
    rw [ih]
    omega
theorem Vd.ticks_hit {s : Vd} (hs : s.fit) (n : Nat) (j : Int) (h1 : 1 ≤ j) (h2 : j ≤ n) (h : vhit s.m ((s.p + j) % 2560) = true) : (s.ticks n).h = 1 := by
  induction n with
  | zero => omega
  | succ n ih =>
    show (if vhit (s.ticks n).m (((s.ticks n).p + 1) % 2560) = true then 1 else (s.ticks n).h) = 1
    rw [Vd.ticks_m, Vd.ticks_p hs]
    by_cases e : j = n + 1
    · rw [if_pos]
      rw [show ((s.p + (n : Int)) % 2560 + 1) % 2560 = (s.p + j) % 2560 by omega]
      exact h
    · rw [ih (by omega)]
      exact ite_self _
theorem Vd.ticks_none {s : Vd} (hs : s.fit) (n : Nat) (h : ∀ j : Int, 1 ≤ j → j ≤ n → vhit s.m ((s.p + j) % 2560) = false) : (s.ticks n).h = s.h := by
  induction n with
  | zero => rfl
  | succ n ih =>
    show (if vhit (s.ticks n).m (((s.ticks n).p + 1) % 2560) = true then 1 else (s.ticks n).h) = s.h
    rw [Vd.ticks_m, Vd.ticks_p hs, if_neg, ih (fun j h1 h2 => h j h1 (by omega))]
    have := h ((n : Int) + 1) (by omega) (by omega)
    rw [show (s.p + ((n : Int) + 1)) % 2560 = ((s.p + (n : Int)) % 2560 + 1) % 2560 by omega] at this
    rw [this]
    decide
/-- The state after so many cycles by the first hit of a frame. -/
theorem Vd.ticks_first {s : Vd} (hs : s.fit) {k K : Int} (h : firstR s.p (vhit s.m) (if 2560 < k then 2560 else k) K) (hk : 0 ≤ k) :
    s.ticks k.toNat = ⟨(s.p + k % 2560) % 2560, if 0 < K then 1 else s.h, s.m⟩ := by
  have hp := Vd.ticks_p hs k.toNat
  have hm := Vd.ticks_m s k.toNat
  have hh : (s.ticks k.toNat).h = if 0 < K then 1 else s.h := by
    rcases h with ⟨rfl, h⟩ | ⟨⟨h1, h2⟩, h3, _⟩
    · rw [if_neg (by decide)]
      refine Vd.ticks_none hs _ fun j h1 h2 => ?_
      split at h
      next hb =>
        have := h ((j - 1) % 2560 + 1) (by omega) (by omega)
        rw [show (s.p + ((j - 1) % 2560 + 1)) % 2560 = (s.p + j) % 2560 by omega] at this
        exact this
      next hb => exact h j h1 (by omega)
    · rw [if_pos (by omega)]
      refine Vd.ticks_hit hs _ K h1 ?_ h3
      split at h2 <;> omega
  generalize s.ticks k.toNat = t at *
  obtain ⟨p, f, m⟩ := t
  dsimp only at hp hm hh
  rw [hp, hm, hh, show (s.p + (k.toNat : Int)) % 2560 = (s.p + k % 2560) % 2560 by omega]
theorem vis_hit {m : List Int} : ∀ p, 0 ≤ p ∧ p < 2560 → vhit m p = false → ∀ j, 0 ≤ j → j < valike m p → vhit m (p + j) = false := fun p hp h j h0 hj => by
  rw [(valike_same hp h0 hj).2]; exact h
end Go.Proofs.YtakaebjojgeehaaGreat
namespace Go.Proofs.YtakaebjojgeehaaGreat
open Go.RowKit
set_option maxRecDepth 100000
set_option maxHeartbeats 2000000 in
theorem vidSkip_any (v vm : Value) (l lb : List Int) (k : Int) (w : World) (h : isArg w v l) (hm : isByt w vm lb) (hb : ∀ x ∈ lb, 0 ≤ x ∧ x < 256) (hk : -9223372036854775808 ≤ k ∧ k ≤ 9223372036854775807) :
    Calls Tryz.prog 32 #[.agg #[v, vm], .int .i64 k] w fun e w' => ∃ u, e = .returned u ∧ devV w.heap.size w' u ((Vd.ofN l lb).ticks k.toNat) ∧ Below w.heap.size w w' := by
  obtain ⟨k0, k1, bW, sW⟩ := boxes2 w (.cells #[v, vm] 27) (.cells #[.slice none 0 0, .slice none 0 0] 27)
  have k0 : rowB _ _ _ _ := k0
  have k1 : rowB _ _ _ _ := k1
  have hload := vidLoad_any v vm l lb _ (isArg_below h bW (Nat.le_refl _)) (isByt_below hm bW (Nat.le_refl _))
  have hfit := Vd.ofN_fit l lb hb
  clear h hm hb
  generalize Vd.ofN l lb = s at *
  obtain ⟨p, f, m⟩ := s
  have hp := hfit.p
  have hf := hfit.h
  have hl := hfit.m
  dsimp only at hp hf hl
  obtain ⟨j, hj, hj0, hjk⟩ : ∃ j : Int, (if k < 0 then 0 else k) = j ∧ (0 ≤ j ∧ j ≤ 9223372036854775807) ∧ k.toNat = j.toNat := by
    by_cases h : k < 0
    · exact ⟨0, if_pos h, by decide, by omega⟩
    · exact ⟨k, if_neg h, by omega, rfl⟩
  rw [hjk]
  clear hjk hk
  have tj : j.tmod 2560 = j % 2560 := Int.tmod_eq_emod_of_nonneg hj0.1
  have wj : wrap64 (p + j % 2560) = p + j % 2560 := IntWalk.wrap64_in _ (by omega)
  have tp : (p + j % 2560).tmod 2560 = (p + j % 2560) % 2560 := Int.tmod_eq_emod_of_nonneg (by omega)
  obtain ⟨n, hn⟩ : ∃ n, (if 2560 < j then 2560 else j) = n := ⟨_, rfl⟩
  have hn2 : n ≤ 2560 := by rw [← hn]; split <;> omega
  go_enter Tryz.func32, Tryz.ntmps32
  go_upto_region 2 with (first
    | (go_at_call 85; refine hload.mono ?_; rintro e w1 ⟨rfl, hb⟩; have bX := bW.trans (hb.mono bW.size); have r1 := rowB_below k1 hb (rowB_lt k1); have hs := hb.size; rw [sW] at hs; have nz := rowB_new w1 91 (Vd.cs ⟨0, 0, zeros32⟩); clear hb hload)
    | (refine wpList_storeR rfl 91 _ _ rfl w1.heap.size rfl (Vd.cs ⟨p, f, m⟩) rfl (Vd.cs_one _) 91 (Vd.cs ⟨0, 0, zeros32⟩) (by rw [Vd.cs_size rfl, Vd.cs_size hl]) ?_ (agVd hl) ?_; exact nz))
  change Code.wp _ _ _ _ ((w1.alloc (.cells (Vd.cs ⟨0, 0, zeros32⟩) 91)).setRow w1.heap.size (Vd.cs ⟨p, f, m⟩))
  replace r1 := rowB_row_other (rowB_alloc r1 (.cells (Vd.cs ⟨0, 0, zeros32⟩) 91)) (Vd.cs ⟨p, f, m⟩) (show w1.heap.size ≠ w.heap.size + 1 by omega)
  replace bX := below_rowR (bX.alloc (by omega) (.cells (Vd.cs ⟨0, 0, zeros32⟩) 91)) (Vd.cs ⟨p, f, m⟩) (show w.heap.size ≤ w1.heap.size by omega)
  replace nz := rowB_row nz (Vd.cs ⟨p, f, m⟩)
  generalize (w1.alloc (.cells (Vd.cs ⟨0, 0, zeros32⟩) 91)).setRow w1.heap.size (Vd.cs ⟨p, f, m⟩) = w2 at *
  generalize w1.heap.size = y at *
  have hF := vidFirst_any ⟨p, f, m⟩ y n 87 #[.pointer (some ⟨y, 0, none⟩)] #[] (vhit m) w2 nz hfit hn2 (enters_of Tryz.func87 (by kernel_rfl) rfl) vis_hit (fun p w' hp hb => (vidHits_any ⟨_, _, _⟩ y p w' (rowB_below nz hb (rowB_lt nz)) hfit hp).mono (fun e w'' h => ⟨h.1, by rw [← h.2]; exact Below.refl _ _⟩))
  have HF := Lib.hid hF
  clear hF
  go_upto_if 14 with (first
    | (go_at_call 86; refine HF.out.mono ?_; rintro e w3 ⟨K, rfl, hF, hbF⟩))
  replace nz := rowB_below nz hbF (rowB_lt nz)
  replace r1 := rowB_below r1 hbF (rowB_lt r1)
  replace bX := bX.trans (hbF.mono bX.size)
  rw [← hn] at hF
  have hT := Vd.ticks_first hfit hF hj0.1
  have hTf := Vd.ticks_fit hfit j.toNat
  dsimp only at hT
  rw [show (p + j % 2560) % 2560 = (p + j) % 2560 by omega] at hT
  clear HF hF hbF hn hn2 hj k0 k1
  have z0 := rowB_free nz 0
  have z1 := rowB_free nz 1
  have c0 := rowB_cell nz 0 (v := .int .i64 p) rfl
  have c1 := rowB_cell nz 1 (v := .int .i64 f) rfl
  by_cases h0 : 0 < K
  · rw [if_pos h0] at hT
    rw [hT] at hTf
    have hd : decide (0 < K) = true := decide_eq_true h0
    go_upto_region 6 with fail
    replace nz : rowB _ y 91 (Vd.cs ⟨(p + j) % 2560, 1, m⟩) := rowB_eq (rowB_set (rowB_eq (rowB_set nz 1 (.int .i64 1)) (Vd.cs_setH _ _ _ _)) 0 (.int .i64 ((p + j) % 2560))) (Vd.cs_setP _ _ _ _)
    replace r1 := rowB_other (rowB_other r1 ⟨y, 1, none⟩ (.int .i64 1) (show y ≠ w.heap.size + 1 by omega)) ⟨y, 0, none⟩ (.int .i64 ((p + j) % 2560)) (show y ≠ w.heap.size + 1 by omega)
    replace bX := Below.setCell (Below.setCell bX (p := ⟨y, 1, none⟩) (show w.heap.size ≤ y by omega) (.int .i64 1)) (p := ⟨y, 0, none⟩) (show w.heap.size ≤ y by omega) (.int .i64 ((p + j) % 2560))
    clear z0 z1 c0 c1 tj wj tp
    obtain ⟨P, hP⟩ : ∃ P, (p + j) % 2560 = P := ⟨_, rfl⟩
    rw [hP] at nz r1 bX hTf hT ⊢
    have HT := Lib.hid hT
    clear hP hT
    have hdev := fun w' h' => vidDev_any ⟨P, 1, m⟩ y w' h' hTf
    go_wp2_with (first
      | (go_at_call 88; refine (hdev _ nz).mono ?_; rintro e w3 ⟨u, rfl, ⟨g, q, rfl, hg, hq, hgq, hr, hr2⟩, hb⟩; have r2 := rowB_below r1 hb (rowB_lt r1); have l2 := rowB_lt r1; replace bX := bX.trans (hb.mono bX.size))
      | (refine wpList_storeR rfl 27 _ _ rfl (w.heap.size + 1) rfl #[.slice (some ⟨g, 0, none⟩) 2 2, .slice (some ⟨q, 0, none⟩) 32 32] rfl (dev2_one _ _ _ _ _ _) 27 #[.slice none 0 0, .slice none 0 0] rfl ?_ agDv ?_; with_reducible exact r2))
    refine bodyPost_ret (resultsR rfl (w.heap.size + 1) _ rfl (rowB_row r2 _) agDv) rfl ?_
    rw [HT.out]
    exact ⟨_, rfl, ⟨g, q, rfl, by omega, by omega, hgq, rowB_row_other hr _ (by omega), rowB_row_other hr2 _ (by omega)⟩, below_rowR bX _ (by omega)⟩
  · rw [if_neg h0] at hT
    rw [hT] at hTf
    have hd : decide (0 < K) = false := decide_eq_false h0
    go_upto_region 6 with fail
    replace nz : rowB _ y 91 (Vd.cs ⟨(p + j) % 2560, f, m⟩) := rowB_eq (rowB_set nz 0 (.int .i64 ((p + j) % 2560))) (Vd.cs_setP _ _ _ _)
    replace r1 := rowB_other r1 ⟨y, 0, none⟩ (.int .i64 ((p + j) % 2560)) (show y ≠ w.heap.size + 1 by omega)
    replace bX := Below.setCell bX (p := ⟨y, 0, none⟩) (show w.heap.size ≤ y by omega) (.int .i64 ((p + j) % 2560))
    clear z0 z1 c0 c1 tj wj tp
    obtain ⟨P, hP⟩ : ∃ P, (p + j) % 2560 = P := ⟨_, rfl⟩
    rw [hP] at nz r1 bX hTf hT ⊢
    have HT := Lib.hid hT
    clear hP hT
    have hdev := fun w' h' => vidDev_any ⟨P, f, m⟩ y w' h' hTf
    go_wp2_with (first
      | (go_at_call 88; refine (hdev _ nz).mono ?_; rintro e w3 ⟨u, rfl, ⟨g, q, rfl, hg, hq, hgq, hr, hr2⟩, hb⟩; have r2 := rowB_below r1 hb (rowB_lt r1); have l2 := rowB_lt r1; replace bX := bX.trans (hb.mono bX.size))
      | (refine wpList_storeR rfl 27 _ _ rfl (w.heap.size + 1) rfl #[.slice (some ⟨g, 0, none⟩) 2 2, .slice (some ⟨q, 0, none⟩) 32 32] rfl (dev2_one _ _ _ _ _ _) 27 #[.slice none 0 0, .slice none 0 0] rfl ?_ agDv ?_; with_reducible exact r2))
    refine bodyPost_ret (resultsR rfl (w.heap.size + 1) _ rfl (rowB_row r2 _) agDv) rfl ?_
    rw [HT.out]
    exact ⟨_, rfl, ⟨g, q, rfl, by omega, by omega, hgq, rowB_row_other hr _ (by omega), rowB_row_other hr2 _ (by omega)⟩, below_rowR bX _ (by omega)⟩
end Go.Proofs.YtakaebjojgeehaaGreat
namespace Go.Proofs.YtakaebjojgeehaaGreat
open Go.RowKit Go.ChangeShapes Go.WideShapes
set_option maxRecDepth 100000
def numR (k : IntKind) (_ : World) (cs : List Value) (x : Int) : Prop := cs = [.int k x] ∧ (Lit.int k x).wf = true
theorem isArr_arg {w : World} {v : Value} {l : List Int} (h : isArr 1 (numR .i64) w v l) : isArg w v l ∧ ∀ x ∈ l, (Lit.int .i64 x).wf = true := by
  rcases h with ⟨a, cap, rfl, rfl⟩ | ⟨b, off, cap, rfl, h1, h2, h3, h4⟩
  · exact ⟨.inl ⟨_, _, rfl, rfl⟩, fun x hx => by simp at hx⟩
  · refine ⟨.inr ⟨b, off, cap, rfl, h1, h2, h3, fun j hj => ?_⟩, fun x hx => ?_⟩
    · obtain ⟨cs, _, c2, rfl, _⟩ := h4 j _ (List.getElem?_eq_getElem hj)
      have := c2 0 (by decide)
      rw [Nat.mul_one, Nat.add_zero] at this
      rw [this, List.getD_eq_getElem?_getD, List.getElem?_eq_getElem hj]
      rfl
    · obtain ⟨i, hi⟩ := List.mem_iff_getElem?.1 hx
      obtain ⟨cs, _, _, _, hw⟩ := h4 i x hi
      exact hw
theorem isArr_byt {w : World} {v : Value} {l : List Int} (h : isArr 1 (numR .u8) w v l) : isByt w v l ∧ ∀ x ∈ l, (Lit.int .u8 x).wf = true := by
  rcases h with ⟨a, cap, rfl, rfl⟩ | ⟨b, off, cap, rfl, h1, h2, h3, h4⟩
  · exact ⟨.inl ⟨_, _, rfl, rfl⟩, fun x hx => by simp at hx⟩
  · refine ⟨.inr ⟨b, off, cap, rfl, h1, h2, h3, fun j hj => ?_⟩, fun x hx => ?_⟩
    · obtain ⟨cs, _, c2, rfl, _⟩ := h4 j _ (List.getElem?_eq_getElem hj)
      have := c2 0 (by decide)
      rw [Nat.mul_one, Nat.add_zero] at this
      rw [this, List.getD_eq_getElem?_getD, List.getElem?_eq_getElem hj]
      rfl
    · obtain ⟨i, hi⟩ := List.mem_iff_getElem?.1 hx
      obtain ⟨cs, _, _, _, hw⟩ := h4 i x hi
      exact hw
theorem two_of {α : Type} (l : List α) (h : l.length = 2) : ∃ a b, l = [a, b] := by
  match l, h with
  | [a, b], _ => exact ⟨a, b, rfl⟩
section
variable {H : Type} {enc : TypeId × Value → H} {w : World} {base : Nat} {held : Bool}
theorem open_num (t : TypeId) (k : IntKind) (ht : Tryz.prog.underlying t = some (.int k)) (fuel : Nat) (cs : List Value) (x : DataW H × List MemPlace) (h : DataW.trod enc Tryz.prog w base (fun _ => true) held fuel t cs = some x) : ∃ y, numR k w cs y := by
  obtain ⟨a, g, _, hw⟩ := DataW.trod_int ht h
  exact ⟨a, g, hw⟩
theorem open_dev_sized (fuel : Nat) (cs : List Value) (x : DataW H × List MemPlace) (h : DataW.trod enc Tryz.prog w base (fun _ => true) held fuel 27 cs = some x) :
    ∃ (vn vm : Value) (ln lb : List Int), cs = [vn, vm] ∧ (isArg w vn ln ∧ ∀ x ∈ ln, (Lit.int .i64 x).wf = true) ∧ (isByt w vm lb ∧ ∀ x ∈ lb, (Lit.int .u8 x).wf = true) ∧
      (lb.length = 0 ∨ ∃ parts elems spare, x.1 = .agg parts ∧ parts[1]? = some (.slice elems spare) ∧ lb.length ≤ elems.length + spare.length) := by
  obtain ⟨xs, n, _, hx, hl, hlen, hf⟩ := DataW.trod_struct Tryz.underlying27 h
  have hc : Tryz.prog.cellsOf 27 = 2 := by kernel_rfl
  have h1 : Tryz.prog.cellsOf 25 = 1 := by kernel_rfl
  have h2 : Tryz.prog.cellsOf 22 = 1 := by kernel_rfl
  obtain ⟨c0, c1, rfl⟩ := two_of cs (hl.trans hc)
  have e : ∀ i, i < 2 → xs[i]? = some (xs[i]?.getD (.nil, [])) := fun i hi => by
    rw [List.getElem?_eq_getElem (by rw [hlen]; exact hi)]; rfl
  have f0 : DataW.trod enc Tryz.prog w base (fun _ => true) held n 25 ((([c0, c1] : List Value).drop 0).take (Tryz.prog.cellsOf 25)) = some (xs[0]?.getD (.nil, [])) := (hf 0 _ rfl).trans (e 0 (by decide))
  have f1 : DataW.trod enc Tryz.prog w base (fun _ => true) held n 22 ((([c0, c1] : List Value).drop 1).take (Tryz.prog.cellsOf 22)) = some (xs[1]?.getD (.nil, [])) := (hf 1 _ rfl).trans (e 1 (by decide))
  simp only [h1, h2, List.drop, List.take] at f0 f1
  obtain ⟨a1, l1, k1, z1, g1, r1, _⟩ := open_arr (k := 1) (R := numR .i64) Tryz.underlying25 (by kernel_rfl) (by decide) (fun fuel cs x h => open_num 3 .i64 Tryz.underlying3 fuel cs x h) f0
  obtain ⟨a2, l2, k2, z2, g2, r2, hz2, hle2, hcap2⟩ := open_arr (k := 1) (R := numR .u8) Tryz.underlying22 (by kernel_rfl) (by decide) (fun fuel cs x h => open_num 5 .u8 Tryz.underlying5 fuel cs x h) f1
  simp at g1 g2
  subst g1 g2
  refine ⟨_, _, z1, z2, rfl, isArr_arg r1, isArr_byt r2, ?_⟩
  rcases hcap2 with h0 | ⟨elems, spare, hd, hsum⟩
  · exact .inl (by omega)
  · refine .inr ⟨_, elems, spare, by rw [hx], ?_, by omega⟩
    rw [List.getElem?_map, e 1 (by decide)]
    exact congrArg some hd
/-- Bytes that come in. -/
theorem open_byts (fuel : Nat) (cs : List Value) (x : DataW H × List MemPlace) (h : DataW.trod enc Tryz.prog w base (fun _ => true) held fuel 22 cs = some x) :
    ∃ (vm : Value) (lb : List Int), cs = [vm] ∧ (isByt w vm lb ∧ ∀ x ∈ lb, (Lit.int .u8 x).wf = true) ∧ (lb.length = 0 ∨ ∃ elems spare, x.1 = .slice elems spare ∧ lb.length ≤ elems.length + spare.length) := by
  obtain ⟨a2, l2, k2, z2, g2, r2, hz2, hle2, hcap2⟩ := open_arr (k := 1) (R := numR .u8) Tryz.underlying22 (by kernel_rfl) (by decide) (fun fuel cs x h => open_num 5 .u8 Tryz.underlying5 fuel cs x h) h
  refine ⟨_, z2, g2, isArr_byt r2, ?_⟩
  rcases hcap2 with h0 | ⟨elems, spare, hd, hsum⟩
  · exact .inl (by omega)
  · exact .inr ⟨elems, spare, hd, by omega⟩
end
end Go.Proofs.YtakaebjojgeehaaGreat
