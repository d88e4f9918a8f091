/- The fact of the laws on whole instructions: the byte of lda with MImm is 1, and it loads. -/
import Derived.Test.YtdiajkgebicnnaaTabMath
import Derived.Below
import Derived.BigQuiet
import Derived.ChangeMaps5
import Derived.Deep.Draws
import Derived.Deep.OwnRows
import Derived.Deep.QuietTactic
import Derived.Deep.Slices
import Derived.Lib.Hide
import Derived.Lib.SmallJoins
import Derived.OpenShut
import Derived.OwnWalk
import Derived.RowKit3
import Derived.WalkKit
import Derived.Test.YtdiajkgebicnnaaAluPure
import Derived.Test.YtdiajkgebicnnaaChecked
import Derived.Test.YtdiajkgebicnnaaWholeRunC
import Derived.Deep.CutBlock
import Derived.Deep.DeepCutAuto
import Derived.Deep.MidRow
import Derived.Deep.RegionHeld3
import Derived.Deep.RegionLaw
import Derived.Deep.RegionWith
import Derived.Deep.WholeRow
import Derived.OrdersHeld
import Derived.SizedLaws
import Derived.StillTactics
import Derived.StillTail
import Derived.StillTailTactics
import Derived.Test.YtdiajkgebicnnaaStdCpuC
import Derived.Deep.DeepAppendWide
import Derived.Laws.OwnMore
import Derived.Shelf.Abstract
import Derived.Test.YtdiajkgebicnnaaAluRegs
import Derived.Test.YtdiajkgebicnnaaStdSmall
import Derived.Great.BuildSlice
import Derived.Laws.CopyOwn
import Derived.RangeFuncBox
import Derived.Test.YtdiajkgebicnnaaCoreTellA
import Derived.Test.YtdiajkgebicnnaaStdMath
namespace Go.Proofs.Ytdiajkgebicnnaa
open Go.RowKit

def ifB (s : St) : Bool := s.d == 24
def hasIf (l : List St) : Bool := l.any ifB
/-- How many cycles are done at least. -/
def leastN : List Cy → Nat
  | [] => 0
  | x :: r => if hasIf x.steps = true then 1 else leastN r + 1
theorem leastN_le (l : List Cy) : leastN l ≤ l.length := by
  induction l with
  | nil => simp [leastN]
  | cons x r ih =>
    unfold leastN
    rw [List.length_cons]
    split <;> omega
def toB (d : Int) : Bool := !(d == 0 || d == 24 || d == 3 || d == 6 || d == 16 || d == 17)
def flagsB (d t : Int) : Bool :=
  (d == 3 || d == 6 || d == 16 || d == 17 || d == 4 || d == 5 || d == 7 || d == 8 || d == 9 || d == 12 || d == 13 || d == 14 || d == 15) || (d == 10 || d == 11) && !(t == 7 || t == 8)
def stepT (reg : Int) (s : St) : Bool := s.t == reg && toB s.d || reg == 4 && flagsB s.d s.t
def busT (reg : Int) (x : Cy) : Bool := x.bus == 1 && x.reg == reg || reg == 3 && x.bus != 0 && (x.place == 4 || x.place == 5)
def cyT (reg : Int) (x : Cy) : Bool := busT reg x || x.steps.any (stepT reg)
def touchB (reg : Int) (l : List Cy) : Bool := l.any (cyT reg)

/-- Where the first element is that meets a test. -/
def idxL {α : Type} (p : α → Bool) (l : List α) : Int := if l.findIdx p < l.length then (l.findIdx p : Int) else -1
section
variable {α : Type}
theorem idxL_any (p : α → Bool) (l : List α) : decide (0 ≤ idxL p l) = l.any p := by
  rw [Bool.eq_iff_iff, List.any_eq_true, decide_eq_true_eq]
  unfold idxL
  rw [← List.findIdx_lt_length]
  split <;> simp_all
theorem idxL_here {p : α → Bool} {l : List α} {k : Nat} {x : α} (hk : k ≤ l.findIdx p) (hx : l[k]? = some x) (hp : p x = true) : idxL p l = (k : Int) := by
  obtain ⟨hlt, he⟩ := List.getElem?_eq_some_iff.1 hx
  have h2 : l.findIdx p = k := by
    rcases Nat.lt_or_ge k (l.findIdx p) with h | h
    · have := List.not_of_lt_findIdx h
      rw [he, hp] at this
      cases this
    · omega
  unfold idxL
  rw [h2, if_pos hlt]
theorem idxL_next {p : α → Bool} {l : List α} {k : Nat} {x : α} (hk : k ≤ l.findIdx p) (hx : l[k]? = some x) (hp : p x = false) : k + 1 ≤ l.findIdx p := by
  obtain ⟨hlt, he⟩ := List.getElem?_eq_some_iff.1 hx
  rcases Nat.lt_or_ge k (l.findIdx p) with h | h
  · exact h
  · have e : l.findIdx p = k := by omega
    have := List.findIdx_getElem (p := p) (xs := l) (w := by rw [e]; exact hlt)
    simp only [e, he, hp] at this
    cases this
theorem idxL_none {p : α → Bool} {l : List α} (hk : l.length ≤ l.findIdx p) : idxL p l = -1 := by
  unfold idxL; rw [if_neg (by omega)]
end
end Go.Proofs.Ytdiajkgebicnnaa
namespace Go.Proofs.Ytdiajkgebicnnaa
open Go.RowKit
set_option maxRecDepth 100000

theorem do_fitsP (d : Int) (t u : Nat) (n : Int) (f : Nat → Int) : fits (doF d t u n (fitR f)) := by
  have hF := fits_fit f
  unfold doF
  split
  · have b := flg_bd (fitR f 4) (fitR f t) (fits4 hF)
    exact fits_set hF 4 _ b.1 b.2
  · repeat' split
    all_goals first | exact fits_fit _ | exact hF
theorem fit_at {g h : Nat → Int} (hg : fits g) {r : Nat} (e : h r = g r) : fitR h r = g r := by
  have e2 : fitR h r = fitR g r := by unfold fitR; rw [e]
  rw [e2, fit_fits hg]
/-- A step keeps the registers that it does not tell. -/
theorem do_keep (d tI : Int) (u : Nat) (n : Int) {g : Nat → Int} (hg : fits g) (r : Nat) (ht : 0 ≤ tI ∧ tI ≤ 8) (h1 : toB d = true → r ≠ reg tI) (h2 : flagsB d tI = true → r ≠ 4) : doF d (reg tI) u n (fitR g) r = g r := by
  rw [fit_fits hg]
  have hc : ∀ b, (flagsB 10 tI = true → r ≠ 4) → r ≠ reg tI → countF (reg tI) b g r = g r := fun b h2 h1 => by
    unfold countF
    split
    · exact setR_other _ _ _ _ h1
    · rename_i hn
      have h4 : r ≠ 4 := h2 (by
        unfold flagsB
        have e7 : (tI == 7) = false := by simp; rintro rfl; exact hn (.inl rfl)
        have e8 : (tI == 8) = false := by simp; rintro rfl; exact hn (.inr rfl)
        rw [e7, e8]
        decide)
      rw [setR_other _ _ _ _ h1, setR_other _ _ _ _ h4]
  rcases stepNo d with rfl | rfl | rfl | rfl | rfl | rfl | rfl | rfl | rfl | rfl | rfl | rfl | rfl | rfl | rfl | rfl | rfl | rfl | rfl | rfl | rfl | rfl | rfl | rfl | hd
  · exact fit_at hg (setR_other _ _ _ _ (h1 rfl))
  · exact fit_at hg (setR_other _ _ _ _ (h1 rfl))
  · exact setR_other _ _ _ _ (h2 rfl)
  · exact fit_at hg ((setR_other _ _ _ _ (h1 rfl)).trans (setR_other _ _ _ _ (h2 rfl)))
  · exact fit_at hg ((setR_other _ _ _ _ (h1 rfl)).trans (setR_other _ _ _ _ (h2 rfl)))
  · exact fit_at hg (setR_other _ _ _ _ (h2 rfl))
  · exact fit_at hg ((setR_other _ _ _ _ (h1 rfl)).trans (setR_other _ _ _ _ (h2 rfl)))
  · exact fit_at hg ((setR_other _ _ _ _ (h1 rfl)).trans (setR_other _ _ _ _ (h2 rfl)))
  · exact fit_at hg ((setR_other _ _ _ _ (h1 rfl)).trans (setR_other _ _ _ _ (h2 rfl)))
  · exact fit_at hg (hc 1 h2 (h1 rfl))
  · exact fit_at hg (hc (-1) h2 (h1 rfl))
  · exact fit_at hg ((setR_other _ _ _ _ (h1 rfl)).trans (setR_other _ _ _ _ (h2 rfl)))
  · exact fit_at hg ((setR_other _ _ _ _ (h1 rfl)).trans (setR_other _ _ _ _ (h2 rfl)))
  · exact fit_at hg ((setR_other _ _ _ _ (h1 rfl)).trans (setR_other _ _ _ _ (h2 rfl)))
  · exact fit_at hg ((setR_other _ _ _ _ (h1 rfl)).trans (setR_other _ _ _ _ (h2 rfl)))
  · exact fit_at hg (setR_other _ _ _ _ (h2 rfl))
  · exact fit_at hg (setR_other _ _ _ _ (h2 rfl))
  · exact fit_at hg (setR_other _ _ _ _ (h1 rfl))
  · exact fit_at hg (setR_other _ _ _ _ (h1 rfl))
  · exact fit_at hg (setR_other _ _ _ _ (h1 rfl))
  · exact fit_at hg (setR_other _ _ _ _ (h1 rfl))
  · exact fit_at hg (setR_other _ _ _ _ (h1 rfl))
  · exact fit_at hg (setR_other _ _ _ _ (h1 rfl))
  · rw [do24]
  · have e : doF d (reg tI) u n g = fitR g := by
      unfold doF moves
      simp [hd]
    rw [e, fit_fits hg]
/-- The steps of a valid cycle name registers. -/
def namesR (l : List St) : Prop := ∀ s ∈ l, 0 ≤ s.t ∧ s.t ≤ 8
theorem stepsF_fits (l : List St) (f : Nat → Int) (hf : fits f) : fits (stepsF l f).1 := by
  induction l generalizing f with
  | nil => exact hf
  | cons s l ih =>
    unfold stepsF
    split
    · exact do_fitsP _ _ _ _ _
    · exact ih _ (do_fitsP _ _ _ _ _)
theorem steps_keep (l : List St) (r : Nat) (hl : namesR l) (h : l.any (stepT (r : Int)) = false) (f : Nat → Int) (hf : fits f) : (stepsF l f).1 r = f r := by
  induction l generalizing f with
  | nil => rfl
  | cons s l ih =>
    rw [List.any_cons, Bool.or_eq_false_iff] at h
    have hs := hl s (List.mem_cons_self ..)
    have hk : doF s.d (reg s.t) (reg s.f) s.n (fitR f) r = f r := by
      refine do_keep s.d s.t (reg s.f) s.n hf r hs (fun ht e => ?_) (fun ht e => ?_)
      · have h1 := h.1
        unfold stepT at h1
        rw [Bool.or_eq_false_iff] at h1
        have h2 := h1.1
        rw [ht, Bool.and_true] at h2
        have e2 : s.t = (r : Int) := by rw [e]; unfold reg near; omega
        rw [e2] at h2
        simp at h2
      · have h1 := h.1
        unfold stepT at h1
        rw [Bool.or_eq_false_iff] at h1
        have h2 := h1.2
        rw [ht, Bool.and_true] at h2
        subst e
        exact absurd h2 (by decide)
    unfold stepsF
    split
    · exact hk
    · rw [ih (fun x hx => hl x (List.mem_cons_of_mem _ hx)) h.2 _ (do_fitsP _ _ _ _ _), hk]
theorem steps_end (l : List St) (f : Nat → Int) (h : (stepsF l f).2 = true) : hasIf l = true := by
  induction l generalizing f with
  | nil => cases h
  | cons s l ih =>
    unfold hasIf
    rw [List.any_cons]
    unfold stepsF at h
    split at h
    · rename_i he
      have h24 : s.d = 24 := by
        unfold endB at he
        split at he
        · assumption
        · cases he
      have e : ifB s = true := by unfold ifB; rw [h24]; rfl
      rw [e, Bool.true_or]
    · have := ih _ h
      unfold hasIf at this
      rw [this, Bool.or_true]
theorem placeR_fits (p : Int) {f : Nat → Int} (hf : fits f) : fits (placeR p f) := by
  have b7 : 0 ≤ lo (f 7 + 1) 16 ∧ lo (f 7 + 1) 16 < 65536 := by rw [lo16_eq]; omega
  have b3 := lo8_bd (f 3 - 1)
  have b4 := lo8_bd (f 3 + 1)
  unfold placeR
  split
  · intro j
    have := hf j
    unfold setR
    by_cases e : j = 7
    · rw [if_pos e]; omega
    · rw [if_neg e]; exact this
  · split
    · exact fits_set hf 3 _ b3.1 b3.2
    · split
      · exact fits_set hf 3 _ b4.1 b4.2
      · exact hf
theorem readR_fits (x : Cy) (d : Int) {f : Nat → Int} (hf : fits f) (hd : 0 ≤ d ∧ d < 256) : fits (readR x d f) := by
  unfold readR
  split
  · exact fits_set hf _ _ hd.1 hd.2
  · exact hf
section
variable {M : Type} (F : MemF M)
theorem oneC_fits (x : Cy) (f : Nat → Int) (m : M) : fits (oneC F x f m).f := by
  unfold oneC
  exact stepsF_fits _ _ (readR_fits _ _ (fits_fit _) (lo8_bd _))
theorem oneC_keep (x : Cy) (f : Nat → Int) (hf : fits f) (m : M) (r : Nat) (hr : r < 9) (h7 : r ≠ 7) (hn : namesR x.steps) (h : cyT (r : Int) x = false) : (oneC F x f m).f r = f r := by
  unfold cyT at h
  rw [Bool.or_eq_false_iff] at h
  obtain ⟨hB, hS⟩ := h
  unfold busT at hB
  rw [Bool.or_eq_false_iff] at hB
  obtain ⟨hB1, hB2⟩ := hB
  unfold oneC
  dsimp only
  rw [steps_keep x.steps r hn hS _ (readR_fits _ _ (fits_fit _) (lo8_bd _))]
  have hP : fits (if x.bus = 0 then fitR f else placeR x.place (fitR f)) := by
    split
    · exact fits_fit _
    · exact placeR_fits _ (fits_fit _)
  rw [fit_fits hP]
  have hR : ∀ (d : Int) (g : Nat → Int), readR x d g r = g r := fun d g => by
    unfold readR
    split
    · rename_i hc
      refine setR_other _ _ _ _ fun e => ?_
      have hb : (x.bus == 1) = true := by rw [hc.1]; rfl
      have hq : (x.reg == (r : Int)) = true := by
        have := hc.2
        unfold isReg at this
        simp at this
        have e3 : x.reg = (r : Int) := by omega
        rw [e3]
        simp
      rw [hb, hq] at hB1
      cases hB1
    · rfl
  rw [hR]
  split
  · rw [fit_fits hf]
  · rename_i hb
    rw [fit_fits hf]
    have hb2 : (x.bus != 0) = true := by simpa using hb
    unfold placeR
    split
    · exact setR_other _ _ _ _ h7
    · split
      · rename_i h4
        refine setR_other _ _ _ _ fun e => ?_
        subst e
        rw [hb2, h4] at hB2
        cases hB2
      · split
        · rename_i h5
          refine setR_other _ _ _ _ fun e => ?_
          subst e
          rw [hb2, h5] at hB2
          cases hB2
        · rfl
theorem oneC_end (x : Cy) (f : Nat → Int) (m : M) (h : (oneC F x f m).e = true) : hasIf x.steps = true := steps_end _ _ h
theorem execL_fits (l : List Cy) (f : Nat → Int) (hf : fits f) (m : M) : fits (execL F l f m).1 := by
  induction l generalizing f m with
  | nil => exact hf
  | cons x r ih =>
    unfold execL
    split
    · exact oneC_fits F x f m
    · exact ih _ (oneC_fits F x f m) _
theorem execL_keep (l : List Cy) (f : Nat → Int) (hf : fits f) (m : M) (r : Nat) (hr : r < 9) (h7 : r ≠ 7) (hn : ∀ x ∈ l, namesR x.steps) (h : touchB (r : Int) l = false) : (execL F l f m).1 r = f r := by
  induction l generalizing f m with
  | nil => rfl
  | cons x l ih =>
    unfold touchB at h
    rw [List.any_cons, Bool.or_eq_false_iff] at h
    have h1 := oneC_keep F x f hf m r hr h7 (hn x (List.mem_cons_self ..)) h.1
    unfold execL
    split
    · exact h1
    · rw [ih _ (oneC_fits F x f m) _ (fun y hy => hn y (List.mem_cons_of_mem _ hy)) h.2, h1]
theorem execL_len (l : List Cy) (f : Nat → Int) (m : M) : leastN l ≤ (execL F l f m).2.1.length ∧ (execL F l f m).2.1.length ≤ l.length := by
  induction l generalizing f m with
  | nil => exact ⟨Nat.le_refl _, Nat.le_refl _⟩
  | cons x l ih =>
    rw [execL, leastN]
    by_cases he : (oneC F x f m).e = true
    · rw [if_pos he, if_pos (oneC_end F x f m he)]
      simp
    · have := ih (oneC F x f m).f (oneC F x f m).m
      rw [if_neg he]
      simp only [List.length_cons]
      split <;> omega
end
end Go.Proofs.Ytdiajkgebicnnaa
namespace Go.Proofs.Ytdiajkgebicnnaa
open Go.RowKit
set_option maxRecDepth 100000

def kindK (t : TypeId) : Prop := t = 86 ∨ t = 84 ∨ t = 78
theorem flat_safe {g b : Nat} {w w' : World} {m : Nat → Int} (h : flatW g b w m) (ho : Off (flatG g b) w w') : Safe kindK w w' :=
  ho.safe fun k c e fz hk hc => by
    obtain ⟨cs, h1, _, _⟩ := h.hb
    have hg := h.hg
    unfold rowB at h1 hg
    rcases hk with rfl | rfl
    · rw [hg] at hc
      cases hc
      unfold kindK; decide
    · rw [h1] at hc
      cases hc
      unfold kindK; decide
/-- The slices v0 to v3 are those of the museum's processor. -/
def stdAt (w : World) (v0 v1 v2 v3 : Value) : Prop := ∃ lo, instrsO lo w v0 stdI ∧ cyclesO lo w v1 resetC ∧ cyclesO lo w v2 (interruptC 6 7) ∧ cyclesO lo w v3 (interruptC 8 9)
section
variable {w w' : World} {v0 v1 v2 v3 : Value}
theorem stdAt.safe (h : stdAt w v0 v1 v2 v3) (hs : Safe kindK w w') : stdAt w' v0 v1 v2 v3 := by
  obtain ⟨lo, h0, h1, h2, h3⟩ := h
  exact ⟨lo, instrsO_safe h0 hs ⟨.inl rfl, .inr (.inl rfl), .inr (.inr rfl)⟩, cyclesO_safe h1 hs ⟨.inl rfl, .inr (.inl rfl)⟩, cyclesO_safe h2 hs ⟨.inl rfl, .inr (.inl rfl)⟩, cyclesO_safe h3 hs ⟨.inl rfl, .inr (.inl rfl)⟩⟩
theorem stdAt.below (h : stdAt w v0 v1 v2 v3) (hb : Below w.heap.size w w') : stdAt w' v0 v1 v2 v3 := h.safe (safe_below hb)
theorem stdAt.off {g b : Nat} {m : Nat → Int} (h : stdAt w v0 v1 v2 v3) (hm : flatW g b w m) (ho : Off (flatG g b) w w') : stdAt w' v0 v1 v2 v3 := h.safe (flat_safe hm ho)
theorem stdAt.arg (h : stdAt w v0 v1 v2 v3) : cpuArg w v0 v1 v2 v3 stdC := by
  obtain ⟨lo, h0, h1, h2, h3⟩ := h
  exact cpu_arg h0 h1 h2 h3
end
/-- What std.Cpu gives. -/
def cpuEnd (w : World) (e : Ending) (w' : World) : Prop := ∃ a0 n0 c0 a1 n1 c1 a2 n2 c2 a3 n3 c3, e = .returned (.agg (cpu5 stdC.name (.slice a0 n0 c0) (.slice a1 n1 c1) (.slice a2 n2 c2) (.slice a3 n3 c3))) ∧ n0 = 92 ∧ stdAt w' (.slice a0 n0 c0) (.slice a1 n1 c1) (.slice a2 n2 c2) (.slice a3 n3 c3) ∧ Below w.heap.size w w'
theorem cpu_end (w : World) : Calls Try.prog 36 #[] w (cpuEnd w) := by
  refine (cpu_std w).mono ?_
  rintro e w' ⟨a0, n0, c0, a1, n1, c1, a2, n2, c2, a3, n3, c3, rfl, h0, h1, h2, h3, hb⟩
  have hn : n0 = 92 := by
    obtain ⟨a, cap, e⟩ := own_slice h0
    cases e
    exact stdI_len
  exact ⟨a0, n0, c0, a1, n1, c1, a2, n2, c2, a3, n3, c3, rfl, hn, ⟨_, h0, h1, h2, h3⟩, hb⟩
theorem cpu5_one {nm : ByteArray} (a0 : Option Addr) (n0 c0 : Nat) (a1 : Option Addr) (n1 c1 : Nat) (a2 : Option Addr) (n2 c2 : Nat) (a3 : Option Addr) (n3 c3 : Nat) : (cpu5 nm (.slice a0 n0 c0) (.slice a1 n1 c1) (.slice a2 n2 c2) (.slice a3 n3 c3)).all (·.oneCell') = true := by simp [cpu5, Value.oneCell']
theorem run_std {g b : Nat} {v0 v1 v2 v3 : Value} (k : Ks) (m : Nat → Int) (w : World) (hm : flatW g b w m) (hs : stdAt w v0 v1 v2 v3) :
    Calls Try.prog 50 #[.agg (cpu5 stdC.name v0 v1 v2 v3), .agg k.row, .iface 58 (.pointer (some ⟨g, 0, none⟩))] w (runEnd (flatG g b) (flatW g b) w (runK flatF stdC 20 k m)) :=
  run_any (flat_memC g b) stdC v0 v1 v2 v3 k m w hm fun _ ho => (hs.off hm ho).arg
theorem cycle_std {g b : Nat} {v0 v1 v2 v3 : Value} (k : Ks) (q : Bool) (m : Nat → Int) (w : World) (hm : flatW g b w m) (hs : stdAt w v0 v1 v2 v3) :
    Calls Try.prog 37 #[.agg (cpu5 stdC.name v0 v1 v2 v3), .agg k.row, .bool q, .iface 58 (.pointer (some ⟨g, 0, none⟩))] w fun e w' =>
      e = .returned (.tuple #[.agg (cycK flatF stdC k q m).1.row, .agg (cycK flatF stdC k q m).2.1.row]) ∧ flatW g b w' (cycK flatF stdC k q m).2.2 ∧ Off (flatG g b) w w' :=
  cycle_any (flat_memC g b) stdC v0 v1 v2 v3 k q m w hm fun _ ho => (hs.off hm ho).arg

/-- n instructions. -/
def runsK : Nat → Ks → (Nat → Int) → Ks × (Nat → Int)
  | 0, k, m => (k, m)
  | n + 1, k, m => runsK n (runK flatF stdC 20 k m).1 (runK flatF stdC 20 k m).2.2
def runsEnd (g b : Nat) (w : World) (R : Ks × (Nat → Int)) (e : Ending) (w' : World) : Prop := e = .returned (.agg R.1.row) ∧ flatW g b w' R.2 ∧ Off (flatG g b) w w'
end Go.Proofs.Ytdiajkgebicnnaa
namespace Go.Proofs.Ytdiajkgebicnnaa
open Go.RowKit
set_option maxRecDepth 100000

/-- A program of bytes, laid at 1024. -/
def loadP (p : List Int) (k : Nat) : Int := if 1024 ≤ k then p.getD (k - 1024) 0 else 0
theorem loadP_at (p : List Int) (j : Nat) : loadP p (1024 + j) = p.getD j 0 := by
  unfold loadP
  rw [if_pos (by omega)]
  congr 1
  omega
/-- The slice v holds the bytes p. -/
def bytesA (w : World) (v : Value) (p : List Int) : Prop := ∃ (b : Nat) (cap : Nat), v = .slice (some ⟨b, 0, none⟩) p.length cap ∧ b < w.heap.size ∧ (∀ j x, p[j]? = some x → w.cell? ⟨b, j, none⟩ = some (.int .u8 x)) ∧ (∀ x ∈ p, 0 ≤ x ∧ x < 256)
theorem bytesA.below {w w' : World} {v : Value} {p : List Int} (h : bytesA w v p) (hb : Below w.heap.size w w') : bytesA w' v p := by
  obtain ⟨b, cap, rfl, h1, h2, h3⟩ := h
  exact ⟨b, cap, rfl, Nat.lt_of_lt_of_le h1 hb.size, fun j x hx => (hb.cell (p := ⟨b, j, none⟩) h1).trans (h2 j x hx), h3⟩
/-- What ready gives. -/
def readyEnd (w : World) (p : List Int) (e : Ending) (w' : World) : Prop :=
  ∃ (f : Nat → Int) (g b : Nat), e = .returned (.tuple #[.agg (core12 f (-1) 0 false), .pointer (some ⟨g, 0, none⟩)]) ∧ fits f ∧ f 7 = 1024 ∧ flatW g b w' (loadP p) ∧ w.heap.size ≤ g ∧ w.heap.size ≤ b ∧ Below w.heap.size w w'
theorem zeros_get (n k : Nat) (v : Value) (h : k < n) : (madeCells #[v] n)[k]? = some v := by
  unfold madeCells
  simp [h, Nat.mod_one]
theorem zeros_size (n : Nat) (v : Value) : (madeCells #[v] n).size = n := by
  unfold madeCells
  simp

/-- A copy into a row of the call's own: the row is then L. -/
theorem wpList_copy_L {P : Program} {w : World} {ops : Array Oper} {rest : List Oper} {o : Oper} {a : Act} {Q : Exit → Act → World → Prop} (hgd : o.guard = none) (d s : Operand) (dT sT : TypeId)
    (ho : o.op = .call { callee := .builtin .copy, args := #[d, s], argTypes := #[dT, sT] }) (elem : TypeId) (hu : P.underlying dT = some (.slice elem)) (hsz : (P.info? elem).map (·.size) = some 1)
    (g off dLen dCap : Nat) (ad : Addr) (sLen sCap : Nat) (hd : a.eval d = .slice (some ⟨g, off, none⟩) dLen dCap) (hs : a.eval s = .slice (some ad) sLen sCap)
    (cur : Array Value) (t : TypeId) (hg : rowB w g t cur) (cs : List Value) (hn : cs.length = Nat.min sLen dLen)
    (hsrc : ∀ j v, cs[j]? = some v → w.cell? (ad.add j) = some v) (hfit : off + cs.length ≤ cur.size) (h1 : ∀ v ∈ cs, v.oneCell' = true) (L : Array Value) (hL : L = (splice cur.toList off cs).toArray)
    (h : wpList P ops Q rest (a.put o.dst (goInt cs.length)) (w.setRow g L)) : wpList P ops Q (o :: rest) a w := by
  subst hL
  exact wpList_copy_own hgd d s dT sT ho elem hu hsz g off dLen dCap ad sLen sCap hd hs cur t hg cs hn hsrc hfit h1 h
theorem splice_at {α : Type} (l : List α) (off : Nat) (cs : List α) (h : off + cs.length ≤ l.length) (k : Nat) : (splice l off cs)[k]? = if off ≤ k ∧ k < off + cs.length then cs[k - off]? else l[k]? := by
  unfold splice
  rw [List.getElem?_append, List.length_take, Nat.min_eq_left (by omega)]
  split
  · rw [List.getElem?_take, if_pos (by omega), if_neg (by omega)]
  · rw [List.getElem?_append]
    split
    · rw [if_pos (by omega)]
    · rw [if_neg (by omega), List.getElem?_drop]
      congr 1
      omega

set_option maxHeartbeats 2000000 in
theorem ready_any (v : Value) (l : List Int) (pv : Value) (p : List Int) (w : World) (h : isArg w v l) (hwf : ∀ x ∈ l, (Lit.int .i64 x).wf = true) (hp : bytesA w pv p) (hpl : p.length ≤ 1000) :
    Calls Try.prog 30 #[v, pv] w (readyEnd w p) := by
  obtain ⟨sa, sl, scap, rfl⟩ : ∃ a n c, v = .slice a n c := by
    rcases h with ⟨a, cap, rfl, _⟩ | ⟨b, off, cap, rfl, _⟩ <;> exact ⟨_, _, _, rfl⟩
  obtain ⟨pb, pc, rfl, hpb, hcell, hbyte⟩ := hp
  obtain ⟨cs0, hcs0⟩ : ∃ cs0, cs0 = madeCells #[Value.int .u8 0] 65536 := ⟨_, rfl⟩
  obtain ⟨i8, hi8, hz8, hs8, hb8⟩ : ∃ i, Try.prog.info? 5 = some i ∧ i.zero = some (.int .u8 0) ∧ i.size = 1 ∧ i.bytes = 1 := by
    have h : (Try.prog.info? 5).map (fun i => (i.zero, i.size, i.bytes)) = some (some (.int .u8 0), 1, 1) := by kernel_rfl
    cases hh : Try.prog.info? 5 with
    | none => rw [hh] at h; cases h
    | some i => rw [hh] at h; simp only [Option.map_some, Option.some.injEq, Prod.mk.injEq] at h; exact ⟨i, rfl, h⟩
  obtain ⟨cs, hcs⟩ : ∃ cs : List Value, cs = p.map (fun x => Value.int .u8 x) := ⟨_, rfl⟩
  have hcl : cs.length = p.length := by rw [hcs, List.length_map]
  have HCS := Lib.hid hcs
  have HC0 := Lib.hid hcs0
  have H8 := Lib.hid hb8
  have HCL := Lib.hid hcl
  have HCELL := Lib.hid hcell
  have HBYTE := Lib.hid hbyte
  have HARG := Lib.hid h
  have HPL := Lib.hid hpl
  have b0 := below_laid1 w (.cells (core12 (fun _ => 0) 0 0 false) 57)
  have k0 := rowB_new w 57 (core12 (fun _ => 0) 0 0 false)
  clear hcs0 hcl hcell hbyte h hcs hb8
  go_enter Try.func30, Try.ntmps30
  go_upto_region 1 with (fail)
  change Code.wp _ _ _ _ (w.alloc (.cells (core12 (fun _ => 0) 0 0 false) 57))
  generalize hw1 : w.alloc (.cells (core12 (fun _ => 0) 0 0 false) 57) = w1 at *
  have z1 : w1.heap.size = w.heap.size + 1 := by rw [← hw1]; simp
  clear hw1
  go_upto_region 2 with (refine wpList_make_row _ rfl _ _ 23 rfl 5 i8 (.int .u8 0) Try.underlying23 hi8 hz8 hs8 rfl .i64 .i64 65536 rfl rfl (by rw [H8.out]; decide) (by decide) ?_; rw [← HC0.out])
  have b2 := (b0.alloc b0.size (.cells cs0 5)).alloc (by simp; omega) (.cells #[.slice (some ⟨w.heap.size + 1, 0, none⟩) 65536 65536] 63)
  have k2 := rowB_alloc (rowB_alloc k0 (.cells cs0 5)) (.cells #[.slice (some ⟨w.heap.size + 1, 0, none⟩) 65536 65536] 63)
  have m2 := rowB_alloc (rowB_new w1 5 cs0) (.cells #[.slice (some ⟨w.heap.size + 1, 0, none⟩) 65536 65536] 63)
  have g2 := rowB_new (w1.alloc (.cells cs0 5)) 63 #[.slice (some ⟨w.heap.size + 1, 0, none⟩) 65536 65536]
  rw [World.size_alloc] at g2
  have z2 : ((w1.alloc (.cells cs0 5)).alloc (.cells #[.slice (some ⟨w.heap.size + 1, 0, none⟩) 65536 65536] 63)).heap.size = w.heap.size + 3 := by simp; omega
  rw [z1] at m2 g2
  generalize (w1.alloc (.cells cs0 5)).alloc (.cells #[.slice (some ⟨w.heap.size + 1, 0, none⟩) 65536 65536] 63) = w2 at *
  clear b0 k0 z1
  have gc := rowB_cell g2 0 rfl
  have hsrc : ∀ (j : Nat) (v : Value), cs[j]? = some v → w2.cell? ((⟨pb, 0, none⟩ : Addr).add j) = some v := fun j v hv => by
    rw [HCS.out, List.getElem?_map] at hv
    cases hx : p[j]? with
    | none => rw [hx] at hv; cases hv
    | some x =>
      rw [hx] at hv
      cases hv
      rw [Addr.add_lit, Nat.zero_add, b2.cell (p := ⟨pb, j, none⟩) hpb]
      exact HCELL.out j x hx
  have hone : ∀ v ∈ cs, v.oneCell' = true := fun v hv => by
    rw [HCS.out] at hv
    obtain ⟨x, _, rfl⟩ := List.mem_map.1 hv
    rfl
  have hz0 : cs0.toList.length = 65536 := by rw [HC0.out, Array.length_toList, zeros_size]
  have HZ := Lib.hid hz0
  have HS := Lib.hid hsrc
  clear hz0 hsrc
  have q1 : (Try.prog.info? 5).map (·.size) = some 1 := by rw [hi8]; exact congrArg some hs8
  have q3 : cs.length = Nat.min p.length 64512 := by
    have h1 := HCL.out
    have h2 := HPL.out
    rw [h1]
    exact (Nat.min_eq_left (by omega)).symm
  have q4 : 1024 + cs.length ≤ cs0.size := by
    have h1 := HCL.out
    have h2 := HPL.out
    have h3 := HZ.out
    rw [Array.length_toList] at h3
    omega
  have Q1 := Lib.hid q1
  have Q3 := Lib.hid q3
  have Q4 := Lib.hid q4
  have Q5 := Lib.hid hone
  clear q1 q3 q4 hone
  obtain ⟨L, hL⟩ : ∃ L, L = (splice cs0.toList 1024 cs).toArray := ⟨_, rfl⟩
  have HL := Lib.hid hL
  clear hL
  go_upto_region 3 with (refine wpList_copy_L rfl (.tmp 15) (.tmp 16) 23 23 rfl 5 Try.underlying23 Q1.out (w.heap.size + 1) 1024 64512 64512 ⟨pb, 0, none⟩ p.length pc rfl rfl cs0 5 m2 cs Q3.out HS.out Q4.out Q5.out L HL.out ?_)
  have b3 := below_rowR b2 (g := w.heap.size + 1) L (by omega)
  have k3 := rowB_row_other k2 L (show w.heap.size + 1 ≠ w.heap.size by omega)
  have m3 := rowB_row m2 L
  have g3 := rowB_row_other g2 L (show w.heap.size + 1 ≠ w.heap.size + 1 + 1 by omega)
  have z3 : (w2.setRow (w.heap.size + 1) L).heap.size = w.heap.size + 3 := by rw [size_row]; exact z2
  generalize w2.setRow (w.heap.size + 1) L = w3 at *
  clear b2 k2 m2 g2 z2 gc HS
  have harg : isArg w3 (.slice sa sl scap) l := isArg_below HARG.out b3 (Nat.le_refl _)
  have hreg := registers_any _ l w3 harg hwf
  have HREG := Lib.hid hreg
  clear hreg harg
  go_upto_region 4 with (first
      | (go_at_call 68; refine HREG.out.mono ?_; rintro e w4 ⟨f, rfl, hf, hb⟩; have nz := rowB_new w4 57 (core12 (fun _ => 0) 0 0 false))
      | (refine wpList_buildTo rfl 57 _ rfl _ rfl (core12 f (-1) 0 false) (by kernel_rfl) ?_)
      | (refine wpList_storeR rfl 57 _ _ rfl (w4.heap.size) rfl (core12 f (-1) 0 false) rfl (core12_one _ _ _ _) 57 (core12 (fun _ => 0) 0 0 false) rfl ?_ agK ?_; exact nz))
  have l4 : w.heap.size + 3 ≤ w4.heap.size := by rw [← z3]; exact hb.size
  have k5 := rowB_row_other (rowB_alloc (rowB_below k3 hb (rowB_lt k3)) (.cells (core12 (fun _ => 0) 0 0 false) 57)) (core12 f (-1) 0 false) (show w4.heap.size ≠ w.heap.size by omega)
  have m5 := rowB_row_other (rowB_alloc (rowB_below m3 hb (rowB_lt m3)) (.cells (core12 (fun _ => 0) 0 0 false) 57)) (core12 f (-1) 0 false) (show w4.heap.size ≠ w.heap.size + 1 by omega)
  have g5 := rowB_row_other (rowB_alloc (rowB_below g3 hb (rowB_lt g3)) (.cells (core12 (fun _ => 0) 0 0 false) 57)) (core12 f (-1) 0 false) (show w4.heap.size ≠ w.heap.size + 1 + 1 by omega)
  have n5 := rowB_row nz (core12 f (-1) 0 false)
  have b4 := b3.trans (hb.mono b3.size)
  have b5 := below_rowR (b4.alloc b4.size (.cells (core12 (fun _ => 0) 0 0 false) 57)) (core12 f (-1) 0 false) (show w.heap.size ≤ w4.heap.size by omega)
  change Code.wp _ _ _ _ ((w4.alloc (.cells (core12 (fun _ => 0) 0 0 false) 57)).setRow w4.heap.size (core12 f (-1) 0 false))
  generalize (w4.alloc (.cells (core12 (fun _ => 0) 0 0 false) 57)).setRow w4.heap.size (core12 f (-1) 0 false) = w5 at *
  generalize w4.heap.size = q at *
  clear b3 k3 m3 g3 hb nz HREG
  have c7 := coreB_reg n5 7 (by decide)
  have f7 := rowB_free n5 7
  have k6 := rowB_other k5 ⟨q, 7, none⟩ (.int .i64 1024) (show q ≠ w.heap.size by omega)
  have m6 := rowB_other m5 ⟨q, 7, none⟩ (.int .i64 1024) (show q ≠ w.heap.size + 1 by omega)
  have g6 := rowB_other g5 ⟨q, 7, none⟩ (.int .i64 1024) (show q ≠ w.heap.size + 1 + 1 by omega)
  have n6 := coreB_setReg n5 7 1024 (by decide)
  have b6 := b5.setCell (p := ⟨q, 7, none⟩) (show w.heap.size ≤ q by omega) (.int .i64 1024)
  clear k5 m5 g5 b5
  go_upto_region 5 with (fail)
  generalize w5.setCell ⟨q, 7, none⟩ (.int .i64 1024) = w6 at *
  clear c7 f7 n5
  go_wp2_with (first
      | (refine wpList_loadR rfl 57 _ rfl q rfl 57 (core12 (setR f 7 1024) (-1) 0 false) ?_ agK ?_; with_reducible exact n6)
      | (refine wpList_storeR rfl 57 _ _ rfl (w.heap.size) rfl (core12 (setR f 7 1024) (-1) 0 false) rfl (core12_one _ _ _ _) 57 (core12 (fun _ => 0) 0 0 false) rfl ?_ agK ?_; with_reducible exact k6))
  have k7 := rowB_row k6 (core12 (setR f 7 1024) (-1) 0 false)
  have m7 := rowB_row_other m6 (core12 (setR f 7 1024) (-1) 0 false) (show w.heap.size ≠ w.heap.size + 1 by omega)
  have g7 := rowB_row_other g6 (core12 (setR f 7 1024) (-1) 0 false) (show w.heap.size ≠ w.heap.size + 1 + 1 by omega)
  have b7 := below_rowR b6 (g := w.heap.size) (core12 (setR f 7 1024) (-1) 0 false) (Nat.le_refl _)
  refine bodyPost_ret (resultsRS rfl w.heap.size _ rfl k7 agK _ rfl) rfl ⟨setR f 7 1024, w.heap.size + 1 + 1, w.heap.size + 1, rfl, fits_setW hf 7 1024 (.inl rfl) (by decide) (by decide), setR_same _ _ _, ⟨g7, ⟨L, m7, ?_, fun k hk => ?_⟩, by omega, fun k => ?_⟩, by omega, by omega, b7⟩
  · have h3 := HZ.out
    have h4 := Q4.out
    rw [Array.length_toList] at h3
    rw [HL.out, List.size_toArray, length_splice _ _ _ (by rw [Array.length_toList]; exact h4), Array.length_toList, h3]
  · have h1 := HCL.out
    have h2 := HPL.out
    have h4 := Q4.out
    rw [HL.out, List.getElem?_toArray, splice_at _ _ _ (by rw [Array.length_toList]; exact h4)]
    unfold loadP
    split
    · rename_i hk2
      rw [if_pos hk2.1, HCS.out, List.getElem?_map, List.getElem?_eq_getElem (by omega), List.getD_eq_getElem?_getD, List.getElem?_eq_getElem (by omega)]
      rfl
    · rename_i hk2
      rw [Array.getElem?_toList, HC0.out, zeros_get _ _ _ hk]
      split
      · rw [List.getD_eq_getElem?_getD, List.getElem?_eq_none (by omega)]; rfl
      · rfl
  · unfold loadP
    split
    · rw [List.getD_eq_getElem?_getD]
      cases hx : p[k - 1024]? with
      | none => simp
      | some x => simpa using HBYTE.out x (List.mem_of_getElem? hx)
    · decide
end Go.Proofs.Ytdiajkgebicnnaa
namespace Go.Proofs.Ytdiajkgebicnnaa
open Go.RowKit
set_option maxRecDepth 100000

/-- The blocks of a call of runs. -/
structure rnsW (g b : Nat) (w0 w : World) (q : Nat) (cpu ks : Array Value) (v0 v1 v2 v3 : Value) (m : Nat → Int) : Prop where
  hk : rowB w w0.heap.size 57 ks
  hr : rowB w (w0.heap.size + 1) 57 (core12 (fun _ => 0) 0 0 false)
  hp : rowB w q 70 cpu
  std : stdAt w v0 v1 v2 v3
  mem : flatW g b w m
  off : Off (flatG g b) w0 w
section
variable {g b : Nat} {w0 w w' : World} {q : Nat} {cpu ks : Array Value} {v0 v1 v2 v3 : Value} {m : Nat → Int}
theorem rnsW.ran {m' : Nat → Int} (h : rnsW g b w0 w q cpu ks v0 v1 v2 v3 m) (hG : ∀ k, flatG g b k → k < w0.heap.size) (hq : w0.heap.size ≤ q) (ho : Off (flatG g b) w w') (hi : flatW g b w' m') : rnsW g b w0 w' q cpu ks v0 v1 v2 v3 m' :=
  ⟨rowB_off h.hk ho fun hg => by have := hG _ hg; omega, rowB_off h.hr ho fun hg => by have := hG _ hg; omega, rowB_off h.hp ho fun hg => by have := hG _ hg; omega, h.std.off h.mem ho, hi, h.off.trans ho⟩
theorem rnsW.state (h : rnsW g b w0 w q cpu ks v0 v1 v2 v3 m) (hG : ∀ k, flatG g b k → k < w0.heap.size) (hq : w0.heap.size + 2 ≤ q) (cs : Array Value) : rnsW g b w0 (w.setRow w0.heap.size cs) q cpu cs v0 v1 v2 v3 m :=
  ⟨rowB_row h.hk cs, rowB_row_other h.hr cs (by omega), rowB_row_other h.hp cs (by omega), h.std.safe (safe_row h.hk (by unfold kindK; decide) cs), h.mem.off (fun k hk => by
    simp only [World.setRow, Array.getElem?_modify]
    rw [if_neg (by have := hG k hk; omega)]), h.off.row (.inr (Nat.le_refl _)) cs⟩
end

set_option maxHeartbeats 2000000 in
theorem runs_any (g b : Nat) (k : Ks) (m : Nat → Int) (n : Nat) (hn : n ≤ 1000) (w : World) (hm : flatW g b w m) :
    Calls Try.prog 32 #[.agg k.row, .iface 58 (.pointer (some ⟨g, 0, none⟩)), .int .i64 (n : Int)] w (runsEnd g b w (runsK n k m)) := by
  have hG : ∀ j, flatG g b j → j < w.heap.size := fun j hj => hm.low hj
  obtain ⟨k0, k1, bW, sW⟩ := boxes2 w (.cells k.row 57) (.cells (core12 (fun _ => 0) 0 0 false) 57)
  have k0 : rowB _ _ _ _ := k0
  have k1 : rowB _ _ _ _ := k1
  obtain ⟨R, hR⟩ : ∃ R, R = runsK n k m := ⟨_, rfl⟩
  rw [← hR]
  have HR := Lib.hid hR
  have hm1 := (flat_memC g b).call hm bW
  clear hR hm
  go_enter Try.func32, Try.ntmps32
  go_upto_region 1 with (fail)
  change Code.wp _ _ _ _ ((w.alloc (.cells k.row 57)).alloc (.cells (core12 (fun _ => 0) 0 0 false) 57))
  generalize (w.alloc (.cells k.row 57)).alloc (.cells (core12 (fun _ => 0) 0 0 false) 57) = w1 at *
  go_upto_region 2 with (first
      | (go_at_call 36; refine (cpu_end _).mono ?_; rintro e w2 ⟨a0, n0, c0, a1, n1, c1, a2, n2, c2, a3, n3, c3, rfl, -, hs, hb⟩; have nz := rowB_new w2 70 (cpu5 ⟨#[]⟩ (.slice none 0 0) (.slice none 0 0) (.slice none 0 0) (.slice none 0 0)))
      | (refine wpList_storeR rfl 70 _ _ rfl (w2.heap.size) rfl (cpu5 stdC.name (.slice a0 n0 c0) (.slice a1 n1 c1) (.slice a2 n2 c2) (.slice a3 n3 c3)) rfl (cpu5_one _ _ _ _ _ _ _ _ _ _ _ _) 70 (cpu5 ⟨#[]⟩ (.slice none 0 0) (.slice none 0 0) (.slice none 0 0) (.slice none 0 0)) rfl ?_ agP ?_; exact nz))
  have ba := (Below.refl w2.heap.size w2).alloc (Nat.le_refl _) (.cells (cpu5 ⟨#[]⟩ (.slice none 0 0) (.slice none 0 0) (.slice none 0 0) (.slice none 0 0)) 70)
  have hb2 := hb.trans ((below_rowR ba (g := w2.heap.size) (cpu5 stdC.name (.slice a0 n0 c0) (.slice a1 n1 c1) (.slice a2 n2 c2) (.slice a3 n3 c3)) (Nat.le_refl _)).mono hb.size)
  have lq : w.heap.size + 2 ≤ w2.heap.size := by have := hb.size; omega
  have hp2 := rowB_row nz (cpu5 stdC.name (.slice a0 n0 c0) (.slice a1 n1 c1) (.slice a2 n2 c2) (.slice a3 n3 c3))
  have hs2 := hs.below (below_rowR ba (g := w2.heap.size) (cpu5 stdC.name (.slice a0 n0 c0) (.slice a1 n1 c1) (.slice a2 n2 c2) (.slice a3 n3 c3)) (Nat.le_refl _))
  have hk2 := rowB_below k0 hb2 (rowB_lt k0)
  have hr2 := rowB_below k1 hb2 (rowB_lt k1)
  have hm2 := (flat_memC g b).call hm1 hb2
  have hW : rnsW g b w _ w2.heap.size _ _ _ _ _ _ m := ⟨hk2, hr2, hp2, hs2, hm2, off_below (bW.trans (hb2.mono bW.size))⟩
  change Code.wp _ _ _ _ ((w2.alloc (.cells (cpu5 ⟨#[]⟩ (.slice none 0 0) (.slice none 0 0) (.slice none 0 0) (.slice none 0 0)) 70)).setRow w2.heap.size (cpu5 stdC.name (.slice a0 n0 c0) (.slice a1 n1 c1) (.slice a2 n2 c2) (.slice a3 n3 c3)))
  generalize (w2.alloc (.cells (cpu5 ⟨#[]⟩ (.slice none 0 0) (.slice none 0 0) (.slice none 0 0) (.slice none 0 0)) 70)).setRow w2.heap.size (cpu5 stdC.name (.slice a0 n0 c0) (.slice a1 n1 c1) (.slice a2 n2 c2) (.slice a3 n3 c3)) = w3 at *
  generalize w2.heap.size = q at *
  clear k0 k1 bW sW hm1 hb hs nz ba hb2 hp2 hs2 hk2 hr2 hm2
  go_wp2_with fail
  go_loopw [10] (fun i wr => ∃ (j : Nat) (k' : Ks) (m' : Nat → Int), j ≤ n ∧ i = .int .i64 j ∧ rnsW g b w wr q (cpu5 stdC.name (.slice a0 n0 c0) (.slice a1 n1 c1) (.slice a2 n2 c2) (.slice a3 n3 c3)) k'.row (.slice a0 n0 c0) (.slice a1 n1 c1) (.slice a2 n2 c2) (.slice a3 n3 c3) m' ∧ R = runsK (n - j) k' m') (fun i _ => n - (intOf i).toNat)
  case atStart => exact ⟨0, k, m, Nat.zero_le _, rfl, hW, HR.out⟩
  case round =>
    clear hW
    obtain ⟨j, k', m', hj, rfl, hW, hRR⟩ := hrel
    have HRR := Lib.hid hRR
    clear hRR
    by_cases hlt : j < n
    · have hrun := run_std k' m' wr hW.mem hW.std
      obtain ⟨⟨K2, l2, m2⟩, hK⟩ : ∃ x, x = runK flatF stdC 20 k' m' := ⟨_, rfl⟩
      rw [← hK] at hrun
      have HRUN := Lib.hid hrun
      have HN := Lib.hid (show R = runsK (n - (j + 1)) K2 m2 by
        rw [HRR.out, show n - j = (n - (j + 1)) + 1 by omega, runsK, ← hK])
      clear hrun hK HRR
      go_wp2_with (first
        | (refine wpList_loadR rfl 70 _ rfl q rfl 70 (cpu5 stdC.name (.slice a0 n0 c0) (.slice a1 n1 c1) (.slice a2 n2 c2) (.slice a3 n3 c3)) ?_ agP ?_; with_reducible exact hW.hp)
        | (refine wpList_loadR rfl 57 _ rfl (w.heap.size) rfl 57 k'.row ?_ agK ?_; with_reducible exact hW.hk)
        | (go_at_call 50; refine HRUN.out.mono ?_; rintro e w4 ⟨sa, sn, sc, rfl, -, hi, ho⟩; have hW2 := hW.ran hG (by omega) ho hi)
        | (refine wpList_storeR rfl 57 _ _ rfl (w.heap.size) rfl K2.row rfl (core12_one _ _ _ _) 57 k'.row rfl ?_ agK ?_; with_reducible exact hW2.hk))
      go_roundw
      case measure => simp [intOf]; omega
      case rel => exact ⟨j + 1, K2, m2, by omega, by go_num, hW2.state hG (by omega) _, HN.out⟩
    · obtain rfl : j = n := by omega
      have HS : R = (k', m') := by rw [HRR.out]; simp [runsK]
      have HS := Lib.hid HS
      clear HRR
      go_wp2_with (first
        | (refine wpList_loadR rfl 57 _ rfl (w.heap.size) rfl 57 k'.row ?_ agK ?_; with_reducible exact hW.hk)
        | (refine wpList_storeR rfl 57 _ _ rfl (w.heap.size + 1) rfl k'.row rfl (core12_one _ _ _ _) 57 (core12 (fun _ => 0) 0 0 false) rfl ?_ agK ?_; with_reducible exact hW.hr))
      refine bodyPost_ret (resultsR rfl (w.heap.size + 1) _ rfl (rowB_row hW.hr _) agK) rfl ⟨by rw [HS.out], ?_, hW.off.row (.inr (by omega)) _⟩
      rw [HS.out]
      exact hW.mem.off fun k hk => by
        simp only [World.setRow, Array.getElem?_modify]
        rw [if_neg (by have := hG k hk; omega)]
end Go.Proofs.Ytdiajkgebicnnaa
namespace Go.Proofs.Ytdiajkgebicnnaa
open Go.RowKit
set_option maxRecDepth 100000

def isMem (m : Nat → Int) : Prop := ∀ k, 0 ≤ m k ∧ m k < 256
theorem isMem_wr {m : Nat → Int} (h : isMem m) (a d : Int) : isMem (flatF.wr m a d) := fun k => by
  show 0 ≤ (if k = at16 a then d % 256 else m k) ∧ (if k = at16 a then d % 256 else m k) < 256
  split
  · omega
  · exact h k
theorem lo_mem {m : Nat → Int} (h : isMem m) (k : Nat) : lo (m k) 8 = m k := by
  have := h k
  rw [lo8_eq]; omega

section
variable {f : Nat → Int} {m : Nat → Int}
/-- One cycle: the registers behind it and the memory. -/
theorem oneC_at (hf : fits f) (x : Cy) : oneC flatF x f m = ⟨(stepsF x.steps (readR x (lo (datU flatF (busC x f) m) 8) (if x.bus = 0 then f else placeR x.place f))).1, (stepsF x.steps (readR x (lo (datU flatF (busC x f) m) 8) (if x.bus = 0 then f else placeR x.place f))).2, ⟨(busC x f).d, (busC x f).a, datU flatF (busC x f) m⟩, putU flatF (busC x f) m⟩ := by
  have hP : fits (if x.bus = 0 then f else placeR x.place f) := by
    split
    · exact hf
    · exact placeR_fits _ hf
  unfold oneC
  rw [fit_fits hf, fit_fits hP]
theorem c_readPC (hf : fits f) (hm : isMem m) (r : Nat) {rI : Int} (hI : rI = (r : Int)) (hr : r < 9) (ss : List St) (hc : f 7 < 65535) : oneC flatF ⟨1, 0, rI, ss⟩ f m = ⟨(stepsF ss (setR (setR f 7 (f 7 + 1)) r (m (at16 (f 7))))).1, (stepsF ss (setR (setR f 7 (f 7 + 1)) r (m (at16 (f 7))))).2, ⟨1, f 7, m (at16 (f 7))⟩, m⟩ := by
  subst hI
  have h7 := hf 7
  have hR : isReg (r : Int) = true := by unfold isReg; simp; omega
  have hB : busC ⟨1, 0, r, ss⟩ f = ⟨1, f 7, 0⟩ := by unfold busC placeA dataA; simp
  have hD : datU flatF ⟨1, f 7, 0⟩ m = m (at16 (f 7)) := by
    unfold datU; rw [if_pos rfl]; exact lo_mem hm _
  have e : (f 7 + 1) % 65536 = f 7 + 1 := by omega
  rw [oneC_at hf]
  simp only [hB, hD, lo_mem hm]
  unfold readR placeR
  simp only [hR, and_self, if_true, Int.toNat_natCast, lo16_eq, e]
  rfl
theorem c_readAD (hf : fits f) (hm : isMem m) (r : Nat) {rI : Int} (hI : rI = (r : Int)) (hr : r < 9) (ss : List St) : oneC flatF ⟨1, 2, rI, ss⟩ f m = ⟨(stepsF ss (setR f r (m (at16 (f 8))))).1, (stepsF ss (setR f r (m (at16 (f 8))))).2, ⟨1, f 8, m (at16 (f 8))⟩, m⟩ := by
  subst hI
  have hR : isReg (r : Int) = true := by unfold isReg; simp; omega
  have hB : busC ⟨1, 2, r, ss⟩ f = ⟨1, f 8, 0⟩ := by unfold busC placeA dataA; simp
  have hD : datU flatF ⟨1, f 8, 0⟩ m = m (at16 (f 8)) := by
    unfold datU; rw [if_pos rfl]; exact lo_mem hm _
  rw [oneC_at hf]
  simp only [hB, hD, lo_mem hm]
  unfold readR placeR
  simp only [hR, and_self, if_true, Int.toNat_natCast]
  rfl
theorem c_fixed (hf : fits f) (hm : isMem m) (p : Int) (hp : 6 ≤ p) (r : Nat) {rI : Int} (hI : rI = (r : Int)) (hr : r < 9) (ss : List St) : oneC flatF ⟨1, p, rI, ss⟩ f m = ⟨(stepsF ss (setR f r (m (at16 (fixedAt p))))).1, (stepsF ss (setR f r (m (at16 (fixedAt p))))).2, ⟨1, fixedAt p, m (at16 (fixedAt p))⟩, m⟩ := by
  subst hI
  have hR : isReg (r : Int) = true := by unfold isReg; simp; omega
  have hA : placeA p f = fixedAt p := by
    unfold placeA
    rw [if_neg (by omega), if_neg (by omega), if_neg (by omega), if_neg (by omega), if_neg (by omega), if_neg (by omega)]
  have hPl : placeR p f = f := by
    unfold placeR
    rw [if_neg (by omega), if_neg (by omega), if_neg (by omega)]
  have hB : busC ⟨1, p, r, ss⟩ f = ⟨1, fixedAt p, 0⟩ := by unfold busC dataA; simp [hA]
  have hD : datU flatF ⟨1, fixedAt p, 0⟩ m = m (at16 (fixedAt p)) := by
    unfold datU; rw [if_pos rfl]; exact lo_mem hm _
  rw [oneC_at hf]
  simp only [hB, hD, lo_mem hm, hPl]
  unfold readR
  simp only [hR, and_self, if_true, Int.toNat_natCast]
  rfl
theorem c_pull (hf : fits f) (hm : isMem m) (r : Nat) {rI : Int} (hI : rI = (r : Int)) (hr : r < 9) (ss : List St) : oneC flatF ⟨1, 5, rI, ss⟩ f m = ⟨(stepsF ss (setR (setR f 3 ((f 3 + 1) % 256)) r (m (at16 (256 + (f 3 + 1) % 256))))).1, (stepsF ss (setR (setR f 3 ((f 3 + 1) % 256)) r (m (at16 (256 + (f 3 + 1) % 256))))).2, ⟨1, 256 + (f 3 + 1) % 256, m (at16 (256 + (f 3 + 1) % 256))⟩, m⟩ := by
  subst hI
  have hR : isReg (r : Int) = true := by unfold isReg; simp; omega
  have hB : busC ⟨1, 5, r, ss⟩ f = ⟨1, 256 + (f 3 + 1) % 256, 0⟩ := by unfold busC placeA dataA; simp [lo8_eq]
  have hD : datU flatF ⟨1, 256 + (f 3 + 1) % 256, 0⟩ m = m (at16 (256 + (f 3 + 1) % 256)) := by
    unfold datU; rw [if_pos rfl]; exact lo_mem hm _
  rw [oneC_at hf]
  simp only [hB, hD, lo_mem hm]
  unfold readR placeR
  simp only [hR, and_self, if_true, Int.toNat_natCast, lo8_eq]
  rfl
theorem c_writeAD (hf : fits f) (r : Nat) {rI : Int} (hI : rI = (r : Int)) (hr : r < 9) : oneC flatF ⟨2, 2, rI, []⟩ f m = ⟨f, false, ⟨2, f 8, f r % 256⟩, flatF.wr m (f 8) (f r % 256)⟩ := by
  subst hI
  have hR : isReg (r : Int) = true := by unfold isReg; simp; omega
  have hB : busC ⟨2, 2, r, []⟩ f = ⟨2, f 8, f r % 256⟩ := by unfold busC placeA dataA; simp [hR, lo8_eq]
  rw [oneC_at hf]
  simp only [hB]
  rfl
theorem c_push (hf : fits f) (r : Nat) {rI : Int} (hI : rI = (r : Int)) (hr : r < 9) (ss : List St) : oneC flatF ⟨2, 4, rI, ss⟩ f m = ⟨(stepsF ss (setR f 3 ((f 3 - 1) % 256))).1, (stepsF ss (setR f 3 ((f 3 - 1) % 256))).2, ⟨2, 256 + f 3, f r % 256⟩, flatF.wr m (256 + f 3) (f r % 256)⟩ := by
  subst hI
  have hR : isReg (r : Int) = true := by unfold isReg; simp; omega
  have hB : busC ⟨2, 4, r, ss⟩ f = ⟨2, 256 + f 3, f r % 256⟩ := by unfold busC placeA dataA; simp [hR, lo8_eq]
  rw [oneC_at hf]
  simp only [hB]
  rfl
theorem c_none (hf : fits f) (ss : List St) : oneC flatF ⟨0, 0, 0, ss⟩ f m = ⟨(stepsF ss f).1, (stepsF ss f).2, ⟨0, 0, 0⟩, m⟩ := by
  rw [oneC_at hf]
  rfl
end
end Go.Proofs.Ytdiajkgebicnnaa
namespace Go.Proofs.Ytdiajkgebicnnaa
open Go.RowKit
set_option maxRecDepth 100000

theorem fits_setP {f : Nat → Int} (h : fits f) (k : Nat) (x : Int) (h0 : 0 ≤ x) (h1 : x < 65536) (h2 : k ≠ 7 → k ≠ 8 → x < 256) : fits (setR f k x) := fun j => by
  have := h j
  unfold setR
  by_cases e : j = k
  · rw [if_pos e]
    subst e
    exact ⟨h0, h1, h2⟩
  · rw [if_neg e]; exact this
theorem fitR_setP {f : Nat → Int} (h : fits f) (k : Nat) (x : Int) (h0 : 0 ≤ x) (h1 : x < 65536) (h2 : k ≠ 7 → k ≠ 8 → x < 256) : fitR (setR f k x) = setR f k x := fit_fits (fits_setP h k x h0 h1 h2)
theorem stepsF_cons (d t u n : Int) (l : List St) {f : Nat → Int} (hd : d ≠ 24) : stepsF (⟨d, t, u, n⟩ :: l) f = stepsF l (doF d (reg t) (reg u) n (fitR f)) := by
  rw [stepsF, if_neg (by unfold endB; rw [if_neg hd]; simp)]
theorem stepsF_nil (f : Nat → Int) : stepsF [] f = (f, false) := rfl
/-- The steps, of registers that are as large as they may be. -/
theorem do_nz {f : Nat → Int} (h : fits f) (t u : Nat) (n : Int) : doF 3 t u n (fitR f) = setR f 4 (flg (f 4) (f t)) := by rw [fit_fits h]; rfl
theorem do_move {f : Nat → Int} (h : fits f) (t u : Nat) (n : Int) (h2 : t ≠ 7 → t ≠ 8 → f u < 256) : doF 1 t u n (fitR f) = setR f t (f u) := by
  rw [fit_fits h]
  exact fitR_setP h t (f u) (h u).1 (h u).2.1 h2
theorem do_lit {f : Nat → Int} (h : fits f) (t u : Nat) (n : Int) (h0 : 0 ≤ n) (h1 : n < 65536) (h2 : t ≠ 7 → t ≠ 8 → n < 256) : doF 2 t u n (fitR f) = setR f t n := by
  rw [fit_fits h]
  exact fitR_setP h t n h0 h1 h2
theorem put_lowA {a b : Int} (ha : 0 ≤ a ∧ a < 65536) : putN a 0 8 b = a - a % 256 + b % 256 := by
  have e : (2 : Int) ^ (0 + 8) = 256 := by decide
  have e0 : (2 : Int) ^ 0 = 1 := by decide
  have e2 : lo a 62 = a := lo_of ha.1 (by have : (2 : Int) ^ 62 = 4611686018427387904 := by decide
                                          omega)
  have e3 : lo a 0 = 0 := by unfold lo; rw [e0]; omega
  unfold putN
  rw [e, e0, e2, e3, lo8_eq]
  omega
theorem put_highA {a b : Int} (ha : 0 ≤ a ∧ a < 65536) : putN a 8 8 b = a - a / 256 % 256 * 256 + b % 256 * 256 := by
  have e : (2 : Int) ^ (8 + 8) = 65536 := by decide
  have e0 : (2 : Int) ^ 8 = 256 := by decide
  have e2 : lo a 62 = a := lo_of ha.1 (by have : (2 : Int) ^ 62 = 4611686018427387904 := by decide
                                          omega)
  unfold putN
  rw [e, e0, e2, lo8_eq, lo8_eq]
  omega
theorem put_lowP {a b : Int} (ha : 0 ≤ a ∧ a < 65536) (hb : 0 ≤ b ∧ b < 256) : putN a 0 8 b = a / 256 * 256 + b := by
  rw [put_lowA ha]; omega
theorem put_highP {a b : Int} (ha : 0 ≤ a ∧ a < 65536) (hb : 0 ≤ b ∧ b < 256) : putN a 8 8 b = a % 256 + 256 * b := by
  rw [put_highA ha]; omega
theorem do_low {f : Nat → Int} (h : fits f) (t u : Nat) (n : Int) (_ht : t = 7 ∨ t = 8) (hu : f u < 256) : doF 18 t u n (fitR f) = setR f t (f t / 256 * 256 + f u) := by
  rw [fit_fits h]
  have b := h t
  have c := h u
  have e : doF 18 t u n f = fitR (setR f t (putN (f t) 0 8 (f u))) := rfl
  rw [e, put_lowP ⟨b.1, b.2.1⟩ ⟨c.1, hu⟩]
  exact fitR_setP h t _ (by omega) (by omega) (fun h7 h8 => by omega)
theorem do_high {f : Nat → Int} (h : fits f) (t u : Nat) (n : Int) (_ht : t = 7 ∨ t = 8) (hu : f u < 256) : doF 19 t u n (fitR f) = setR f t (f t % 256 + 256 * f u) := by
  rw [fit_fits h]
  have b := h t
  have c := h u
  have e : doF 19 t u n f = fitR (setR f t (putN (f t) 8 8 (f u))) := rfl
  rw [e, put_highP ⟨b.1, b.2.1⟩ ⟨c.1, hu⟩]
  exact fitR_setP h t _ (by omega) (by omega) (fun h7 h8 => by omega)
theorem do_getLow {f : Nat → Int} (h : fits f) (t u : Nat) (n : Int) : doF 20 t u n (fitR f) = setR f t (f u % 256) := by
  rw [fit_fits h]
  exact fitR_setP h t (f u % 256) (by omega) (by omega) (fun _ _ => by omega)
theorem do_getHigh {f : Nat → Int} (h : fits f) (t u : Nat) (n : Int) : doF 21 t u n (fitR f) = setR f t (f u / 256 % 256) := by
  rw [fit_fits h]
  exact fitR_setP h t (f u / 256 % 256) (by omega) (by omega) (fun _ _ => by omega)
theorem do_index {f : Nat → Int} (h : fits f) (t u : Nat) (n : Int) (ht : t = 7 ∨ t = 8) : doF 22 t u n (fitR f) = setR f t ((f t + f u % 256) % 65536) := by
  rw [fit_fits h]
  have b := h t
  have c := h u
  have e : doF 22 t u n f = fitR (setR f t (wrap64 (f t + lo (f u) 8))) := rfl
  rw [e, IntWalk.wrap64_in _ (by rw [lo8_eq]; omega)]
  funext k
  unfold fitR setR bitsN
  by_cases hk : k = t
  · rw [if_pos hk, if_pos hk, if_pos (by omega)]
    rfl
  · rw [if_neg hk, if_neg hk]
    exact congrFun (fit_fits h) k
theorem do_rel {f : Nat → Int} (h : fits f) (t u : Nat) (n : Int) (ht : t = 7 ∨ t = 8) (hu : f u < 256) : doF 23 t u n (fitR f) = setR f t ((f t + (if 128 ≤ f u then f u - 256 else f u)) % 65536) := by
  rw [fit_fits h]
  have b := h t
  have c := h u
  have e : doF 23 t u n f = fitR (setR f t (wrap64 (f t + sg (f u) 8))) := rfl
  have es : sg (f u) 8 = if 128 ≤ f u then f u - 256 else f u := by
    unfold sg
    rw [lo8_eq]
    have e2 : f u % 256 = f u := Int.emod_eq_of_lt c.1 hu
    have e3 : (2 : Int) ^ 8 = 256 := by decide
    rw [e2, e3]
    split <;> split <;> omega
  rw [e, es]
  have hq : -128 ≤ (if 128 ≤ f u then f u - 256 else f u) ∧ (if 128 ≤ f u then f u - 256 else f u) < 256 := by split <;> omega
  generalize (if 128 ≤ f u then f u - 256 else f u) = q at *
  rw [IntWalk.wrap64_in _ (by omega)]
  funext k
  unfold fitR setR bitsN
  by_cases hk : k = t
  · rw [if_pos hk, if_pos hk, if_pos (by omega)]
    rfl
  · rw [if_neg hk, if_neg hk]
    exact congrFun (fit_fits h) k
theorem do_inc {f : Nat → Int} (h : fits f) (t u : Nat) (n : Int) (ht : t ≠ 7) (ht2 : t ≠ 8) (h4 : t ≠ 4) : doF 10 t u n (fitR f) = setR (setR f 4 (flg (f 4) ((f t + 1) % 256))) t ((f t + 1) % 256) := by
  rw [fit_fits h]
  have e : doF 10 t u n f = fitR (countF t 1 f) := rfl
  have e2 : countF t 1 f = setR (setR f 4 (flg (f 4) ((f t + 1) % 256))) t ((f t + 1) % 256) := by unfold countF; rw [if_neg (by omega)]; rfl
  have bf := flg_bd (f 4) ((f t + 1) % 256) (fits4 h)
  rw [e, e2]
  exact fit_fits (fits_set (fits_set h 4 _ bf.1 bf.2) t _ (by omega) (by omega))
theorem do_dec {f : Nat → Int} (h : fits f) (t u : Nat) (n : Int) (ht : t ≠ 7) (ht2 : t ≠ 8) (h4 : t ≠ 4) : doF 11 t u n (fitR f) = setR (setR f 4 (flg (f 4) ((f t - 1) % 256))) t ((f t - 1) % 256) := by
  rw [fit_fits h]
  have e : doF 11 t u n f = fitR (countF t (-1) f) := rfl
  have e2 : countF t (-1) f = setR (setR f 4 (flg (f 4) ((f t - 1) % 256))) t ((f t - 1) % 256) := by unfold countF; rw [if_neg (by omega)]; rfl
  have bf := flg_bd (f 4) ((f t - 1) % 256) (fits4 h)
  rw [e, e2]
  exact fit_fits (fits_set (fits_set h 4 _ bf.1 bf.2) t _ (by omega) (by omega))
theorem do_set {f : Nat → Int} (h : fits f) (t u : Nat) : doF 16 t u 4 (fitR f) = setR f 4 (bits .or .i64 (f 4) 4) := by
  rw [fit_fits h]
  have b := or_byte (fits4 h) (show (0 : Int) ≤ 4 ∧ (4 : Int) < 256 by decide)
  exact fit_fits (fits_set h 4 _ b.1 b.2)
end Go.Proofs.Ytdiajkgebicnnaa
namespace Go.Proofs.Ytdiajkgebicnnaa
open Go.RowKit
set_option maxRecDepth 100000

theorem exec_cons {M : Type} {F : MemF M} {x : Cy} {r : List Cy} {f f1 : Nat → Int} {m m1 : M} {u : Bu} (h : oneC F x f m = ⟨f1, false, u, m1⟩) : execL F (x :: r) f m = ((execL F r f1 m1).1, u :: (execL F r f1 m1).2.1, (execL F r f1 m1).2.2) := by
  rw [execL, h]
  rfl
theorem exec_nil {M : Type} {F : MemF M} (f : Nat → Int) (m : M) : execL F [] f m = (f, [], m) := rfl
theorem exec_last {M : Type} {F : MemF M} {x : Cy} {r : List Cy} {f f1 : Nat → Int} {m m1 : M} {u : Bu} (h : oneC F x f m = ⟨f1, true, u, m1⟩) : execL F (x :: r) f m = (f1, [u], m1) := by
  rw [execL, h]
  rfl
section
variable {f : Nat → Int} {m : Nat → Int}
theorem ins_at (hf : fits f) (hm : isMem m) (hpc : f 7 < 65000) (x : In) (y : Cy) (r : List Cy) (hx : opIn (m (at16 (f 7))) stdI = some x) (hc : x.cycles = y :: r) (hl : r.length < 19) :
    runK flatF stdC 20 ⟨f, -1, 0, false⟩ m = (⟨(execL flatF (y :: r) (setR f 7 (f 7 + 1)) m).1, -1, 0, false⟩, ⟨1, f 7, m (at16 (f 7))⟩ :: (execL flatF (y :: r) (setR f 7 (f 7 + 1)) m).2.1, (execL flatF (y :: r) (setR f 7 (f 7 + 1)) m).2.2) := by
  have h7 := hf 7
  have e : lo (flatF.rd m (fitR f 7)) 8 = m (at16 (f 7)) := by rw [fit_fits hf]; exact lo_mem hm _
  have e2 : lo (fitR f 7 + 1) 16 = f 7 + 1 := by rw [fit_fits hf, lo16_eq]; omega
  have h := run_idle flatF stdC f 0 m 19 x y r (by rw [e]; exact hx) hc hl
  rw [e, e2, fit_fits hf] at h
  exact h
theorem pc_next (hf : fits f) (hpc : f 7 < 65000) : fits (setR f 7 (f 7 + 1)) := by
  have h7 := hf 7
  exact fits_setP hf 7 _ (by omega) (by omega) (fun h => absurd rfl h)

/-- What is told of an instruction: how the registers are behind it, those in K aside. -/
def insR7 (f f' : Nat → Int) (K : List Nat) : Prop := fits f' ∧ ∀ k, k ∉ K → f' k = f k

theorem i_ldi (hf : fits f) (hm : isMem m) (hpc : f 7 < 65000) (r : Nat) (hr : r < 3) (nm : ByteArray) (o : Int) (ho : m (at16 (f 7)) = o) (hx : opIn o stdI = some ⟨o, nm, 1, loadC r 1⟩) :
    ∃ f' l, runK flatF stdC 20 ⟨f, -1, 0, false⟩ m = (⟨f', -1, 0, false⟩, l, m) ∧ insR7 f f' [7, r, 4, 5] ∧ f' 7 = f 7 + 2 ∧ f' r = m (at16 (f 7 + 1)) ∧ f' 4 = flg (f 4) (m (at16 (f 7 + 1))) := by
  have h7 := hf 7
  obtain ⟨v, hv⟩ : ∃ v, v = m (at16 (f 7 + 1)) := ⟨_, rfl⟩
  have hvb := hm (at16 (f 7 + 1))
  rw [← hv] at hvb ⊢
  have hg := pc_next hf hpc
  have r1 := ins_at hf hm hpc ⟨o, nm, 1, loadC r 1⟩ ⟨1, 0, 5, [⟨1, r, 5, 0⟩, ⟨3, r, 0, 0⟩]⟩ [] (by rw [ho]; exact hx) rfl (by decide)
  have hp1 : fits (setR (setR (setR f 7 (f 7 + 1)) 7 (f 7 + 1 + 1)) 5 v) := fits_setP (fits_setP hg 7 _ (by omega) (by omega) (fun h => absurd rfl h)) 5 v hvb.1 (by omega) (fun _ _ => hvb.2)
  have hv5 : setR (setR (setR f 7 (f 7 + 1)) 7 (f 7 + 1 + 1)) 5 v 5 = v := setR_same _ _ _
  have hp2 : fits (setR (setR (setR (setR f 7 (f 7 + 1)) 7 (f 7 + 1 + 1)) 5 v) r v) := fits_setP hp1 r v hvb.1 (by omega) (fun _ _ => hvb.2)
  have hF := flg_bd (f 4) v (fits4 hf)
  have h4 : setR (setR (setR (setR f 7 (f 7 + 1)) 7 (f 7 + 1 + 1)) 5 v) r v 4 = f 4 := by simp only [setR]; rw [if_neg (by omega)]; simp
  have hs : stepsF [⟨1, r, 5, 0⟩, ⟨3, r, 0, 0⟩] (setR (setR (setR f 7 (f 7 + 1)) 7 (f 7 + 1 + 1)) 5 v) = (setR (setR (setR (setR (setR f 7 (f 7 + 1)) 7 (f 7 + 1 + 1)) 5 v) r v) 4 (flg (f 4) v), false) := by
    rw [stepsF_cons _ _ _ _ _ (by decide), reg_of r (by omega), show reg 5 = 5 from rfl, do_move hp1 r 5 0 (fun _ _ => by rw [hv5]; exact hvb.2), hv5, stepsF_cons _ _ _ _ _ (by decide), reg_of r (by omega), do_nz hp2 r _ 0, setR_same, h4, stepsF_nil]
  have o1 := c_readPC hg hm 5 (rI := 5) rfl (by decide) [⟨1, r, 5, 0⟩, ⟨3, r, 0, 0⟩] (by rw [setR_same]; omega)
  rw [setR_same, ← hv, hs] at o1
  rw [exec_cons o1, exec_nil] at r1
  dsimp only at r1
  refine ⟨_, _, r1, ⟨fits_set hp2 4 _ hF.1 hF.2, fun k hk => ?_⟩, ?_, ?_, ?_⟩
  · simp only [List.mem_cons, List.not_mem_nil, or_false, not_or] at hk
    obtain ⟨k7, kr, k4, k5⟩ := hk
    simp only [setR, if_neg k7, if_neg kr, if_neg k4, if_neg k5]
  · simp [setR, show ¬ ((7 : Nat) = r) by omega]; omega
  · simp [setR, show ¬ (r = 4) by omega]
  · exact setR_same _ _ _
/-- A register is loaded from the page at 0. -/
theorem i_ldz (hf : fits f) (hm : isMem m) (hpc : f 7 < 65000) (r : Nat) (hr : r < 3) (nm : ByteArray) (o : Int) (ho : m (at16 (f 7)) = o) (hx : opIn o stdI = some ⟨o, nm, 2, loadC r 2⟩) :
    ∃ f' l, runK flatF stdC 20 ⟨f, -1, 0, false⟩ m = (⟨f', -1, 0, false⟩, l, m) ∧ insR7 f f' [7, r, 4, 5, 8] ∧ f' 7 = f 7 + 2 ∧ f' r = m (at16 (m (at16 (f 7 + 1)))) ∧ f' 4 = flg (f 4) (m (at16 (m (at16 (f 7 + 1))))) := by
  have h7 := hf 7
  obtain ⟨v, hv⟩ : ∃ v, v = m (at16 (f 7 + 1)) := ⟨_, rfl⟩
  have hvb := hm (at16 (f 7 + 1))
  rw [← hv] at hvb ⊢
  obtain ⟨n, hn⟩ : ∃ n, n = m (at16 v) := ⟨_, rfl⟩
  have hnb := hm (at16 v)
  rw [← hn] at hnb ⊢
  have hg := pc_next hf hpc
  have r1 := ins_at hf hm hpc ⟨o, nm, 2, loadC r 2⟩ ⟨1, 0, 5, zeroS⟩ [⟨1, 2, 5, [⟨1, r, 5, 0⟩, ⟨3, r, 0, 0⟩]⟩] (by rw [ho]; exact hx) rfl (by simp)
  have p1 : fits (setR (setR (setR f 7 (f 7 + 1)) 7 (f 7 + 1 + 1)) 5 v) := fits_setP (fits_setP hg 7 _ (by omega) (by omega) (fun h => absurd rfl h)) 5 v hvb.1 (by omega) (fun _ _ => hvb.2)
  have p2 : fits (setR (setR (setR (setR f 7 (f 7 + 1)) 7 (f 7 + 1 + 1)) 5 v) 8 0) := fits_setP p1 8 0 (by decide) (by decide) (fun _ _ => by decide)
  have p3 : fits (setR (setR (setR (setR (setR f 7 (f 7 + 1)) 7 (f 7 + 1 + 1)) 5 v) 8 0) 8 v) := fits_setP p2 8 v hvb.1 (by omega) (fun _ _ => hvb.2)
  have s1 : stepsF zeroS (setR (setR (setR f 7 (f 7 + 1)) 7 (f 7 + 1 + 1)) 5 v) = (setR (setR (setR (setR (setR f 7 (f 7 + 1)) 7 (f 7 + 1 + 1)) 5 v) 8 0) 8 v, false) := by
    unfold zeroS
    rw [stepsF_cons _ _ _ _ _ (by decide), show reg 8 = 8 from rfl, do_lit p1 8 _ 0 (by decide) (by decide) (fun _ _ => by decide), stepsF_cons _ _ _ _ _ (by decide), show reg 8 = 8 from rfl, show reg 5 = 5 from rfl, do_low p2 8 5 0 (.inr rfl) (by simp [setR]; exact hvb.2), stepsF_nil]
    simp [setR]
  have o1 := c_readPC hg hm 5 (rI := 5) rfl (by decide) zeroS (by rw [setR_same]; omega)
  rw [setR_same, ← hv, s1] at o1
  have p4 := fits_setP p3 5 n hnb.1 (by omega) (fun _ _ => hnb.2)
  have p5 := fits_setP p4 r n hnb.1 (by omega) (fun _ _ => hnb.2)
  have hF := flg_bd (f 4) n (fits4 hf)
  have s2 : stepsF [⟨1, r, 5, 0⟩, ⟨3, r, 0, 0⟩] (setR (setR (setR (setR (setR (setR f 7 (f 7 + 1)) 7 (f 7 + 1 + 1)) 5 v) 8 0) 8 v) 5 n) = (setR (setR (setR (setR (setR (setR (setR (setR f 7 (f 7 + 1)) 7 (f 7 + 1 + 1)) 5 v) 8 0) 8 v) 5 n) r n) 4 (flg (f 4) n), false) := by
    rw [stepsF_cons _ _ _ _ _ (by decide), reg_of r (by omega), show reg 5 = 5 from rfl, do_move p4 r 5 0 (fun _ _ => by rw [setR_same]; exact hnb.2), setR_same, stepsF_cons _ _ _ _ _ (by decide), reg_of r (by omega), do_nz p5 r _ 0, setR_same, stepsF_nil]
    simp [setR, show ¬ ((4 : Nat) = r) by omega]
  have o2 := c_readAD p3 hm 5 (rI := 5) rfl (by decide) [⟨1, r, 5, 0⟩, ⟨3, r, 0, 0⟩]
  rw [setR_same, ← hn, s2] at o2
  rw [exec_cons o1, exec_cons o2, exec_nil] at r1
  dsimp only at r1
  refine ⟨_, _, r1, ⟨fits_set p5 4 _ hF.1 hF.2, fun k hk => ?_⟩, ?_, ?_, ?_⟩
  · simp only [List.mem_cons, List.not_mem_nil, or_false, not_or] at hk
    obtain ⟨k7, kr, k4, k5, k8⟩ := hk
    simp only [setR, if_neg k7, if_neg kr, if_neg k4, if_neg k5, if_neg k8]
  · simp [setR, show ¬ ((7 : Nat) = r) by omega]; omega
  · simp [setR, show ¬ (r = 4) by omega]
  · exact setR_same _ _ _
/-- .. from an address of two bytes. -/
theorem i_lda16 (hf : fits f) (hm : isMem m) (hpc : f 7 < 65000) (r : Nat) (hr : r < 3) (nm : ByteArray) (o : Int) (ho : m (at16 (f 7)) = o) (hx : opIn o stdI = some ⟨o, nm, 4, loadC r 4⟩) :
    ∃ f' l, runK flatF stdC 20 ⟨f, -1, 0, false⟩ m = (⟨f', -1, 0, false⟩, l, m) ∧ insR7 f f' [7, r, 4, 5, 8] ∧ f' 7 = f 7 + 3 ∧ f' r = m (at16 (m (at16 (f 7 + 1)) + 256 * m (at16 (f 7 + 2)))) ∧ f' 4 = flg (f 4) (m (at16 (m (at16 (f 7 + 1)) + 256 * m (at16 (f 7 + 2))))) := by
  have h7 := hf 7
  have h8 := hf 8
  obtain ⟨v, hv⟩ : ∃ v, v = m (at16 (f 7 + 1)) := ⟨_, rfl⟩
  have hvb := hm (at16 (f 7 + 1))
  obtain ⟨u, hu⟩ : ∃ u, u = m (at16 (f 7 + 2)) := ⟨_, rfl⟩
  have hub := hm (at16 (f 7 + 2))
  rw [← hv] at hvb ⊢
  rw [← hu] at hub ⊢
  obtain ⟨n, hn⟩ : ∃ n, n = m (at16 (v + 256 * u)) := ⟨_, rfl⟩
  have hnb := hm (at16 (v + 256 * u))
  rw [← hn] at hnb ⊢
  have hg := pc_next hf hpc
  have r1 := ins_at hf hm hpc ⟨o, nm, 4, loadC r 4⟩ ⟨1, 0, 5, [⟨18, 8, 5, 0⟩]⟩ [⟨1, 0, 5, [⟨19, 8, 5, 0⟩]⟩, ⟨1, 2, 5, [⟨1, r, 5, 0⟩, ⟨3, r, 0, 0⟩]⟩] (by rw [ho]; exact hx) rfl (by simp)
  have p1 : fits (setR (setR (setR f 7 (f 7 + 1)) 7 (f 7 + 1 + 1)) 5 v) := fits_setP (fits_setP hg 7 _ (by omega) (by omega) (fun h => absurd rfl h)) 5 v hvb.1 (by omega) (fun _ _ => hvb.2)
  have s1 : stepsF [⟨18, 8, 5, 0⟩] (setR (setR (setR f 7 (f 7 + 1)) 7 (f 7 + 1 + 1)) 5 v) = (setR (setR (setR (setR f 7 (f 7 + 1)) 7 (f 7 + 1 + 1)) 5 v) 8 (f 8 / 256 * 256 + v), false) := by
    rw [stepsF_cons _ _ _ _ _ (by decide), show reg 8 = 8 from rfl, show reg 5 = 5 from rfl, do_low p1 8 5 0 (.inr rfl) (by simp [setR]; exact hvb.2), stepsF_nil]
    simp [setR]
  have o1 := c_readPC hg hm 5 (rI := 5) rfl (by decide) [⟨18, 8, 5, 0⟩] (by rw [setR_same]; omega)
  rw [setR_same, ← hv, s1] at o1
  have p2 := fits_setP p1 8 (f 8 / 256 * 256 + v) (by omega) (by omega) (fun _ h => absurd rfl h)
  have e7 : setR (setR (setR (setR f 7 (f 7 + 1)) 7 (f 7 + 1 + 1)) 5 v) 8 (f 8 / 256 * 256 + v) 7 = f 7 + 2 := by simp [setR]; omega
  have o2 := c_readPC p2 hm 5 (rI := 5) rfl (by decide) [⟨19, 8, 5, 0⟩] (by rw [e7]; omega)
  rw [e7, ← hu] at o2
  have p3 := fits_setP (fits_setP p2 7 (f 7 + 2 + 1) (by omega) (by omega) (fun h => absurd rfl h)) 5 u hub.1 (by omega) (fun _ _ => hub.2)
  have s2 : stepsF [⟨19, 8, 5, 0⟩] (setR (setR (setR (setR (setR (setR f 7 (f 7 + 1)) 7 (f 7 + 1 + 1)) 5 v) 8 (f 8 / 256 * 256 + v)) 7 (f 7 + 2 + 1)) 5 u) = (setR (setR (setR (setR (setR (setR (setR f 7 (f 7 + 1)) 7 (f 7 + 1 + 1)) 5 v) 8 (f 8 / 256 * 256 + v)) 7 (f 7 + 2 + 1)) 5 u) 8 (v + 256 * u), false) := by
    rw [stepsF_cons _ _ _ _ _ (by decide), show reg 8 = 8 from rfl, show reg 5 = 5 from rfl, do_high p3 8 5 0 (.inr rfl) (by simp [setR]; exact hub.2), stepsF_nil]
    congr 2
    simp [setR]
    omega
  rw [s2] at o2
  have p4 := fits_setP p3 8 (v + 256 * u) (by omega) (by omega) (fun _ h => absurd rfl h)
  have p5 := fits_setP p4 5 n hnb.1 (by omega) (fun _ _ => hnb.2)
  have p6 := fits_setP p5 r n hnb.1 (by omega) (fun _ _ => hnb.2)
  have hF := flg_bd (f 4) n (fits4 hf)
  have s3 : stepsF [⟨1, r, 5, 0⟩, ⟨3, r, 0, 0⟩] (setR (setR (setR (setR (setR (setR (setR (setR f 7 (f 7 + 1)) 7 (f 7 + 1 + 1)) 5 v) 8 (f 8 / 256 * 256 + v)) 7 (f 7 + 2 + 1)) 5 u) 8 (v + 256 * u)) 5 n) = (setR (setR (setR (setR (setR (setR (setR (setR (setR (setR f 7 (f 7 + 1)) 7 (f 7 + 1 + 1)) 5 v) 8 (f 8 / 256 * 256 + v)) 7 (f 7 + 2 + 1)) 5 u) 8 (v + 256 * u)) 5 n) r n) 4 (flg (f 4) n), false) := by
    rw [stepsF_cons _ _ _ _ _ (by decide), reg_of r (by omega), show reg 5 = 5 from rfl, do_move p5 r 5 0 (fun _ _ => by rw [setR_same]; exact hnb.2), setR_same, stepsF_cons _ _ _ _ _ (by decide), reg_of r (by omega), do_nz p6 r _ 0, setR_same, stepsF_nil]
    simp [setR, show ¬ ((4 : Nat) = r) by omega]
  have o3 := c_readAD p4 hm 5 (rI := 5) rfl (by decide) [⟨1, r, 5, 0⟩, ⟨3, r, 0, 0⟩]
  rw [setR_same, ← hn, s3] at o3
  rw [exec_cons o1, exec_cons o2, exec_cons o3, exec_nil] at r1
  dsimp only at r1
  refine ⟨_, _, r1, ⟨fits_set p6 4 _ hF.1 hF.2, fun k hk => ?_⟩, ?_, ?_, ?_⟩
  · simp only [List.mem_cons, List.not_mem_nil, or_false, not_or] at hk
    obtain ⟨k7, kr, k4, k5, k8⟩ := hk
    simp only [setR, if_neg k7, if_neg kr, if_neg k4, if_neg k5, if_neg k8]
  · simp [setR, show ¬ ((7 : Nat) = r) by omega]; omega
  · simp [setR, show ¬ (r = 4) by omega]
  · exact setR_same _ _ _
end
end Go.Proofs.Ytdiajkgebicnnaa
namespace Go.Proofs.Ytdiajkgebicnnaa
open Go.RowKit
set_option maxRecDepth 100000

theorem runsK_cons {n : Nat} {k k2 : Ks} {m m2 : Nat → Int} {l : List Bu} (h : runK flatF stdC 20 k m = (k2, l, m2)) : runsK (n + 1) k m = runsK n k2 m2 := by
  rw [runsK, h]
theorem load_mem {p : List Int} (h : ∀ x ∈ p, 0 ≤ x ∧ x < 256) : isMem (loadP p) := fun k => by
  unfold loadP
  split
  · rw [List.getD_eq_getElem?_getD]
    cases hx : p[k - 1024]? with
    | none => simp
    | some x => simpa using h x (List.mem_of_getElem? hx)
  · decide
theorem at1024 (p : List Int) (j : Nat) (h : j < 60000) : loadP p (at16 (1024 + (j : Int))) = p.getD j 0 := by
  rw [show (1024 : Int) + (j : Int) = ((1024 + j : Nat) : Int) by omega, at16_of _ (by omega), loadP_at]
theorem op_lda1 : opIn 1 stdI = some ⟨1, ⟨#[108, 100, 97]⟩, 1, loadC (0 : Nat) 1⟩ := by kernel_rfl
theorem wholes_pure (f : Nat → Int) (hf : fits f) (h7 : f 7 = 1024) : ∃ f', (runsK 1 ⟨f, -1, 0, false⟩ (loadP [1, 77])).1 = ⟨f', -1, 0, false⟩ ∧ f' 0 = 77 ∧ f' 7 = 1026 := by
  have hm : isMem (loadP [1, 77]) := load_mem (by decide)
  have e0 := at1024 [1, 77] 0 (by decide)
  have e1 := at1024 [1, 77] 1 (by decide)
  obtain ⟨f', l, hr, _, h1, h2, _⟩ := i_ldi hf hm (by omega) 0 (by decide) _ 1 (by rw [h7]; exact e0) op_lda1
  rw [h7] at h1 h2
  exact ⟨f', by rw [runsK_cons hr]; rfl, h2.trans e1, h1⟩
theorem flat_below {g b : Nat} {w0 w w' : World} (h : Below w0.heap.size w0 w) (hg : w0.heap.size ≤ g) (hb : w0.heap.size ≤ b) (ho : Off (flatG g b) w w') : Below w0.heap.size w0 w' :=
  h.trans (ho.below h.size fun k hk => by rcases hk with rfl | rfl <;> assumption)
theorem bytes_lit (w : World) (p : List Int) (cells : Array Value) (hc : cells.toList = p.map (fun x => Value.int .u8 x)) (h : ∀ x ∈ p, 0 ≤ x ∧ x < 256) (n : Nat) (hn : n = p.length) : bytesA (w.alloc (.cells cells 5)) (.slice (some ⟨w.heap.size, 0, none⟩) n n) p := by
  subst hn
  refine ⟨w.heap.size, p.length, rfl, by simp, fun j x hx => ?_, h⟩
  have e : cells[j]? = some (.int .u8 x) := by
    rw [← Array.getElem?_toList, hc, List.getElem?_map, hx]
    rfl
  exact rowB_cell (rowB_new w 5 cells) j e

/-- Behind ready: the state in block q, the memory. -/
structure rdyW (w0 w : World) (g b q : Nat) (ks : Array Value) (m : Nat → Int) : Prop where
  hk : rowB w q 57 ks
  mem : flatW g b w m
  bel : Below w0.heap.size w0 w
  lg : w0.heap.size ≤ g
  lb : w0.heap.size ≤ b
  lq : w0.heap.size ≤ q
  ng : ¬ flatG g b q
section
variable {w0 w w' : World} {g b q : Nat} {ks : Array Value} {m : Nat → Int}
theorem rdyW.ran {m' : Nat → Int} (h : rdyW w0 w g b q ks m) (ho : Off (flatG g b) w w') (hi : flatW g b w' m') : rdyW w0 w' g b q ks m' :=
  ⟨rowB_off h.hk ho h.ng, hi, flat_below h.bel h.lg h.lb ho, h.lg, h.lb, h.lq, h.ng⟩
theorem rdyW.call (h : rdyW w0 w g b q ks m) (hb : Below w.heap.size w w') : rdyW w0 w' g b q ks m := h.ran (off_below hb) ((flat_memC g b).call h.mem hb)
theorem rdyW.state (h : rdyW w0 w g b q ks m) (cs : Array Value) : rdyW w0 (w.setRow q cs) g b q cs m :=
  ⟨rowB_row h.hk cs, h.mem.off (fun k hk => by
    simp only [World.setRow, Array.getElem?_modify]
    rw [if_neg (by rintro rfl; exact h.ng hk)]), below_rowR h.bel cs h.lq, h.lg, h.lb, h.lq, h.ng⟩
theorem rdyW.alloc (h : rdyW w0 w g b q ks m) (o : Obj) : rdyW w0 (w.alloc o) g b q ks m := h.call (below_laid1 w o)
theorem rdyW.far (h : rdyW w0 w g b q ks m) {k : Nat} (hk : k ≠ q) (hg : ¬ flatG g b k) (hl : w0.heap.size ≤ k) (cs : Array Value) : rdyW w0 (w.setRow k cs) g b q ks m :=
  ⟨rowB_row_other h.hk cs hk, h.mem.off (fun j hj => by
    simp only [World.setRow, Array.getElem?_modify]
    rw [if_neg (by rintro rfl; exact hg hj)]), below_rowR h.bel cs hl, h.lg, h.lb, h.lq, h.ng⟩
theorem rdyW.low (h : rdyW w0 w g b q ks m) {k : Nat} (hk : flatG g b k) : k < w.heap.size := h.mem.low hk
end
/-- .. at once. -/
theorem rdyW.start {w0 w1 w2 : World} {p : List Int} {g b : Nat} (hb0 : Below w0.heap.size w0 w1) (hm : flatW g b w2 (loadP p)) (lg : w1.heap.size ≤ g) (lb : w1.heap.size ≤ b) (hb : Below w1.heap.size w1 w2) (ks : Array Value) :
    rdyW w0 ((w2.alloc (.cells (core12 (fun _ => 0) 0 0 false) 57)).setRow w2.heap.size ks) g b w2.heap.size ks (loadP p) := by
  have l1 := hb0.size
  have l2 := hb.size
  have ng : ¬ flatG g b w2.heap.size := fun h => by have := hm.low h; omega
  have b2 := hb0.trans (hb.mono l1)
  refine ⟨rowB_row (rowB_new w2 57 _) ks, ?_, below_rowR (b2.alloc b2.size _) ks b2.size, by omega, by omega, by omega, ng⟩
  refine ((flat_memC g b).call hm (below_laid1 w2 (.cells (core12 (fun _ => 0) 0 0 false) 57))).off fun k hk => ?_
  simp only [World.setRow, Array.getElem?_modify]
  rw [if_neg (by rintro rfl; exact ng hk)]

set_option maxHeartbeats 2000000 in
theorem wholes_keep (w : World) : Calls Try.prog 33 #[] w fun e w' => e = .returned (.bool true) ∧ Below w.heap.size w w' := by
  have b0 := below_laid1 w (.cells #[.int .u8 1, .int .u8 77] 5)
  have hp := bytes_lit w [1, 77] #[.int .u8 1, .int .u8 77] rfl (by decide) 2 rfl
  have hready := fun w1 (h : bytesA w1 (.slice (some ⟨w.heap.size, 0, none⟩) 2 2) [1, 77]) => ready_any (.slice none 0 0) [] _ [1, 77] w1 (.inl ⟨_, _, rfl, rfl⟩) (by simp) h (by decide)
  have HREADY := Lib.hid hready
  have HP := Lib.hid hp
  clear hready hp
  go_enter Try.func33, Try.ntmps33
  go_upto_region 2 with (first
      | (go_at_call 30; refine (HREADY.out _ HP.out).mono ?_; rintro e w2 ⟨f, g, b, rfl, hf, h7, hm, lg, lb, hb⟩; have H7 := Lib.hid h7; clear h7; have nz := rowB_new w2 57 (core12 (fun _ => 0) 0 0 false))
      | (refine wpList_storeR rfl 57 _ _ rfl (w2.heap.size) rfl (core12 f (-1) 0 false) rfl (core12_one _ _ _ _) 57 (core12 (fun _ => 0) 0 0 false) rfl ?_ agK ?_; exact nz))
  have hW := rdyW.start b0 hm lg lb hb (core12 f (-1) 0 false)
  change Code.wp _ _ _ _ ((w2.alloc (.cells (core12 (fun _ => 0) 0 0 false) 57)).setRow w2.heap.size (core12 f (-1) 0 false))
  generalize (w2.alloc (.cells (core12 (fun _ => 0) 0 0 false) 57)).setRow w2.heap.size (core12 f (-1) 0 false) = w3 at *
  generalize w2.heap.size = q at *
  clear b0 hm lg lb hb nz HREADY HP
  obtain ⟨f2, hR, h0, h72⟩ := wholes_pure f hf H7.out
  obtain ⟨⟨K, m2⟩, hK⟩ : ∃ x, x = runsK 1 ⟨f, -1, 0, false⟩ (loadP [1, 77]) := ⟨_, rfl⟩
  rw [← hK] at hR
  simp only at hR
  subst hR
  have hruns := runs_any g b ⟨f, -1, 0, false⟩ (loadP [1, 77]) 1 (by decide) w3 hW.mem
  rw [← hK] at hruns
  have HRUNS := Lib.hid hruns
  clear hruns hK
  go_upto_region 3 with (first
      | (refine wpList_loadR rfl 57 _ rfl q rfl 57 (core12 f (-1) 0 false) ?_ agK ?_; with_reducible exact hW.hk)
      | (go_at_call 32; refine HRUNS.out.mono ?_; rintro e w4 ⟨rfl, hi, ho⟩; have hW2 := hW.ran ho hi)
      | (refine wpList_storeR rfl 57 _ _ rfl q rfl (core12 f2 (-1) 0 false) rfl (core12_one _ _ _ _) 57 (core12 f (-1) 0 false) rfl ?_ agK ?_; with_reducible exact hW2.hk))
  have hW3 := hW2.state (core12 f2 (-1) 0 false)
  generalize w4.setRow q (core12 f2 (-1) 0 false) = w5 at *
  have c0 := coreB_reg hW3.hk 0 (by decide)
  have c7 := coreB_reg hW3.hk 7 (by decide)
  have hbel := hW3.bel
  rw [h0] at c0
  rw [h72] at c7
  clear hW hW2 hW3 h0 h72 HRUNS
  go_wp2_with fail
  go_ret
  exact ⟨rfl, hbel⟩
end Go.Proofs.Ytdiajkgebicnnaa
