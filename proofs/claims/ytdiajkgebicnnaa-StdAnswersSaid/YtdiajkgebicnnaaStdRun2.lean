/- Whole instructions of the museum's processor, one by one: plain facts; the stack, jumps, counts, branches. -/
import Derived.Test.YtdiajkgebicnnaaChecked
import Derived.Test.YtdiajkgebicnnaaWholes
import Derived.Below
import Derived.BigQuiet
import Derived.ChangeMaps5
import Derived.Deep.CutBlock
import Derived.Deep.DeepAppendWide
import Derived.Deep.DeepCutAuto
import Derived.Deep.Draws
import Derived.Deep.MidRow
import Derived.Deep.OwnRows
import Derived.Deep.QuietTactic
import Derived.Deep.RegionHeld3
import Derived.Deep.RegionLaw
import Derived.Deep.RegionWith
import Derived.Deep.Slices
import Derived.Deep.WholeRow
import Derived.Laws.OwnMore
import Derived.Lib.Hide
import Derived.Lib.SmallJoins
import Derived.OpenShut
import Derived.OrdersHeld
import Derived.OwnWalk
import Derived.RowKit3
import Derived.Shelf.Abstract
import Derived.SizedLaws
import Derived.StillTactics
import Derived.StillTail
import Derived.StillTailTactics
import Derived.WalkKit
namespace Go.Proofs.Ytdiajkgebicnnaa
open Go.RowKit
set_option maxRecDepth 100000

section
variable {f : Nat → Int} {m : Nat → Int}
/-- A is stored in the page at 0, at an address to which X is added. -/
theorem i_stzx (hf : fits f) (hm : isMem m) (hpc : f 7 < 65000) (nm : ByteArray) (o : Int) (ho : m (at16 (f 7)) = o) (hx : opIn o stdI = some ⟨o, nm, 3, storeC 0 3⟩) :
    ∃ f' l, runK flatF stdC 20 ⟨f, -1, 0, false⟩ m = (⟨f', -1, 0, false⟩, l, flatF.wr m ((m (at16 (f 7 + 1)) + f 1) % 256) (f 0)) ∧ insR7 f f' [7, 5, 8] ∧ f' 7 = f 7 + 2 := by
  have h7 := hf 7
  have h1 := (hf 1)
  have h0 := (hf 0)
  have h1b := h1.2.2 (by decide) (by decide)
  have h0b := h0.2.2 (by decide) (by decide)
  obtain ⟨v, hv⟩ : ∃ v, v = m (at16 (f 7 + 1)) := ⟨_, rfl⟩
  have hvb := hm (at16 (f 7 + 1))
  rw [← hv] at hvb ⊢
  have hg := pc_next hf hpc
  have r1 := ins_at hf hm hpc ⟨o, nm, 3, storeC 0 3⟩ ⟨1, 0, 5, [⟨2, 8, 0, 0⟩, ⟨18, 8, 5, 0⟩, ⟨22, 8, 1, 0⟩]⟩ [⟨0, 0, 0, [⟨20, 5, 8, 0⟩, ⟨2, 8, 0, 0⟩, ⟨18, 8, 5, 0⟩]⟩, ⟨2, 2, 0, []⟩] (by rw [ho]; exact hx) rfl (by simp)
  have p1 : fits (setR (setR (setR f 7 (f 7 + 1)) 7 (f 7 + 1 + 1)) 5 v) := fits_setP (fits_setP hg 7 _ (by omega) (by omega) (fun h => absurd rfl h)) 5 v hvb.1 (by omega) (fun _ _ => hvb.2)
  have p2 := fits_setP p1 8 0 (by decide) (by decide) (fun _ _ => by decide)
  have p3 := fits_setP p2 8 v hvb.1 (by omega) (fun _ _ => hvb.2)
  have p4 := fits_setP p3 8 (v + f 1) (by omega) (by omega) (fun _ h => absurd rfl h)
  have s1 : stepsF [⟨2, 8, 0, 0⟩, ⟨18, 8, 5, 0⟩, ⟨22, 8, 1, 0⟩] (setR (setR (setR f 7 (f 7 + 1)) 7 (f 7 + 1 + 1)) 5 v) = (setR (setR (setR (setR (setR (setR f 7 (f 7 + 1)) 7 (f 7 + 1 + 1)) 5 v) 8 0) 8 v) 8 (v + f 1), false) := by
    rw [stepsF_cons _ _ _ _ _ (by decide), show reg 8 = 8 from rfl, do_lit p1 8 _ 0 (by decide) (by decide) (fun _ _ => by decide), stepsF_cons _ _ _ _ _ (by decide), show reg 8 = 8 from rfl, show reg 5 = 5 from rfl, do_low p2 8 5 0 (.inr rfl) (by simp [setR]; exact hvb.2)]
    have e : setR (setR (setR (setR (setR f 7 (f 7 + 1)) 7 (f 7 + 1 + 1)) 5 v) 8 0) 8 (setR (setR (setR (setR f 7 (f 7 + 1)) 7 (f 7 + 1 + 1)) 5 v) 8 0 8 / 256 * 256 + setR (setR (setR (setR f 7 (f 7 + 1)) 7 (f 7 + 1 + 1)) 5 v) 8 0 5) = setR (setR (setR (setR (setR f 7 (f 7 + 1)) 7 (f 7 + 1 + 1)) 5 v) 8 0) 8 v := by simp [setR]
    rw [e, stepsF_cons _ _ _ _ _ (by decide), show reg 8 = 8 from rfl, show reg 1 = 1 from rfl, do_index p3 8 1 0 (.inr rfl), stepsF_nil]
    congr 2
    simp [setR]
    omega
  have o1 := c_readPC hg hm 5 (rI := 5) rfl (by decide) [⟨2, 8, 0, 0⟩, ⟨18, 8, 5, 0⟩, ⟨22, 8, 1, 0⟩] (by rw [setR_same]; omega)
  rw [setR_same, ← hv, s1] at o1
  have q1 := fits_setP p4 5 ((v + f 1) % 256) (by omega) (by omega) (fun _ _ => by omega)
  have q2 := fits_setP q1 8 0 (by decide) (by decide) (fun _ _ => by decide)
  have q3 := fits_setP q2 8 ((v + f 1) % 256) (by omega) (by omega) (fun _ h => absurd rfl h)
  have s2 : stepsF [⟨20, 5, 8, 0⟩, ⟨2, 8, 0, 0⟩, ⟨18, 8, 5, 0⟩] (setR (setR (setR (setR (setR (setR f 7 (f 7 + 1)) 7 (f 7 + 1 + 1)) 5 v) 8 0) 8 v) 8 (v + f 1)) =
      (setR (setR (setR (setR (setR (setR (setR (setR (setR f 7 (f 7 + 1)) 7 (f 7 + 1 + 1)) 5 v) 8 0) 8 v) 8 (v + f 1)) 5 ((v + f 1) % 256)) 8 0) 8 ((v + f 1) % 256), false) := by
    rw [stepsF_cons _ _ _ _ _ (by decide), show reg 8 = 8 from rfl, show reg 5 = 5 from rfl, do_getLow p4 5 8 0, setR_same, stepsF_cons _ _ _ _ _ (by decide), show reg 8 = 8 from rfl, do_lit q1 8 _ 0 (by decide) (by decide) (fun _ _ => by decide), stepsF_cons _ _ _ _ _ (by decide), show reg 8 = 8 from rfl, show reg 5 = 5 from rfl, do_low q2 8 5 0 (.inr rfl) (by simp [setR]; omega), stepsF_nil]
    congr 2
    simp [setR]
  have o2 := c_none (m := m) p4 [⟨20, 5, 8, 0⟩, ⟨2, 8, 0, 0⟩, ⟨18, 8, 5, 0⟩]
  rw [s2] at o2
  have o3 := c_writeAD (m := m) q3 0 (rI := 0) rfl (by decide)
  rw [setR_same] at o3
  rw [exec_cons o1, exec_cons o2, exec_cons o3, exec_nil] at r1
  dsimp only at r1
  have e0 : setR (setR (setR (setR (setR (setR (setR (setR (setR f 7 (f 7 + 1)) 7 (f 7 + 1 + 1)) 5 v) 8 0) 8 v) 8 (v + f 1)) 5 ((v + f 1) % 256)) 8 0) 8 ((v + f 1) % 256) 0 % 256 = f 0 := by simp [setR]; omega
  rw [e0] at r1
  refine ⟨_, _, r1, ⟨q3, fun k hk => ?_⟩, ?_⟩
  · simp only [List.mem_cons, List.not_mem_nil, or_false, not_or] at hk
    obtain ⟨k7, k5, k8⟩ := hk
    simp only [setR, if_neg k7, if_neg k5, if_neg k8]
  · simp [setR]; omega
theorem i_pha (hf : fits f) (hm : isMem m) (hpc : f 7 < 65000) (nm : ByteArray) (o : Int) (ho : m (at16 (f 7)) = o) (hx : opIn o stdI = some ⟨o, nm, 0, [⟨2, 4, 0, []⟩]⟩) :
    ∃ f' l, runK flatF stdC 20 ⟨f, -1, 0, false⟩ m = (⟨f', -1, 0, false⟩, l, flatF.wr m (256 + f 3) (f 0)) ∧ insR7 f f' [7, 3] ∧ f' 7 = f 7 + 1 ∧ f' 3 = (f 3 - 1) % 256 := by
  have h7 := hf 7
  have h0 := (hf 0)
  have h0b := h0.2.2 (by decide) (by decide)
  have hg := pc_next hf hpc
  have r1 := ins_at hf hm hpc ⟨o, nm, 0, [⟨2, 4, 0, []⟩]⟩ ⟨2, 4, 0, []⟩ [] (by rw [ho]; exact hx) rfl (by simp)
  have o1 := c_push (m := m) hg 0 (rI := 0) rfl (by decide) []
  rw [stepsF_nil] at o1
  rw [exec_cons o1, exec_nil] at r1
  dsimp only at r1
  have e3 : setR f 7 (f 7 + 1) 3 = f 3 := by simp [setR]
  have e0 : setR f 7 (f 7 + 1) 0 % 256 = f 0 := by simp [setR]; omega
  rw [e3, e0] at r1
  refine ⟨_, _, r1, ⟨fits_set hg 3 _ (by omega) (by omega), fun k hk => ?_⟩, ?_, ?_⟩
  · simp only [List.mem_cons, List.not_mem_nil, or_false, not_or] at hk
    obtain ⟨k7, k3⟩ := hk
    simp only [setR, if_neg k7, if_neg k3]
  · simp [setR]
  · simp [setR]
theorem i_pla (hf : fits f) (hm : isMem m) (hpc : f 7 < 65000) (nm : ByteArray) (o : Int) (ho : m (at16 (f 7)) = o) (hx : opIn o stdI = some ⟨o, nm, 0, [⟨1, 5, 0, [⟨3, 0, 0, 0⟩]⟩]⟩) :
    ∃ f' l, runK flatF stdC 20 ⟨f, -1, 0, false⟩ m = (⟨f', -1, 0, false⟩, l, m) ∧ insR7 f f' [7, 3, 0, 4] ∧ f' 7 = f 7 + 1 ∧ f' 3 = (f 3 + 1) % 256 ∧ f' 0 = m (at16 (256 + (f 3 + 1) % 256)) := by
  have h7 := hf 7
  have hg := pc_next hf hpc
  have r1 := ins_at hf hm hpc ⟨o, nm, 0, [⟨1, 5, 0, [⟨3, 0, 0, 0⟩]⟩]⟩ ⟨1, 5, 0, [⟨3, 0, 0, 0⟩]⟩ [] (by rw [ho]; exact hx) rfl (by simp)
  have o1 := c_pull hg hm 0 (rI := 0) rfl (by decide) [⟨3, 0, 0, 0⟩]
  have e3 : setR f 7 (f 7 + 1) 3 = f 3 := by simp [setR]
  rw [e3] at o1
  obtain ⟨v, hv⟩ : ∃ v, v = m (at16 (256 + (f 3 + 1) % 256)) := ⟨_, rfl⟩
  have hvb := hm (at16 (256 + (f 3 + 1) % 256))
  rw [← hv] at hvb o1 ⊢
  have p1 := fits_set (fits_set hg 3 ((f 3 + 1) % 256) (by omega) (by omega)) 0 v hvb.1 hvb.2
  have hF := flg_bd (f 4) v (fits4 hf)
  have s1 : stepsF [⟨3, 0, 0, 0⟩] (setR (setR (setR f 7 (f 7 + 1)) 3 ((f 3 + 1) % 256)) 0 v) = (setR (setR (setR (setR f 7 (f 7 + 1)) 3 ((f 3 + 1) % 256)) 0 v) 4 (flg (f 4) v), false) := by
    rw [stepsF_cons _ _ _ _ _ (by decide), show reg 0 = 0 from rfl, do_nz p1 0 _ 0, stepsF_nil]
    simp [setR]
  rw [s1] at o1
  rw [exec_cons o1, exec_nil] at r1
  dsimp only at r1
  refine ⟨_, _, r1, ⟨fits_set p1 4 _ hF.1 hF.2, fun k hk => ?_⟩, ?_, ?_, ?_⟩
  · simp only [List.mem_cons, List.not_mem_nil, or_false, not_or] at hk
    obtain ⟨k7, k3, k0, k4⟩ := hk
    simp only [setR, if_neg k7, if_neg k3, if_neg k0, if_neg k4]
  · simp [setR]
  · simp [setR]
  · simp [setR]
theorem i_inc (hf : fits f) (hm : isMem m) (hpc : f 7 < 65000) (r : Nat) (hr : r < 3) (nm : ByteArray) (o : Int) (ho : m (at16 (f 7)) = o) (hx : opIn o stdI = some ⟨o, nm, 0, [⟨0, 0, 0, [⟨10, r, 0, 0⟩]⟩]⟩) :
    ∃ f' l, runK flatF stdC 20 ⟨f, -1, 0, false⟩ m = (⟨f', -1, 0, false⟩, l, m) ∧ insR7 f f' [7, r, 4] ∧ f' 7 = f 7 + 1 ∧ f' r = (f r + 1) % 256 := by
  have h7 := hf 7
  have hg := pc_next hf hpc
  have r1 := ins_at hf hm hpc ⟨o, nm, 0, [⟨0, 0, 0, [⟨10, r, 0, 0⟩]⟩]⟩ ⟨0, 0, 0, [⟨10, r, 0, 0⟩]⟩ [] (by rw [ho]; exact hx) rfl (by simp)
  have o1 := c_none (m := m) hg [⟨10, r, 0, 0⟩]
  have er : setR f 7 (f 7 + 1) r = f r := setR_other _ _ _ _ (by omega)
  have e4 : setR f 7 (f 7 + 1) 4 = f 4 := by simp [setR]
  have hF := flg_bd (f 4) ((f r + 1) % 256) (fits4 hf)
  have s1 : stepsF [⟨10, r, 0, 0⟩] (setR f 7 (f 7 + 1)) = (setR (setR (setR f 7 (f 7 + 1)) 4 (flg (f 4) ((f r + 1) % 256))) r ((f r + 1) % 256), false) := by
    rw [stepsF_cons _ _ _ _ _ (by decide), reg_of r (by omega), do_inc hg r _ 0 (by omega) (by omega) (by omega), er, e4, stepsF_nil]
  rw [s1] at o1
  rw [exec_cons o1, exec_nil] at r1
  dsimp only at r1
  refine ⟨_, _, r1, ⟨fits_set (fits_set hg 4 _ hF.1 hF.2) r _ (by omega) (by omega), fun k hk => ?_⟩, ?_, ?_⟩
  · simp only [List.mem_cons, List.not_mem_nil, or_false, not_or] at hk
    obtain ⟨k7, kr, k4⟩ := hk
    simp only [setR, if_neg k7, if_neg kr, if_neg k4]
  · simp [setR, show ¬ ((7 : Nat) = r) by omega]
  · simp [setR]
theorem i_dec (hf : fits f) (hm : isMem m) (hpc : f 7 < 65000) (r : Nat) (hr : r < 3) (nm : ByteArray) (o : Int) (ho : m (at16 (f 7)) = o) (hx : opIn o stdI = some ⟨o, nm, 0, [⟨0, 0, 0, [⟨11, r, 0, 0⟩]⟩]⟩) :
    ∃ f' l, runK flatF stdC 20 ⟨f, -1, 0, false⟩ m = (⟨f', -1, 0, false⟩, l, m) ∧ insR7 f f' [7, r, 4] ∧ f' 7 = f 7 + 1 ∧ f' r = (f r - 1) % 256 ∧ f' 4 = flg (f 4) ((f r - 1) % 256) := by
  have h7 := hf 7
  have hg := pc_next hf hpc
  have r1 := ins_at hf hm hpc ⟨o, nm, 0, [⟨0, 0, 0, [⟨11, r, 0, 0⟩]⟩]⟩ ⟨0, 0, 0, [⟨11, r, 0, 0⟩]⟩ [] (by rw [ho]; exact hx) rfl (by simp)
  have o1 := c_none (m := m) hg [⟨11, r, 0, 0⟩]
  have er : setR f 7 (f 7 + 1) r = f r := setR_other _ _ _ _ (by omega)
  have e4 : setR f 7 (f 7 + 1) 4 = f 4 := by simp [setR]
  have hF := flg_bd (f 4) ((f r - 1) % 256) (fits4 hf)
  have s1 : stepsF [⟨11, r, 0, 0⟩] (setR f 7 (f 7 + 1)) = (setR (setR (setR f 7 (f 7 + 1)) 4 (flg (f 4) ((f r - 1) % 256))) r ((f r - 1) % 256), false) := by
    rw [stepsF_cons _ _ _ _ _ (by decide), reg_of r (by omega), do_dec hg r _ 0 (by omega) (by omega) (by omega), er, e4, stepsF_nil]
  rw [s1] at o1
  rw [exec_cons o1, exec_nil] at r1
  dsimp only at r1
  refine ⟨_, _, r1, ⟨fits_set (fits_set hg 4 _ hF.1 hF.2) r _ (by omega) (by omega), fun k hk => ?_⟩, ?_, ?_, ?_⟩
  · simp only [List.mem_cons, List.not_mem_nil, or_false, not_or] at hk
    obtain ⟨k7, kr, k4⟩ := hk
    simp only [setR, if_neg k7, if_neg kr, if_neg k4]
  · simp [setR, show ¬ ((7 : Nat) = r) by omega]
  · simp [setR]
  · simp [setR, show ¬ ((4 : Nat) = r) by omega]
theorem i_nop (hf : fits f) (hm : isMem m) (hpc : f 7 < 65000) (nm : ByteArray) (o : Int) (ho : m (at16 (f 7)) = o) (hx : opIn o stdI = some ⟨o, nm, 0, [⟨0, 0, 0, []⟩]⟩) :
    ∃ f' l, runK flatF stdC 20 ⟨f, -1, 0, false⟩ m = (⟨f', -1, 0, false⟩, l, m) ∧ insR7 f f' [7] ∧ f' 7 = f 7 + 1 := by
  have hg := pc_next hf hpc
  have r1 := ins_at hf hm hpc ⟨o, nm, 0, [⟨0, 0, 0, []⟩]⟩ ⟨0, 0, 0, []⟩ [] (by rw [ho]; exact hx) rfl (by simp)
  have o1 := c_none (m := m) hg []
  rw [stepsF_nil] at o1
  rw [exec_cons o1, exec_nil] at r1
  dsimp only at r1
  exact ⟨_, _, r1, ⟨hg, fun k hk => setR_other _ _ _ _ (by simpa using hk)⟩, setR_same _ _ _⟩
/-- A branch that is taken where Z is not set. -/
theorem i_bne (hf : fits f) (hm : isMem m) (hpc : f 7 < 65000) (nm : ByteArray) (o : Int) (ho : m (at16 (f 7)) = o) (hx : opIn o stdI = some ⟨o, nm, 7, [⟨1, 0, 5, [⟨24, 0, 0, 2⟩]⟩, ⟨0, 0, 0, [⟨23, 7, 5, 0⟩]⟩]⟩) :
    ∃ f' l, runK flatF stdC 20 ⟨f, -1, 0, false⟩ m = (⟨f', -1, 0, false⟩, l, m) ∧ insR7 f f' [7, 5] ∧
      f' 7 = if bits .and .i64 (f 4) 2 = 0 then (f 7 + 2 + (if 128 ≤ m (at16 (f 7 + 1)) then m (at16 (f 7 + 1)) - 256 else m (at16 (f 7 + 1)))) % 65536 else f 7 + 2 := by
  have h7 := hf 7
  obtain ⟨v, hv⟩ : ∃ v, v = m (at16 (f 7 + 1)) := ⟨_, rfl⟩
  have hvb := hm (at16 (f 7 + 1))
  rw [← hv] at hvb ⊢
  have hg := pc_next hf hpc
  have r1 := ins_at hf hm hpc ⟨o, nm, 7, [⟨1, 0, 5, [⟨24, 0, 0, 2⟩]⟩, ⟨0, 0, 0, [⟨23, 7, 5, 0⟩]⟩]⟩ ⟨1, 0, 5, [⟨24, 0, 0, 2⟩]⟩ [⟨0, 0, 0, [⟨23, 7, 5, 0⟩]⟩] (by rw [ho]; exact hx) rfl (by simp)
  have p1 : fits (setR (setR (setR f 7 (f 7 + 1)) 7 (f 7 + 1 + 1)) 5 v) := fits_setP (fits_setP hg 7 _ (by omega) (by omega) (fun h => absurd rfl h)) 5 v hvb.1 (by omega) (fun _ _ => hvb.2)
  have o1 := c_readPC hg hm 5 (rI := 5) rfl (by decide) [⟨24, 0, 0, 2⟩] (by rw [setR_same]; omega)
  rw [setR_same, ← hv] at o1
  have e4 : setR (setR (setR f 7 (f 7 + 1)) 7 (f 7 + 1 + 1)) 5 v 4 = f 4 := by simp [setR]
  have hE : endB 24 (reg 0) 2 (fitR (setR (setR (setR f 7 (f 7 + 1)) 7 (f 7 + 1 + 1)) 5 v)) = !(bits .and .i64 (f 4) 2 == 0) := by
    rw [end24, fit_fits p1, e4, show lo 2 8 = 2 from rfl, show (((reg 0 : Nat) : Int) == 1) = false from rfl]
    cases (bits .and .i64 (f 4) 2 == 0) <;> rfl
  by_cases hz : bits .and .i64 (f 4) 2 = 0
  · have s1 : stepsF [⟨24, 0, 0, 2⟩] (setR (setR (setR f 7 (f 7 + 1)) 7 (f 7 + 1 + 1)) 5 v) = (setR (setR (setR f 7 (f 7 + 1)) 7 (f 7 + 1 + 1)) 5 v, false) := by
      rw [stepsF]
      simp only [hE, hz]
      rw [if_neg (by decide), do24, fit_fits p1]
      rfl
    rw [s1] at o1
    have o2 := c_none (m := m) p1 [⟨23, 7, 5, 0⟩]
    have e7 : setR (setR (setR f 7 (f 7 + 1)) 7 (f 7 + 1 + 1)) 5 v 7 = f 7 + 2 := by simp [setR]; omega
    have e5 : setR (setR (setR f 7 (f 7 + 1)) 7 (f 7 + 1 + 1)) 5 v 5 = v := by simp [setR]
    have s2 : stepsF [⟨23, 7, 5, 0⟩] (setR (setR (setR f 7 (f 7 + 1)) 7 (f 7 + 1 + 1)) 5 v) = (setR (setR (setR (setR f 7 (f 7 + 1)) 7 (f 7 + 1 + 1)) 5 v) 7 ((f 7 + 2 + (if 128 ≤ v then v - 256 else v)) % 65536), false) := by
      rw [stepsF_cons _ _ _ _ _ (by decide), show reg 7 = 7 from rfl, show reg 5 = 5 from rfl, do_rel p1 7 5 0 (.inl rfl) (by rw [e5]; exact hvb.2), e7, e5, stepsF_nil]
    rw [s2] at o2
    rw [exec_cons o1, exec_cons o2, exec_nil] at r1
    dsimp only at r1
    refine ⟨_, _, r1, ⟨fits_setP p1 7 _ (by omega) (by omega) (fun h => absurd rfl h), fun k hk => ?_⟩, ?_⟩
    · simp only [List.mem_cons, List.not_mem_nil, or_false, not_or] at hk
      obtain ⟨k7, k5⟩ := hk
      simp only [setR, if_neg k7, if_neg k5]
    · rw [if_pos hz]; exact setR_same _ _ _
  · have s1 : stepsF [⟨24, 0, 0, 2⟩] (setR (setR (setR f 7 (f 7 + 1)) 7 (f 7 + 1 + 1)) 5 v) = (setR (setR (setR f 7 (f 7 + 1)) 7 (f 7 + 1 + 1)) 5 v, true) := by
      rw [stepsF]
      have hz2 : (bits .and .i64 (f 4) 2 == 0) = false := by simpa using hz
      simp only [hE, hz2]
      rw [if_pos (by decide), do24, fit_fits p1]
    rw [s1] at o1
    rw [exec_last o1] at r1
    dsimp only at r1
    refine ⟨_, _, r1, ⟨p1, fun k hk => ?_⟩, ?_⟩
    · simp only [List.mem_cons, List.not_mem_nil, or_false, not_or] at hk
      obtain ⟨k7, k5⟩ := hk
      simp only [setR, if_neg k7, if_neg k5]
    · rw [if_neg hz]; simp [setR]; omega
end
end Go.Proofs.Ytdiajkgebicnnaa
