/- The stack and a subroutine: the program's run, plain facts. -/
import Derived.Test.YtdiajkgebicnnaaChecked
import Derived.Test.YtdiajkgebicnnaaStdStoM
import Derived.Below
import Derived.BigQuiet
import Derived.ChangeMaps5
import Derived.Deep.CutBlock
import Derived.Deep.DeepAppendWide
import Derived.Deep.DeepCutAuto
import Derived.Deep.Draws
import Derived.Deep.MidRow
import Derived.Deep.OwnRows
import Derived.Deep.QuietTactic
import Derived.Deep.RegionHeld3
import Derived.Deep.RegionLaw
import Derived.Deep.RegionWith
import Derived.Deep.Slices
import Derived.Deep.WholeRow
import Derived.Great.BuildSlice
import Derived.Laws.CopyOwn
import Derived.Laws.OwnMore
import Derived.Lib.Hide
import Derived.Lib.SmallJoins
import Derived.OpenShut
import Derived.OrdersHeld
import Derived.OwnWalk
import Derived.RangeFuncBox
import Derived.RowKit3
import Derived.Shelf.Abstract
import Derived.SizedLaws
import Derived.StillTactics
import Derived.StillTail
import Derived.StillTailTactics
import Derived.WalkKit
namespace Go.Proofs.Ytdiajkgebicnnaa
open Go.RowKit
set_option maxRecDepth 100000

/-- Registers that are as f's, four aside. -/
structure reg4 (f a : Nat → Int) (pc s u t : Int) : Prop where
  ft : fits a
  pc : a 7 = pc
  s : a 3 = s
  u : a 5 = u
  t : a 8 = t
  kp : ∀ k, k ∉ [7, 3, 5, 8] → a k = f k
section
variable {f a : Nat → Int} {pc s u t : Int}
theorem reg4.setpc (h : reg4 f a pc s u t) (x : Int) (h0 : 0 ≤ x) (h1 : x < 65536) : reg4 f (setR a 7 x) x s u t :=
  ⟨fits_setP h.ft 7 x h0 h1 (fun e => absurd rfl e), setR_same _ _ _, h.s, h.u, h.t, fun k hk => (if_neg (fun e => hk (by simp [e])) : setR a 7 x k = a k).trans (h.kp k hk)⟩
theorem reg4.sets (h : reg4 f a pc s u t) (x : Int) (h0 : 0 ≤ x) (h1 : x < 256) : reg4 f (setR a 3 x) pc x u t :=
  ⟨fits_setP h.ft 3 x h0 (by omega) (fun _ _ => h1), h.pc, setR_same _ _ _, h.u, h.t, fun k hk => (if_neg (fun e => hk (by simp [e])) : setR a 3 x k = a k).trans (h.kp k hk)⟩
theorem reg4.setu (h : reg4 f a pc s u t) (x : Int) (h0 : 0 ≤ x) (h1 : x < 256) : reg4 f (setR a 5 x) pc s x t :=
  ⟨fits_setP h.ft 5 x h0 (by omega) (fun _ _ => h1), h.pc, h.s, setR_same _ _ _, h.t, fun k hk => (if_neg (fun e => hk (by simp [e])) : setR a 5 x k = a k).trans (h.kp k hk)⟩
theorem reg4.sett (h : reg4 f a pc s u t) (x : Int) (h0 : 0 ≤ x) (h1 : x < 65536) : reg4 f (setR a 8 x) pc s u x :=
  ⟨fits_setP h.ft 8 x h0 h1 (fun _ e => absurd rfl e), h.pc, h.s, h.u, setR_same _ _ _, fun k hk => (if_neg (fun e => hk (by simp [e])) : setR a 8 x k = a k).trans (h.kp k hk)⟩
end
section
variable {f : Nat → Int} {m : Nat → Int}
theorem i_jsr (hf : fits f) (hm : isMem m) (hpc : f 7 < 65000) (nm : ByteArray) (o : Int) (ho : m (at16 (f 7)) = o) (hx : opIn o stdI = some ⟨o, nm, 4, [⟨1, 0, 5, [⟨18, 8, 5, 0⟩]⟩, ⟨1, 0, 5, [⟨19, 8, 5, 0⟩, ⟨21, 5, 7, 0⟩]⟩, ⟨2, 4, 5, [⟨20, 5, 7, 0⟩]⟩, ⟨2, 4, 5, [⟨1, 7, 8, 0⟩]⟩]⟩) :
    ∃ f' l, runK flatF stdC 20 ⟨f, -1, 0, false⟩ m = (⟨f', -1, 0, false⟩, l, flatF.wr (flatF.wr m (256 + f 3) ((f 7 + 3) / 256 % 256)) (256 + (f 3 - 1) % 256) ((f 7 + 3) % 256)) ∧ insR7 f f' [7, 3, 5, 8] ∧ f' 7 = m (at16 (f 7 + 1)) + 256 * m (at16 (f 7 + 2)) ∧ f' 3 = ((f 3 - 1) % 256 - 1) % 256 := by
  have h7 := hf 7
  have h8 := hf 8
  have h3 := hf 3
  have h3b := h3.2.2 (by decide) (by decide)
  obtain ⟨v, hv⟩ : ∃ v, v = m (at16 (f 7 + 1)) := ⟨_, rfl⟩
  have hvb := hm (at16 (f 7 + 1))
  obtain ⟨u, hu⟩ : ∃ u, u = m (at16 (f 7 + 2)) := ⟨_, rfl⟩
  have hub := hm (at16 (f 7 + 2))
  rw [← hv] at hvb ⊢
  rw [← hu] at hub ⊢
  have r1 := ins_at hf hm hpc ⟨o, nm, 4, [⟨1, 0, 5, [⟨18, 8, 5, 0⟩]⟩, ⟨1, 0, 5, [⟨19, 8, 5, 0⟩, ⟨21, 5, 7, 0⟩]⟩, ⟨2, 4, 5, [⟨20, 5, 7, 0⟩]⟩, ⟨2, 4, 5, [⟨1, 7, 8, 0⟩]⟩]⟩ ⟨1, 0, 5, [⟨18, 8, 5, 0⟩]⟩ [⟨1, 0, 5, [⟨19, 8, 5, 0⟩, ⟨21, 5, 7, 0⟩]⟩, ⟨2, 4, 5, [⟨20, 5, 7, 0⟩]⟩, ⟨2, 4, 5, [⟨1, 7, 8, 0⟩]⟩] (by rw [ho]; exact hx) rfl (by simp)
  have R0 : reg4 f f (f 7) (f 3) (f 5) (f 8) := ⟨hf, rfl, rfl, rfl, rfl, fun _ _ => rfl⟩
  have R1 := R0.setpc (f 7 + 1) (by omega) (by omega)
  generalize setR f 7 (f 7 + 1) = a1 at *
  have o1 := c_readPC R1.ft hm 5 (rI := 5) rfl (by decide) [⟨18, 8, 5, 0⟩] (by rw [R1.pc]; omega)
  rw [R1.pc, ← hv] at o1
  have R2 := (R1.setpc (f 7 + 1 + 1) (by omega) (by omega)).setu v hvb.1 hvb.2
  generalize setR (setR a1 7 (f 7 + 1 + 1)) 5 v = a2 at *
  have s1 : stepsF [⟨18, 8, 5, 0⟩] a2 = (setR a2 8 (f 8 / 256 * 256 + v), false) := by
    rw [stepsF_cons _ _ _ _ _ (by decide), show reg 8 = 8 from rfl, show reg 5 = 5 from rfl, do_low R2.ft 8 5 0 (.inr rfl) (by rw [R2.u]; exact hvb.2), R2.t, R2.u, stepsF_nil]
  rw [s1] at o1
  have R3 := R2.sett (f 8 / 256 * 256 + v) (by omega) (by omega)
  generalize setR a2 8 (f 8 / 256 * 256 + v) = a3 at *
  have o2 := c_readPC R3.ft hm 5 (rI := 5) rfl (by decide) [⟨19, 8, 5, 0⟩, ⟨21, 5, 7, 0⟩] (by rw [R3.pc]; omega)
  rw [R3.pc, show f 7 + 1 + 1 = f 7 + 2 by omega, ← hu, show f 7 + 2 + 1 = f 7 + 3 by omega] at o2
  have R4 := (R3.setpc (f 7 + 3) (by omega) (by omega)).setu u hub.1 hub.2
  generalize setR (setR a3 7 (f 7 + 3)) 5 u = a4 at *
  have R5 := R4.sett ((f 8 / 256 * 256 + v) % 256 + 256 * u) (by omega) (by omega)
  have R6 := R5.setu ((f 7 + 3) / 256 % 256) (by omega) (by omega)
  have s2 : stepsF [⟨19, 8, 5, 0⟩, ⟨21, 5, 7, 0⟩] a4 = (setR (setR a4 8 ((f 8 / 256 * 256 + v) % 256 + 256 * u)) 5 ((f 7 + 3) / 256 % 256), false) := by
    rw [stepsF_cons _ _ _ _ _ (by decide), show reg 8 = 8 from rfl, show reg 5 = 5 from rfl, do_high R4.ft 8 5 0 (.inr rfl) (by rw [R4.u]; exact hub.2), R4.t, R4.u, stepsF_cons _ _ _ _ _ (by decide), show reg 5 = 5 from rfl, show reg 7 = 7 from rfl, do_getHigh R5.ft 5 7 0, R5.pc, stepsF_nil]
  rw [s2] at o2
  generalize setR (setR a4 8 ((f 8 / 256 * 256 + v) % 256 + 256 * u)) 5 ((f 7 + 3) / 256 % 256) = a6 at *
  have o3 := c_push (m := m) R6.ft 5 (rI := 5) rfl (by decide) [⟨20, 5, 7, 0⟩]
  rw [R6.s, R6.u] at o3
  have R7 := R6.sets ((f 3 - 1) % 256) (by omega) (by omega)
  generalize setR a6 3 ((f 3 - 1) % 256) = a7 at *
  have s3 : stepsF [⟨20, 5, 7, 0⟩] a7 = (setR a7 5 ((f 7 + 3) % 256), false) := by
    rw [stepsF_cons _ _ _ _ _ (by decide), show reg 5 = 5 from rfl, show reg 7 = 7 from rfl, do_getLow R7.ft 5 7 0, R7.pc, stepsF_nil]
  rw [s3, show (f 7 + 3) / 256 % 256 % 256 = (f 7 + 3) / 256 % 256 by omega] at o3
  have R8 := R7.setu ((f 7 + 3) % 256) (by omega) (by omega)
  generalize setR a7 5 ((f 7 + 3) % 256) = a8 at *
  have o4 := c_push (m := flatF.wr m (256 + f 3) ((f 7 + 3) / 256 % 256)) R8.ft 5 (rI := 5) rfl (by decide) [⟨1, 7, 8, 0⟩]
  rw [R8.s, R8.u] at o4
  have R9 := R8.sets (((f 3 - 1) % 256 - 1) % 256) (by omega) (by omega)
  generalize setR a8 3 (((f 3 - 1) % 256 - 1) % 256) = a9 at *
  have s4 : stepsF [⟨1, 7, 8, 0⟩] a9 = (setR a9 7 ((f 8 / 256 * 256 + v) % 256 + 256 * u), false) := by
    rw [stepsF_cons _ _ _ _ _ (by decide), show reg 7 = 7 from rfl, show reg 8 = 8 from rfl, do_move R9.ft 7 8 0 (fun h => absurd rfl h), R9.t, stepsF_nil]
  rw [s4, show (f 7 + 3) % 256 % 256 = (f 7 + 3) % 256 by omega] at o4
  have R10 := R9.setpc ((f 8 / 256 * 256 + v) % 256 + 256 * u) (by omega) (by omega)
  rw [exec_cons o1, exec_cons o2, exec_cons o3, exec_cons o4, exec_nil] at r1
  dsimp only at r1
  exact ⟨_, _, r1, ⟨R10.ft, R10.kp⟩, R10.pc.trans (by omega), R10.s⟩
theorem i_rts (hf : fits f) (hm : isMem m) (hpc : f 7 < 65000) (nm : ByteArray) (o : Int) (ho : m (at16 (f 7)) = o) (hx : opIn o stdI = some ⟨o, nm, 0, [⟨1, 5, 5, []⟩, ⟨1, 5, 6, [⟨18, 7, 5, 0⟩, ⟨19, 7, 6, 0⟩]⟩]⟩) :
    ∃ f' l, runK flatF stdC 20 ⟨f, -1, 0, false⟩ m = (⟨f', -1, 0, false⟩, l, m) ∧ insR7 f f' [7, 3, 5, 6] ∧ f' 7 = m (at16 (256 + (f 3 + 1) % 256)) + 256 * m (at16 (256 + ((f 3 + 1) % 256 + 1) % 256)) ∧ f' 3 = ((f 3 + 1) % 256 + 1) % 256 := by
  have h7 := hf 7
  obtain ⟨v, hv⟩ : ∃ v, v = m (at16 (256 + (f 3 + 1) % 256)) := ⟨_, rfl⟩
  have hvb := hm (at16 (256 + (f 3 + 1) % 256))
  obtain ⟨u, hu⟩ : ∃ u, u = m (at16 (256 + ((f 3 + 1) % 256 + 1) % 256)) := ⟨_, rfl⟩
  have hub := hm (at16 (256 + ((f 3 + 1) % 256 + 1) % 256))
  rw [← hv] at hvb ⊢
  rw [← hu] at hub ⊢
  have r1 := ins_at hf hm hpc ⟨o, nm, 0, [⟨1, 5, 5, []⟩, ⟨1, 5, 6, [⟨18, 7, 5, 0⟩, ⟨19, 7, 6, 0⟩]⟩]⟩ ⟨1, 5, 5, []⟩ [⟨1, 5, 6, [⟨18, 7, 5, 0⟩, ⟨19, 7, 6, 0⟩]⟩] (by rw [ho]; exact hx) rfl (by simp)
  have hg := pc_next hf hpc
  have g3 : setR f 7 (f 7 + 1) 3 = f 3 := rfl
  have g7 : setR f 7 (f 7 + 1) 7 = f 7 + 1 := setR_same _ _ _
  have gk : ∀ k, k ∉ [7, 3, 5, 6] → setR f 7 (f 7 + 1) k = f k := fun k hk => if_neg (fun e => hk (by simp [e]))
  generalize setR f 7 (f 7 + 1) = a1 at *
  have o1 := c_pull hg hm 5 (rI := 5) rfl (by decide) []
  rw [g3, ← hv, stepsF_nil] at o1
  have p1 := fits_setP (fits_setP hg 3 ((f 3 + 1) % 256) (by omega) (by omega) (fun _ _ => by omega)) 5 v hvb.1 (by omega) (fun _ _ => hvb.2)
  have e3 : setR (setR a1 3 ((f 3 + 1) % 256)) 5 v 3 = (f 3 + 1) % 256 := rfl
  have e7 : setR (setR a1 3 ((f 3 + 1) % 256)) 5 v 7 = f 7 + 1 := g7
  have e5 : setR (setR a1 3 ((f 3 + 1) % 256)) 5 v 5 = v := rfl
  have ek : ∀ k, k ∉ [7, 3, 5, 6] → setR (setR a1 3 ((f 3 + 1) % 256)) 5 v k = f k := fun k hk => by
    rw [← gk k hk]
    simp only [List.mem_cons, List.not_mem_nil, or_false, not_or] at hk
    obtain ⟨_, k3, k5, _⟩ := hk
    simp only [setR, if_neg k3, if_neg k5]
  generalize setR (setR a1 3 ((f 3 + 1) % 256)) 5 v = a2 at *
  have o2 := c_pull p1 hm 6 (rI := 6) rfl (by decide) [⟨18, 7, 5, 0⟩, ⟨19, 7, 6, 0⟩]
  rw [e3, ← hu] at o2
  have p2 := fits_setP (fits_setP p1 3 (((f 3 + 1) % 256 + 1) % 256) (by omega) (by omega) (fun _ _ => by omega)) 6 u hub.1 (by omega) (fun _ _ => hub.2)
  have d3 : setR (setR a2 3 (((f 3 + 1) % 256 + 1) % 256)) 6 u 3 = ((f 3 + 1) % 256 + 1) % 256 := rfl
  have d7 : setR (setR a2 3 (((f 3 + 1) % 256 + 1) % 256)) 6 u 7 = f 7 + 1 := e7
  have d5 : setR (setR a2 3 (((f 3 + 1) % 256 + 1) % 256)) 6 u 5 = v := e5
  have d6 : setR (setR a2 3 (((f 3 + 1) % 256 + 1) % 256)) 6 u 6 = u := rfl
  have dk : ∀ k, k ∉ [7, 3, 5, 6] → setR (setR a2 3 (((f 3 + 1) % 256 + 1) % 256)) 6 u k = f k := fun k hk => by
    rw [← ek k hk]
    simp only [List.mem_cons, List.not_mem_nil, or_false, not_or] at hk
    obtain ⟨_, k3, _, k6⟩ := hk
    simp only [setR, if_neg k3, if_neg k6]
  generalize setR (setR a2 3 (((f 3 + 1) % 256 + 1) % 256)) 6 u = a3 at *
  have p3 := fits_setP p2 7 ((f 7 + 1) / 256 * 256 + v) (by omega) (by omega) (fun h => absurd rfl h)
  have c7 : setR a3 7 ((f 7 + 1) / 256 * 256 + v) 7 = (f 7 + 1) / 256 * 256 + v := setR_same _ _ _
  have c6 : setR a3 7 ((f 7 + 1) / 256 * 256 + v) 6 = u := d6
  have s2 : stepsF [⟨18, 7, 5, 0⟩, ⟨19, 7, 6, 0⟩] a3 = (setR (setR a3 7 ((f 7 + 1) / 256 * 256 + v)) 7 (((f 7 + 1) / 256 * 256 + v) % 256 + 256 * u), false) := by
    rw [stepsF_cons _ _ _ _ _ (by decide), show reg 7 = 7 from rfl, show reg 5 = 5 from rfl, do_low p2 7 5 0 (.inl rfl) (by rw [d5]; exact hvb.2), d7, d5, stepsF_cons _ _ _ _ _ (by decide), show reg 7 = 7 from rfl, show reg 6 = 6 from rfl, do_high p3 7 6 0 (.inl rfl) (by rw [c6]; exact hub.2), c7, c6, stepsF_nil]
  rw [s2] at o2
  rw [exec_cons o1, exec_cons o2, exec_nil] at r1
  dsimp only at r1
  refine ⟨_, _, r1, ⟨fits_setP p3 7 _ (by omega) (by omega) (fun h => absurd rfl h), fun k hk => ?_⟩, (setR_same _ _ _).trans (by omega), d3⟩
  rw [← dk k hk]
  simp only [List.mem_cons, List.not_mem_nil, or_false, not_or] at hk
  simp only [setR, if_neg hk.1]
end
theorem op_pha : opIn 79 stdI = some ⟨79, ⟨#[112, 104, 97]⟩, 0, [⟨2, 4, 0, []⟩]⟩ := by kernel_rfl
theorem op_pla : opIn 80 stdI = some ⟨80, ⟨#[112, 108, 97]⟩, 0, [⟨1, 5, 0, [⟨3, 0, 0, 0⟩]⟩]⟩ := by kernel_rfl
theorem op_jsr : opIn 84 stdI = some ⟨84, ⟨#[106, 115, 114]⟩, 4, [⟨1, 0, 5, [⟨18, 8, 5, 0⟩]⟩, ⟨1, 0, 5, [⟨19, 8, 5, 0⟩, ⟨21, 5, 7, 0⟩]⟩, ⟨2, 4, 5, [⟨20, 5, 7, 0⟩]⟩, ⟨2, 4, 5, [⟨1, 7, 8, 0⟩]⟩]⟩ := by kernel_rfl
theorem op_rts : opIn 85 stdI = some ⟨85, ⟨#[114, 116, 115]⟩, 0, [⟨1, 5, 5, []⟩, ⟨1, 5, 6, [⟨18, 7, 5, 0⟩, ⟨19, 7, 6, 0⟩]⟩]⟩ := by kernel_rfl
theorem op_inx : opIn 70 stdI = some ⟨70, ⟨#[105, 110, 120]⟩, 0, [⟨0, 0, 0, [⟨10, (1 : Nat), 0, 0⟩]⟩]⟩ := by kernel_rfl
theorem wr_at (m : Nat → Int) (a b d : Int) (ha : 0 ≤ a ∧ a < 65536) (hb : 0 ≤ b ∧ b < 65536) : flatF.wr m a d (at16 b) = if b = a then d % 256 else m (at16 b) := by
  show (if at16 b = at16 a then d % 256 else m (at16 b)) = _
  rw [at16_small _ ha, at16_small _ hb]
  by_cases h : b = a
  · subst h; simp
  · rw [if_neg h, if_neg (by omega)]
/-- The program, and its memory with the subroutine. -/
def stackP (n : Int) : List Int := [1, n, 79, 84, 0, 8, 1, 5, 80]
def stackM (n : Int) (k : Nat) : Int := if k = 2049 then 85 else if k = 2048 then 70 else loadP (stackP n) k
set_option maxHeartbeats 1000000 in
theorem stack_pure (n : Int) (hn : 0 ≤ n ∧ n < 256) (f : Nat → Int) (hf : fits f) (h7 : f 7 = 1024) :
    ∃ f' m', runsK 7 ⟨f, -1, 0, false⟩ (stackM n) = (⟨f', -1, 0, false⟩, m') ∧ f' 0 = n ∧ f' 3 = f 3 ∧ f' 1 = (f 1 + 1) % 256 ∧ f' 7 = 1033 := by
  have hs := (hf 3).1
  have hs2 := (hf 3).2.2 (by decide) (by decide)
  have hb : ∀ y ∈ stackP n, 0 ≤ y ∧ y < 256 := by
    intro y hy
    simp only [stackP, List.mem_cons, List.not_mem_nil, or_false] at hy
    rcases hy with rfl | rfl | rfl | rfl | rfl | rfl | rfl | rfl | rfl <;> omega
  have hm : isMem (stackM n) := fun k => by
    unfold stackM
    split
    · decide
    · split
      · decide
      · exact load_mem hb k
  have at_ : ∀ j : Nat, j < 1000 → stackM n (at16 (1024 + (j : Int))) = (stackP n).getD j 0 := fun j h => by
    have e := at1024 (stackP n) j (by omega)
    rw [← e, at16_small _ (by omega)]
    unfold stackM
    rw [if_neg (by omega), if_neg (by omega)]
  have gi : stackM n (at16 2048) = 70 := by rw [at16_small _ (by decide)]; rfl
  have gr : stackM n (at16 2049) = 85 := by rw [at16_small _ (by decide)]; rfl
  have g0 : stackM n (at16 1024) = 1 := at_ 0 (by decide)
  have g1 : stackM n (at16 1025) = n := at_ 1 (by decide)
  have g2 : stackM n (at16 1026) = 79 := at_ 2 (by decide)
  have g3 : stackM n (at16 1027) = 84 := at_ 3 (by decide)
  have g4 : stackM n (at16 1028) = 0 := at_ 4 (by decide)
  have g5 : stackM n (at16 1029) = 8 := at_ 5 (by decide)
  have g6 : stackM n (at16 1030) = 1 := at_ 6 (by decide)
  have g8 : stackM n (at16 1032) = 80 := at_ 8 (by decide)
  generalize stackM n = m at *
  clear at_ hb
  obtain ⟨f1, l1, r1, ⟨t1, k1⟩, p1, v1, z1⟩ := i_ldi hf hm (by omega) 0 (by decide) _ 1 (by rw [h7]; exact g0) op_lda1
  rw [h7] at p1 v1
  rw [show (1024 : Int) + 1 = 1025 from rfl, g1] at v1
  have s1 : f1 3 = f 3 := k1 3 (by decide)
  have x1 : f1 1 = f 1 := k1 1 (by decide)
  obtain ⟨f2, l2, r2, ⟨t2, k2⟩, p2, s2⟩ := i_pha t1 hm (by omega) _ 79 (by rw [p1]; exact g2) op_pha
  rw [p1] at p2
  rw [s1] at s2 r2
  rw [v1] at r2
  have x2 : f2 1 = f 1 := (k2 1 (by decide)).trans x1
  have hm2 := isMem_wr hm (256 + f 3) n
  obtain ⟨m2, hm2e⟩ : ∃ m2, m2 = flatF.wr m (256 + f 3) n := ⟨_, rfl⟩
  have a2 : ∀ b, 0 ≤ b ∧ b < 65536 → m2 (at16 b) = if b = 256 + f 3 then n % 256 else m (at16 b) := fun b h => by rw [hm2e]; exact wr_at m _ b n (by omega) h
  rw [← hm2e] at hm2 r2
  have w3 : m2 (at16 1027) = 84 := (a2 1027 (by decide)).trans (by rw [if_neg (by omega)]; exact g3)
  have w4 : m2 (at16 1028) = 0 := (a2 1028 (by decide)).trans (by rw [if_neg (by omega)]; exact g4)
  have w5 : m2 (at16 1029) = 8 := (a2 1029 (by decide)).trans (by rw [if_neg (by omega)]; exact g5)
  obtain ⟨f3, l3, r3, ⟨t3, k3⟩, p3, s3⟩ := i_jsr t2 hm2 (by omega) _ 84 (by rw [p2]; exact w3) op_jsr
  rw [p2, show (1024 : Int) + 2 + 1 + 1 = 1028 from rfl, show (1024 : Int) + 2 + 1 + 2 = 1029 from rfl, w4, w5] at p3
  rw [p2, s2, show ((1024 : Int) + 2 + 1 + 3) / 256 % 256 = 4 from rfl, show ((1024 : Int) + 2 + 1 + 3) % 256 = 6 from rfl] at r3
  rw [s2] at s3
  have x3 : f3 1 = f 1 := (k3 1 (by decide)).trans x2
  have hm3 := isMem_wr (isMem_wr hm2 (256 + (f 3 - 1) % 256) 4) (256 + ((f 3 - 1) % 256 - 1) % 256) 6
  obtain ⟨m3, hm3e⟩ : ∃ m3, m3 = flatF.wr (flatF.wr m2 (256 + (f 3 - 1) % 256) 4) (256 + ((f 3 - 1) % 256 - 1) % 256) 6 := ⟨_, rfl⟩
  have a3 : ∀ b, 0 ≤ b ∧ b < 65536 → m3 (at16 b) = if b = 256 + ((f 3 - 1) % 256 - 1) % 256 then 6 else if b = 256 + (f 3 - 1) % 256 then 4 else if b = 256 + f 3 then n % 256 else m (at16 b) := fun b h => by
    rw [hm3e, wr_at _ _ b _ (by omega) h, wr_at _ _ b _ (by omega) h, a2 b h]
    rfl
  rw [← hm3e] at hm3 r3
  clear hm3e hm2e a2
  have hfar : ∀ b, 512 ≤ b → b < 65536 → m3 (at16 b) = m (at16 b) := fun b h1 h2 => (a3 b ⟨by omega, h2⟩).trans (by rw [if_neg (by omega), if_neg (by omega), if_neg (by omega)])
  obtain ⟨f4, l4, r4, ⟨t4, k4⟩, p4, v4⟩ := i_inc t3 hm3 (by omega) 1 (by decide) _ 70 (by rw [p3]; exact (hfar 2048 (by decide) (by decide)).trans gi) op_inx
  rw [p3] at p4
  rw [x3] at v4
  have s4 : f4 3 = (((f 3 - 1) % 256 - 1) % 256 - 1) % 256 ∨ f4 3 = ((f 3 - 1 - 1) % 256 - 1) % 256 := .inl ((k4 3 (by decide)).trans s3)
  have s4' : f4 3 = (f 3 - 3) % 256 := by omega
  obtain ⟨f5, l5, r5, ⟨t5, k5⟩, p5, s5⟩ := i_rts t4 hm3 (by omega) _ 85 (by rw [p4]; exact (hfar 2049 (by decide) (by decide)).trans gr) op_rts
  have b1 : m3 (at16 (256 + (f4 3 + 1) % 256)) = 6 := (a3 _ (by omega)).trans (if_pos (by omega))
  have b2 : m3 (at16 (256 + ((f4 3 + 1) % 256 + 1) % 256)) = 4 := (a3 _ (by omega)).trans (by rw [if_neg (by omega), if_pos (by omega)])
  rw [b1, b2] at p5
  have s5' : f5 3 = (f 3 - 1) % 256 := by omega
  have x5 : f5 1 = (f 1 + 1) % 256 := (k5 1 (by decide)).trans v4
  obtain ⟨f6, l6, r6, ⟨t6, k6⟩, p6, v6, z6⟩ := i_ldi t5 hm3 (by omega) 0 (by decide) _ 1 (by rw [p5]; exact (hfar 1030 (by decide) (by decide)).trans g6) op_lda1
  rw [p5] at p6
  have s6 : f6 3 = (f 3 - 1) % 256 := (k6 3 (by decide)).trans s5'
  have x6 : f6 1 = (f 1 + 1) % 256 := (k6 1 (by decide)).trans x5
  obtain ⟨f7, l7, r7, ⟨t7, k7⟩, p7, s7, v7⟩ := i_pla t6 hm3 (by omega) _ 80 (by rw [p6]; exact (hfar 1032 (by decide) (by decide)).trans g8) op_pla
  rw [p6] at p7
  have b3 : m3 (at16 (256 + (f6 3 + 1) % 256)) = n % 256 := (a3 _ (by omega)).trans (by rw [if_neg (by omega), if_neg (by omega), if_pos (by omega)])
  refine ⟨f7, m3, ?_, (v7.trans b3).trans (by omega), by omega, (k7 1 (by decide)).trans x6, p7⟩
  rw [runsK_cons r1, runsK_cons r2, runsK_cons r3, runsK_cons r4, runsK_cons r5, runsK_cons r6, runsK_cons r7]
  rfl
end Go.Proofs.Ytdiajkgebicnnaa
