/- An interrupt and the return from it: plain facts. -/
import Derived.Test.YtdiajkgebicnnaaAluDo
import Derived.Test.YtdiajkgebicnnaaAluPure
import Derived.Test.YtdiajkgebicnnaaChecked
import Derived.Test.YtdiajkgebicnnaaCoreMath
import Derived.Test.YtdiajkgebicnnaaCoreTellA
import Derived.Test.YtdiajkgebicnnaaWholeRunC
import Derived.Test.YtdiajkgebicnnaaWholes
import Derived.Test.YtdiajkgebicnnaaRegMath
import Derived.Test.YtdiajkgebicnnaaStdMath
import Derived.Test.YtdiajkgebicnnaaStdStaM
import Derived.Test.YtdiajkgebicnnaaStdStoM
import Derived.Test.YtdiajkgebicnnaaTabMath
import Derived.Below
import Derived.BigQuiet
import Derived.ChangeMaps5
import Derived.Deep.CutBlock
import Derived.Deep.DeepAppendWide
import Derived.Deep.DeepCutAuto
import Derived.Deep.Draws
import Derived.Deep.MidRow
import Derived.Deep.OwnRows
import Derived.Deep.QuietTactic
import Derived.Deep.RegionHeld3
import Derived.Deep.RegionLaw
import Derived.Deep.RegionWith
import Derived.Deep.Slices
import Derived.Deep.WholeRow
import Derived.Great.BuildSlice
import Derived.Laws.CopyOwn
import Derived.Laws.OwnMore
import Derived.Lib.Hide
import Derived.Lib.SmallJoins
import Derived.OpenShut
import Derived.OrdersHeld
import Derived.OwnWalk
import Derived.RangeFuncBox
import Derived.RowKit3
import Derived.Shelf.Abstract
import Derived.SizedLaws
import Derived.StillTactics
import Derived.StillTail
import Derived.StillTailTactics
import Derived.WalkKit
namespace Go.Proofs.Ytdiajkgebicnnaa
open Go.RowKit
set_option maxRecDepth 100000

/-- Registers that are as f's, five aside. -/
structure regI (f a : Nat → Int) (pc s p t u : Int) : Prop where
  ft : fits a
  pc : a 7 = pc
  s : a 3 = s
  p : a 4 = p
  t : a 5 = t
  u : a 6 = u
  kp : ∀ k, k ∉ [7, 3, 4, 5, 6] → a k = f k
section
variable {f a : Nat → Int} {pc s p t u : Int}
theorem regI.setpc (h : regI f a pc s p t u) (x : Int) (h0 : 0 ≤ x) (h1 : x < 65536) : regI f (setR a 7 x) x s p t u :=
  ⟨fits_setP h.ft 7 x h0 h1 (fun e => absurd rfl e), setR_same _ _ _, h.s, h.p, h.t, h.u, fun k hk => (if_neg (fun e => hk (by simp [e])) : setR a 7 x k = a k).trans (h.kp k hk)⟩
theorem regI.sets (h : regI f a pc s p t u) (x : Int) (h0 : 0 ≤ x) (h1 : x < 256) : regI f (setR a 3 x) pc x p t u :=
  ⟨fits_setP h.ft 3 x h0 (by omega) (fun _ _ => h1), h.pc, setR_same _ _ _, h.p, h.t, h.u, fun k hk => (if_neg (fun e => hk (by simp [e])) : setR a 3 x k = a k).trans (h.kp k hk)⟩
theorem regI.setp (h : regI f a pc s p t u) (x : Int) (h0 : 0 ≤ x) (h1 : x < 256) : regI f (setR a 4 x) pc s x t u :=
  ⟨fits_setP h.ft 4 x h0 (by omega) (fun _ _ => h1), h.pc, h.s, setR_same _ _ _, h.t, h.u, fun k hk => (if_neg (fun e => hk (by simp [e])) : setR a 4 x k = a k).trans (h.kp k hk)⟩
theorem regI.sett (h : regI f a pc s p t u) (x : Int) (h0 : 0 ≤ x) (h1 : x < 256) : regI f (setR a 5 x) pc s p x u :=
  ⟨fits_setP h.ft 5 x h0 (by omega) (fun _ _ => h1), h.pc, h.s, h.p, setR_same _ _ _, h.u, fun k hk => (if_neg (fun e => hk (by simp [e])) : setR a 5 x k = a k).trans (h.kp k hk)⟩
theorem regI.setu (h : regI f a pc s p t u) (x : Int) (h0 : 0 ≤ x) (h1 : x < 256) : regI f (setR a 6 x) pc s p t x :=
  ⟨fits_setP h.ft 6 x h0 (by omega) (fun _ _ => h1), h.pc, h.s, h.p, h.t, setR_same _ _ _, fun k hk => (if_neg (fun e => hk (by simp [e])) : setR a 6 x k = a k).trans (h.kp k hk)⟩
end
/-- Some cycles. -/
def cycN (k : Ks) (m : Nat → Int) : Nat → Ks × (Nat → Int)
  | 0 => (k, m)
  | n + 1 => ((cycK flatF stdC (cycN k m n).1 true (cycN k m n).2).1, (cycK flatF stdC (cycN k m n).1 true (cycN k m n).2).2.2)
def intO (how : Bool) : Int := if how = true then 257 else 256
def intC (how : Bool) : List Cy := if how = true then interruptC 8 9 else interruptC 6 7
theorem int_cycles (how : Bool) : cyclesOf stdC (intO how) = intC how := by cases how <;> rfl
theorem int_op (how : Bool) : intO how ≠ -1 := by cases how <;> decide
theorem int_len (how : Bool) : (intC how).length = 6 := by cases how <;> rfl
theorem cyc_first {f : Nat → Int} (hf : fits f) (how : Bool) (h4 : f 4 / 4 % 2 = 0) (m : Nat → Int) :
    cycK flatF stdC ⟨f, -1, 0, how⟩ true m = cycK flatF stdC ⟨f, intO how, 0, false⟩ true m := by
  have h1 : meets stdC (fitR f) (-1) 0 how true = (intO how, 0, false) := by
    unfold meets intr
    rw [if_pos rfl, fit_fits hf]
    cases how
    · rw [if_neg (by simp), if_pos ⟨rfl, h4, by decide⟩]; rfl
    · rw [if_pos ⟨rfl, by decide⟩]; rfl
  have h2 : meets stdC (fitR f) (intO how) 0 false true = (intO how, 0, false) := by
    unfold meets
    rw [if_neg (int_op how)]
  unfold cycK askK askU
  simp only [h1, h2]
theorem cyc_step {f f1 : Nat → Int} {m m1 : Nat → Int} {u : Bu} (how : Bool) (j : Nat) (x : Cy) (hx : (intC how)[j]? = some x) (o : oneC flatF x f m = ⟨f1, false, u, m1⟩) :
    cycK flatF stdC ⟨f, intO how, j, false⟩ true m = (if j + 1 < 6 then ⟨f1, intO how, (j + 1 : Nat), false⟩ else ⟨f1, -1, 0, false⟩, u, m1) := by
  have hj : j < 6 := by
    have := (List.getElem?_eq_some_iff.1 hx).1
    rwa [int_len] at this
  have hc : curB (cyclesOf stdC (intO how)) (j : Int) = true := by
    rw [int_cycles]; unfold curB; rw [int_len]; simp; omega
  have ha : cycAt (cyclesOf stdC (intO how)) (j : Int) = x := by
    unfold cycAt
    rw [if_pos hc, int_cycles, Int.toNat_natCast, List.getD_eq_getElem?_getD, hx]
    rfl
  have h := cyc_one flatF stdC ⟨f, intO how, j, false⟩ true m (int_op how) hc
  dsimp only at h
  rw [ha, o] at h
  dsimp only at h
  rw [h]
  have hn : curB (cyclesOf stdC (intO how)) ((j : Int) + 1) = decide (j + 1 < 6) := by
    rw [int_cycles]; unfold curB; rw [int_len]
    by_cases e : j + 1 < 6
    · simp [e]; omega
    · simp [e]; omega
  rw [hn]
  by_cases e : j + 1 < 6
  · rw [if_pos e, if_neg (by simp [e])]; rfl
  · rw [if_neg e, if_pos (by simp [e])]
theorem op_rti : opIn 86 stdI = some ⟨86, ⟨#[114, 116, 105]⟩, 0, [⟨1, 5, 4, []⟩, ⟨1, 5, 5, []⟩, ⟨1, 5, 6, [⟨18, 7, 5, 0⟩, ⟨19, 7, 6, 0⟩]⟩]⟩ := by kernel_rfl
/-- The memory of the law: rti at 2048, the vectors' high bytes. -/
def ansM (q : List Int) (k : Nat) : Int := if k = 65535 then 8 else if k = 65531 then 8 else if k = 2048 then 86 else loadP q k
theorem or4_at {x : Int} (h : 0 ≤ x ∧ x < 256) : (bits .and .i64 (bits .or .i64 x 4) 4 == 0) = false := by
  obtain ⟨k, rfl⟩ := byte_fin h
  exact (by decide +kernel : ∀ k : Fin 256, (bits .and .i64 (bits .or .i64 (k.val : Int) 4) 4 == 0) = false) k
theorem jump_at {f a : Nat → Int} {pc s p t u : Int} (h : regI f a pc s p t u) (ht : 0 ≤ t ∧ t < 256) (hu : 0 ≤ u ∧ u < 256) (hpc : 0 ≤ pc ∧ pc < 65536) :
    ∃ b, stepsF [⟨18, 7, 5, 0⟩, ⟨19, 7, 6, 0⟩] a = (b, false) ∧ regI f b (t + 256 * u) s p t u := by
  have h2 := h.setpc (pc / 256 * 256 + t) (by omega) (by omega)
  have h3 := h2.setpc ((pc / 256 * 256 + t) % 256 + 256 * u) (by omega) (by omega)
  rw [show (pc / 256 * 256 + t) % 256 + 256 * u = t + 256 * u by omega] at h3
  refine ⟨_, ?_, h3⟩
  rw [stepsF_cons _ _ _ _ _ (by decide), show reg 7 = 7 from rfl, show reg 5 = 5 from rfl, do_low h.ft 7 5 0 (.inl rfl) (by rw [h.t]; exact ht.2), h.pc, h.t, stepsF_cons _ _ _ _ _ (by decide), show reg 7 = 7 from rfl, show reg 6 = 6 from rfl, do_high h2.ft 7 6 0 (.inl rfl) (by rw [h2.u]; exact hu.2), h2.pc, h2.u, stepsF_nil, show (pc / 256 * 256 + t) % 256 + 256 * u = t + 256 * u by omega]
theorem cycN_next {k : Ks} {m : Nat → Int} {n : Nat} {f f1 : Nat → Int} {m0 m1 : Nat → Int} {u : Bu} (how : Bool) (x : Cy) (hx : (intC how)[n]? = some x) (h : cycN k m n = (⟨f, intO how, n, false⟩, m0)) (o : oneC flatF x f m0 = ⟨f1, false, u, m1⟩) :
    cycN k m (n + 1) = (if n + 1 < 6 then ⟨f1, intO how, (n + 1 : Nat), false⟩ else ⟨f1, -1, 0, false⟩, m1) := by
  show ((cycK flatF stdC (cycN k m n).1 true (cycN k m n).2).1, (cycK flatF stdC (cycN k m n).1 true (cycN k m n).2).2.2) = _
  rw [h]
  dsimp only
  rw [cyc_step how n x hx o]
theorem and_vec (how : Bool) : (intC how)[4]? = some ⟨1, if how = true then 8 else 6, 5, []⟩ ∧ (intC how)[5]? = some ⟨1, if how = true then 9 else 7, 6, [⟨18, 7, 5, 0⟩, ⟨19, 7, 6, 0⟩]⟩ := by cases how <;> exact ⟨rfl, rfl⟩
set_option maxHeartbeats 2000000 in
theorem ans_pure (q : List Int) (hq : ∀ y ∈ q, 0 ≤ y ∧ y < 256) (hql : q.length ≤ 1) (how : Bool) (f : Nat → Int) (hf : fits f) (h7 : f 7 = 1024) (h4 : f 4 / 4 % 2 = 0) :
    ∃ a m, cycN ⟨f, -1, 0, how⟩ (ansM q) 6 = (⟨a, -1, 0, false⟩, m) ∧ a 7 = 2048 ∧ (bits .and .i64 (a 4) 4 == 0) = false ∧ ∃ b, runsK 1 ⟨a, -1, 0, false⟩ m = (⟨b, -1, 0, false⟩, m) ∧ ∀ k, k ≠ 5 → k ≠ 6 → b k = f k := by
  have b3 := hf 3
  have b3' := b3.2.2 (by decide) (by decide)
  have b4 := fits4 hf
  have b5 := hf 5
  have b6 := hf 6
  obtain ⟨s, hs⟩ : ∃ s, f 3 = s := ⟨_, rfl⟩
  obtain ⟨P, hP⟩ : ∃ P, f 4 = P := ⟨_, rfl⟩
  obtain ⟨s1, hs1⟩ : ∃ x, (s - 1) % 256 = x := ⟨_, rfl⟩
  obtain ⟨s2, hs2⟩ : ∃ x, (s1 - 1) % 256 = x := ⟨_, rfl⟩
  obtain ⟨s3, hs3⟩ : ∃ x, (s2 - 1) % 256 = x := ⟨_, rfl⟩
  rw [hs] at b3 b3'
  rw [hP] at b4
  have hO := or_byte b4 (show (0 : Int) ≤ 4 ∧ (4 : Int) < 256 by decide)
  have hA := or4_at b4
  have hm0 : isMem (ansM q) := fun k => by
    unfold ansM
    split
    · decide
    · split
      · decide
      · split
        · decide
        · exact load_mem hq k
  have hl : ∀ a : Int, 2048 < a → a < 65536 → loadP q (at16 a) = 0 := fun a h1 h2 => by
    rw [at16_small _ (by omega)]
    unfold loadP
    rw [if_pos (by omega), List.getD_eq_getElem?_getD, List.getElem?_eq_none (by omega)]
    rfl
  have v30 : ansM q (at16 65530) = 0 := (show ansM q (at16 65530) = loadP q (at16 65530) from rfl).trans (hl _ (by decide) (by decide))
  have v34 : ansM q (at16 65534) = 0 := (show ansM q (at16 65534) = loadP q (at16 65534) from rfl).trans (hl _ (by decide) (by decide))
  have v31 : ansM q (at16 65531) = 8 := rfl
  have v35 : ansM q (at16 65535) = 8 := rfl
  have v48 : ansM q (at16 2048) = 86 := rfl
  generalize ansM q = m0 at *
  clear hl hq hql
  have R0 : regI f f 1024 s P (f 5) (f 6) := ⟨hf, h7, hs, hP, rfl, rfl, fun _ _ => rfl⟩
  -- the first cycle
  have o0 : oneC flatF ⟨0, 0, 0, [⟨21, 5, 7, 0⟩]⟩ f m0 = ⟨setR f 5 4, false, ⟨0, 0, 0⟩, m0⟩ := by
    rw [c_none hf, stepsF_cons _ _ _ _ _ (by decide), show reg 5 = 5 from rfl, show reg 7 = 7 from rfl, do_getHigh hf 5 7 0, h7, stepsF_nil]
    rfl
  have R1 := R0.sett 4 (by decide) (by decide)
  generalize setR f 5 4 = a1 at *
  have e1 : cycN ⟨f, -1, 0, how⟩ m0 1 = (⟨a1, intO how, (1 : Nat), false⟩, m0) := by
    show ((cycK flatF stdC ⟨f, -1, 0, how⟩ true m0).1, (cycK flatF stdC ⟨f, -1, 0, how⟩ true m0).2.2) = _
    rw [cyc_first hf how (by rw [hP]; exact hP ▸ h4) m0]
    have := cyc_step (m := m0) how 0 ⟨0, 0, 0, [⟨21, 5, 7, 0⟩]⟩ (by cases how <;> rfl) o0
    rw [show ((0 : Nat) : Int) = 0 from rfl] at this
    rw [this]
    rfl
  -- the second
  have o1 := c_push (m := m0) R1.ft 5 (rI := 5) rfl (by decide) [⟨20, 5, 7, 0⟩]
  rw [R1.s, R1.t, hs1] at o1
  have R2 := R1.sets s1 (by omega) (by omega)
  generalize setR a1 3 s1 = a2 at *
  rw [stepsF_cons _ _ _ _ _ (by decide), show reg 5 = 5 from rfl, show reg 7 = 7 from rfl, do_getLow R2.ft 5 7 0, R2.pc, stepsF_nil] at o1
  have R3 := R2.sett (1024 % 256) (by decide) (by decide)
  generalize setR a2 5 (1024 % 256) = a3 at *
  have e2 := cycN_next how _ (by cases how <;> rfl) e1 o1
  rw [if_pos (by decide)] at e2
  have hm1 := isMem_wr hm0 (256 + s) (4 % 256)
  have g1 := fun b (h1 : 0 ≤ b ∧ b < 65536) => wr_at m0 (256 + s) b (4 % 256) (by omega) h1
  generalize flatF.wr m0 (256 + s) (4 % 256) = m1 at *
  -- the third
  have o2 := c_push (m := m1) R3.ft 5 (rI := 5) rfl (by decide) []
  rw [R3.s, R3.t, hs2, stepsF_nil] at o2
  have R4 := R3.sets s2 (by omega) (by omega)
  generalize setR a3 3 s2 = a4 at *
  have e3 := cycN_next how _ (by cases how <;> rfl) e2 o2
  rw [if_pos (by decide)] at e3
  have hm2 := isMem_wr hm1 (256 + s1) (1024 % 256 % 256)
  have g2 := fun b (h1 : 0 ≤ b ∧ b < 65536) => wr_at m1 (256 + s1) b (1024 % 256 % 256) (by omega) h1
  generalize flatF.wr m1 (256 + s1) (1024 % 256 % 256) = m2 at *
  -- the fourth
  have o3 := c_push (m := m2) R4.ft 4 (rI := 4) rfl (by decide) [⟨16, 0, 0, 4⟩]
  rw [R4.s, R4.p, hs3] at o3
  have R5 := R4.sets s3 (by omega) (by omega)
  generalize setR a4 3 s3 = a5 at *
  rw [stepsF_cons _ _ _ _ _ (by decide), do_set R5.ft, R5.p, stepsF_nil] at o3
  have R6 := R5.setp (bits .or .i64 P 4) hO.1 hO.2
  generalize setR a5 4 (bits .or .i64 P 4) = a6 at *
  have e4 := cycN_next how _ (by cases how <;> rfl) e3 o3
  rw [if_pos (by decide)] at e4
  have hm3 := isMem_wr hm2 (256 + s2) (P % 256)
  have g3 := fun b (h1 : 0 ≤ b ∧ b < 65536) => wr_at m2 (256 + s2) b (P % 256) (by omega) h1
  generalize flatF.wr m2 (256 + s2) (P % 256) = m3 at *
  have far : ∀ b : Int, 512 ≤ b → b < 65536 → m3 (at16 b) = m0 (at16 b) := fun b h1 h2 => by
    rw [g3 b (by omega), if_neg (by omega), g2 b (by omega), if_neg (by omega), g1 b (by omega), if_neg (by omega)]
  have w2 : m3 (at16 (256 + s2)) = P := by rw [g3 _ (by omega), if_pos rfl]; omega
  have w1 : m3 (at16 (256 + s1)) = 0 := by rw [g3 _ (by omega), if_neg (by omega), g2 _ (by omega), if_pos rfl]; rfl
  have w0 : m3 (at16 (256 + s)) = 4 := by rw [g3 _ (by omega), if_neg (by omega), g2 _ (by omega), if_neg (by omega), g1 _ (by omega), if_pos rfl]; rfl
  rw [← far 65530 (by decide) (by decide)] at v30
  rw [← far 65531 (by decide) (by decide)] at v31
  rw [← far 65534 (by decide) (by decide)] at v34
  rw [← far 65535 (by decide) (by decide)] at v35
  rw [← far 2048 (by decide) (by decide)] at v48
  clear far g1 g2 g3
  -- the vector
  have vl : m3 (at16 (fixedAt (if how = true then 8 else 6))) = 0 := by cases how; exact v34; exact v30
  have vh : m3 (at16 (fixedAt (if how = true then 9 else 7))) = 8 := by cases how; exact v35; exact v31
  have o4 := c_fixed R6.ft hm3 (if how = true then 8 else 6) (by split <;> decide) 5 (rI := 5) rfl (by decide) []
  rw [vl, stepsF_nil] at o4
  have R7 := R6.sett 0 (by decide) (by decide)
  generalize setR a6 5 0 = a7 at *
  have e5 := cycN_next how _ (and_vec how).1 e4 o4
  rw [if_pos (by decide)] at e5
  have o5 := c_fixed R7.ft hm3 (if how = true then 9 else 7) (by split <;> decide) 6 (rI := 6) rfl (by decide) [⟨18, 7, 5, 0⟩, ⟨19, 7, 6, 0⟩]
  rw [vh] at o5
  have R8 := R7.setu 8 (by decide) (by decide)
  generalize setR a7 6 8 = a8 at *
  obtain ⟨a9, q9, R9⟩ := jump_at R8 (by decide) (by decide) (by decide)
  rw [q9] at o5
  have e6 := cycN_next how _ (and_vec how).2 e5 o5
  rw [if_neg (by decide)] at e6
  refine ⟨a9, m3, e6, R9.pc, by rw [R9.p]; exact hA, ?_⟩
  have r1 := ins_at R9.ft hm3 (by rw [R9.pc]; decide) ⟨86, ⟨#[114, 116, 105]⟩, 0, [⟨1, 5, 4, []⟩, ⟨1, 5, 5, []⟩, ⟨1, 5, 6, [⟨18, 7, 5, 0⟩, ⟨19, 7, 6, 0⟩]⟩]⟩ ⟨1, 5, 4, []⟩ [⟨1, 5, 5, []⟩, ⟨1, 5, 6, [⟨18, 7, 5, 0⟩, ⟨19, 7, 6, 0⟩]⟩] (by rw [R9.pc, show (0 : Int) + 256 * 8 = 2048 from rfl, v48]; exact op_rti) rfl (by decide)
  have R10 := R9.setpc (a9 7 + 1) (by rw [R9.pc]; decide) (by rw [R9.pc]; decide)
  generalize setR a9 7 (a9 7 + 1) = c0 at *
  have p1 := c_pull R10.ft hm3 4 (rI := 4) rfl (by decide) []
  rw [R10.s, show (s3 + 1) % 256 = s2 by omega, w2, stepsF_nil] at p1
  have R11 := (R10.sets s2 (by omega) (by omega)).setp P b4.1 b4.2
  generalize setR (setR c0 3 s2) 4 P = c1 at *
  have p2 := c_pull R11.ft hm3 5 (rI := 5) rfl (by decide) []
  rw [R11.s, show (s2 + 1) % 256 = s1 by omega, w1, stepsF_nil] at p2
  have R12 := (R11.sets s1 (by omega) (by omega)).sett 0 (by decide) (by decide)
  generalize setR (setR c1 3 s1) 5 0 = c2 at *
  have p3 := c_pull R12.ft hm3 6 (rI := 6) rfl (by decide) [⟨18, 7, 5, 0⟩, ⟨19, 7, 6, 0⟩]
  rw [R12.s, show (s1 + 1) % 256 = s by omega, w0] at p3
  have R13 := (R12.sets s (by omega) (by omega)).setu 4 (by decide) (by decide)
  generalize setR (setR c2 3 s) 6 4 = c3 at *
  obtain ⟨c4, q4, R14⟩ := jump_at R13 (by decide) (by decide) (by rw [R9.pc]; decide)
  rw [q4] at p3
  rw [exec_cons p1, exec_cons p2, exec_cons p3, exec_nil] at r1
  refine ⟨c4, ?_, fun k k5 k6 => ?_⟩
  · show ((runK flatF stdC 20 ⟨a9, -1, 0, false⟩ m3).1, (runK flatF stdC 20 ⟨a9, -1, 0, false⟩ m3).2.2) = _
    rw [r1]
  · by_cases k7 : k = 7
    · subst k7; rw [R14.pc, h7]; rfl
    · by_cases k3 : k = 3
      · subst k3; rw [R14.s, hs]
      · by_cases k4 : k = 4
        · subst k4; rw [R14.p, hP]
        · exact R14.kp k (by simp [k7, k3, k4, k5, k6])
end Go.Proofs.Ytdiajkgebicnnaa
