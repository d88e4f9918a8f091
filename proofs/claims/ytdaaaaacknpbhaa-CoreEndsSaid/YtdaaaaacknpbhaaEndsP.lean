/- An instruction ends within its cycles: plain facts. -/
import Derived.Test.YtdaaaaacknpbhaaChecked
import Derived.Test.YtdaaaaacknpbhaaTabFind
import Derived.Test.YtdaaaaacknpbhaaWholes
import Derived.Below
import Derived.BigQuiet
import Derived.Carry
import Derived.ChangeMaps5
import Derived.Deep.AppendLies
import Derived.Deep.CutBlock
import Derived.Deep.DeepAppendWide
import Derived.Deep.DeepCutAuto
import Derived.Deep.Draws
import Derived.Deep.MidRow
import Derived.Deep.OwnRows
import Derived.Deep.QuietTactic
import Derived.Deep.RegionHeld
import Derived.Deep.RegionHeld3
import Derived.Deep.RegionLaw
import Derived.Deep.RegionWith
import Derived.Deep.Slices
import Derived.Deep.WholeRow
import Derived.DeepKeys4
import Derived.KernelRfl
import Derived.Laws.OwnMore
import Derived.Laws.StructEq
import Derived.Lib.Bytealg
import Derived.Lib.Hide
import Derived.Lib.IndexAny
import Derived.Lib.SliceRun
import Derived.Lib.SmallJoins
import Derived.Lib.Walk
import Derived.Maps.Keyed
import Derived.Maps.OwnSet
import Derived.Maps.Views
import Derived.OpenShut
import Derived.OrdersHeld
import Derived.OwnWalk
import Derived.RowKit3
import Derived.Shelf.Abstract
import Derived.SizedLaws
import Derived.StillTactics
import Derived.StillTail
import Derived.StillTailTactics
import Derived.WalkKit
namespace Go.Proofs.Ytdaaaaacknpbhaa
open Go.RowKit
set_option maxRecDepth 100000

/-- A processor behind n cycles of an instruction. -/
def endSt (cs : List Cy) (op : Int) (n : Nat) (k : Ks) : Prop :=
  k.n = false ∧ ((k.op = -1 ∧ leastN cs ≤ n ∧ n ≤ cs.length) ∨ (k.op = op ∧ k.pl = n ∧ n < cs.length ∧ leastN cs ≤ n + leastN (cs.drop n)))
theorem end_step {c : Cp} {cs : List Cy} {op : Int} {n : Nat} {k : Ks} (hop : 0 ≤ op ∧ op < 256) (hcs : cyclesOf c op = cs) (h : endSt cs op n k) (hk : k.op ≠ -1) (d : Int) : endSt cs op (n + 1) (tellK c (askK c k true) d) := by
  obtain ⟨kf, ko, kp, kn⟩ := k
  obtain ⟨hn, h⟩ := h
  dsimp only at hn h hk
  subst hn
  rcases h with ⟨h, _⟩ | ⟨rfl, rfl, hlt, hle⟩
  · exact absurd h hk
  have hm : meets c (fitR kf) ko n false true = (ko, (n : Int), false) := by unfold meets; rw [if_neg hk]
  have hA : ∃ g, askK c ⟨kf, ko, n, false⟩ true = ⟨g, ko, n, false⟩ := by
    unfold askK
    simp only [hm]
    exact ⟨_, rfl⟩
  obtain ⟨g, hA⟩ := hA
  have hc : curB cs (n : Int) = true := by unfold curB; simp; omega
  have hx : cycAt cs (n : Int) = cs[n] := by
    unfold cycAt
    rw [if_pos hc]
    simp [hlt]
  have hd : cs.drop n = cs[n] :: cs.drop (n + 1) := List.drop_eq_getElem_cons hlt
  rw [hA]
  unfold tellK
  dsimp only
  rw [if_neg hk, hcs, if_neg (by rw [hc]; decide)]
  rw [hd, leastN] at hle
  split
  · rename_i hov
    refine ⟨rfl, .inl ⟨rfl, ?_, by omega⟩⟩
    unfold overB at hov
    rw [Bool.or_eq_true] at hov
    rcases hov with hs | hs
    · have hI := steps_end _ _ hs
      rw [hx] at hI
      rw [if_pos hI] at hle
      exact hle
    · have hlen : n + 1 = cs.length := by
        unfold curB at hs
        simp at hs
        omega
      rw [hlen]
      exact leastN_le cs
  · rename_i hov
    refine ⟨rfl, .inr ⟨rfl, by simp, ?_, ?_⟩⟩
    · unfold overB at hov
      simp only [Bool.or_eq_true, not_or, Bool.not_eq_true, Bool.not_eq_eq_eq_not, Bool.not_true] at hov
      have := hov.2
      unfold curB at this
      simp at this
      omega
    · split at hle <;> omega
/-- The start: the byte of the instruction has been read. -/
theorem end_start {c : Cp} {op : Int} (hop : 0 ≤ op ∧ op < 256) (f : Nat → Int) (hin : isIn (opIs op) c.instrs = true) : endSt (foundIn (opIs op) c.instrs).cycles op 0 ⟨f, begunV c op, 0, false⟩ ∧ cyclesOf c op = (foundIn (opIs op) c.instrs).cycles := by
  have e : opIn op c.instrs = c.instrs.find? (opIs op) := rfl
  obtain ⟨x, hx⟩ : ∃ x, c.instrs.find? (opIs op) = some x := by
    unfold isIn at hin
    cases h : c.instrs.find? (opIs op) with
    | none => rw [h] at hin; cases hin
    | some x => exact ⟨x, rfl⟩
  have hf : foundIn (opIs op) c.instrs = x := by unfold foundIn; rw [hx]; rfl
  have hcy : cyclesOf c op = x.cycles := by
    unfold cyclesOf
    rw [if_neg (by omega), if_neg (by omega), if_neg (by omega), if_pos (by rw [lo8_eq]; omega)]
    unfold cycIn
    rw [e, hx]
  rw [hf]
  refine ⟨⟨rfl, ?_⟩, hcy⟩
  have hb : begunV c op = if x.cycles.length = 0 then -1 else op := by
    unfold begunV cycIn
    rw [e, hx]
    simp
  dsimp only
  rw [hb]
  by_cases h0 : x.cycles.length = 0
  · rw [if_pos h0]
    have : x.cycles = [] := List.eq_nil_of_length_eq_zero h0
    exact .inl ⟨rfl, by rw [this]; simp [leastN], by omega⟩
  · rw [if_neg h0]
    exact .inr ⟨rfl, rfl, by omega, by simp⟩
theorem end_none {c : Cp} {op : Int} (hin : isIn (opIs op) c.instrs = false) : begunV c op = 259 := by
  have e : opIn op c.instrs = c.instrs.find? (opIs op) := rfl
  unfold isIn at hin
  unfold begunV
  rw [e, if_pos hin]
end Go.Proofs.Ytdaaaaacknpbhaa
