/- WholeRuns: Cycle and Run of package whole give what the reference of chapter 7 gives, for every processor, every state, every interrupt line and every seed of the memory that comes in: no condition. -/
import Derived.Test.YthhihmggaddlmaaRows
import Derived.Test.YthhihmggaddlmaaWholeRuns
import Derived.Test.YthhihmggaddlmaaTabArg
import Derived.Test.YthhihmggaddlmaaCoreOpen
import Derived.WalkKit
import Derived.ProofKit
import Derived.OpenShut
import Derived.ShutString
import Derived.ChangeOld
import Derived.Below
namespace Go.Proofs.Ythhihmggaddlmaa.wholeRuns
open Go.ChangeShapes Go.WideShapes Go.ChangeAt Go.RowKit
set_option linter.unusedVariables false

theorem own : ownKnob Try.prog.godebug = none := by kernel_rfl
theorem laidOut : laidOutB Try.prog = true := by kernel_rfl

theorem walk (c0 : Cp) (ca0 cb0 cc0 cd0 : Value) (f1 : Nat → Int) (op1 pl1 : Int) (n1 : Bool) (a2 : Bool) (a3 : Int) (w : World) (w0 : cpuArg w ca0 cb0 cc0 cd0 c0) (wo1 : (Lit.int .i64 op1).wf = true) (wp1 : (Lit.int .i64 pl1).wf = true) (w3 : (Lit.int .i64 a3).wf = true) :
    Calls Try.prog 3 #[.agg #[.string c0.name, ca0, cb0, cc0, cd0], .agg (core12 f1 op1 pl1 n1), .bool a2, .int .i64 a3] w fun e w' => e = .returned (.bool true) ∧ Below w.heap.size w w' := by
  exact wholeRuns_walk c0 ca0 cb0 cc0 cd0 f1 op1 pl1 n1 a2 a3 w w0

set_option maxRecDepth 100000 in
theorem lifted (os : Os) (started : os.Started) (H : Type) (enc : TypeId × Value → H) :
    ReturnsInHanded {} Try.checked os 3 .any (Rows.wholeRunsSpec.pre6 enc Try.prog Try.f3 Rows.wholeRunsRow.domain false) (Rows.wholeRunsSpec.post enc Try.prog Try.f3 false true false false) := by
  refine returnsInHanded_of_change (C := Try.checked) own started (by kernel_rfl) Try.func3
    (ChangeSpec.witness6 (enc := enc) (C := Try.checked) false ⟨#[], #[.agg #[.string ByteArray.empty, .slice none 0 0, .slice none 0 0, .slice none 0 0, .slice none 0 0], .agg #[.int .i64 0, .int .i64 0, .int .i64 0, .int .i64 0, .int .i64 0, .int .i64 0, .int .i64 0, .int .i64 0, .int .i64 0, .int .i64 0, .int .i64 0, .bool false], .bool false, .int .i64 0], []⟩ 8 (by kernel_rfl) (by kernel_rfl) (by kernel_rfl) (by kernel_rfl)) ?_
  intro W base args ds gs before hval0 hW hcnd _
  have hval : ∀ (j : Nat) t v, Try.f3.params[j]? = some t → args[j]? = some v → Value.okWide Try.prog W .any base t v := hval0
  have hW' := hW
  obtain ⟨p, q, hA0, hV, rfl, hfz, hnd⟩ := hW
  have hA : DataW.TrodAll enc Try.prog W 0 (fun _ => true) true Try.f3.params.toList args.toList ds p := hA0
  rw [Try.params3] at hA hval
  obtain ⟨v0, vs0, d0, ds0, p0, q0, hargs, rfl, rfl, h0, r0⟩ := trodAll_cons hA
  obtain ⟨v1, vs1, d1, ds1, p1, q1, rfl, rfl, rfl, h1, r1⟩ := trodAll_cons r0
  obtain ⟨v2, vs2, d2, ds2, p2, q2, rfl, rfl, rfl, h2, r2⟩ := trodAll_cons r1
  obtain ⟨v3, vs3, d3, ds3, p3, q3, rfl, rfl, rfl, h3, r3⟩ := trodAll_cons r2
  obtain ⟨rfl, rfl, rfl⟩ := trodAll_nil r3
  obtain rfl : args = #[v0, v1, v2, v3] := by cases args; simp_all
  obtain ⟨rfl, rfl⟩ := trodVars_none hV
  obtain ⟨cs0, rfl, _⟩ := okWide_struct Try.underlying25 (hval 0 25 v0 rfl rfl)
  have k0 := h0
  have lt0 : ∀ x ∈ p0, x.block < W.heap.size := by obtain ⟨m, hm⟩ := k0; exact DataW.trod_lt m _ _ _ hm
  obtain ⟨c0, ca0, cb0, cc0, cd0, e0, w0⟩ : ∃ (c : Cp) (v0 v1 v2 v3 : Value), cs0.toList = [.string c.name, v0, v1, v2, v3] ∧ cpuArg W v0 v1 v2 v3 c := by
    obtain ⟨fuel, hf⟩ := h0
    exact open_cpu fuel _ _ hf
  obtain rfl : cs0 = #[.string c0.name, ca0, cb0, cc0, cd0] := by rw [← cs0.toArray_toList, e0]
  obtain ⟨cs1, rfl, _⟩ := okWide_struct Try.underlying29 (hval 1 29 v1 rfl rfl)
  have k1 := h1
  have lt1 : ∀ x ∈ p1, x.block < W.heap.size := by obtain ⟨m, hm⟩ := k1; exact DataW.trod_lt m _ _ _ hm
  obtain ⟨f1, op1, pl1, n1, e1⟩ : ∃ (f : Nat → Int) (op pl : Int) (n : Bool), cs1.toList = (core12 f op pl n).toList ∧ (Lit.int .i64 op).wf = true ∧ (Lit.int .i64 pl).wf = true := by
    obtain ⟨fuel, hf⟩ := h1
    exact open_core fuel _ _ hf
  obtain ⟨e1, wo1, wp1⟩ := e1
  obtain rfl : cs1 = core12 f1 op1 pl1 n1 := by rw [← cs1.toArray_toList, e1]
  obtain ⟨a2, rfl, rfl, rfl⟩ := open_bool Try.underlying4 (hval 2 4 v2 rfl rfl) h2
  obtain ⟨a3, rfl, rfl, rfl, w3⟩ := open_int Try.underlying3 (hval 3 3 v3 rfl rfl) h3
  clear hA0 hval0
  refine (walk c0 ca0 cb0 cc0 cd0 f1 op1 pl1 n1 a2 a3 W w0 wo1 wp1 w3).mono fun e W' ⟨he, bel⟩ => ?_
  subst he
  exact ⟨_, rfl, _, _, _, [], _, [], hW', trodAll_mk1 (shut_bool Try.underlying4 _), (trodAll_cons_mk (Below.trod laidOut (by kernel_rfl) (of_decide_eq_true (by kernel_rfl)) k0 bel lt0) (trodAll_cons_mk (Below.trod laidOut (by kernel_rfl) (of_decide_eq_true (by kernel_rfl)) k1 bel lt1) (trodAll_cons_mk (shut_bool Try.underlying4 _) (trodAll_cons_mk (shut_int Try.underlying3 w3) trodAll_mk0)))), rfl, bel.frame _, fun h => by cases h⟩

theorem over : Rows.wholeRunsRow.holds Try.pinned (OpenSpec.ofChange Rows.wholeRunsSpec) :=
  OpenClaim.holds_of_wide 3 Try.f3 rfl rfl rfl rfl rfl rfl rfl ⟨rfl, rfl, rfl, rfl, rfl⟩ rfl rfl rfl rfl rfl (by kernel_rfl) Try.func3 (by kernel_rfl)
    (of_decide_eq_true (by kernel_rfl)) (by unfold Func.isWrapper; first | (rw [if_pos (by decide +kernel)]; kernel_rfl) | (rw [if_neg (by decide +kernel)]; exact ⟨rfl, rfl⟩))
    (fun os started H enc _ => lifted os started H enc)

theorem proved : Rows.WholeRunsSaid := over
#print axioms proved
end Go.Proofs.Ythhihmggaddlmaa.wholeRuns
