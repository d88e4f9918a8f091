/- For every state (its numbers and its bytes) and every number the call of DriveTicks returns true, and its arguments read afterwards as before: package drive Tick and Skip do what chapter 13 specifies. No condition. -/
import Derived.Test.YtmjddoboogccoaaRows
import Derived.Test.YtmjddoboogccoaaDrvTicks
import Derived.Test.YtmjddoboogccoaaDevOpen
import Derived.Test.YtmjddoboogccoaaSized
import Derived.WalkKit
import Derived.ProofKit
import Derived.OpenShut
import Derived.ShutString
import Derived.ChangeOld
import Derived.Below
import Derived.SizedLaws
namespace Go.Proofs.Ytmjddoboogccoaa.driveTicks
open Go.ChangeShapes Go.WideShapes Go.ChangeAt Go.RowKit
set_option linter.unusedVariables false

theorem own : ownKnob Try.prog.godebug = none := by kernel_rfl
theorem laidOut : laidOutB Try.prog = true := by kernel_rfl

theorem walk (vn0 vm0 : Value) (ln0 lb0 : List Int) (a1 : Int) (w : World) (w0 : (isArg w vn0 ln0 ∧ ∀ x ∈ ln0, (Lit.int .i64 x).wf = true) ∧ (isByt w vm0 lb0 ∧ ∀ x ∈ lb0, (Lit.int .u8 x).wf = true)) (b0 : lb0.length ≤ 140737488351232) (w1 : (Lit.int .i64 a1).wf = true) :
    Calls Try.prog 4 #[.agg #[vn0, vm0], .int .i64 a1] w fun e w' => e = .returned (.bool true) ∧ Below w.heap.size w w' := by
  exact driveTicks_walk _ _ ln0 lb0 a1 w w0.1.1 w0.2.1 (fun x hx => by have := w0.2.2 x hx; simp [Lit.wf, IntKind.min, IntKind.max, IntKind.signed, IntKind.bits] at this; omega) b0 (bounds_i64 w1)

set_option maxRecDepth 100000 in
theorem lifted (os : Os) (started : os.Started) (H : Type) (enc : TypeId × Value → H) :
    ReturnsInHanded {} Try.checked os 4 .any (Rows.driveTicksSpec.pre6 enc Try.prog Try.f4 Rows.driveTicksRow.domain false) (Rows.driveTicksSpec.post enc Try.prog Try.f4 false true false false) := by
  refine returnsInHanded_of_change_sized (C := Try.checked) own started (by kernel_rfl) Try.func4
    (ChangeSpec.witness6 (enc := enc) (C := Try.checked) false ⟨#[], #[.agg #[.slice none 0 0, .slice none 0 0], .int .i64 0], []⟩ 8 (by kernel_rfl) (by kernel_rfl) (by kernel_rfl) (by kernel_rfl)) ?_
  intro W base args ds gs before hval0 hW hcnd hsz0 _
  have hval : ∀ (j : Nat) t v, Try.f4.params[j]? = some t → args[j]? = some v → Value.okWide Try.prog W .any base t v := hval0
  have hsz : (DataW.weightsEach Try.prog (Try.f4.params.toList ++ Rows.driveTicksSpec.plain.varTypes Try.prog) (ds ++ gs)).all (· ≤ reachBytes) = true := hsz0
  have hW' := hW
  obtain ⟨p, q, hA0, hV, rfl, hfz, hnd⟩ := hW
  have hA : DataW.TrodAll enc Try.prog W 0 (fun _ => true) true Try.f4.params.toList args.toList ds p := hA0
  rw [Try.params4] at hA hval hsz
  obtain ⟨v0, vs0, d0, ds0, p0, q0, hargs, rfl, rfl, h0, r0⟩ := trodAll_cons hA
  obtain ⟨v1, vs1, d1, ds1, p1, q1, rfl, rfl, rfl, h1, r1⟩ := trodAll_cons r0
  obtain ⟨rfl, rfl, rfl⟩ := trodAll_nil r1
  obtain rfl : args = #[v0, v1] := by cases args; simp_all
  obtain ⟨rfl, rfl⟩ := trodVars_none hV
  obtain ⟨cs0, rfl, _⟩ := okWide_struct Try.underlying25 (hval 0 25 v0 rfl rfl)
  have k0 := h0
  have lt0 : ∀ x ∈ p0, x.block < W.heap.size := by obtain ⟨m, hm⟩ := k0; exact DataW.trod_lt m _ _ _ hm
  obtain ⟨vn0, vm0, ln0, lb0, e0, w0, b0⟩ : ∃ (vn vm : Value) (ln lb : List Int), cs0.toList = [vn, vm] ∧ ((isArg W vn ln ∧ ∀ x ∈ ln, (Lit.int .i64 x).wf = true) ∧ (isByt W vm lb ∧ ∀ x ∈ lb, (Lit.int .u8 x).wf = true)) ∧ lb.length ≤ 140737488351232 := by
    obtain ⟨fuel, hf⟩ := h0
    obtain ⟨vn, vm, ln, lb, e, wa, wb, hz⟩ := open_dev_sized fuel _ _ hf
    refine ⟨vn, vm, ln, lb, e, ⟨wa, wb⟩, ?_⟩
    rcases hz with h0 | ⟨parts, elems, spare, hp, hq, hle⟩
    · rw [h0]; decide
    · have hd : d0 = .agg parts := hp
      have hb := sized_field hsz (j := 0) (t := 25) (m := 1) (e := 5) rfl (by rw [hd]; rfl) Try.underlying25 rfl hq Try.underlying23
      have hby : Try.prog.bytesOf 5 = 1 := by kernel_rfl
      rw [hby] at hb
      simp only [reachBytes] at hb
      omega
  obtain rfl : cs0 = #[vn0, vm0] := by rw [← cs0.toArray_toList, e0]
  obtain ⟨a1, rfl, rfl, rfl, w1⟩ := open_int Try.underlying3 (hval 1 3 v1 rfl rfl) h1
  clear hA0 hval0
  refine (walk vn0 vm0 ln0 lb0 a1 W w0 b0 w1).mono fun e W' ⟨he, bel⟩ => ?_
  subst he
  exact ⟨_, rfl, _, _, _, [], _, [], hW', trodAll_mk1 (shut_bool Try.underlying4 _), (trodAll_cons_mk (Below.trod laidOut (by kernel_rfl) (of_decide_eq_true (by kernel_rfl)) k0 bel lt0) (trodAll_cons_mk (shut_int Try.underlying3 w1) trodAll_mk0)), rfl, bel.frame _, fun h => by cases h⟩

theorem over : Rows.driveTicksRow.holds Try.pinned (OpenSpec.ofChange Rows.driveTicksSpec) :=
  OpenClaim.holds_of_wide 4 Try.f4 rfl rfl rfl rfl rfl rfl rfl ⟨rfl, rfl, rfl, rfl, rfl⟩ rfl rfl rfl rfl rfl (by kernel_rfl) Try.func4 (by kernel_rfl)
    (of_decide_eq_true (by kernel_rfl)) (by unfold Func.isWrapper; first | (rw [if_pos (by decide +kernel)]; kernel_rfl) | (rw [if_neg (by decide +kernel)]; exact ⟨rfl, rfl⟩))
    (fun os started H enc _ => lifted os started H enc)

theorem proved : Rows.DriveTicksSaid := over
#print axioms proved
end Go.Proofs.Ytmjddoboogccoaa.driveTicks
