/- For every two processors, Same says whether all that they consist of is equal. -/
import Derived.Test.YtcenflbadhjlhaaRows
import Derived.Test.YtcenflbadhjlhaaTabSames
import Derived.Test.YtcenflbadhjlhaaTabOpen
import Derived.WalkKit
import Derived.ProofKit
import Derived.OpenShut
import Derived.ShutString
import Derived.ChangeOld
import Derived.Below
import Derived.SizedLaws
namespace Go.Proofs.Ytcenflbadhjlhaa.tableSames
open Go.ChangeShapes Go.WideShapes Go.ChangeAt Go.RowKit
set_option linter.unusedVariables false

theorem own : ownKnob Try.prog.godebug = none := by kernel_rfl
theorem laidOut : laidOutB Try.prog = true := by kernel_rfl

theorem walk (c0 : Cp) (ca0 cb0 cc0 cd0 : Value) (c1 : Cp) (ca1 cb1 cc1 cd1 : Value) (w : World) (w0 : cpuArg w ca0 cb0 cc0 cd0 c0) (b0 : c0.instrs.length * 56 ≤ 140737488351232) (w1 : cpuArg w ca1 cb1 cc1 cd1 c1) (b1 : c1.instrs.length * 56 ≤ 140737488351232) :
    Calls Try.prog 5 #[.agg #[.string c0.name, ca0, cb0, cc0, cd0], .agg #[.string c1.name, ca1, cb1, cc1, cd1]] w fun e w' => e = .returned (.bool true) ∧ Below w.heap.size w w' := by
  exact tableSames_walk c0 c1 ca0 cb0 cc0 cd0 ca1 cb1 cc1 cd1 w w0 w1 (by omega) (by omega)

set_option maxRecDepth 100000 in
theorem lifted (os : Os) (started : os.Started) (H : Type) (enc : TypeId × Value → H) :
    ReturnsInHanded {} Try.checked os 5 .any (Rows.tableSamesSpec.pre6 enc Try.prog Try.f5 Rows.tableSamesRow.domain false) (Rows.tableSamesSpec.post enc Try.prog Try.f5 false true false false) := by
  refine returnsInHanded_of_change_sized (C := Try.checked) own started (by kernel_rfl) Try.func5
    (ChangeSpec.witness6 (enc := enc) (C := Try.checked) false ⟨#[], #[.agg #[.string ByteArray.empty, .slice none 0 0, .slice none 0 0, .slice none 0 0, .slice none 0 0], .agg #[.string ByteArray.empty, .slice none 0 0, .slice none 0 0, .slice none 0 0, .slice none 0 0]], []⟩ 8 (by kernel_rfl) (by kernel_rfl) (by kernel_rfl) (by kernel_rfl)) ?_
  intro W base args ds gs before hval0 hW hcnd hsz0 _
  have hval : ∀ (j : Nat) t v, Try.f5.params[j]? = some t → args[j]? = some v → Value.okWide Try.prog W .any base t v := hval0
  have hsz : (DataW.weightsEach Try.prog (Try.f5.params.toList ++ Rows.tableSamesSpec.plain.varTypes Try.prog) (ds ++ gs)).all (· ≤ reachBytes) = true := hsz0
  have hW' := hW
  obtain ⟨p, q, hA0, hV, rfl, hfz, hnd⟩ := hW
  have hA : DataW.TrodAll enc Try.prog W 0 (fun _ => true) true Try.f5.params.toList args.toList ds p := hA0
  rw [Try.params5] at hA hval hsz
  obtain ⟨v0, vs0, d0, ds0, p0, q0, hargs, rfl, rfl, h0, r0⟩ := trodAll_cons hA
  obtain ⟨v1, vs1, d1, ds1, p1, q1, rfl, rfl, rfl, h1, r1⟩ := trodAll_cons r0
  obtain ⟨rfl, rfl, rfl⟩ := trodAll_nil r1
  obtain rfl : args = #[v0, v1] := by cases args; simp_all
  obtain ⟨rfl, rfl⟩ := trodVars_none hV
  obtain ⟨cs0, rfl, _⟩ := okWide_struct Try.underlying25 (hval 0 25 v0 rfl rfl)
  have k0 := h0
  have lt0 : ∀ x ∈ p0, x.block < W.heap.size := by obtain ⟨m, hm⟩ := k0; exact DataW.trod_lt m _ _ _ hm
  obtain ⟨c0, ca0, cb0, cc0, cd0, e0, w0, b0⟩ : ∃ (c : Cp) (v0 v1 v2 v3 : Value), cs0.toList = [.string c.name, v0, v1, v2, v3] ∧ cpuArg W v0 v1 v2 v3 c ∧ c.instrs.length * 56 ≤ 140737488351232 := by
    obtain ⟨fuel, hf⟩ := h0
    obtain ⟨c, v0, v1, v2, v3, e, a, hz⟩ := open_cpu_sized fuel _ _ hf
    refine ⟨c, v0, v1, v2, v3, e, a, ?_⟩
    rcases hz with h0 | ⟨parts, elems, spare, hp, hq, hle⟩
    · rw [h0]; decide
    · have hd : d0 = .agg parts := hp
      have hb := sized_field hsz (j := 0) (t := 25) (m := 1) (e := 34) rfl (by rw [hd]; rfl) Try.underlying25 rfl hq Try.underlying22
      have hby : Try.prog.bytesOf 34 = 56 := by kernel_rfl
      rw [hby] at hb
      simp only [reachBytes] at hb
      omega
  obtain rfl : cs0 = #[.string c0.name, ca0, cb0, cc0, cd0] := by rw [← cs0.toArray_toList, e0]
  obtain ⟨cs1, rfl, _⟩ := okWide_struct Try.underlying25 (hval 1 25 v1 rfl rfl)
  have k1 := h1
  have lt1 : ∀ x ∈ p1, x.block < W.heap.size := by obtain ⟨m, hm⟩ := k1; exact DataW.trod_lt m _ _ _ hm
  obtain ⟨c1, ca1, cb1, cc1, cd1, e1, w1, b1⟩ : ∃ (c : Cp) (v0 v1 v2 v3 : Value), cs1.toList = [.string c.name, v0, v1, v2, v3] ∧ cpuArg W v0 v1 v2 v3 c ∧ c.instrs.length * 56 ≤ 140737488351232 := by
    obtain ⟨fuel, hf⟩ := h1
    obtain ⟨c, v0, v1, v2, v3, e, a, hz⟩ := open_cpu_sized fuel _ _ hf
    refine ⟨c, v0, v1, v2, v3, e, a, ?_⟩
    rcases hz with h0 | ⟨parts, elems, spare, hp, hq, hle⟩
    · rw [h0]; decide
    · have hd : d1 = .agg parts := hp
      have hb := sized_field hsz (j := 1) (t := 25) (m := 1) (e := 34) rfl (by rw [hd]; rfl) Try.underlying25 rfl hq Try.underlying22
      have hby : Try.prog.bytesOf 34 = 56 := by kernel_rfl
      rw [hby] at hb
      simp only [reachBytes] at hb
      omega
  obtain rfl : cs1 = #[.string c1.name, ca1, cb1, cc1, cd1] := by rw [← cs1.toArray_toList, e1]
  clear hA0 hval0
  refine (walk c0 ca0 cb0 cc0 cd0 c1 ca1 cb1 cc1 cd1 W w0 b0 w1 b1).mono fun e W' ⟨he, bel⟩ => ?_
  subst he
  exact ⟨_, rfl, _, _, _, [], _, [], hW', trodAll_mk1 (shut_bool Try.underlying4 _), (trodAll_cons_mk (Below.trod laidOut (by kernel_rfl) (of_decide_eq_true (by kernel_rfl)) k0 bel lt0) (trodAll_cons_mk (Below.trod laidOut (by kernel_rfl) (of_decide_eq_true (by kernel_rfl)) k1 bel lt1) trodAll_mk0)), rfl, bel.frame _, fun h => by cases h⟩

theorem over : Rows.tableSamesRow.holds Try.pinned (OpenSpec.ofChange Rows.tableSamesSpec) :=
  OpenClaim.holds_of_wide 5 Try.f5 rfl rfl rfl rfl rfl rfl rfl ⟨rfl, rfl, rfl, rfl, rfl⟩ rfl rfl rfl rfl rfl (by kernel_rfl) Try.func5 (by kernel_rfl)
    (of_decide_eq_true (by kernel_rfl)) (by unfold Func.isWrapper; first | (rw [if_pos (by decide +kernel)]; kernel_rfl) | (rw [if_neg (by decide +kernel)]; exact ⟨rfl, rfl⟩))
    (fun os started H enc _ => lifted os started H enc)

theorem proved : Rows.TableSamesSaid := over
#print axioms proved
end Go.Proofs.Ytcenflbadhjlhaa.tableSames
