/- For every slice of bytes the call of DriveDisks returns true, and the slice reads afterwards as before: package drive New gives the state that chapter 13 specifies for all disks. No condition. -/
import Derived.Test.YtmjddoboogccoaaRows
import Derived.Test.YtmjddoboogccoaaDrvDisks
import Derived.Test.YtmjddoboogccoaaDevOpen
import Derived.WalkKit
import Derived.ProofKit
import Derived.OpenShut
import Derived.ShutString
import Derived.ChangeOld
import Derived.Below
import Derived.SizedLaws
namespace Go.Proofs.Ytmjddoboogccoaa.driveDisks
open Go.ChangeShapes Go.WideShapes Go.ChangeAt Go.RowKit
set_option linter.unusedVariables false

theorem own : ownKnob Try.prog.godebug = none := by kernel_rfl
theorem laidOut : laidOutB Try.prog = true := by kernel_rfl

theorem walk (ab0 : Option Addr) (nb0 cb0 : Nat) (lb0 : List Int) (w : World) (w0 : isByt w (.slice ab0 nb0 cb0) lb0 ∧ ∀ x ∈ lb0, (Lit.int .u8 x).wf = true) (b0 : lb0.length ≤ 140737488351232) :
    Calls Try.prog 5 #[.slice ab0 nb0 cb0] w fun e w' => e = .returned (.bool true) ∧ Below w.heap.size w w' := by
  exact driveDisks_walk _ lb0 w w0.1 b0

set_option maxRecDepth 100000 in
theorem lifted (os : Os) (started : os.Started) (H : Type) (enc : TypeId × Value → H) :
    ReturnsInHanded {} Try.checked os 5 .any (Rows.driveDisksSpec.pre6 enc Try.prog Try.f5 Rows.driveDisksRow.domain false) (Rows.driveDisksSpec.post enc Try.prog Try.f5 false true false false) := by
  refine returnsInHanded_of_change_sized (C := Try.checked) own started (by kernel_rfl) Try.func5
    (ChangeSpec.witness6 (enc := enc) (C := Try.checked) false ⟨#[], #[.slice none 0 0], []⟩ 8 (by kernel_rfl) (by kernel_rfl) (by kernel_rfl) (by kernel_rfl)) ?_
  intro W base args ds gs before hval0 hW hcnd hsz0 _
  have hval : ∀ (j : Nat) t v, Try.f5.params[j]? = some t → args[j]? = some v → Value.okWide Try.prog W .any base t v := hval0
  have hsz : (DataW.weightsEach Try.prog (Try.f5.params.toList ++ Rows.driveDisksSpec.plain.varTypes Try.prog) (ds ++ gs)).all (· ≤ reachBytes) = true := hsz0
  have hW' := hW
  obtain ⟨p, q, hA0, hV, rfl, hfz, hnd⟩ := hW
  have hA : DataW.TrodAll enc Try.prog W 0 (fun _ => true) true Try.f5.params.toList args.toList ds p := hA0
  rw [Try.params5] at hA hval hsz
  obtain ⟨v0, vs0, d0, ds0, p0, q0, hargs, rfl, rfl, h0, r0⟩ := trodAll_cons hA
  obtain ⟨rfl, rfl, rfl⟩ := trodAll_nil r0
  obtain rfl : args = #[v0] := by cases args; simp_all
  obtain ⟨rfl, rfl⟩ := trodVars_none hV
  obtain ⟨ab0, nb0, cb0, rfl⟩ := okWide_slice Try.underlying23 (hval 0 23 v0 rfl rfl)
  have k0 := h0
  have lt0 : ∀ x ∈ p0, x.block < W.heap.size := by obtain ⟨m, hm⟩ := k0; exact DataW.trod_lt m _ _ _ hm
  obtain ⟨lb0, w0, b0⟩ : ∃ lb, (isByt W (.slice ab0 nb0 cb0) lb ∧ ∀ x ∈ lb, (Lit.int .u8 x).wf = true) ∧ lb.length ≤ 140737488351232 := by
    obtain ⟨fuel, hf⟩ := h0
    have hf2 : DataW.trod enc Try.prog W 0 (fun _ => true) true fuel 23 [.slice ab0 nb0 cb0] = some (d0, p0) := hf
    obtain ⟨vm, lb, hc, hw, hz⟩ := open_byts fuel _ _ hf2
    obtain rfl : vm = .slice ab0 nb0 cb0 := by simpa using hc.symm
    refine ⟨lb, hw, ?_⟩
    rcases hz with h0 | ⟨elems, spare, hd, hle⟩
    · rw [h0]; decide
    · have hb := sized_slice hsz (j := 0) (t := 23) (e := 5) (elems := elems) (spare := spare) rfl (by rw [← hd]; rfl) Try.underlying23
      have hby : Try.prog.bytesOf 5 = 1 := by kernel_rfl
      rw [hby] at hb
      simp only [reachBytes] at hb
      omega
  clear hA0 hval0
  refine (walk ab0 nb0 cb0 lb0 W w0 b0).mono fun e W' ⟨he, bel⟩ => ?_
  subst he
  exact ⟨_, rfl, _, _, _, [], _, [], hW', trodAll_mk1 (shut_bool Try.underlying4 _), (trodAll_cons_mk (Below.trod laidOut (by kernel_rfl) (of_decide_eq_true (by kernel_rfl)) k0 bel lt0) trodAll_mk0), rfl, bel.frame _, fun h => by cases h⟩

theorem over : Rows.driveDisksRow.holds Try.pinned (OpenSpec.ofChange Rows.driveDisksSpec) :=
  OpenClaim.holds_of_wide 5 Try.f5 rfl rfl rfl rfl rfl rfl rfl ⟨rfl, rfl, rfl, rfl, rfl⟩ rfl rfl rfl rfl rfl (by kernel_rfl) Try.func5 (by kernel_rfl)
    (of_decide_eq_true (by kernel_rfl)) (by unfold Func.isWrapper; first | (rw [if_pos (by decide +kernel)]; kernel_rfl) | (rw [if_neg (by decide +kernel)]; exact ⟨rfl, rfl⟩))
    (fun os started H enc _ => lifted os started H enc)

theorem proved : Rows.DriveDisksSaid := over
#print axioms proved
end Go.Proofs.Ytmjddoboogccoaa.driveDisks
