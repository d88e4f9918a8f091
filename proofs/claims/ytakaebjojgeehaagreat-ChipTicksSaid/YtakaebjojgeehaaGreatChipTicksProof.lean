/- For every chip, state and number, the law ChipTicks returns true: Tick is what the reference does in a cycle, and Skip is as many of its cycles; nothing that existed has changed. -/
import Derived.Test.YtakaebjojgeehaaGreatChipTicksK01
import Derived.Test.YtakaebjojgeehaaGreatChipTicksK02
import Derived.Test.YtakaebjojgeehaaGreatChipTicksK03
import Derived.Test.YtakaebjojgeehaaGreatChipTicksK04
import Derived.Test.YtakaebjojgeehaaGreatChipTicksK05
import Derived.Test.YtakaebjojgeehaaGreatChipTicksK06
import Derived.Test.YtakaebjojgeehaaGreatChipTicksK07
import Derived.Test.YtakaebjojgeehaaGreatChipTicksK08
import Derived.Test.YtakaebjojgeehaaGreatChipTicksK09
import Derived.Test.YtakaebjojgeehaaGreatChipTicksK10
import Derived.Test.YtakaebjojgeehaaGreatChipTicksK11
import Derived.Test.YtakaebjojgeehaaGreatChipTicksK12
import Derived.Test.YtakaebjojgeehaaGreatChipTicksK13
import Derived.Test.YtakaebjojgeehaaGreatChipTicksK14
import Derived.Test.YtakaebjojgeehaaGreatChipTicksK15
import Derived.Test.YtakaebjojgeehaaGreatChipTicksK16
import Derived.Test.YtakaebjojgeehaaGreatChipTicksK17
import Derived.Test.YtakaebjojgeehaaGreatChipTicksK18
import Derived.Test.YtakaebjojgeehaaGreatChipTicksK19
import Derived.Test.YtakaebjojgeehaaGreatChipTicksK20
import Derived.Test.YtakaebjojgeehaaGreatChipTicksK21
import Derived.Test.YtakaebjojgeehaaGreatChipTicksK22
import Derived.Test.YtakaebjojgeehaaGreatChipTicksK23
import Derived.Test.YtakaebjojgeehaaGreatChipTicksK24
import Derived.Test.YtakaebjojgeehaaGreatChipTicksK25
import Derived.Test.YtakaebjojgeehaaGreatChipTicksK26
import Derived.Test.YtakaebjojgeehaaGreatChipTicksK27
import Derived.Test.YtakaebjojgeehaaGreatChipTicksK28
import Derived.Test.YtakaebjojgeehaaGreatChipTicksK29
import Derived.Test.YtakaebjojgeehaaGreatChipTicksK30
import Derived.Test.YtakaebjojgeehaaGreatChipTicksK31
import Derived.Test.YtakaebjojgeehaaGreatChipTicksK32
import Derived.Test.YtakaebjojgeehaaGreatChipTicksK33
import Derived.Test.YtakaebjojgeehaaGreatChipTicksK34
import Derived.Test.YtakaebjojgeehaaGreatChipTicksK35
import Derived.Test.YtakaebjojgeehaaGreatChipTicksK36
import Derived.Test.YtakaebjojgeehaaGreatChipTicksK37
import Derived.Test.YtakaebjojgeehaaGreatChipTicksK38
import Derived.Test.YtakaebjojgeehaaGreatChipTicksK39
import Derived.Test.YtakaebjojgeehaaGreatChipTicksK40
import Derived.Test.YtakaebjojgeehaaGreatChipTicksK41
import Derived.Test.YtakaebjojgeehaaGreatChipTicksK42
import Derived.Test.YtakaebjojgeehaaGreatChipTicksK43
import Derived.Test.YtakaebjojgeehaaGreatChipTicksK44
import Derived.Test.YtakaebjojgeehaaGreatChipTicksK45
import Derived.Test.YtakaebjojgeehaaGreatChipTicksK46
import Derived.Test.YtakaebjojgeehaaGreatChipTicksK47
import Derived.Test.YtakaebjojgeehaaGreatChipTicksK48
import Derived.Test.YtakaebjojgeehaaGreatChipTicksK49
import Derived.Test.YtakaebjojgeehaaGreatChipTicksK50
import Derived.Test.YtakaebjojgeehaaGreatChipTicksK51
import Derived.Test.YtakaebjojgeehaaGreatChipTicksK52
import Derived.Test.YtakaebjojgeehaaGreatChipTicksK53
import Derived.Test.YtakaebjojgeehaaGreatChipTicksK54
import Derived.Test.YtakaebjojgeehaaGreatRows
import Derived.WalkKit
import Derived.ProofKit
import Derived.OpenShut
import Derived.ShutString
import Derived.ChangeOld
import Derived.Below
import Derived.SizedLaws
namespace Go.Proofs.YtakaebjojgeehaaGreat.chipTicks
open Go.ChangeShapes Go.WideShapes Go.ChangeAt Go.RowKit
set_option linter.unusedVariables false

theorem own : ownKnob Tryz.prog.godebug = none := by kernel_rfl
theorem laidOut : laidOutB Tryz.prog = true := by kernel_rfl

theorem walk (nm0 : ByteArray) (kk0 kb0 kz0 : Int) (vd0 : Value) (ld0 : List Int) (vn1 vm1 : Value) (ln1 lb1 : List Int) (a2 : Int) (w : World) (wn0 : nm0.size ≤ maxLen) (wk0 : (Lit.int .i64 kk0).wf = true) (wb0 : (Lit.int .i64 kb0).wf = true) (wz0 : (Lit.int .i64 kz0).wf = true) (w0 : isByt w vd0 ld0 ∧ ∀ x ∈ ld0, (Lit.int .u8 x).wf = true) (b0 : ld0.length ≤ 140737488351232) (w1 : (isArg w vn1 ln1 ∧ ∀ x ∈ ln1, (Lit.int .i64 x).wf = true) ∧ (isByt w vm1 lb1 ∧ ∀ x ∈ lb1, (Lit.int .u8 x).wf = true)) (b1 : lb1.length ≤ 140737488351232) (w2 : (Lit.int .i64 a2).wf = true) :
    Calls Tryz.prog 3 #[.agg (chip5 nm0 kk0 kb0 kz0 vd0), .agg #[vn1, vm1], .int .i64 a2] w fun e w' => e = .returned (.bool true) ∧ Below w.heap.size w w' := by
  exact chipTicks_walk nm0 kk0 kb0 kz0 vd0 ld0 vn1 vm1 ln1 lb1 a2 w w0.1 w1.1.1 w1.2.1 w1.1.2 (byt_fit w1.2.2) b1 b0 (bounds_i64 wz0) (bounds_i64 w2)

set_option maxRecDepth 100000 in
theorem lifted (os : Os) (started : os.Started) (H : Type) (enc : TypeId × Value → H) :
    ReturnsInHanded {} Tryz.checked os 3 .any (Rows.chipTicksSpec.pre6 enc Tryz.prog Tryz.f3 Rows.chipTicksRow.domain false) (Rows.chipTicksSpec.post enc Tryz.prog Tryz.f3 false true false false) := by
  refine returnsInHanded_of_change_sized (C := Tryz.checked) own started (by kernel_rfl) Tryz.func3
    (ChangeSpec.witness6 (enc := enc) (C := Tryz.checked) false ⟨#[], #[.agg #[.string ByteArray.empty, .int .i64 0, .int .i64 0, .int .i64 0, .slice none 0 0], .agg #[.slice none 0 0, .slice none 0 0], .int .i64 0], []⟩ 8 (by kernel_rfl) (by kernel_rfl) (by kernel_rfl) (by kernel_rfl)) ?_
  intro W base args ds gs before hval0 hW hcnd hsz0 _
  have hval : ∀ (j : Nat) t v, Tryz.f3.params[j]? = some t → args[j]? = some v → Value.okWide Tryz.prog W .any base t v := hval0
  have hsz : (DataW.weightsEach Tryz.prog (Tryz.f3.params.toList ++ Rows.chipTicksSpec.plain.varTypes Tryz.prog) (ds ++ gs)).all (· ≤ reachBytes) = true := hsz0
  have hW' := hW
  obtain ⟨p, q, hA0, hV, rfl, hfz, hnd⟩ := hW
  have hA : DataW.TrodAll enc Tryz.prog W 0 (fun _ => true) true Tryz.f3.params.toList args.toList ds p := hA0
  rw [Tryz.params3] at hA hval hsz
  obtain ⟨v0, vs0, d0, ds0, p0, q0, hargs, rfl, rfl, h0, r0⟩ := trodAll_cons hA
  obtain ⟨v1, vs1, d1, ds1, p1, q1, rfl, rfl, rfl, h1, r1⟩ := trodAll_cons r0
  obtain ⟨v2, vs2, d2, ds2, p2, q2, rfl, rfl, rfl, h2, r2⟩ := trodAll_cons r1
  obtain ⟨rfl, rfl, rfl⟩ := trodAll_nil r2
  obtain rfl : args = #[v0, v1, v2] := by cases args; simp_all
  obtain ⟨rfl, rfl⟩ := trodVars_none hV
  obtain ⟨cs0, rfl, _⟩ := okWide_struct Tryz.underlying24 (hval 0 24 v0 rfl rfl)
  have k0 := h0
  have lt0 : ∀ x ∈ p0, x.block < W.heap.size := by obtain ⟨m, hm⟩ := k0; exact DataW.trod_lt m _ _ _ hm
  obtain ⟨nm0, kk0, kb0, kz0, vd0, ld0, e0, wn0, wk0, wb0, wz0, w0, b0⟩ : ∃ (nm : ByteArray) (kk kb kz : Int) (vd : Value) (ld : List Int), cs0.toList = [.string nm, .int .i64 kk, .int .i64 kb, .int .i64 kz, vd] ∧ nm.size ≤ maxLen ∧ (Lit.int .i64 kk).wf = true ∧ (Lit.int .i64 kb).wf = true ∧ (Lit.int .i64 kz).wf = true ∧ (isByt W vd ld ∧ ∀ x ∈ ld, (Lit.int .u8 x).wf = true) ∧ ld.length ≤ 140737488351232 := by
    obtain ⟨fuel, hf⟩ := h0
    obtain ⟨nm, kk, kb, kz, vd, ld, e, hn, h1, h2, h3, h4, hz⟩ := open_chip_sized fuel _ _ hf
    refine ⟨nm, kk, kb, kz, vd, ld, e, hn, h1, h2, h3, h4, ?_⟩
    rcases hz with h0 | ⟨parts, elems, spare, hp, hq, hle⟩
    · rw [h0]; decide
    · have hd : d0 = .agg parts := hp
      have hb := sized_field hsz (j := 0) (t := 24) (m := 4) (e := 5) rfl (by rw [hd]; rfl) Tryz.underlying24 rfl hq Tryz.underlying22
      have hby : Tryz.prog.bytesOf 5 = 1 := by kernel_rfl
      rw [hby] at hb
      simp only [reachBytes] at hb
      omega
  obtain rfl : cs0 = chip5 nm0 kk0 kb0 kz0 vd0 := by rw [← cs0.toArray_toList, e0]; rfl
  obtain ⟨cs1, rfl, _⟩ := okWide_struct Tryz.underlying27 (hval 1 27 v1 rfl rfl)
  have k1 := h1
  have lt1 : ∀ x ∈ p1, x.block < W.heap.size := by obtain ⟨m, hm⟩ := k1; exact DataW.trod_lt m _ _ _ hm
  obtain ⟨vn1, vm1, ln1, lb1, e1, w1, b1⟩ : ∃ (vn vm : Value) (ln lb : List Int), cs1.toList = [vn, vm] ∧ ((isArg W vn ln ∧ ∀ x ∈ ln, (Lit.int .i64 x).wf = true) ∧ (isByt W vm lb ∧ ∀ x ∈ lb, (Lit.int .u8 x).wf = true)) ∧ lb.length ≤ 140737488351232 := by
    obtain ⟨fuel, hf⟩ := h1
    obtain ⟨vn, vm, ln, lb, e, wa, wb, hz⟩ := open_dev_sized fuel _ _ hf
    refine ⟨vn, vm, ln, lb, e, ⟨wa, wb⟩, ?_⟩
    rcases hz with h0 | ⟨parts, elems, spare, hp, hq, hle⟩
    · rw [h0]; decide
    · have hd : d1 = .agg parts := hp
      have hb := sized_field hsz (j := 1) (t := 27) (m := 1) (e := 5) rfl (by rw [hd]; rfl) Tryz.underlying27 rfl hq Tryz.underlying22
      have hby : Tryz.prog.bytesOf 5 = 1 := by kernel_rfl
      rw [hby] at hb
      simp only [reachBytes] at hb
      omega
  obtain rfl : cs1 = #[vn1, vm1] := by rw [← cs1.toArray_toList, e1]
  obtain ⟨a2, rfl, rfl, rfl, w2⟩ := open_int Tryz.underlying3 (hval 2 3 v2 rfl rfl) h2
  clear hA0 hval0
  refine (walk nm0 kk0 kb0 kz0 vd0 ld0 vn1 vm1 ln1 lb1 a2 W wn0 wk0 wb0 wz0 w0 b0 w1 b1 w2).mono fun e W' ⟨he, bel⟩ => ?_
  subst he
  exact ⟨_, rfl, _, _, _, [], _, [], hW', trodAll_mk1 (shut_bool Tryz.underlying4 _), (trodAll_cons_mk (Below.trod laidOut (by kernel_rfl) (of_decide_eq_true (by kernel_rfl)) k0 bel lt0) (trodAll_cons_mk (Below.trod laidOut (by kernel_rfl) (of_decide_eq_true (by kernel_rfl)) k1 bel lt1) (trodAll_cons_mk (shut_int Tryz.underlying3 w2) trodAll_mk0))), rfl, bel.frame _, fun h => by cases h⟩

theorem over : Rows.chipTicksRow.holds Tryz.pinned (OpenSpec.ofChange Rows.chipTicksSpec) :=
  OpenClaim.holds_of_wide 3 Tryz.f3 rfl rfl rfl rfl rfl rfl rfl ⟨rfl, rfl, rfl, rfl, rfl⟩ rfl rfl rfl rfl rfl (by kernel_rfl) Tryz.func3 (by kernel_rfl)
    (of_decide_eq_true (by kernel_rfl)) (by unfold Func.isWrapper; first | (rw [if_pos (by decide +kernel)]; kernel_rfl) | (rw [if_neg (by decide +kernel)]; exact ⟨rfl, rfl⟩))
    (fun os started H enc _ => lifted os started H enc)

theorem proved : Rows.ChipTicksSaid := over
#print axioms proved
end Go.Proofs.YtakaebjojgeehaaGreat.chipTicks
