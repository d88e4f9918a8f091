/- The contract of opcode: the byte of an instruction of the museum's processor. -/
import Derived.Test.YtdiajkgebicnnaaChecked
import Derived.Test.YtdiajkgebicnnaaWholes
import Derived.Test.YtdiajkgebicnnaaTabFind
import Derived.Below
import Derived.BigQuiet
import Derived.Carry
import Derived.ChangeMaps5
import Derived.Deep.AppendLies
import Derived.Deep.CutBlock
import Derived.Deep.DeepAppendWide
import Derived.Deep.DeepCutAuto
import Derived.Deep.Draws
import Derived.Deep.MidRow
import Derived.Deep.OwnRows
import Derived.Deep.QuietTactic
import Derived.Deep.RegionHeld
import Derived.Deep.RegionHeld3
import Derived.Deep.RegionLaw
import Derived.Deep.RegionWith
import Derived.Deep.Slices
import Derived.Deep.WholeRow
import Derived.DeepKeys4
import Derived.KernelRfl
import Derived.Laws.OwnMore
import Derived.Laws.StructEq
import Derived.Lib.Bytealg
import Derived.Lib.Hide
import Derived.Lib.IndexAny
import Derived.Lib.SliceRun
import Derived.Lib.SmallJoins
import Derived.Lib.Walk
import Derived.Maps.Keyed
import Derived.Maps.OwnSet
import Derived.Maps.Views
import Derived.OpenShut
import Derived.OrdersHeld
import Derived.OwnWalk
import Derived.RowKit3
import Derived.Shelf.Abstract
import Derived.SizedLaws
import Derived.StillTactics
import Derived.StillTail
import Derived.StillTailTactics
import Derived.WalkKit
namespace Go.Proofs.Ytdiajkgebicnnaa
open Go.RowKit
set_option maxRecDepth 100000

theorem stdI_small : stdI.all (fun x => decide (x.cycles.length ≤ 100) && x.cycles.all (fun c => decide (c.steps.length ≤ 100))) = true := by decide +kernel
theorem stdI_sized : ∀ x ∈ stdI, sizedIn x := fun x hx => by
  have := List.all_eq_true.1 stdI_small x hx
  simp only [Bool.and_eq_true, decide_eq_true_eq, List.all_eq_true] at this
  exact ⟨by omega, fun c hc => by have := this.2 c hc; omega⟩
theorem agInO : isAg Try.prog 78 4 := ⟨⟨_, Try.underlying78, rfl⟩, by kernel_rfl⟩
theorem named_std (name : ByteArray) (mode : Int) (v0 v1 v2 v3 : Value) (w : World) (h : stdAt w v0 v1 v2 v3) :
    Calls Try.prog 69 #[.agg (cpu5 stdC.name v0 v1 v2 v3), .string name, .int .i64 mode] w (gives w (namedIs name mode) stdI) :=
  namedT_any stdC name mode v0 v1 v2 v3 w h.arg stdI_sized

set_option maxHeartbeats 2000000 in
theorem opcode_any (name : ByteArray) (mode : Int) (o : Int) (ho : 0 ≤ o ∧ o < 256) (hX : (foundIn (namedIs name mode) stdI).op = o) (w : World) :
    Calls Try.prog 31 #[.string name, .int .i64 mode] w fun e w' => e = .returned (.int .u8 o) ∧ Below w.heap.size w w' := by
  have hn := fun v0 v1 v2 v3 w h => named_std name mode v0 v1 v2 v3 w h
  unfold gives at hn
  obtain ⟨X, hXe⟩ : ∃ X, X = foundIn (namedIs name mode) stdI := ⟨_, rfl⟩
  rw [← hXe] at hX
  rw [← hXe] at hn
  obtain ⟨I, hI⟩ : ∃ I, I = isIn (namedIs name mode) stdI := ⟨_, rfl⟩
  rw [← hI] at hn
  obtain ⟨xo, xn, xm, xc⟩ := X
  simp only at hX hn
  subst hX
  have HN := Lib.hid hn
  clear hn hI hXe
  have hwr : xo % 256 = xo := by omega
  go_enter Try.func31, Try.ntmps31
  go_upto_region 2 with (first
    | (go_at_call 36; refine (cpu_end _).mono ?_; rintro e w1 ⟨a0, n0, c0, a1, n1, c1, a2, n2, c2, a3, n3, c3, rfl, -, hs, hb⟩)
    | (go_at_call 69; refine (HN.out _ _ _ _ _ hs).mono ?_; rintro e w2 ⟨u, rfl, hu, hb2⟩; obtain ⟨ua, uc, hue, -, -⟩ := isArr_form (freshArr_isArr hu); subst hue; have nz := rowB_new w2 78 #[.int .i64 0, .string ⟨#[]⟩, .int .i64 0, .slice none 0 0])
    | (refine wpList_storeR rfl 78 _ _ rfl (w2.heap.size) rfl #[.int .i64 xo, .string xn, .int .i64 xm, .slice ua xc.length uc] rfl (by simp [Value.oneCell']) 78 #[.int .i64 0, .string ⟨#[]⟩, .int .i64 0, .slice none 0 0] rfl ?_ agInO ?_; exact nz))
  have b2 := hb.trans (hb2.mono hb.size)
  have b3 := below_rowR (b2.alloc b2.size (.cells #[.int .i64 0, .string ⟨#[]⟩, .int .i64 0, .slice none 0 0] 78)) (g := w2.heap.size) #[.int .i64 xo, .string xn, .int .i64 xm, .slice ua xc.length uc] b2.size
  have q0 := rowB_cell (rowB_row nz #[.int .i64 xo, .string xn, .int .i64 xm, .slice ua xc.length uc]) 0 (v := .int .i64 xo) rfl
  change Code.wp _ _ _ _ ((w2.alloc (.cells #[.int .i64 0, .string ⟨#[]⟩, .int .i64 0, .slice none 0 0] 78)).setRow w2.heap.size #[.int .i64 xo, .string xn, .int .i64 xm, .slice ua xc.length uc])
  generalize (w2.alloc (.cells #[.int .i64 0, .string ⟨#[]⟩, .int .i64 0, .slice none 0 0] 78)).setRow w2.heap.size #[.int .i64 xo, .string xn, .int .i64 xm, .slice ua xc.length uc] = w3 at *
  generalize w2.heap.size = r at *
  clear hs hb hu hb2 nz b2 HN
  go_wp2_with fail
  go_ret
  exact ⟨by first | rfl | (show Ending.returned (.int .u8 (xo % 256)) = _; rw [hwr]), b3⟩
theorem opc_ldx1 : (foundIn (namedIs ⟨#[108, 100, 120]⟩ 1) stdI).op = 8 := by decide +kernel
theorem opc_lda1 : (foundIn (namedIs ⟨#[108, 100, 97]⟩ 1) stdI).op = 1 := by decide +kernel
theorem opc_sta3 : (foundIn (namedIs ⟨#[115, 116, 97]⟩ 3) stdI).op = 15 := by decide +kernel
theorem opc_lda2 : (foundIn (namedIs ⟨#[108, 100, 97]⟩ 2) stdI).op = 2 := by decide +kernel
theorem opc_ldy4 : (foundIn (namedIs ⟨#[108, 100, 121]⟩ 4) stdI).op = 13 := by decide +kernel
theorem opc_ldy1 : (foundIn (namedIs ⟨#[108, 100, 121]⟩ 1) stdI).op = 11 := by decide +kernel
theorem opc_pha : (foundIn (namedIs ⟨#[112, 104, 97]⟩ 0) stdI).op = 79 := by decide +kernel
theorem opc_pla : (foundIn (namedIs ⟨#[112, 108, 97]⟩ 0) stdI).op = 80 := by decide +kernel
theorem opc_jsr : (foundIn (namedIs ⟨#[106, 115, 114]⟩ 4) stdI).op = 84 := by decide +kernel
theorem opc_rts : (foundIn (namedIs ⟨#[114, 116, 115]⟩ 0) stdI).op = 85 := by decide +kernel
theorem opc_rti : (foundIn (namedIs ⟨#[114, 116, 105]⟩ 0) stdI).op = 86 := by decide +kernel
theorem opc_inx : (foundIn (namedIs ⟨#[105, 110, 120]⟩ 0) stdI).op = 70 := by decide +kernel
theorem opc_iny : (foundIn (namedIs ⟨#[105, 110, 121]⟩ 0) stdI).op = 71 := by decide +kernel
theorem opc_dex : (foundIn (namedIs ⟨#[100, 101, 120]⟩ 0) stdI).op = 72 := by decide +kernel
theorem opc_bne : (foundIn (namedIs ⟨#[98, 110, 101]⟩ 7) stdI).op = 88 := by decide +kernel
theorem opc_nop : (foundIn (namedIs ⟨#[110, 111, 112]⟩ 0) stdI).op = 78 := by decide +kernel
theorem oc_ldx1 (w : World) : Calls Try.prog 31 #[.string ⟨#[108, 100, 120]⟩, .int .i64 1] w fun e w' => e = .returned (.int .u8 8) ∧ Below w.heap.size w w' := opcode_any ⟨#[108, 100, 120]⟩ 1 8 (by decide) opc_ldx1 w
theorem oc_lda1 (w : World) : Calls Try.prog 31 #[.string ⟨#[108, 100, 97]⟩, .int .i64 1] w fun e w' => e = .returned (.int .u8 1) ∧ Below w.heap.size w w' := opcode_any ⟨#[108, 100, 97]⟩ 1 1 (by decide) opc_lda1 w
theorem oc_sta3 (w : World) : Calls Try.prog 31 #[.string ⟨#[115, 116, 97]⟩, .int .i64 3] w fun e w' => e = .returned (.int .u8 15) ∧ Below w.heap.size w w' := opcode_any ⟨#[115, 116, 97]⟩ 3 15 (by decide) opc_sta3 w
theorem oc_lda2 (w : World) : Calls Try.prog 31 #[.string ⟨#[108, 100, 97]⟩, .int .i64 2] w fun e w' => e = .returned (.int .u8 2) ∧ Below w.heap.size w w' := opcode_any ⟨#[108, 100, 97]⟩ 2 2 (by decide) opc_lda2 w
theorem oc_ldy4 (w : World) : Calls Try.prog 31 #[.string ⟨#[108, 100, 121]⟩, .int .i64 4] w fun e w' => e = .returned (.int .u8 13) ∧ Below w.heap.size w w' := opcode_any ⟨#[108, 100, 121]⟩ 4 13 (by decide) opc_ldy4 w
theorem oc_ldy1 (w : World) : Calls Try.prog 31 #[.string ⟨#[108, 100, 121]⟩, .int .i64 1] w fun e w' => e = .returned (.int .u8 11) ∧ Below w.heap.size w w' := opcode_any ⟨#[108, 100, 121]⟩ 1 11 (by decide) opc_ldy1 w
theorem oc_pha (w : World) : Calls Try.prog 31 #[.string ⟨#[112, 104, 97]⟩, .int .i64 0] w fun e w' => e = .returned (.int .u8 79) ∧ Below w.heap.size w w' := opcode_any ⟨#[112, 104, 97]⟩ 0 79 (by decide) opc_pha w
theorem oc_pla (w : World) : Calls Try.prog 31 #[.string ⟨#[112, 108, 97]⟩, .int .i64 0] w fun e w' => e = .returned (.int .u8 80) ∧ Below w.heap.size w w' := opcode_any ⟨#[112, 108, 97]⟩ 0 80 (by decide) opc_pla w
theorem oc_jsr (w : World) : Calls Try.prog 31 #[.string ⟨#[106, 115, 114]⟩, .int .i64 4] w fun e w' => e = .returned (.int .u8 84) ∧ Below w.heap.size w w' := opcode_any ⟨#[106, 115, 114]⟩ 4 84 (by decide) opc_jsr w
theorem oc_rts (w : World) : Calls Try.prog 31 #[.string ⟨#[114, 116, 115]⟩, .int .i64 0] w fun e w' => e = .returned (.int .u8 85) ∧ Below w.heap.size w w' := opcode_any ⟨#[114, 116, 115]⟩ 0 85 (by decide) opc_rts w
theorem oc_rti (w : World) : Calls Try.prog 31 #[.string ⟨#[114, 116, 105]⟩, .int .i64 0] w fun e w' => e = .returned (.int .u8 86) ∧ Below w.heap.size w w' := opcode_any ⟨#[114, 116, 105]⟩ 0 86 (by decide) opc_rti w
theorem oc_inx (w : World) : Calls Try.prog 31 #[.string ⟨#[105, 110, 120]⟩, .int .i64 0] w fun e w' => e = .returned (.int .u8 70) ∧ Below w.heap.size w w' := opcode_any ⟨#[105, 110, 120]⟩ 0 70 (by decide) opc_inx w
theorem oc_iny (w : World) : Calls Try.prog 31 #[.string ⟨#[105, 110, 121]⟩, .int .i64 0] w fun e w' => e = .returned (.int .u8 71) ∧ Below w.heap.size w w' := opcode_any ⟨#[105, 110, 121]⟩ 0 71 (by decide) opc_iny w
theorem oc_dex (w : World) : Calls Try.prog 31 #[.string ⟨#[100, 101, 120]⟩, .int .i64 0] w fun e w' => e = .returned (.int .u8 72) ∧ Below w.heap.size w w' := opcode_any ⟨#[100, 101, 120]⟩ 0 72 (by decide) opc_dex w
theorem oc_bne (w : World) : Calls Try.prog 31 #[.string ⟨#[98, 110, 101]⟩, .int .i64 7] w fun e w' => e = .returned (.int .u8 88) ∧ Below w.heap.size w w' := opcode_any ⟨#[98, 110, 101]⟩ 7 88 (by decide) opc_bne w
theorem oc_nop (w : World) : Calls Try.prog 31 #[.string ⟨#[110, 111, 112]⟩, .int .i64 0] w fun e w' => e = .returned (.int .u8 78) ∧ Below w.heap.size w w' := opcode_any ⟨#[110, 111, 112]⟩ 0 78 (by decide) opc_nop w
/-- Both at once: a call of the one is not to be compared with a call of the other. -/
theorem oc_lda (mode : Int) (h : mode = 1 ∨ mode = 2) (w : World) : Calls Try.prog 31 #[.string ⟨#[108, 100, 97]⟩, .int .i64 mode] w fun e w' => e = .returned (.int .u8 mode) ∧ Below w.heap.size w w' := by
  rcases h with rfl | rfl
  · exact oc_lda1 w
  · exact oc_lda2 w
end Go.Proofs.Ytdiajkgebicnnaa
