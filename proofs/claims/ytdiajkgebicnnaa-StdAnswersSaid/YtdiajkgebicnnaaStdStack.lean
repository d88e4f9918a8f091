/- The law StdStack: what is pushed is pulled again, and a subroutine returns behind its call. -/
import Derived.Test.YtdiajkgebicnnaaChecked
import Derived.Test.YtdiajkgebicnnaaLinM
import Derived.Test.YtdiajkgebicnnaaStdOp
import Derived.Test.YtdiajkgebicnnaaStdStaM
import Derived.Below
import Derived.BigQuiet
import Derived.Carry
import Derived.ChangeMaps5
import Derived.Deep.AppendLies
import Derived.Deep.CutBlock
import Derived.Deep.DeepAppendWide
import Derived.Deep.DeepCutAuto
import Derived.Deep.Draws
import Derived.Deep.MidRow
import Derived.Deep.OwnRows
import Derived.Deep.QuietTactic
import Derived.Deep.RegionHeld
import Derived.Deep.RegionHeld3
import Derived.Deep.RegionLaw
import Derived.Deep.RegionWith
import Derived.Deep.Slices
import Derived.Deep.WholeRow
import Derived.DeepKeys4
import Derived.Great.BuildSlice
import Derived.KernelRfl
import Derived.Laws.CopyOwn
import Derived.Laws.OwnMore
import Derived.Laws.StructEq
import Derived.Lib.Bytealg
import Derived.Lib.Hide
import Derived.Lib.IndexAny
import Derived.Lib.SliceRun
import Derived.Lib.SmallJoins
import Derived.Lib.Walk
import Derived.Maps.Keyed
import Derived.Maps.OwnSet
import Derived.Maps.Views
import Derived.OpenShut
import Derived.OrdersHeld
import Derived.OwnWalk
import Derived.RangeFuncBox
import Derived.RowKit3
import Derived.Shelf.Abstract
import Derived.SizedLaws
import Derived.StillTactics
import Derived.StillTail
import Derived.StillTailTactics
import Derived.WalkKit
namespace Go.Proofs.Ytdiajkgebicnnaa
open Go.RowKit
set_option maxRecDepth 100000
theorem rdyW.put {w0 w : World} {g b q : Nat} {ks : Array Value} {m : Nat → Int} (h : rdyW w0 w g b q ks m) {k : Nat} (hk : k < 65536) (d : Int) (hd : 0 ≤ d ∧ d < 256) : rdyW w0 (w.setCell ⟨b, k, none⟩ (.int .u8 d)) g b q ks (fun j => if j = k then d else m j) :=
  ⟨rowB_other h.hk _ _ (fun e => h.ng (.inr e.symm)), h.mem.put hk d hd, h.bel.setCell (p := ⟨b, k, none⟩) h.lb _, h.lg, h.lb, h.lq, h.ng⟩
theorem rdyW.reg {w0 w : World} {g b q : Nat} {f : Nat → Int} {op pl : Int} {n : Bool} {m : Nat → Int} (h : rdyW w0 w g b q (core12 f op pl n) m) (k : Nat) (hk : k < 9) (x : Int) : rdyW w0 (w.setCell ⟨q, k, none⟩ (.int .i64 x)) g b q (core12 (setR f k x) op pl n) m :=
  ⟨coreB_setReg h.hk k x hk, h.mem.off (fun j hj => heap_setCell_other w ⟨q, k, none⟩ j _ (fun e => h.ng (by have e2 : j = q := e; rw [← e2]; exact hj))), h.bel.setCell (p := ⟨q, k, none⟩) h.lq _, h.lg, h.lb, h.lq, h.ng⟩
set_option maxHeartbeats 40000000 in
theorem stdStack_walk (vr : Value) (lr : List Int) (n s : Int) (w : World) (h2 : isArg w vr lr) (hwf2 : ∀ x ∈ lr, (Lit.int .i64 x).wf = true) (his : -9223372036854775808 ≤ s ∧ s ≤ 9223372036854775807) :
    Calls Try.prog 7 #[vr, .int .i64 n, .int .i64 s] w fun e w' => e = .returned (.bool true) ∧ Below w.heap.size w w' := by
  obtain ⟨t1, t2, t3, rfl⟩ : ∃ a n c, vr = .slice a n c := by
    rcases h2 with ⟨a, cap, rfl, _⟩ | ⟨b, off, cap, rfl, _⟩ <;> exact ⟨_, _, _, rfl⟩
  have lo8 := fun n w => low_any n 8 w
  rw [show wd 8 = 8 from rfl] at lo8
  simp only [lo8_eq] at lo8
  have LO8 := Lib.hid lo8
  clear lo8
  obtain ⟨N, hN⟩ : ∃ N, N = n % 256 := ⟨_, rfl⟩
  obtain ⟨SS, hS⟩ : ∃ SS, SS = s % 256 := ⟨_, rfl⟩
  have hbs := fun w => below_any s 256 his (by decide) w
  rw [← hS] at hbs
  have HBS := Lib.hid hbs
  have hln := fun w => LO8.out n w
  rw [← hN] at hln
  have HLN := Lib.hid hln
  have bN : 0 ≤ N ∧ N < 256 := by omega
  have bS : 0 ≤ SS ∧ SS < 256 := by omega
  have hx2 : IntKind.u8.wrap n = N := by show n % 256 = N; exact hN.symm
  clear hbs hln hN hS his
  have hready : ∀ wc, Below w.heap.size w wc → Calls Try.prog 30 #[.slice t1 t2 t3, .slice (some ⟨wc.heap.size, 0, none⟩) 9 9] (wc.alloc (.cells #[.int .u8 1, .int .u8 N, .int .u8 79, .int .u8 84, .int .u8 0, .int .u8 8, .int .u8 1, .int .u8 5, .int .u8 80] 5)) (readyEnd (wc.alloc (.cells #[.int .u8 1, .int .u8 N, .int .u8 79, .int .u8 84, .int .u8 0, .int .u8 8, .int .u8 1, .int .u8 5, .int .u8 80] 5)) (stackP N)) := fun wc hb => by
    have b2 := hb.alloc hb.size (.cells #[.int .u8 1, .int .u8 N, .int .u8 79, .int .u8 84, .int .u8 0, .int .u8 8, .int .u8 1, .int .u8 5, .int .u8 80] 5)
    refine ready_any (.slice t1 t2 t3) lr _ (stackP N) _ (isArg_below h2 b2 (Nat.le_refl _)) hwf2 (bytes_lit wc (stackP N) _ (by simp [stackP]) ?_ 9 rfl) (by simp [stackP])
    intro y hy
    simp only [stackP, List.mem_cons, List.not_mem_nil, or_false] at hy
    rcases hy with rfl | rfl | rfl | rfl | rfl | rfl | rfl | rfl | rfl <;> omega
  have HREADY := Lib.hid hready
  clear hready h2 hwf2
  have hbc : Below w.heap.size w w := Below.refl _ _
  go_enter Try.func7, Try.ntmps7
  go_upto_region 2 with (first
    | (go_at_call_of 31 (Value.string ⟨#[108, 100, 97]⟩); refine (oc_lda _ (by decide) _).mono ?_; rintro e wq ⟨rfl, hbq⟩; replace hbc := hbc.trans (hbq.mono hbc.size); clear hbq)
    | (go_at_call_of 31 (Value.string ⟨#[112, 104, 97]⟩); refine (oc_pha _).mono ?_; rintro e wq ⟨rfl, hbq⟩; replace hbc := hbc.trans (hbq.mono hbc.size); clear hbq)
    | (go_at_call_of 31 (Value.string ⟨#[106, 115, 114]⟩); refine (oc_jsr _).mono ?_; rintro e wq ⟨rfl, hbq⟩; replace hbc := hbc.trans (hbq.mono hbc.size); clear hbq)
    | (go_at_call_of 31 (Value.string ⟨#[112, 108, 97]⟩); refine (oc_pla _).mono ?_; rintro e wq ⟨rfl, hbq⟩; replace hbc := hbc.trans (hbq.mono hbc.size); clear hbq)
    | (go_at_call 30; refine (HREADY.out _ hbc).mono ?_; rintro e w2 ⟨f, g, b, rfl, hf, h7, hm, lg, lb, hb⟩; have H7 := Lib.hid h7; clear h7; have nz := rowB_new w2 57 (core12 (fun _ => 0) 0 0 false); replace hbc := hbc.alloc hbc.size (.cells #[.int .u8 1, .int .u8 N, .int .u8 79, .int .u8 84, .int .u8 0, .int .u8 8, .int .u8 1, .int .u8 5, .int .u8 80] 5))
    | (refine wpList_storeR rfl 57 _ _ rfl (w2.heap.size) rfl (core12 f (-1) 0 false) rfl (core12_one _ _ _ _) 57 (core12 (fun _ => 0) 0 0 false) rfl ?_ agK ?_; exact nz))
  have hW := rdyW.start hbc hm lg lb hb (core12 f (-1) 0 false)
  change Code.wp _ _ _ _ ((w2.alloc (.cells (core12 (fun _ => 0) 0 0 false) 57)).setRow w2.heap.size (core12 f (-1) 0 false))
  generalize (w2.alloc (.cells (core12 (fun _ => 0) 0 0 false) 57)).setRow w2.heap.size (core12 f (-1) 0 false) = w3 at *
  generalize w2.heap.size = q at *
  clear hbc hm lg lb hb nz HREADY hx2
  refine wp_region_mix (fun w' => w'.cell? ⟨g, 0, none⟩ = some (.slice (some ⟨b, 0, none⟩) 65536 65536)) [(0, 1), (1, 1), (2, 1), (3, 1), (4, 1), (5, 1), (6, 1), (7, 1), (8, 3), (9, 3), (10, 0), (11, 2), (12, 0), (13, 2)] (by kernel_rfl) (by kernel_rfl) (fun _ _ _ _ _ h => h) ?_
  simp only [List.map_cons, List.map_nil, opOf, List.getD_cons_zero, List.getD_cons_succ]
  change wpMix _ _ _ _ _ _ w3.drew
  have hW1 := hW.call (Below.refl w3.heap.size w3).drew
  have gc := rowB_cell hW1.mem.hg 0 (v := .slice (some ⟨b, 0, none⟩) 65536 65536) rfl
  generalize w3.drew = w4 at *
  clear hW
  refine wpMix_held (.pointer (some ⟨g, 0, none⟩)) rfl gc (fun w' hw' => by go_simp) ?_
  simp only [Act.put, List.setIfInBounds_toArray, List.set_cons_zero, List.set_cons_succ]
  refine wpMix_held (.pointer (some ⟨g, 0, none⟩)) rfl gc (fun w' hw' => by go_simp) ?_
  simp only [Act.put, List.setIfInBounds_toArray, List.set_cons_zero, List.set_cons_succ]
  refine wpMix_held (.pointer (some ⟨g, 0, none⟩)) rfl gc (fun w' hw' => by go_simp) ?_
  simp only [Act.put, List.setIfInBounds_toArray, List.set_cons_zero, List.set_cons_succ]
  refine wpMix_held (.slice (some ⟨b, 0, none⟩) 65536 65536) rfl gc (fun w' hw' => by go_simp) ?_
  simp only [Act.put, List.setIfInBounds_toArray, List.set_cons_zero, List.set_cons_succ]
  refine wpMix_held (.pointer (some ⟨g, 0, none⟩)) rfl gc (fun w' hw' => by go_simp) ?_
  simp only [Act.put, List.setIfInBounds_toArray, List.set_cons_zero, List.set_cons_succ]
  refine wpMix_held (.pointer (some ⟨g, 0, none⟩)) rfl gc (fun w' hw' => by go_simp) ?_
  simp only [Act.put, List.setIfInBounds_toArray, List.set_cons_zero, List.set_cons_succ]
  refine wpMix_held (.pointer (some ⟨g, 0, none⟩)) rfl gc (fun w' hw' => by go_simp) ?_
  simp only [Act.put, List.setIfInBounds_toArray, List.set_cons_zero, List.set_cons_succ]
  refine wpMix_held (.slice (some ⟨b, 0, none⟩) 65536 65536) rfl gc (fun w' hw' => by go_simp) ?_
  simp only [Act.put, List.setIfInBounds_toArray, List.set_cons_zero, List.set_cons_succ]
  refine wpMix_call ?_
  go_wp2_with (go_at_call 31; refine (oc_inx _).mono ?_; rintro e w5 ⟨rfl, hb⟩; have hW2 := hW1.call hb)
  refine ⟨fun _ => rowB_cell hW2.mem.hg 0 rfl, ?_⟩
  clear gc hW1 hb
  refine wpMix_call ?_
  go_wp2_with (go_at_call 31; refine (oc_rts _).mono ?_; rintro e w6 ⟨rfl, hb⟩; have hW3 := hW2.call hb)
  refine ⟨fun _ => rowB_cell hW3.mem.hg 0 rfl, ?_⟩
  clear hW2 hb
  (refine wpMix_still (fun K hK => ?_); go_simp; refine hK _ ?_; clear hK K)
  have c1 := hW3.mem.cell (k := 2048) (by decide)
  have f1 := hW3.mem.free 2048
  have hW4 := hW3.put (k := 2048) (by decide) 70 (by decide)
  refine wpMix_call ?_
  go_wp2_with fail
  first | refine ⟨fun h => (by cases h), ?_⟩ | skip
  generalize w6.setCell ⟨b, 2048, none⟩ (.int .u8 70) = w7 at *
  clear hW3 c1 f1
  (refine wpMix_still (fun K hK => ?_); go_simp; refine hK _ ?_; clear hK K)
  have c2 := hW4.mem.cell (k := 2049) (by decide)
  have f2 := hW4.mem.free 2049
  have hW5 : rdyW w (w7.setCell ⟨b, 2049, none⟩ (.int .u8 85)) g b q (core12 f (-1) 0 false) (stackM N) := hW4.put (k := 2049) (by decide) 85 (by decide)
  refine wpMix_call ?_
  go_wp2_with fail
  first | refine ⟨fun h => (by cases h), ?_⟩ | skip
  generalize w7.setCell ⟨b, 2049, none⟩ (.int .u8 85) = w8 at *
  clear hW4 c2 f2
  refine wpMix_nil ?_
  have c3 := coreB_reg hW5.hk 3 (by decide)
  have f3 := rowB_free hW5.hk 3
  have hW6 := hW5.reg 3 (by decide) SS
  go_upto_region 4 with (go_at_call 27; refine (HBS.out _).mono ?_; rintro e w' ⟨rfl, rfl⟩)
  generalize w8.setCell ⟨q, 3, none⟩ (.int .i64 SS) = w9 at *
  clear hW5 c3 f3
  have hF := fits_setP hf 3 SS bS.1 (by omega) (fun _ _ => bS.2)
  have hF7 : setR f 3 SS 7 = 1024 := H7.out
  have hF3 : setR f 3 SS 3 = SS := setR_same _ _ _
  generalize setR f 3 SS = F at *
  have HF7 := Lib.hid hF7
  have HF3 := Lib.hid hF3
  clear hF7 hF3 hf H7
  have nz := rowB_new w9 57 (core12 (fun _ => 0) 0 0 false)
  go_upto_region 5 with (first
    | (refine wpList_loadR rfl 57 _ rfl q rfl 57 (core12 F (-1) 0 false) ?_ agK ?_; with_reducible exact hW6.hk)
    | (refine wpList_storeR rfl 57 _ _ rfl (w9.heap.size) rfl (core12 F (-1) 0 false) rfl (core12_one _ _ _ _) 57 (core12 (fun _ => 0) 0 0 false) rfl ?_ agK ?_; exact nz))
  have lq := rowB_lt hW6.hk
  have nk : ¬ flatG g b w9.heap.size := fun h => by have := hW6.low h; omega
  have hW7 := (hW6.alloc (.cells (core12 (fun _ => 0) 0 0 false) 57)).far (k := w9.heap.size) (by omega) nk hW6.bel.size (core12 F (-1) 0 false)
  have hk7 := rowB_row nz (core12 F (-1) 0 false)
  change Code.wp _ _ _ _ ((w9.alloc (.cells (core12 (fun _ => 0) 0 0 false) 57)).setRow w9.heap.size (core12 F (-1) 0 false))
  generalize (w9.alloc (.cells (core12 (fun _ => 0) 0 0 false) 57)).setRow w9.heap.size (core12 F (-1) 0 false) = wa at *
  generalize w9.heap.size = k at *
  clear hW6 nz
  obtain ⟨f2, m2, hR, h0, h3, h1, hpc⟩ := stack_pure N bN F hF HF7.out
  have hruns := runs_any g b ⟨F, -1, 0, false⟩ (stackM N) 7 (by decide) wa hW7.mem
  rw [hR] at hruns
  rw [HF3.out] at h3
  have HRUNS := Lib.hid hruns
  have K0 := Lib.hid h0
  have K1 := Lib.hid h1
  have K3 := Lib.hid h3
  have K7 := Lib.hid hpc
  have bX := hF 1
  have bX2 := bX.2.2 (by decide) (by decide)
  have bX1 := bX.1
  clear hruns hR h0 h3 h1 hpc bX
  go_upto_region 6 with (first
      | (refine wpList_loadR rfl 57 _ rfl q rfl 57 (core12 F (-1) 0 false) ?_ agK ?_; with_reducible exact hW7.hk)
      | (go_at_call 32; refine HRUNS.out.mono ?_; rintro e wb ⟨rfl, hi, ho⟩; have hW8 := hW7.ran ho hi; have hk8 := rowB_off hk7 ho nk)
      | (refine wpList_storeR rfl 57 _ _ rfl q rfl (core12 f2 (-1) 0 false) rfl (core12_one _ _ _ _) 57 (core12 F (-1) 0 false) rfl ?_ agK ?_; with_reducible exact hW8.hk))
  have hW9 := hW8.state (core12 f2 (-1) 0 false)
  have hk9 := rowB_row_other hk8 (core12 f2 (-1) 0 false) (show q ≠ k by omega)
  generalize wb.setRow q (core12 f2 (-1) 0 false) = wd at *
  clear hW7 hk7 hW8 hk8 HRUNS ho hi
  refine wp_region_mixM (fun _ => True) 68719476734 0 [(0, 2, 0), (1, 0, 68719476732), (2, 0, 68719476632), (3, 0, 68719476624), (4, 0, 68719476608), (5, 0, 68719476672), (6, 0, 68719476608), (7, 0, 68719476480), (8, 0, 68719476224), (9, 0, 68719475712), (10, 0, 68719417344), (11, 0, 68719415296), (12, 0, 68719411200), (13, 0, 68719460352), (14, 0, 68719443968), (15, 0, 68719411200), (16, 0, 68719345664), (17, 0, 68719214592), (18, 0, 68718952448), (19, 0, 68588404736), (20, 0, 68587356160), (21, 0, 68585259008), (22, 0, 68711088128), (23, 0, 68702699520), (24, 0, 68685922304), (25, 0, 68652367872), (26, 0, 68585259008), (27, 0, 68451041280), (28, 0, 68182605824), (29, 0, 67645734912), (30, 0, 66571993088), (31, 0, 64424509440), (32, 0, 60129542144), (33, 0, 51539607552), (34, 0, 34359738368), (35, 0, 0)] (by kernel_rfl) (by kernel_rfl) (fun _ _ _ _ _ h => h) ?_
  simp only [List.map_cons, List.map_nil, opOf, List.getD_cons_zero, List.getD_cons_succ]
  change wpMix _ _ _ _ _ _ wd.drew
  have hWa := hW9.call (Below.refl wd.heap.size wd).drew
  have hka := rowB_below hk9 (Below.refl wd.heap.size wd).drew (rowB_lt hk9)
  generalize wd.drew = we at *
  clear hW9 hk9
  refine wpMix_call ?_
  go_wp2_with (go_at_call 33; refine (wholes_keep _).mono ?_; rintro e wf ⟨rfl, hb⟩; have hWb := hWa.call hb; have hkb := rowB_below hka hb (rowB_lt hka))
  first | refine ⟨fun h => (by cases h), ?_⟩ | skip
  have c0 := coreB_reg hWb.hk 0 (by decide)
  have c1 := coreB_reg hWb.hk 1 (by decide)
  have c3 := coreB_reg hWb.hk 3 (by decide)
  have c7 := coreB_reg hWb.hk 7 (by decide)
  have d1 := coreB_reg hkb 1 (by decide)
  have d3 := coreB_reg hkb 3 (by decide)
  rw [K0.out] at c0
  rw [K1.out] at c1
  rw [K3.out] at c3
  rw [K7.out] at c7
  rw [HF3.out] at d3
  have hbel := hWb.bel
  have hlx := fun w => LO8.out (F 1 + 1) w
  obtain ⟨X0, hX0⟩ : ∃ X0, X0 = F 1 := ⟨_, rfl⟩
  rw [← hX0] at hlx c1 d1 bX1 bX2
  obtain ⟨X1, hX1⟩ : ∃ X1, X1 = (X0 + 1) % 256 := ⟨_, rfl⟩
  rw [← hX1] at hlx c1
  have HLX := Lib.hid hlx
  clear hlx hX0 hX1 hWa hka hb hWb hkb
  iterate 5 (refine wpMix_still (fun K hK => ?_); go_simp; refine hK _ ?_; clear hK K)
  (refine wpMix_still (fun K hK => ?_); go_simp; refine ⟨_, ((HLN.out _).mono fun _ _ ⟨h, g⟩ => ⟨h, g.symm⟩), hK _ ?_⟩; clear hK K)
  have hlo : -9223372036854775808 ≤ X0 + 1 := by omega
  have hhi : X0 + 1 ≤ 9223372036854775807 := by omega
  have hwx : IntKind.i64.wrap (X0 + 1) = X0 + 1 := Go.IntWalk.i64_in _ ⟨hlo, hhi⟩
  iterate 18 (refine wpMix_still (fun K hK => ?_); go_simp; refine hK _ ?_; clear hK K)
  (refine wpMix_still (fun K hK => ?_); go_simp; refine hK _ ?_; clear hK K)
  (refine wpMix_still (fun K hK => ?_); go_simp; refine ⟨_, ((HLX.out _).mono fun _ _ ⟨h, g⟩ => ⟨h, g.symm⟩), hK _ ?_⟩; clear hK K)
  iterate 9 (refine wpMix_still (fun K hK => ?_); go_simp; refine hK _ ?_; clear hK K)
  refine wpMix_nil ?_
  go_wp2_with fail
  go_ret
  exact ⟨rfl, hbel⟩
end Go.Proofs.Ytdiajkgebicnnaa
