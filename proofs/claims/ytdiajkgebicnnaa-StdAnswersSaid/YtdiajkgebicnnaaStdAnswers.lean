/- The law StdAnswers: an interrupt is answered, and when it is over all is as before. -/
import Derived.Test.YtdiajkgebicnnaaBitMath
import Derived.Test.YtdiajkgebicnnaaChecked
import Derived.Test.YtdiajkgebicnnaaCoreAskA
import Derived.Test.YtdiajkgebicnnaaCoreEq
import Derived.Test.YtdiajkgebicnnaaCoreSmall
import Derived.Test.YtdiajkgebicnnaaLin
import Derived.Test.YtdiajkgebicnnaaWholeRunC
import Derived.Test.YtdiajkgebicnnaaRefArgs
import Derived.Test.YtdiajkgebicnnaaRegs
import Derived.Test.YtdiajkgebicnnaaRow
import Derived.Test.YtdiajkgebicnnaaWholes
import Derived.Test.YtdiajkgebicnnaaStdAnsM
import Derived.Test.YtdiajkgebicnnaaStdCpuC
import Derived.Test.YtdiajkgebicnnaaStdOp
import Derived.Test.YtdiajkgebicnnaaStdStack
import Derived.Test.YtdiajkgebicnnaaTabFind
import Derived.Below
import Derived.BigQuiet
import Derived.Carry
import Derived.ChangeKeysEq
import Derived.ChangeMaps5
import Derived.Deep.AppendLies
import Derived.Deep.CutBlock
import Derived.Deep.DeepAppendWide
import Derived.Deep.DeepCutAuto
import Derived.Deep.Draws
import Derived.Deep.MidRow
import Derived.Deep.OwnRows
import Derived.Deep.QuietTactic
import Derived.Deep.RegionHeld
import Derived.Deep.RegionHeld3
import Derived.Deep.RegionLaw
import Derived.Deep.RegionWith
import Derived.Deep.Slices
import Derived.Deep.WholeRow
import Derived.DeepKeys4
import Derived.Great.BuildSlice
import Derived.KernelRfl
import Derived.Laws.CopyOwn
import Derived.Laws.OwnMore
import Derived.Laws.StructEq
import Derived.Lib.Bytealg
import Derived.Lib.Hide
import Derived.Lib.IndexAny
import Derived.Lib.SliceRun
import Derived.Lib.SmallJoins
import Derived.Lib.Walk
import Derived.Maps.Keyed
import Derived.Maps.OwnSet
import Derived.Maps.Views
import Derived.OpenShut
import Derived.OrdersHeld
import Derived.OwnWalk
import Derived.RangeFuncBox
import Derived.RowKit3
import Derived.Shelf.Abstract
import Derived.SizedLaws
import Derived.StillTactics
import Derived.StillTail
import Derived.StillTailTactics
import Derived.WalkKit
namespace Go.Proofs.Ytdiajkgebicnnaa
open Go.RowKit
set_option maxRecDepth 100000
/-- The blocks of the law: the state in q, the state that was in z, the processor in p. -/
structure answW (w0 w : World) (g b q z p : Nat) (ks zs cpu : Array Value) (v0 v1 v2 v3 : Value) (m : Nat → Int) : Prop where
  r : rdyW w0 w g b q ks m
  hz : rowB w z 57 zs
  hp : rowB w p 70 cpu
  std : stdAt w v0 v1 v2 v3
  nz : ¬ flatG g b z
  np : ¬ flatG g b p
  qz : q ≠ z
  qp : q ≠ p
section
variable {w0 w w' : World} {g b q z p : Nat} {ks zs cpu : Array Value} {v0 v1 v2 v3 : Value} {m : Nat → Int}
theorem answW.ran {m' : Nat → Int} (h : answW w0 w g b q z p ks zs cpu v0 v1 v2 v3 m) (ho : Off (flatG g b) w w') (hi : flatW g b w' m') : answW w0 w' g b q z p ks zs cpu v0 v1 v2 v3 m' :=
  ⟨h.r.ran ho hi, rowB_off h.hz ho h.nz, rowB_off h.hp ho h.np, h.std.off h.r.mem ho, h.nz, h.np, h.qz, h.qp⟩
theorem answW.call (h : answW w0 w g b q z p ks zs cpu v0 v1 v2 v3 m) (hb : Below w.heap.size w w') : answW w0 w' g b q z p ks zs cpu v0 v1 v2 v3 m :=
  ⟨h.r.call hb, rowB_below h.hz hb (rowB_lt h.hz), rowB_below h.hp hb (rowB_lt h.hp), h.std.below hb, h.nz, h.np, h.qz, h.qp⟩
theorem answW.state (h : answW w0 w g b q z p ks zs cpu v0 v1 v2 v3 m) (cs : Array Value) : answW w0 (w.setRow q cs) g b q z p cs zs cpu v0 v1 v2 v3 m :=
  ⟨h.r.state cs, rowB_row_other h.hz cs h.qz, rowB_row_other h.hp cs h.qp, h.std.safe (safe_row h.r.hk (by unfold kindK; decide) cs), h.nz, h.np, h.qz, h.qp⟩
end
theorem noI_byte {x : Int} (h : 0 ≤ x ∧ x < 256) : 0 ≤ bits .andNot .i64 x 4 ∧ bits .andNot .i64 x 4 < 256 ∧ bits .andNot .i64 x 4 / 4 % 2 = 0 := by
  obtain ⟨k, rfl⟩ := byte_fin h
  exact (by decide +kernel : ∀ k : Fin 256, 0 ≤ bits .andNot .i64 (k.val : Int) 4 ∧ bits .andNot .i64 (k.val : Int) 4 < 256 ∧ bits .andNot .i64 (k.val : Int) 4 / 4 % 2 = 0) k
theorem core_eq {f h : Nat → Int} (op pl : Int) (n : Bool) (e : ∀ k, f k = h k) : core12 f op pl n = core12 h op pl n := by
  unfold core12; simp only [e]
set_option maxHeartbeats 40000000 in
theorem stdAnswers_walk (vr : Value) (lr : List Int) (how : Bool) (w : World) (h2 : isArg w vr lr) (hwf2 : ∀ x ∈ lr, (Lit.int .i64 x).wf = true) :
    Calls Try.prog 8 #[vr, .bool how] w fun e w' => e = .returned (.bool true) ∧ Below w.heap.size w w' := by
  obtain ⟨t1, t2, t3, rfl⟩ : ∃ a n c, vr = .slice a n c := by
    rcases h2 with ⟨a, cap, rfl, _⟩ | ⟨b, off, cap, rfl, _⟩ <;> exact ⟨_, _, _, rfl⟩
  have hready : ∀ wc, Below w.heap.size w wc → Calls Try.prog 30 #[.slice t1 t2 t3, .slice (some ⟨wc.heap.size, 0, none⟩) 1 1] (wc.alloc (.cells #[.int .u8 78] 5)) (readyEnd (wc.alloc (.cells #[.int .u8 78] 5)) [78]) := fun wc hb => by
    have b2 := hb.alloc hb.size (.cells #[.int .u8 78] 5)
    exact ready_any (.slice t1 t2 t3) lr _ [78] _ (isArg_below h2 b2 (Nat.le_refl _)) hwf2 (bytes_lit wc [78] _ (by simp) (by decide) 1 rfl) (by decide)
  have HREADY := Lib.hid hready
  clear hready h2 hwf2
  have hbc : Below w.heap.size w w := Below.refl _ _
  go_enter Try.func8, Try.ntmps8
  go_upto_region 2 with (first
    | (go_at_call 31; refine (oc_nop _).mono ?_; rintro e wq ⟨rfl, hbq⟩; replace hbc := hbc.trans (hbq.mono hbc.size); clear hbq)
    | (go_at_call 30; refine (HREADY.out _ hbc).mono ?_; rintro e w2 ⟨f, g, b, rfl, hf, h7, hm, lg, lb, hb⟩; have H7 := Lib.hid h7; clear h7; have nz := rowB_new w2 57 (core12 (fun _ => 0) 0 0 false); replace hbc := hbc.alloc hbc.size (.cells #[.int .u8 78] 5))
    | (refine wpList_storeR rfl 57 _ _ rfl (w2.heap.size) rfl (core12 f (-1) 0 false) rfl (core12_one _ _ _ _) 57 (core12 (fun _ => 0) 0 0 false) rfl ?_ agK ?_; exact nz))
  have hW := rdyW.start hbc hm lg lb hb (core12 f (-1) 0 false)
  change Code.wp _ _ _ _ ((w2.alloc (.cells (core12 (fun _ => 0) 0 0 false) 57)).setRow w2.heap.size (core12 f (-1) 0 false))
  generalize (w2.alloc (.cells (core12 (fun _ => 0) 0 0 false) 57)).setRow w2.heap.size (core12 f (-1) 0 false) = w3 at *
  generalize w2.heap.size = q at *
  clear hbc hm lg lb hb nz HREADY
  obtain ⟨x, hx⟩ : ∃ x, bits .andNot .i64 (f 4) 4 = x := ⟨_, rfl⟩
  obtain ⟨x0, x1, x2⟩ := noI_byte (fits4 hf)
  rw [hx] at x0 x1 x2
  have c4 := coreB_reg hW.hk 4 (by decide)
  have z4 := rowB_free hW.hk 4
  have hW2 := hW.reg 4 (by decide) x
  go_upto_region 3 with (fail)
  generalize w3.setCell ⟨q, 4, none⟩ (.int .i64 x) = w4 at *
  have hF := fits_setP hf 4 x x0 (by omega) (fun _ _ => x1)
  have hF7 : setR f 4 x 7 = 1024 := H7.out
  have hF4 : setR f 4 x 4 / 4 % 2 = 0 := x2
  generalize setR f 4 x = F at *
  clear hW c4 z4 hf H7 x0 x1 x2 hx
  have hW := hW2.call (Below.refl w4.heap.size w4).drew
  have hS := rowB_cell hW.mem.hg 0 (v := .slice (some ⟨b, 0, none⟩) 65536 65536) rfl
  clear hW2
  refine wp_region_mix (fun w' => w'.cell? ⟨g, 0, none⟩ = some (.slice (some ⟨b, 0, none⟩) 65536 65536)) [(0, 1), (1, 1), (2, 1), (3, 1), (4, 3), (5, 0), (6, 2)] (by kernel_rfl) (by kernel_rfl) (fun _ _ _ _ _ h => h) ?_
  simp only [List.map_cons, List.map_nil, opOf, List.getD_cons_zero, List.getD_cons_succ]
  change wpMix _ _ _ _ _ _ w4.drew
  generalize w4.drew = wx at *
  refine wpMix_held (.pointer (some ⟨g, 0, none⟩)) rfl hS (fun w' hw' => by go_simp) ?_
  simp only [Act.put, List.setIfInBounds_toArray, List.set_cons_zero, List.set_cons_succ]
  refine wpMix_held (.pointer (some ⟨g, 0, none⟩)) rfl hS (fun w' hw' => by go_simp) ?_
  simp only [Act.put, List.setIfInBounds_toArray, List.set_cons_zero, List.set_cons_succ]
  refine wpMix_held (.pointer (some ⟨g, 0, none⟩)) rfl hS (fun w' hw' => by go_simp) ?_
  simp only [Act.put, List.setIfInBounds_toArray, List.set_cons_zero, List.set_cons_succ]
  refine wpMix_held (.slice (some ⟨b, 0, none⟩) 65536 65536) rfl hS (fun w' hw' => by go_simp) ?_
  simp only [Act.put, List.setIfInBounds_toArray, List.set_cons_zero, List.set_cons_succ]
  refine wpMix_call ?_
  go_wp2_with (go_at_call 31; refine (oc_rti _).mono ?_; rintro e w5 ⟨rfl, hb⟩; have hW1 := hW.call hb; replace hS := rowB_cell hW1.mem.hg 0 (v := .slice (some ⟨b, 0, none⟩) 65536 65536) rfl)
  first | refine ⟨fun _ => hS, ?_⟩ | refine ⟨hS, ?_⟩ | refine And.intro (fun _ => hS) ?_
  (refine wpMix_still (fun K hK => ?_); go_simp; refine hK _ ?_; clear hK K)
  have c1 := hW1.mem.cell (k := 2048) (by decide)
  have f1 := hW1.mem.free 2048
  have hW2 := hW1.put (k := 2048) (by decide) 86 (by decide)
  refine wpMix_call ?_
  go_wp2_with fail
  first | refine ⟨fun h => (by cases h), ?_⟩ | skip
  try refine ⟨fun h => (by cases h), ?_⟩
  refine wpMix_nil ?_
  go_upto_region 4 with (fail)
  generalize w5.setCell ⟨b, 2048, none⟩ (.int .u8 86) = w6 at *
  clear c1 f1 hW hW1 hS hb
  have hW3 := hW2.call (Below.refl w6.heap.size w6).drew
  have gc := rowB_cell hW3.mem.hg 0 (v := .slice (some ⟨b, 0, none⟩) 65536 65536) rfl
  clear hW2
  refine wp_region_mix (fun _ => True) [(0, 0), (1, 0), (2, 0), (3, 0), (4, 0), (5, 0), (6, 0), (7, 0), (8, 0), (9, 2), (10, 0), (11, 2)] (by kernel_rfl) (by kernel_rfl) (fun _ _ _ _ _ h => h) ?_
  simp only [List.map_cons, List.map_nil, opOf, List.getD_cons_zero, List.getD_cons_succ]
  change wpMix _ _ _ _ _ _ w6.drew
  generalize w6.drew = w7 at *
  (refine wpMix_still (fun K hK => ?_); go_simp; refine hK _ ?_; clear hK K)
  (refine wpMix_still (fun K hK => ?_); go_simp; refine hK _ ?_; clear hK K)
  (refine wpMix_still (fun K hK => ?_); go_simp; refine hK _ ?_; clear hK K)
  (refine wpMix_still (fun K hK => ?_); go_simp; refine hK _ ?_; clear hK K)
  (refine wpMix_still (fun K hK => ?_); go_simp; refine hK _ ?_; clear hK K)
  (refine wpMix_still (fun K hK => ?_); go_simp; refine hK _ ?_; clear hK K)
  (refine wpMix_still (fun K hK => ?_); go_simp; refine hK _ ?_; clear hK K)
  (refine wpMix_still (fun K hK => ?_); go_simp; refine hK _ ?_; clear hK K)
  (refine wpMix_still (fun K hK => ?_); go_simp; refine hK _ ?_; clear hK K)
  have c1 := hW3.mem.cell (k := 65531) (by decide)
  have f1 := hW3.mem.free 65531
  have hW4 := hW3.put (k := 65531) (by decide) 8 (by decide)
  refine wpMix_call ?_
  go_wp2_with fail
  try refine ⟨fun h => (by cases h), ?_⟩
  generalize w7.setCell ⟨b, 65531, none⟩ (.int .u8 8) = w8 at *
  clear c1 f1 hW3 gc
  have c2 := hW4.mem.cell (k := 65535) (by decide)
  have f2 := hW4.mem.free 65535
  have hW5 : rdyW w (w8.setCell ⟨b, 65535, none⟩ (.int .u8 8)) g b q (core12 F (-1) 0 false) (ansM [78]) := hW4.put (k := 65535) (by decide) 8 (by decide)
  (refine wpMix_still (fun K hK => ?_); go_simp; refine hK _ ?_; clear hK K)
  refine wpMix_call ?_
  go_wp2_with fail
  try refine ⟨fun h => (by cases h), ?_⟩
  refine wpMix_nil ?_
  generalize w8.setCell ⟨b, 65535, none⟩ (.int .u8 8) = w9 at *
  clear c2 f2 hW4
  have nz := rowB_new w9 57 (core12 (fun _ => 0) 0 0 false)
  go_upto_region 6 with (first
    | (refine wpList_loadR rfl 57 _ rfl q rfl 57 (core12 F (-1) 0 false) ?_ agK ?_; with_reducible exact hW5.hk)
    | (refine wpList_storeR rfl 57 _ _ rfl w9.heap.size rfl (core12 F (-1) 0 false) rfl (core12_one _ _ _ _) 57 (core12 (fun _ => 0) 0 0 false) rfl ?_ agK ?_; exact nz))
  have lq := rowB_lt hW5.hk
  have nk : ¬ flatG g b w9.heap.size := fun h => by have := hW5.low h; omega
  have hW7 := (hW5.alloc (.cells (core12 (fun _ => 0) 0 0 false) 57)).far (k := w9.heap.size) (by omega) nk hW5.bel.size (core12 F (-1) 0 false)
  have hk7 := rowB_row nz (core12 F (-1) 0 false)
  change Code.wp _ _ _ _ ((w9.alloc (.cells (core12 (fun _ => 0) 0 0 false) 57)).setRow w9.heap.size (core12 F (-1) 0 false))
  generalize (w9.alloc (.cells (core12 (fun _ => 0) 0 0 false) 57)).setRow w9.heap.size (core12 F (-1) 0 false) = wa at *
  have qz : q ≠ w9.heap.size := by omega
  generalize w9.heap.size = z at *
  clear hW5 nz lq
  obtain ⟨a, ma, hans, ha7, haI, hb, hrun, hk⟩ := ans_pure [78] (by decide) (by decide) how F hF hF7 hF4
  have HANS := Lib.hid hans
  have HA7 := Lib.hid ha7
  have HRUN := Lib.hid hrun
  have HK := Lib.hid hk
  clear hans ha7 hrun hk hF7 hF4
  cases how
  · go_upto_region 8 with (fail)
    have hW9 := hW7
    have hkz := hk7
    clear hW7 hk7
    generalize wa = wb at *
    go_upto_region 9 with (first
      | (go_at_call 36; refine (cpu_end _).mono ?_; rintro e wc ⟨a0, n0, c0, a1, n1, c1, a2, n2, c2, a3, n3, c3, rfl, -, hs, hbc⟩; have nz := rowB_new wc 70 (cpu5 ⟨#[]⟩ (.slice none 0 0) (.slice none 0 0) (.slice none 0 0) (.slice none 0 0)))
      | (refine wpList_storeR rfl 70 _ _ rfl (wc.heap.size) rfl (cpu5 stdC.name (.slice a0 n0 c0) (.slice a1 n1 c1) (.slice a2 n2 c2) (.slice a3 n3 c3)) rfl (cpu5_one _ _ _ _ _ _ _ _ _ _ _ _) 70 (cpu5 ⟨#[]⟩ (.slice none 0 0) (.slice none 0 0) (.slice none 0 0) (.slice none 0 0)) rfl ?_ agP ?_; exact nz))
    have bs := below_rowR ((Below.refl wc.heap.size wc).alloc (Nat.le_refl _) (.cells (cpu5 ⟨#[]⟩ (.slice none 0 0) (.slice none 0 0) (.slice none 0 0) (.slice none 0 0)) 70)) (g := wc.heap.size) (cpu5 stdC.name (.slice a0 n0 c0) (.slice a1 n1 c1) (.slice a2 n2 c2) (.slice a3 n3 c3)) (Nat.le_refl _)
    have bb := hbc.trans (bs.mono hbc.size)
    have lq := rowB_lt hW9.hk
    have lz := rowB_lt hkz
    have lc := hbc.size
    have hA : answW w ((wc.alloc (.cells (cpu5 ⟨#[]⟩ (.slice none 0 0) (.slice none 0 0) (.slice none 0 0) (.slice none 0 0)) 70)).setRow wc.heap.size (cpu5 stdC.name (.slice a0 n0 c0) (.slice a1 n1 c1) (.slice a2 n2 c2) (.slice a3 n3 c3))) g b q z wc.heap.size (core12 F (-1) 0 false) (core12 F (-1) 0 false) (cpu5 stdC.name (.slice a0 n0 c0) (.slice a1 n1 c1) (.slice a2 n2 c2) (.slice a3 n3 c3)) (.slice a0 n0 c0) (.slice a1 n1 c1) (.slice a2 n2 c2) (.slice a3 n3 c3) (ansM [78]) :=
      ⟨hW9.call bb, rowB_below hkz bb lz, rowB_row nz (cpu5 stdC.name (.slice a0 n0 c0) (.slice a1 n1 c1) (.slice a2 n2 c2) (.slice a3 n3 c3)), hs.below bs, nk, fun h => by have := hW9.low h; omega, qz, by omega⟩
    change Code.wp _ _ _ _ ((wc.alloc (.cells (cpu5 ⟨#[]⟩ (.slice none 0 0) (.slice none 0 0) (.slice none 0 0) (.slice none 0 0)) 70)).setRow wc.heap.size (cpu5 stdC.name (.slice a0 n0 c0) (.slice a1 n1 c1) (.slice a2 n2 c2) (.slice a3 n3 c3)))
    generalize (wc.alloc (.cells (cpu5 ⟨#[]⟩ (.slice none 0 0) (.slice none 0 0) (.slice none 0 0) (.slice none 0 0)) 70)).setRow wc.heap.size (cpu5 stdC.name (.slice a0 n0 c0) (.slice a1 n1 c1) (.slice a2 n2 c2) (.slice a3 n3 c3)) = wd at *
    generalize wc.heap.size = p at *
    clear hW9 hkz hs hbc nz bs bb lq lz lc nk
    go_wp2_with fail
    go_loopw [9] (fun i wr => ∃ (j : Nat) (k' : Ks) (m' : Nat → Int), j ≤ 6 ∧ i = .int .i64 j ∧ cycN ⟨F, -1, 0, false⟩ (ansM [78]) j = (k', m') ∧ answW w wr g b q z p k'.row (core12 F (-1) 0 false) (cpu5 stdC.name (.slice a0 n0 c0) (.slice a1 n1 c1) (.slice a2 n2 c2) (.slice a3 n3 c3)) (.slice a0 n0 c0) (.slice a1 n1 c1) (.slice a2 n2 c2) (.slice a3 n3 c3) m') (fun i _ => 6 - (intOf i).toNat)
    case atStart => exact ⟨0, ⟨F, -1, 0, false⟩, ansM [78], Nat.zero_le _, rfl, rfl, hA⟩
    case round =>
      clear hA
      obtain ⟨j, k', m', hj, rfl, hc, hA⟩ := hrel
      have HC := Lib.hid hc
      clear hc
      by_cases hlt : j < 6
      · have hd : decide ((j : Int) < 6) = true := decide_eq_true (by omega)
        have hcyc := cycle_std k' true m' wr hA.r.mem hA.std
        obtain ⟨⟨K2, u2, m2⟩, hK⟩ : ∃ x, x = cycK flatF stdC k' true m' := ⟨_, rfl⟩
        rw [← hK] at hcyc
        have HN := Lib.hid (show cycN ⟨F, -1, 0, false⟩ (ansM [78]) (j + 1) = (K2, m2) by
          show ((cycK flatF stdC (cycN ⟨F, -1, 0, false⟩ (ansM [78]) j).1 true (cycN ⟨F, -1, 0, false⟩ (ansM [78]) j).2).1, (cycK flatF stdC (cycN ⟨F, -1, 0, false⟩ (ansM [78]) j).1 true (cycN ⟨F, -1, 0, false⟩ (ansM [78]) j).2).2.2) = _
          rw [HC.out, ← hK])
        have HCYC := Lib.hid hcyc
        clear hcyc hK HC
        go_wp2_with (first
          | (refine wpList_loadR rfl 70 _ rfl p rfl 70 (cpu5 stdC.name (.slice a0 n0 c0) (.slice a1 n1 c1) (.slice a2 n2 c2) (.slice a3 n3 c3)) ?_ agP ?_; with_reducible exact hA.hp)
          | (refine wpList_loadR rfl 57 _ rfl q rfl 57 k'.row ?_ agK ?_; with_reducible exact hA.r.hk)
          | (go_at_call 37; refine HCYC.out.mono ?_; rintro e we ⟨rfl, hi, ho⟩; have hA2 := hA.ran ho hi)
          | (refine wpList_storeR rfl 57 _ _ rfl q rfl K2.row rfl (core12_one _ _ _ _) 57 k'.row rfl ?_ agK ?_; with_reducible exact hA2.r.hk))
        go_roundw
        case measure => simp [intOf]; omega
        case rel => exact ⟨j + 1, K2, m2, by omega, by go_num, HN.out, hA2.state _⟩
      · have hd : decide ((j : Int) < 6) = false := decide_eq_false (by omega)
        obtain rfl : j = 6 := by omega
        obtain ⟨rfl, rfl⟩ : k' = ⟨a, -1, 0, false⟩ ∧ m' = ma := by
          have := HC.out.symm.trans HANS.out
          exact ⟨congrArg Prod.fst this, congrArg Prod.snd this⟩
        clear HC HANS
        have hruns := fun w h => runs_any g b ⟨a, -1, 0, false⟩ m' 1 (by decide) w h
        simp only [HRUN.out] at hruns
        have HRUNS := Lib.hid hruns
        clear hruns
        go_upto_region 16 with (first
          | (go_at_call 33; refine (wholes_keep _).mono ?_; rintro e wf ⟨rfl, hbf⟩; have hA2 := hA.call hbf; have hkk : coreB wf q 57 a (-1) 0 false := hA2.r.hk; have d9 := coreB_op hkk; have d7 := coreB_reg hkk 7 (by decide); have d4 := coreB_reg hkk 4 (by decide); have d11 := coreB_nm hkk; rw [HA7.out] at d7)
          | (refine wpList_loadR rfl 57 _ rfl q rfl 57 (Ks.row ⟨a, -1, 0, false⟩) ?_ agK ?_; with_reducible exact hA2.r.hk)
          | (go_at_call 32; refine (HRUNS.out _ hA2.r.mem).mono ?_; rintro e wg ⟨rfl, hi, ho⟩; have hA3 := hA2.ran ho hi)
          | (refine wpList_storeR rfl 57 _ _ rfl q rfl (Ks.row ⟨hb, -1, 0, false⟩) rfl (core12_one _ _ _ _) 57 (Ks.row ⟨a, -1, 0, false⟩) rfl ?_ agK ?_; with_reducible exact hA3.r.hk))
        have hA4 := hA3.state (core12 hb (-1) 0 false)
        have hkq : coreB (wg.setRow q (core12 hb (-1) 0 false)).drew q 57 hb (-1) 0 false := hA4.r.hk
        have hS : coreB (wg.setRow q (core12 hb (-1) 0 false)).drew z 57 F (-1) 0 false := hA4.hz
        have bel := hA4.r.bel.drew
        have lq := hA4.r.lq
        change Code.wp _ _ _ _ (wg.setRow q (core12 hb (-1) 0 false))
        generalize wg.setRow q (core12 hb (-1) 0 false) = wh at *
        clear hA hA2 hA3 hA4 hi ho d9 d7 d4 d11 hkk hbf HRUN HRUNS hd hlt hj
        have y5 := coreB_reg hS 5 (by decide)
        have d5 := coreB_reg hkq 5 (by decide)
        have e5 := rowB_free hkq 5
        refine wp_region_mix (fun w' => rowB w' z 57 (core12 F (-1) 0 false)) [(0, 0), (1, 0), (2, 0), (3, 1), (4, 1), (5, 1), (6, 0), (7, 0), (9, 1), (8, 3), (10, 0), (11, 2)] (by kernel_rfl) (by kernel_rfl) (fun _ _ _ _ _ h => h) ?_
        simp only [List.map_cons, List.map_nil, opOf, List.getD_cons_zero, List.getD_cons_succ]
        change wpMix _ _ _ _ _ _ wh.drew
        generalize wh.drew = wv at *
        (refine wpMix_still (fun K hK => ?_); go_simp; refine hK _ ?_; clear hK K)
        (refine wpMix_still (fun K hK => ?_); go_simp; refine hK _ ?_; clear hK K)
        (refine wpMix_still (fun K hK => ?_); go_simp; refine hK _ ?_; clear hK K)
        refine wpMix_held (.pointer (some ⟨z, 0, none⟩)) rfl hS (fun w' hw' => by go_simp) ?_
        simp only [Act.put, List.setIfInBounds_toArray, List.set_cons_zero, List.set_cons_succ]
        refine wpMix_held (.pointer (some ⟨z, 6, none⟩)) rfl hS (fun w' hw' => by go_simp) ?_
        simp only [Act.put, List.setIfInBounds_toArray, List.set_cons_zero, List.set_cons_succ]
        refine wpMix_held (.int .i64 (F 6)) rfl hS (fun w' hw' => by have := coreB_reg hw' 6 (by decide); go_simp) ?_
        simp only [Act.put, List.setIfInBounds_toArray, List.set_cons_zero, List.set_cons_succ]
        (refine wpMix_still (fun K hK => ?_); go_simp; refine hK _ ?_; clear hK K)
        (refine wpMix_still (fun K hK => ?_); go_simp; refine hK _ ?_; clear hK K)
        refine wpMix_held (.pointer (some ⟨q, 0, none⟩)) rfl hS (fun w' hw' => by go_simp) ?_
        simp only [Act.put, List.setIfInBounds_toArray, List.set_cons_zero, List.set_cons_succ]
        refine wpMix_call ?_
        go_wp2_with fail
        have hkq := coreB_setReg hkq 5 (F 5) (by decide)
        have hS := rowB_other hS ⟨q, 5, none⟩ (.int .i64 (F 5)) qz
        have bel := bel.setCell (p := ⟨q, 5, none⟩) lq (.int .i64 (F 5))
        generalize wv.setCell ⟨q, 5, none⟩ (.int .i64 (F 5)) = wi at *
        clear d5 e5 y5
        have d6 := coreB_reg hkq 6 (by decide)
        have e6 := rowB_free hkq 6
        first | refine ⟨fun _ => hS, ?_⟩ | refine ⟨hS, ?_⟩ | refine And.intro (fun _ => hS) ?_
        (refine wpMix_still (fun K hK => ?_); go_simp; refine hK _ ?_; clear hK K)
        refine wpMix_call ?_
        go_wp2_with fail
        have hkq := coreB_setReg hkq 6 (F 6) (by decide)
        have bel := bel.setCell (p := ⟨q, 6, none⟩) lq (.int .i64 (F 6))
        have hS := rowB_other hS ⟨q, 6, none⟩ (.int .i64 (F 6)) qz
        generalize wi.setCell ⟨q, 6, none⟩ (.int .i64 (F 6)) = wj at *
        try refine ⟨fun h => (by cases h), ?_⟩
        refine wpMix_nil ?_
        go_upto_region 17 with (fail)
        have heq : core12 (setR (setR hb 5 (F 5)) 6 (F 6)) (-1) 0 false = core12 F (-1) 0 false := core_eq _ _ _ fun k => by
          by_cases k6 : k = 6
          · subst k6; rfl
          · by_cases k5 : k = 5
            · subst k5; rfl
            · rw [← HK.out k k5 k6]
              unfold setR
              rw [if_neg k6, if_neg k5]
        have hkF : coreB wj q 57 F (-1) 0 false := rowB_eq hkq heq
        have hq1 := fun w => equal12 F (-1) 0 false w
        have hgK : Try.prog.eqGuardType Try.prog.depth 57 = false := by kernel_rfl
        go_wp2_with (first
          | (refine wpList_loadR rfl 57 _ rfl q rfl 57 (core12 F (-1) 0 false) ?_ agK ?_; with_reducible exact hkF)
          | (refine wpList_loadR rfl 57 _ rfl z rfl 57 (core12 F (-1) 0 false) ?_ agK ?_; with_reducible exact hS))
        go_ret
        exact ⟨rfl, bel⟩
  · go_upto_region 8 with (first
      | (refine wpList_loadR rfl 57 _ rfl q rfl 57 (core12 F (-1) 0 false) ?_ agK ?_; with_reducible exact hW7.hk)
      | (go_at_call 35; refine (nmi_any F (-1) 0 false _).mono ?_; rintro e wn ⟨rfl, hbn⟩; have hW8 := hW7.call hbn; have hk8 := rowB_below hk7 hbn (rowB_lt hk7))
      | (refine wpList_storeR rfl 57 _ _ rfl q rfl (core12 F (-1) 0 true) rfl (core12_one _ _ _ _) 57 (core12 F (-1) 0 false) rfl ?_ agK ?_; with_reducible exact hW8.hk))
    have hW9 := hW8.state (core12 F (-1) 0 true)
    have hkz := rowB_row_other hk8 (core12 F (-1) 0 true) qz
    generalize wn.setRow q (core12 F (-1) 0 true) = wb at *
    clear hW7 hk7 hW8 hk8 hbn
    go_upto_region 9 with (first
      | (go_at_call 36; refine (cpu_end _).mono ?_; rintro e wc ⟨a0, n0, c0, a1, n1, c1, a2, n2, c2, a3, n3, c3, rfl, -, hs, hbc⟩; have nz := rowB_new wc 70 (cpu5 ⟨#[]⟩ (.slice none 0 0) (.slice none 0 0) (.slice none 0 0) (.slice none 0 0)))
      | (refine wpList_storeR rfl 70 _ _ rfl (wc.heap.size) rfl (cpu5 stdC.name (.slice a0 n0 c0) (.slice a1 n1 c1) (.slice a2 n2 c2) (.slice a3 n3 c3)) rfl (cpu5_one _ _ _ _ _ _ _ _ _ _ _ _) 70 (cpu5 ⟨#[]⟩ (.slice none 0 0) (.slice none 0 0) (.slice none 0 0) (.slice none 0 0)) rfl ?_ agP ?_; exact nz))
    have bs := below_rowR ((Below.refl wc.heap.size wc).alloc (Nat.le_refl _) (.cells (cpu5 ⟨#[]⟩ (.slice none 0 0) (.slice none 0 0) (.slice none 0 0) (.slice none 0 0)) 70)) (g := wc.heap.size) (cpu5 stdC.name (.slice a0 n0 c0) (.slice a1 n1 c1) (.slice a2 n2 c2) (.slice a3 n3 c3)) (Nat.le_refl _)
    have bb := hbc.trans (bs.mono hbc.size)
    have lq := rowB_lt hW9.hk
    have lz := rowB_lt hkz
    have lc := hbc.size
    have hA : answW w ((wc.alloc (.cells (cpu5 ⟨#[]⟩ (.slice none 0 0) (.slice none 0 0) (.slice none 0 0) (.slice none 0 0)) 70)).setRow wc.heap.size (cpu5 stdC.name (.slice a0 n0 c0) (.slice a1 n1 c1) (.slice a2 n2 c2) (.slice a3 n3 c3))) g b q z wc.heap.size (core12 F (-1) 0 true) (core12 F (-1) 0 false) (cpu5 stdC.name (.slice a0 n0 c0) (.slice a1 n1 c1) (.slice a2 n2 c2) (.slice a3 n3 c3)) (.slice a0 n0 c0) (.slice a1 n1 c1) (.slice a2 n2 c2) (.slice a3 n3 c3) (ansM [78]) :=
      ⟨hW9.call bb, rowB_below hkz bb lz, rowB_row nz (cpu5 stdC.name (.slice a0 n0 c0) (.slice a1 n1 c1) (.slice a2 n2 c2) (.slice a3 n3 c3)), hs.below bs, nk, fun h => by have := hW9.low h; omega, qz, by omega⟩
    change Code.wp _ _ _ _ ((wc.alloc (.cells (cpu5 ⟨#[]⟩ (.slice none 0 0) (.slice none 0 0) (.slice none 0 0) (.slice none 0 0)) 70)).setRow wc.heap.size (cpu5 stdC.name (.slice a0 n0 c0) (.slice a1 n1 c1) (.slice a2 n2 c2) (.slice a3 n3 c3)))
    generalize (wc.alloc (.cells (cpu5 ⟨#[]⟩ (.slice none 0 0) (.slice none 0 0) (.slice none 0 0) (.slice none 0 0)) 70)).setRow wc.heap.size (cpu5 stdC.name (.slice a0 n0 c0) (.slice a1 n1 c1) (.slice a2 n2 c2) (.slice a3 n3 c3)) = wd at *
    generalize wc.heap.size = p at *
    clear hW9 hkz hs hbc nz bs bb lq lz lc nk
    go_wp2_with fail
    go_loopw [9] (fun i wr => ∃ (j : Nat) (k' : Ks) (m' : Nat → Int), j ≤ 6 ∧ i = .int .i64 j ∧ cycN ⟨F, -1, 0, true⟩ (ansM [78]) j = (k', m') ∧ answW w wr g b q z p k'.row (core12 F (-1) 0 false) (cpu5 stdC.name (.slice a0 n0 c0) (.slice a1 n1 c1) (.slice a2 n2 c2) (.slice a3 n3 c3)) (.slice a0 n0 c0) (.slice a1 n1 c1) (.slice a2 n2 c2) (.slice a3 n3 c3) m') (fun i _ => 6 - (intOf i).toNat)
    case atStart => exact ⟨0, ⟨F, -1, 0, true⟩, ansM [78], Nat.zero_le _, rfl, rfl, hA⟩
    case round =>
      clear hA
      obtain ⟨j, k', m', hj, rfl, hc, hA⟩ := hrel
      have HC := Lib.hid hc
      clear hc
      by_cases hlt : j < 6
      · have hd : decide ((j : Int) < 6) = true := decide_eq_true (by omega)
        have hcyc := cycle_std k' true m' wr hA.r.mem hA.std
        obtain ⟨⟨K2, u2, m2⟩, hK⟩ : ∃ x, x = cycK flatF stdC k' true m' := ⟨_, rfl⟩
        rw [← hK] at hcyc
        have HN := Lib.hid (show cycN ⟨F, -1, 0, true⟩ (ansM [78]) (j + 1) = (K2, m2) by
          show ((cycK flatF stdC (cycN ⟨F, -1, 0, true⟩ (ansM [78]) j).1 true (cycN ⟨F, -1, 0, true⟩ (ansM [78]) j).2).1, (cycK flatF stdC (cycN ⟨F, -1, 0, true⟩ (ansM [78]) j).1 true (cycN ⟨F, -1, 0, true⟩ (ansM [78]) j).2).2.2) = _
          rw [HC.out, ← hK])
        have HCYC := Lib.hid hcyc
        clear hcyc hK HC
        go_wp2_with (first
          | (refine wpList_loadR rfl 70 _ rfl p rfl 70 (cpu5 stdC.name (.slice a0 n0 c0) (.slice a1 n1 c1) (.slice a2 n2 c2) (.slice a3 n3 c3)) ?_ agP ?_; with_reducible exact hA.hp)
          | (refine wpList_loadR rfl 57 _ rfl q rfl 57 k'.row ?_ agK ?_; with_reducible exact hA.r.hk)
          | (go_at_call 37; refine HCYC.out.mono ?_; rintro e we ⟨rfl, hi, ho⟩; have hA2 := hA.ran ho hi)
          | (refine wpList_storeR rfl 57 _ _ rfl q rfl K2.row rfl (core12_one _ _ _ _) 57 k'.row rfl ?_ agK ?_; with_reducible exact hA2.r.hk))
        go_roundw
        case measure => simp [intOf]; omega
        case rel => exact ⟨j + 1, K2, m2, by omega, by go_num, HN.out, hA2.state _⟩
      · have hd : decide ((j : Int) < 6) = false := decide_eq_false (by omega)
        obtain rfl : j = 6 := by omega
        obtain ⟨rfl, rfl⟩ : k' = ⟨a, -1, 0, false⟩ ∧ m' = ma := by
          have := HC.out.symm.trans HANS.out
          exact ⟨congrArg Prod.fst this, congrArg Prod.snd this⟩
        clear HC HANS
        have hruns := fun w h => runs_any g b ⟨a, -1, 0, false⟩ m' 1 (by decide) w h
        simp only [HRUN.out] at hruns
        have HRUNS := Lib.hid hruns
        clear hruns
        go_upto_region 16 with (first
          | (go_at_call 33; refine (wholes_keep _).mono ?_; rintro e wf ⟨rfl, hbf⟩; have hA2 := hA.call hbf; have hkk : coreB wf q 57 a (-1) 0 false := hA2.r.hk; have d9 := coreB_op hkk; have d7 := coreB_reg hkk 7 (by decide); have d4 := coreB_reg hkk 4 (by decide); have d11 := coreB_nm hkk; rw [HA7.out] at d7)
          | (refine wpList_loadR rfl 57 _ rfl q rfl 57 (Ks.row ⟨a, -1, 0, false⟩) ?_ agK ?_; with_reducible exact hA2.r.hk)
          | (go_at_call 32; refine (HRUNS.out _ hA2.r.mem).mono ?_; rintro e wg ⟨rfl, hi, ho⟩; have hA3 := hA2.ran ho hi)
          | (refine wpList_storeR rfl 57 _ _ rfl q rfl (Ks.row ⟨hb, -1, 0, false⟩) rfl (core12_one _ _ _ _) 57 (Ks.row ⟨a, -1, 0, false⟩) rfl ?_ agK ?_; with_reducible exact hA3.r.hk))
        have hA4 := hA3.state (core12 hb (-1) 0 false)
        have hkq : coreB (wg.setRow q (core12 hb (-1) 0 false)).drew q 57 hb (-1) 0 false := hA4.r.hk
        have hS : coreB (wg.setRow q (core12 hb (-1) 0 false)).drew z 57 F (-1) 0 false := hA4.hz
        have bel := hA4.r.bel.drew
        have lq := hA4.r.lq
        change Code.wp _ _ _ _ (wg.setRow q (core12 hb (-1) 0 false))
        generalize wg.setRow q (core12 hb (-1) 0 false) = wh at *
        clear hA hA2 hA3 hA4 hi ho d9 d7 d4 d11 hkk hbf HRUN HRUNS hd hlt hj
        have y5 := coreB_reg hS 5 (by decide)
        have d5 := coreB_reg hkq 5 (by decide)
        have e5 := rowB_free hkq 5
        refine wp_region_mix (fun w' => rowB w' z 57 (core12 F (-1) 0 false)) [(0, 0), (1, 0), (2, 0), (3, 1), (4, 1), (5, 1), (6, 0), (7, 0), (9, 1), (8, 3), (10, 0), (11, 2)] (by kernel_rfl) (by kernel_rfl) (fun _ _ _ _ _ h => h) ?_
        simp only [List.map_cons, List.map_nil, opOf, List.getD_cons_zero, List.getD_cons_succ]
        change wpMix _ _ _ _ _ _ wh.drew
        generalize wh.drew = wv at *
        (refine wpMix_still (fun K hK => ?_); go_simp; refine hK _ ?_; clear hK K)
        (refine wpMix_still (fun K hK => ?_); go_simp; refine hK _ ?_; clear hK K)
        (refine wpMix_still (fun K hK => ?_); go_simp; refine hK _ ?_; clear hK K)
        refine wpMix_held (.pointer (some ⟨z, 0, none⟩)) rfl hS (fun w' hw' => by go_simp) ?_
        simp only [Act.put, List.setIfInBounds_toArray, List.set_cons_zero, List.set_cons_succ]
        refine wpMix_held (.pointer (some ⟨z, 6, none⟩)) rfl hS (fun w' hw' => by go_simp) ?_
        simp only [Act.put, List.setIfInBounds_toArray, List.set_cons_zero, List.set_cons_succ]
        refine wpMix_held (.int .i64 (F 6)) rfl hS (fun w' hw' => by have := coreB_reg hw' 6 (by decide); go_simp) ?_
        simp only [Act.put, List.setIfInBounds_toArray, List.set_cons_zero, List.set_cons_succ]
        (refine wpMix_still (fun K hK => ?_); go_simp; refine hK _ ?_; clear hK K)
        (refine wpMix_still (fun K hK => ?_); go_simp; refine hK _ ?_; clear hK K)
        refine wpMix_held (.pointer (some ⟨q, 0, none⟩)) rfl hS (fun w' hw' => by go_simp) ?_
        simp only [Act.put, List.setIfInBounds_toArray, List.set_cons_zero, List.set_cons_succ]
        refine wpMix_call ?_
        go_wp2_with fail
        have hkq := coreB_setReg hkq 5 (F 5) (by decide)
        have hS := rowB_other hS ⟨q, 5, none⟩ (.int .i64 (F 5)) qz
        have bel := bel.setCell (p := ⟨q, 5, none⟩) lq (.int .i64 (F 5))
        generalize wv.setCell ⟨q, 5, none⟩ (.int .i64 (F 5)) = wi at *
        clear d5 e5 y5
        have d6 := coreB_reg hkq 6 (by decide)
        have e6 := rowB_free hkq 6
        first | refine ⟨fun _ => hS, ?_⟩ | refine ⟨hS, ?_⟩ | refine And.intro (fun _ => hS) ?_
        (refine wpMix_still (fun K hK => ?_); go_simp; refine hK _ ?_; clear hK K)
        refine wpMix_call ?_
        go_wp2_with fail
        have hkq := coreB_setReg hkq 6 (F 6) (by decide)
        have bel := bel.setCell (p := ⟨q, 6, none⟩) lq (.int .i64 (F 6))
        have hS := rowB_other hS ⟨q, 6, none⟩ (.int .i64 (F 6)) qz
        generalize wi.setCell ⟨q, 6, none⟩ (.int .i64 (F 6)) = wj at *
        try refine ⟨fun h => (by cases h), ?_⟩
        refine wpMix_nil ?_
        go_upto_region 17 with (fail)
        have heq : core12 (setR (setR hb 5 (F 5)) 6 (F 6)) (-1) 0 false = core12 F (-1) 0 false := core_eq _ _ _ fun k => by
          by_cases k6 : k = 6
          · subst k6; rfl
          · by_cases k5 : k = 5
            · subst k5; rfl
            · rw [← HK.out k k5 k6]
              unfold setR
              rw [if_neg k6, if_neg k5]
        have hkF : coreB wj q 57 F (-1) 0 false := rowB_eq hkq heq
        have hq1 := fun w => equal12 F (-1) 0 false w
        have hgK : Try.prog.eqGuardType Try.prog.depth 57 = false := by kernel_rfl
        go_wp2_with (first
          | (refine wpList_loadR rfl 57 _ rfl q rfl 57 (core12 F (-1) 0 false) ?_ agK ?_; with_reducible exact hkF)
          | (refine wpList_loadR rfl 57 _ rfl z rfl 57 (core12 F (-1) 0 false) ?_ agK ?_; with_reducible exact hS))
        go_ret
        exact ⟨rfl, bel⟩
end Go.Proofs.Ytdiajkgebicnnaa
