/- The law WholeTimes: an instruction of the museum's processor takes as many cycles as Times says. -/
import Derived.Test.YtdaaaaacknpbhaaChecked
import Derived.Test.YtdaaaaacknpbhaaCoreEq
import Derived.Test.YtdaaaaacknpbhaaLinT
import Derived.Test.YtdaaaaacknpbhaaTimW
import Derived.Test.YtdaaaaacknpbhaaWholeTms
import Derived.Below
import Derived.BigQuiet
import Derived.ChangeKeysEq
import Derived.ChangeMaps5
import Derived.Deep.CutBlock
import Derived.Deep.DeepAppendWide
import Derived.Deep.DeepCutAuto
import Derived.Deep.Draws
import Derived.Deep.MidRow
import Derived.Deep.OwnRows
import Derived.Deep.QuietTactic
import Derived.Deep.RegionHeld3
import Derived.Deep.RegionLaw
import Derived.Deep.RegionWith
import Derived.Deep.Slices
import Derived.Deep.WholeRow
import Derived.Great.BuildSlice
import Derived.Laws.CopyOwn
import Derived.Laws.OwnMore
import Derived.Laws.StructEq
import Derived.Lib.Hide
import Derived.Lib.SmallJoins
import Derived.OpenShut
import Derived.OrdersHeld
import Derived.OwnWalk
import Derived.RangeFuncBox
import Derived.RowKit3
import Derived.Shelf.Abstract
import Derived.SizedLaws
import Derived.StillTactics
import Derived.StillTail
import Derived.StillTailTactics
import Derived.WalkKit
namespace Go.Proofs.Ytdaaaaacknpbhaa
open Go.RowKit
set_option maxRecDepth 100000

set_option maxHeartbeats 8000000 in
theorem wholeTimes_walk (va vl : Value) (la ll : List Int) (i : Int) (w : World) (h1 : isArg w va la) (hwf1 : ∀ x ∈ la, (Lit.int .i64 x).wf = true) (h2 : isArg w vl ll) (hwf2 : ∀ x ∈ ll, (Lit.int .i64 x).wf = true) (hi : -9223372036854775808 ≤ i ∧ i ≤ 9223372036854775807) :
    Calls Try.prog 10 #[va, vl, .int .i64 i] w fun e w' => e = .returned (.bool true) ∧ Below w.heap.size w w' := by
  obtain ⟨s1, s2, s3, rfl⟩ : ∃ a n c, va = .slice a n c := by
    rcases h1 with ⟨a, cap, rfl, _⟩ | ⟨b, off, cap, rfl, _⟩ <;> exact ⟨_, _, _, rfl⟩
  obtain ⟨t1, t2, t3, rfl⟩ : ∃ a n c, vl = .slice a n c := by
    rcases h2 with ⟨a, cap, rfl, _⟩ | ⟨b, off, cap, rfl, _⟩ <;> exact ⟨_, _, _, rfl⟩
  have HA := Lib.hid h1
  have HL := Lib.hid h2
  clear h1 h2
  go_enter Try.func10, Try.ntmps10
  go_upto_region 2 with (first
    | (go_at_call 41; refine (cpu_end _).mono ?_; rintro e w1 ⟨a0, n0, c0, a1, n1, c1, a2, n2, c2, a3, n3, c3, rfl, hn0, hs, hb⟩; have HN0 := Lib.hid hn0; clear hn0; have nz := rowB_new w1 25 (cpu5 ⟨#[]⟩ (.slice none 0 0) (.slice none 0 0) (.slice none 0 0) (.slice none 0 0)))
    | (refine wpList_storeR rfl 25 _ _ rfl (w1.heap.size) rfl (cpu5 stdC.name (.slice a0 n0 c0) (.slice a1 n1 c1) (.slice a2 n2 c2) (.slice a3 n3 c3)) rfl (cpu5_one _ _ _ _ _ _ _ _ _ _ _ _) 25 (cpu5 ⟨#[]⟩ (.slice none 0 0) (.slice none 0 0) (.slice none 0 0) (.slice none 0 0)) rfl ?_ agP ?_; exact nz))
  have ba := (Below.refl w1.heap.size w1).alloc (Nat.le_refl _) (.cells (cpu5 ⟨#[]⟩ (.slice none 0 0) (.slice none 0 0) (.slice none 0 0) (.slice none 0 0)) 25)
  have bb := below_rowR ba (g := w1.heap.size) (cpu5 stdC.name (.slice a0 n0 c0) (.slice a1 n1 c1) (.slice a2 n2 c2) (.slice a3 n3 c3)) (Nat.le_refl _)
  have hb2 := hb.trans (bb.mono hb.size)
  have hp := rowB_row nz (cpu5 stdC.name (.slice a0 n0 c0) (.slice a1 n1 c1) (.slice a2 n2 c2) (.slice a3 n3 c3))
  have hs2 := hs.below bb
  have lp := hb.size
  change Code.wp _ _ _ _ ((w1.alloc (.cells (cpu5 ⟨#[]⟩ (.slice none 0 0) (.slice none 0 0) (.slice none 0 0) (.slice none 0 0)) 25)).setRow w1.heap.size (cpu5 stdC.name (.slice a0 n0 c0) (.slice a1 n1 c1) (.slice a2 n2 c2) (.slice a3 n3 c3)))
  generalize (w1.alloc (.cells (cpu5 ⟨#[]⟩ (.slice none 0 0) (.slice none 0 0) (.slice none 0 0) (.slice none 0 0)) 25)).setRow w1.heap.size (cpu5 stdC.name (.slice a0 n0 c0) (.slice a1 n1 c1) (.slice a2 n2 c2) (.slice a3 n3 c3)) = w2 at *
  generalize w1.heap.size = p at *
  clear nz ba bb hb hs
  obtain rfl : n0 = 92 := HN0.out
  clear HN0
  have cl : w2.cell? ⟨p, 1, none⟩ = some (.slice a0 92 c0) := rowB_cell hp 1 rfl
  go_upto_if 22 with (first
    | (go_at_call 38; refine (wholes_keep _).mono ?_; rintro e w3 ⟨rfl, hb⟩; have hp3 := rowB_below hp hb (rowB_lt hp); have hs3 := hs2.below hb; have hb3 := hb2.trans (hb.mono hb2.size)))
  go_upto_region 4 with (fail)
  clear cl hp hs2 hb2
  have hm0 := Int.emod_nonneg i (b := 92) (by decide)
  have hm1 := Int.emod_lt_of_pos i (b := 92) (by decide)
  obtain ⟨j, hj⟩ : ∃ j : Nat, i % 92 = (j : Int) := ⟨(i % 92).toNat, by omega⟩
  have hj9 : j < 92 := by omega
  obtain ⟨x, hx⟩ : ∃ x, stdI[j]? = some x := ⟨stdI[j]'(by rw [stdI_len]; exact hj9), List.getElem?_eq_getElem _⟩
  obtain ⟨xb, xo, xv, rfl, hxb, hc1, hc2, d0, d1, d2, d3, hcy⟩ := std_cells hs3 hx
  obtain ⟨xa, xc, rfl⟩ := own_slice hcy
  obtain ⟨xn, hxn⟩ : ∃ xn, xn = x.cycles.length := ⟨_, rfl⟩
  rw [← hxn] at d3 hcy
  have hop := std_op hx
  have HX := Lib.hid hx
  have HXN := Lib.hid hxn
  have HOP := Lib.hid (show 0 ≤ x.op ∧ x.op < 256 by omega)
  have hbel := fun w => below_any i 92 hi (by decide) w
  rw [hj] at hbel
  have HBEL := Lib.hid hbel
  clear hx hxn hop hm0 hm1 hj hbel
  have hS0 : (insAt p (cpu5 stdC.name (.slice (some ⟨xb, xo, none⟩) 92 c0) (.slice a1 n1 c1) (.slice a2 n2 c2) (.slice a3 n3 c3)) xb (xo + j * 4) x (.slice xa xn xc)) w3 := ⟨hp3, d0, d1, d2, d3⟩
  have hj0 : (0 : Int) ≤ (j : Int) := by omega
  have hj1 : (j : Int) < 92 := by omega
  refine wp_region_mix (insAt p (cpu5 stdC.name (.slice (some ⟨xb, xo, none⟩) 92 c0) (.slice a1 n1 c1) (.slice a2 n2 c2) (.slice a3 n3 c3)) xb (xo + j * 4) x (.slice xa xn xc)) [(0, 1), (1, 1), (2, 1), (3, 1), (4, 1), (5, 1), (6, 1), (7, 1), (8, 1), (9, 3), (10, 2)] (by kernel_rfl) (by kernel_rfl) (fun _ _ _ _ _ h => h) ?_
  simp only [List.map_cons, List.map_nil, opOf, List.getD_cons_zero, List.getD_cons_succ]
  change wpMix _ _ _ _ _ _ w3.drew
  have hS : (insAt p (cpu5 stdC.name (.slice (some ⟨xb, xo, none⟩) 92 c0) (.slice a1 n1 c1) (.slice a2 n2 c2) (.slice a3 n3 c3)) xb (xo + j * 4) x (.slice xa xn xc)) w3.drew := hS0
  have hT : timW w w3.drew p p (cpu5 stdC.name (.slice (some ⟨xb, xo, none⟩) 92 c0) (.slice a1 n1 c1) (.slice a2 n2 c2) (.slice a3 n3 c3)) #[.int .i64 x.op, .string x.name, .int .i64 x.mode, .slice xa xn xc] (.slice (some ⟨xb, xo, none⟩) 92 c0) (.slice a1 n1 c1) (.slice a2 n2 c2) (.slice a3 n3 c3) (.slice xa xn xc) x.cycles → True := fun _ => trivial
  have hp4 : rowB w3.drew p 25 (cpu5 stdC.name (.slice (some ⟨xb, xo, none⟩) 92 c0) (.slice a1 n1 c1) (.slice a2 n2 c2) (.slice a3 n3 c3)) := hp3
  have hs4 := hs3.safe (safe_drew kindK w3)
  have hcy4 : cyclesO 0 w3.drew (.slice xa xn xc) x.cycles := hcy
  have hb4 := hb3.drew
  clear hS0 hT hs3 hb3 hb hcy d0 d1 d2 d3 hp3
  generalize w3.drew = w4 at *
  refine wpMix_held (.pointer (some ⟨p, 1, none⟩)) rfl hS (fun w' hw' => by go_simp) ?_
  simp only [Act.put, List.setIfInBounds_toArray, List.set_cons_zero, List.set_cons_succ]
  refine wpMix_held (.slice (some ⟨xb, xo, none⟩) 92 c0) rfl hS (fun w' hw' => by have q := rowB_cell hw'.1 1 (v := .slice (some ⟨xb, xo, none⟩) 92 c0) rfl; go_simp) ?_
  simp only [Act.put, List.setIfInBounds_toArray, List.set_cons_zero, List.set_cons_succ]
  refine wpMix_held (.int .i64 i) rfl hS (fun w' hw' => by go_simp) ?_
  simp only [Act.put, List.setIfInBounds_toArray, List.set_cons_zero, List.set_cons_succ]
  refine wpMix_held (.pointer (some ⟨p, 1, none⟩)) rfl hS (fun w' hw' => by go_simp) ?_
  simp only [Act.put, List.setIfInBounds_toArray, List.set_cons_zero, List.set_cons_succ]
  refine wpMix_held (.slice (some ⟨xb, xo, none⟩) 92 c0) rfl hS (fun w' hw' => by have q := rowB_cell hw'.1 1 (v := .slice (some ⟨xb, xo, none⟩) 92 c0) rfl; go_simp) ?_
  simp only [Act.put, List.setIfInBounds_toArray, List.set_cons_zero, List.set_cons_succ]
  refine wpMix_held (.int .i64 92) rfl hS (fun w' hw' => by go_simp) ?_
  simp only [Act.put, List.setIfInBounds_toArray, List.set_cons_zero, List.set_cons_succ]
  refine wpMix_heldCall (.int .i64 (j : Int)) rfl hS 29 #[.int .i64 i, .int .i64 92] (fun w' hw' => by go_simp) (fun w' hw' => (HBEL.out w').mono fun e w'' ⟨h1, h2⟩ => ⟨h1, h2.symm⟩) ?_
  simp only [Act.put, List.setIfInBounds_toArray, List.set_cons_zero, List.set_cons_succ]
  refine wpMix_held (.pointer (some ⟨xb, xo + j * 4, none⟩)) rfl hS (fun w' hw' => by go_simp) ?_
  simp only [Act.put, List.setIfInBounds_toArray, List.set_cons_zero, List.set_cons_succ]
  refine wpMix_held (.agg #[.int .i64 x.op, .string x.name, .int .i64 x.mode, .slice xa xn xc]) rfl hS (fun w' hw' => by obtain ⟨_, q0, q1, q2, q3⟩ := hw'; go_simp) ?_
  simp only [Act.put, List.setIfInBounds_toArray, List.set_cons_zero, List.set_cons_succ]
  have nz := rowB_new w4 49 #[.int .i64 0, .string ⟨#[]⟩, .int .i64 0, .slice none 0 0]
  have bz := below_laid1 w4 (.cells #[.int .i64 0, .string ⟨#[]⟩, .int .i64 0, .slice none 0 0] 49)
  have hS5 := hS.below bz
  refine wpMix_call ?_
  go_wp2_with fail
  first | refine ⟨fun _ => hS5, ?_⟩ | refine ⟨hS5, ?_⟩
  clear hS hS5
  refine wpMix_call ?_
  refine wpList_storeR rfl 49 _ _ rfl (w4.heap.size) rfl #[.int .i64 x.op, .string x.name, .int .i64 x.mode, .slice xa xn xc] rfl (by simp [Value.oneCell']) 49 #[.int .i64 0, .string ⟨#[]⟩, .int .i64 0, .slice none 0 0] rfl ?_ agIn ?_
  · exact nz
  go_wp2_with fail
  first | refine ⟨fun h => (by cases h), ?_⟩ | skip
  have bx := below_rowR bz (g := w4.heap.size) #[.int .i64 x.op, .string x.name, .int .i64 x.mode, .slice xa xn xc] (Nat.le_refl _)
  have hT : timW w _ p w4.heap.size (cpu5 stdC.name (.slice (some ⟨xb, xo, none⟩) 92 c0) (.slice a1 n1 c1) (.slice a2 n2 c2) (.slice a3 n3 c3)) #[.int .i64 x.op, .string x.name, .int .i64 x.mode, .slice xa xn xc] (.slice (some ⟨xb, xo, none⟩) 92 c0) (.slice a1 n1 c1) (.slice a2 n2 c2) (.slice a3 n3 c3) (.slice xa xn xc) x.cycles :=
    ⟨rowB_below hp4 bx (rowB_lt hp4), rowB_row nz #[.int .i64 x.op, .string x.name, .int .i64 x.mode, .slice xa xn xc], hs4.below bx, cyclesO_below hcy4 bx, hb4.trans (bx.mono hb4.size), lp, hb4.size⟩
  change wpMix _ _ _ _ _ _ ((w4.alloc (.cells #[.int .i64 0, .string ⟨#[]⟩, .int .i64 0, .slice none 0 0] 49)).setRow w4.heap.size #[.int .i64 x.op, .string x.name, .int .i64 x.mode, .slice xa xn xc])
  generalize (w4.alloc (.cells #[.int .i64 0, .string ⟨#[]⟩, .int .i64 0, .slice none 0 0] 49)).setRow w4.heap.size #[.int .i64 x.op, .string x.name, .int .i64 x.mode, .slice xa xn xc] = w5 at *
  generalize w4.heap.size = r at *
  clear hp4 hs4 hcy4 hb4 nz bz bx
  refine wpMix_nil ?_
  go_upto_region 5 with (fail)
  simp only [Act.put]
  go_cut [9, 10] (fun s t wx => tim5 w p r (cpu5 stdC.name (.slice (some ⟨xb, xo, none⟩) 92 c0) (.slice a1 n1 c1) (.slice a2 n2 c2) (.slice a3 n3 c3)) #[.int .i64 x.op, .string x.name, .int .i64 x.mode, .slice xa xn xc] (.slice (some ⟨xb, xo, none⟩) 92 c0) (.slice a1 n1 c1) (.slice a2 n2 c2) (.slice a3 n3 c3) (.slice xa xn xc) x.cycles x.op s t wx)
  case first =>
    refine wp_region_tree (fun w' => w'.cell? ⟨r, 0, none⟩ = some (.int .i64 x.op)) [0, 1, 2, 3, 5, 9, 10, 11, 14] (.rd 0 (.rd 1 (.rd 2 (.rd 3 (.rd 5 (.three 4 (.two 6 (.two 7 (.two 8 (.rd 9 (.rd 10 (.rd 11 (.one 12 (.mix [(13, 3), (14, 0)]))))) 12 (.one 8 (.rd 9 (.rd 10 (.rd 11 (.mix [(13, 3), (14, 0)])))))) 12 (.one 7 (.one 8 (.rd 9 (.rd 10 (.rd 11 (.mix [(13, 3), (14, 0)]))))))) 12 (.one 6 (.one 7 (.one 8 (.rd 9 (.rd 10 (.rd 11 (.mix [(13, 3), (14, 0)])))))))) 6 (.two 4 (.two 7 (.two 8 (.rd 9 (.rd 10 (.rd 11 (.one 12 (.mix [(13, 3), (14, 0)]))))) 12 (.one 8 (.rd 9 (.rd 10 (.rd 11 (.mix [(13, 3), (14, 0)])))))) 12 (.one 7 (.one 8 (.rd 9 (.rd 10 (.rd 11 (.mix [(13, 3), (14, 0)]))))))) 12 (.one 4 (.one 7 (.one 8 (.rd 9 (.rd 10 (.rd 11 (.mix [(13, 3), (14, 0)])))))))) 12 (.two 4 (.one 6 (.one 7 (.one 8 (.rd 9 (.rd 10 (.rd 11 (.mix [(13, 3), (14, 0)]))))))) 6 (.one 4 (.one 7 (.one 8 (.rd 9 (.rd 10 (.rd 11 (.mix [(13, 3), (14, 0)])))))))))))))) (by kernel_rfl) (by kernel_rfl) (fun _ _ _ _ _ h => h) ?_
    simp only [Tr.put, List.map_cons, List.map_nil, opOf, List.getD_cons_zero, List.getD_cons_succ]
    change wpTr _ _ _ _ _ _ w5.drew
    have hT0 := hT
    clear hT
    have bb0 : Below w5.heap.size w5 w5.drew := (Below.refl _ _).drew
    generalize w5.drew = u0 at *
    have HC0 := Lib.hid (rowB_cell (rowB_below hT0.hx bb0 (rowB_lt hT0.hx)) 0 (v := .int .i64 x.op) rfl)
    have hwr : IntKind.u8.wrap x.op = x.op := by have := HOP.out; show x.op % 256 = x.op; omega
    refine wpTr_held (.slice s1 s2 s3) rfl HC0.out (fun w' hw' => by go_simp) ?_
    simp only [Act.put, List.setIfInBounds_toArray, List.set_cons_zero, List.set_cons_succ]
    refine wpTr_held (.pointer (some ⟨r, 0, none⟩)) rfl HC0.out (fun w' hw' => by go_simp) ?_
    simp only [Act.put, List.setIfInBounds_toArray, List.set_cons_zero, List.set_cons_succ]
    refine wpTr_held (.int .i64 x.op) rfl HC0.out (fun w' hw' => by go_simp) ?_
    simp only [Act.put, List.setIfInBounds_toArray, List.set_cons_zero, List.set_cons_succ]
    refine wpTr_held (.int .u8 x.op) rfl HC0.out (fun w' hw' => by go_simp) ?_
    simp only [Act.put, List.setIfInBounds_toArray, List.set_cons_zero, List.set_cons_succ]
    refine wpTr_held (.slice t1 t2 t3) rfl HC0.out (fun w' hw' => by go_simp) ?_
    simp only [Act.put, List.setIfInBounds_toArray, List.set_cons_zero, List.set_cons_succ]
    clear hwr
    refine wpTr_three ?_ ?_ ?_
    · go_wp2_with fail
      have bb1 := bb0.alloc bb0.size (.cells #[.int .u8 x.op] 5)
      have bo2 := byO_one u0 x.op
      have lq3 := bb0.size
      have hqs4 : u0.heap.size < (u0.alloc (.cells #[.int .u8 x.op] 5)).heap.size := by simp
      try simp only [zero12]
      generalize u0.alloc (.cells #[.int .u8 x.op] 5) = u5 at *
      generalize u0.heap.size = n6 at *
      refine ⟨(rowB_cell (rowB_below hT0.hx bb1 (rowB_lt hT0.hx)) 0 rfl), ?_⟩
      refine wpTr_two ?_ ?_
      · go_wp2_with (go_at_call 42; refine (bytes_any (.slice t1 t2 t3) ll 2 (by decide) (by decide) u5 (isArg_below HL.out (hT0.bel.trans (bb1.mono hT0.bel.size)) (Nat.le_refl _)) hwf2).mono ?_; rintro e u7 ⟨yb8, rfl, hr9, -, hb10⟩)
        have bb15 := bb1.trans (hb10.mono bb1.size)
        have bo16 := byO_below bo2 hb10
        have hqs17 := Nat.lt_of_lt_of_le hqs4 hb10.size
        obtain ⟨p11, pl13, pb14, hy12⟩ := hr9.isArr (by decide)
        have Ppl13 := Lib.hid pl13
        clear pl13
        refine ⟨(rowB_cell (rowB_below hT0.hx bb15 (rowB_lt hT0.hx)) 0 rfl), ?_⟩
        refine wpTr_two ?_ ?_
        · go_wp2_with (refine wpList_byts rfl _ _ rfl n6 (.slice (some ⟨n6, 0, none⟩) 1 1) (.slice (some ⟨yb8, 0, none⟩) 2 2) rfl rfl [x.op] p11 bo16 hy12 (by have := Ppl13.out; simp; omega) (Nat.le_of_lt hqs17) ?_; intro aa19 an20 ac21 u18 bq22 hg23)
          have bb24 := bb15.grown hg23 bb15.size (fun k hk => by have e : n6 = k := (by simpa [Value.ownBlock] using hk); omega)
          refine ⟨(rowB_cell (rowB_below hT0.hx bb24 (rowB_lt hT0.hx)) 0 rfl), ?_⟩
          refine wpTr_two ?_ ?_
          · have hbyt := byO_bytes bq22 (by simp) (fun y hy => (List.mem_append.1 hy).elim (fun h => by rw [List.mem_singleton.1 h]; exact HOP.out) (fun h => pb14 y h))
            have HR38 := Lib.hid (ready_any (.slice s1 s2 s3) la _ ([x.op] ++ p11) u18 (isArg_below HA.out (hT0.bel.trans (bb24.mono hT0.bel.size)) (Nat.le_refl _)) hwf1 hbyt (by have := Ppl13.out; simp; omega))
            clear hbyt
            go_wp2_with (go_at_call 35; refine HR38.out.mono ?_; rintro e u25 ⟨f26, g27, b28, rfl, hf29, hseven30, hm31, lg32, lb33, hb34⟩; have HSX := Lib.hid hseven30; clear hseven30)
            have HS35 := HSX
            clear HSX
            have bb39 := bb24.trans (hb34.mono bb24.size)
            have lg36 := Nat.le_trans bb24.size lg32
            have lb37 := Nat.le_trans bb24.size lb33
            refine ⟨(rowB_cell (rowB_below hT0.hx bb39 (rowB_lt hT0.hx)) 0 rfl), ?_⟩
            refine wpTr_held (.tuple #[.agg (core12 f26 (-1) 0 false), .pointer (some ⟨g27, 0, none⟩)]) rfl (rowB_cell (rowB_below hT0.hx bb39 (rowB_lt hT0.hx)) 0 rfl) (fun w' hw' => by go_simp) ?_
            simp only [Act.put, List.setIfInBounds_toArray, List.set_cons_zero, List.set_cons_succ]
            refine wpTr_held (.agg (core12 f26 (-1) 0 false)) rfl (rowB_cell (rowB_below hT0.hx bb39 (rowB_lt hT0.hx)) 0 rfl) (fun w' hw' => by go_simp) ?_
            simp only [Act.put, List.setIfInBounds_toArray, List.set_cons_zero, List.set_cons_succ]
            refine wpTr_held (.pointer (some ⟨g27, 0, none⟩)) rfl (rowB_cell (rowB_below hT0.hx bb39 (rowB_lt hT0.hx)) 0 rfl) (fun w' hw' => by go_simp) ?_
            simp only [Act.put, List.setIfInBounds_toArray, List.set_cons_zero, List.set_cons_succ]
            refine wpTr_one ?_
            go_wp2_with fail
            have bb40 := bb39.alloc bb39.size (.cells (core12 (fun _ => 0) 0 0 false) 29)
            have hm41 := (flat_memC _ _).call hm31 (below_laid1 u25 (.cells (core12 (fun _ => 0) 0 0 false) 29))
            have hz42 := rowB_new u25 29 (core12 (fun _ => 0) 0 0 false)
            have lz43 := bb39.size
            have ng44 : ¬ flatG g27 b28 u25.heap.size := fun h => by have := hm31.low h; omega
            try simp only [zero12]
            generalize u25.alloc (.cells (core12 (fun _ => 0) 0 0 false) 29) = u45 at *
            generalize u25.heap.size = n46 at *
            refine ⟨(rowB_cell (rowB_below hT0.hx bb40 (rowB_lt hT0.hx)) 0 rfl), ?_⟩
            have hfin := tim5_mk hT0 bb40 hz42 hm41 lz43 lg36 lb37 ng44 hf29 HS35.out (show ([x.op] ++ p11).getD 0 0 = x.op from rfl)
            have HFIN := Lib.hid hfin
            clear hfin
            refine wpTr_mix ?_
            refine wpMix_call ?_
            go_wp2_with (refine wpList_storeR rfl 29 _ _ rfl n46 rfl (core12 f26 (-1) 0 false) rfl (core12_one _ _ _ _) 29 (core12 (fun _ => 0) 0 0 false) rfl ?_ agK ?_; with_reducible exact hz42)
            have bbx := below_rowR bb40 (core12 f26 (-1) 0 false) lz43
            refine ⟨fun _ => (rowB_cell (rowB_below hT0.hx bbx (rowB_lt hT0.hx)) 0 rfl), ?_⟩
            clear bbx
            (refine wpMix_still (fun K hK => ?_); go_simp; refine hK _ ?_; clear hK K)
            refine wpMix_nil ?_
            go_wp2_with fail
            go_meet
            case rel => exact HFIN.out

          · go_wp2_with fail
            have bb47 := bb24.alloc bb24.size (.cells (core12 (fun _ => 0) 0 0 false) 29)
            have bq48 := byO_below bq22 (below_laid1 u18 (.cells (core12 (fun _ => 0) 0 0 false) 29))
            have hz49 := rowB_new u18 29 (core12 (fun _ => 0) 0 0 false)
            have lz50 := bb24.size
            try simp only [zero12]
            generalize u18.alloc (.cells (core12 (fun _ => 0) 0 0 false) 29) = u51 at *
            generalize u18.heap.size = n52 at *
            refine ⟨(rowB_cell (rowB_below hT0.hx bb47 (rowB_lt hT0.hx)) 0 rfl), ?_⟩
            refine wpTr_one ?_
            have hbyt := byO_bytes bq48 (by simp) (fun y hy => (List.mem_append.1 hy).elim (fun h => by rw [List.mem_singleton.1 h]; exact HOP.out) (fun h => pb14 y h))
            have HR66 := Lib.hid (ready_any (.slice s1 s2 s3) la _ ([x.op] ++ p11) u51 (isArg_below HA.out (hT0.bel.trans (bb47.mono hT0.bel.size)) (Nat.le_refl _)) hwf1 hbyt (by have := Ppl13.out; simp; omega))
            clear hbyt
            go_wp2_with (go_at_call 35; refine HR66.out.mono ?_; rintro e u53 ⟨f54, g55, b56, rfl, hf57, hseven58, hm59, lg60, lb61, hb62⟩; have HSX := Lib.hid hseven58; clear hseven58)
            have HS63 := HSX
            clear HSX
            have bb67 := bb47.trans (hb62.mono bb47.size)
            have hz68 := rowB_below hz49 hb62 (rowB_lt hz49)
            have lg64 := Nat.le_trans bb47.size lg60
            have lb65 := Nat.le_trans bb47.size lb61
            have ng69 : ¬ flatG g55 b56 n52 := by have := rowB_lt hz49; rintro (h | h) <;> omega
            refine ⟨(rowB_cell (rowB_below hT0.hx bb67 (rowB_lt hT0.hx)) 0 rfl), ?_⟩
            refine wpTr_held (.tuple #[.agg (core12 f54 (-1) 0 false), .pointer (some ⟨g55, 0, none⟩)]) rfl (rowB_cell (rowB_below hT0.hx bb67 (rowB_lt hT0.hx)) 0 rfl) (fun w' hw' => by go_simp) ?_
            simp only [Act.put, List.setIfInBounds_toArray, List.set_cons_zero, List.set_cons_succ]
            refine wpTr_held (.agg (core12 f54 (-1) 0 false)) rfl (rowB_cell (rowB_below hT0.hx bb67 (rowB_lt hT0.hx)) 0 rfl) (fun w' hw' => by go_simp) ?_
            simp only [Act.put, List.setIfInBounds_toArray, List.set_cons_zero, List.set_cons_succ]
            refine wpTr_held (.pointer (some ⟨g55, 0, none⟩)) rfl (rowB_cell (rowB_below hT0.hx bb67 (rowB_lt hT0.hx)) 0 rfl) (fun w' hw' => by go_simp) ?_
            simp only [Act.put, List.setIfInBounds_toArray, List.set_cons_zero, List.set_cons_succ]
            have hfin := tim5_mk hT0 bb67 hz68 hm59 lz50 lg64 lb65 ng69 hf57 HS63.out (show ([x.op] ++ p11).getD 0 0 = x.op from rfl)
            have HFIN := Lib.hid hfin
            clear hfin
            refine wpTr_mix ?_
            refine wpMix_call ?_
            go_wp2_with (refine wpList_storeR rfl 29 _ _ rfl n52 rfl (core12 f54 (-1) 0 false) rfl (core12_one _ _ _ _) 29 (core12 (fun _ => 0) 0 0 false) rfl ?_ agK ?_; with_reducible exact hz68)
            have bbx := below_rowR bb67 (core12 f54 (-1) 0 false) lz50
            refine ⟨fun _ => (rowB_cell (rowB_below hT0.hx bbx (rowB_lt hT0.hx)) 0 rfl), ?_⟩
            clear bbx
            (refine wpMix_still (fun K hK => ?_); go_simp; refine hK _ ?_; clear hK K)
            refine wpMix_nil ?_
            go_wp2_with fail
            go_meet
            case rel => exact HFIN.out


        · go_wp2_with fail
          have bb70 := bb15.alloc bb15.size (.cells (core12 (fun _ => 0) 0 0 false) 29)
          have bo71 := byO_below bo16 (below_laid1 u7 (.cells (core12 (fun _ => 0) 0 0 false) 29))
          have hy72 := isArr_below byR_keeps hy12 (below_laid1 u7 (.cells (core12 (fun _ => 0) 0 0 false) 29)) (Nat.le_refl _)
          have hqs73 : n6 < (u7.alloc (.cells (core12 (fun _ => 0) 0 0 false) 29)).heap.size := by simp; omega
          have hz74 := rowB_new u7 29 (core12 (fun _ => 0) 0 0 false)
          have lz75 := bb15.size
          have zq76 : u7.heap.size ≠ n6 := by omega
          try simp only [zero12]
          generalize u7.alloc (.cells (core12 (fun _ => 0) 0 0 false) 29) = u77 at *
          generalize u7.heap.size = n78 at *
          refine ⟨(rowB_cell (rowB_below hT0.hx bb70 (rowB_lt hT0.hx)) 0 rfl), ?_⟩
          refine wpTr_one ?_
          go_wp2_with (refine wpList_byts rfl _ _ rfl n6 (.slice (some ⟨n6, 0, none⟩) 1 1) (.slice (some ⟨yb8, 0, none⟩) 2 2) rfl rfl [x.op] p11 bo71 hy72 (by have := Ppl13.out; simp; omega) (Nat.le_of_lt hqs73) ?_; intro aa80 an81 ac82 u79 bq83 hg84)
          have bb85 := bb70.grown hg84 bb70.size (fun k hk => by have e : n6 = k := (by simpa [Value.ownBlock] using hk); omega)
          have hz86 := (show rowB u79 n78 29 _ by unfold rowB; rw [hg84.block _ (rowB_lt hz74) (by simpa [Value.ownBlock] using zq76)]; exact hz74)
          refine ⟨(rowB_cell (rowB_below hT0.hx bb85 (rowB_lt hT0.hx)) 0 rfl), ?_⟩
          refine wpTr_one ?_
          have hbyt := byO_bytes bq83 (by simp) (fun y hy => (List.mem_append.1 hy).elim (fun h => by rw [List.mem_singleton.1 h]; exact HOP.out) (fun h => pb14 y h))
          have HR100 := Lib.hid (ready_any (.slice s1 s2 s3) la _ ([x.op] ++ p11) u79 (isArg_below HA.out (hT0.bel.trans (bb85.mono hT0.bel.size)) (Nat.le_refl _)) hwf1 hbyt (by have := Ppl13.out; simp; omega))
          clear hbyt
          go_wp2_with (go_at_call 35; refine HR100.out.mono ?_; rintro e u87 ⟨f88, g89, b90, rfl, hf91, hseven92, hm93, lg94, lb95, hb96⟩; have HSX := Lib.hid hseven92; clear hseven92)
          have HS97 := HSX
          clear HSX
          have bb101 := bb85.trans (hb96.mono bb85.size)
          have hz102 := rowB_below hz86 hb96 (rowB_lt hz86)
          have lg98 := Nat.le_trans bb85.size lg94
          have lb99 := Nat.le_trans bb85.size lb95
          have ng103 : ¬ flatG g89 b90 n78 := by have := rowB_lt hz86; rintro (h | h) <;> omega
          refine ⟨(rowB_cell (rowB_below hT0.hx bb101 (rowB_lt hT0.hx)) 0 rfl), ?_⟩
          refine wpTr_held (.tuple #[.agg (core12 f88 (-1) 0 false), .pointer (some ⟨g89, 0, none⟩)]) rfl (rowB_cell (rowB_below hT0.hx bb101 (rowB_lt hT0.hx)) 0 rfl) (fun w' hw' => by go_simp) ?_
          simp only [Act.put, List.setIfInBounds_toArray, List.set_cons_zero, List.set_cons_succ]
          refine wpTr_held (.agg (core12 f88 (-1) 0 false)) rfl (rowB_cell (rowB_below hT0.hx bb101 (rowB_lt hT0.hx)) 0 rfl) (fun w' hw' => by go_simp) ?_
          simp only [Act.put, List.setIfInBounds_toArray, List.set_cons_zero, List.set_cons_succ]
          refine wpTr_held (.pointer (some ⟨g89, 0, none⟩)) rfl (rowB_cell (rowB_below hT0.hx bb101 (rowB_lt hT0.hx)) 0 rfl) (fun w' hw' => by go_simp) ?_
          simp only [Act.put, List.setIfInBounds_toArray, List.set_cons_zero, List.set_cons_succ]
          have hfin := tim5_mk hT0 bb101 hz102 hm93 lz75 lg98 lb99 ng103 hf91 HS97.out (show ([x.op] ++ p11).getD 0 0 = x.op from rfl)
          have HFIN := Lib.hid hfin
          clear hfin
          refine wpTr_mix ?_
          refine wpMix_call ?_
          go_wp2_with (refine wpList_storeR rfl 29 _ _ rfl n78 rfl (core12 f88 (-1) 0 false) rfl (core12_one _ _ _ _) 29 (core12 (fun _ => 0) 0 0 false) rfl ?_ agK ?_; with_reducible exact hz102)
          have bbx := below_rowR bb101 (core12 f88 (-1) 0 false) lz75
          refine ⟨fun _ => (rowB_cell (rowB_below hT0.hx bbx (rowB_lt hT0.hx)) 0 rfl), ?_⟩
          clear bbx
          (refine wpMix_still (fun K hK => ?_); go_simp; refine hK _ ?_; clear hK K)
          refine wpMix_nil ?_
          go_wp2_with fail
          go_meet
          case rel => exact HFIN.out


      · go_wp2_with fail
        have bb104 := bb1.alloc bb1.size (.cells (core12 (fun _ => 0) 0 0 false) 29)
        have bo105 := byO_below bo2 (below_laid1 u5 (.cells (core12 (fun _ => 0) 0 0 false) 29))
        have hqs106 : n6 < (u5.alloc (.cells (core12 (fun _ => 0) 0 0 false) 29)).heap.size := by simp; omega
        have hz107 := rowB_new u5 29 (core12 (fun _ => 0) 0 0 false)
        have lz108 := bb1.size
        have zq109 : u5.heap.size ≠ n6 := by omega
        try simp only [zero12]
        generalize u5.alloc (.cells (core12 (fun _ => 0) 0 0 false) 29) = u110 at *
        generalize u5.heap.size = n111 at *
        refine ⟨(rowB_cell (rowB_below hT0.hx bb104 (rowB_lt hT0.hx)) 0 rfl), ?_⟩
        refine wpTr_one ?_
        go_wp2_with (go_at_call 42; refine (bytes_any (.slice t1 t2 t3) ll 2 (by decide) (by decide) u110 (isArg_below HL.out (hT0.bel.trans (bb104.mono hT0.bel.size)) (Nat.le_refl _)) hwf2).mono ?_; rintro e u112 ⟨yb113, rfl, hr114, -, hb115⟩)
        have bb120 := bb104.trans (hb115.mono bb104.size)
        have bo121 := byO_below bo105 hb115
        have hz122 := rowB_below hz107 hb115 (rowB_lt hz107)
        have hqs123 := Nat.lt_of_lt_of_le hqs106 hb115.size
        obtain ⟨p116, pl118, pb119, hy117⟩ := hr114.isArr (by decide)
        have Ppl118 := Lib.hid pl118
        clear pl118
        refine ⟨(rowB_cell (rowB_below hT0.hx bb120 (rowB_lt hT0.hx)) 0 rfl), ?_⟩
        refine wpTr_one ?_
        go_wp2_with (refine wpList_byts rfl _ _ rfl n6 (.slice (some ⟨n6, 0, none⟩) 1 1) (.slice (some ⟨yb113, 0, none⟩) 2 2) rfl rfl [x.op] p116 bo121 hy117 (by have := Ppl118.out; simp; omega) (Nat.le_of_lt hqs123) ?_; intro aa125 an126 ac127 u124 bq128 hg129)
        have bb130 := bb120.grown hg129 bb120.size (fun k hk => by have e : n6 = k := (by simpa [Value.ownBlock] using hk); omega)
        have hz131 := (show rowB u124 n111 29 _ by unfold rowB; rw [hg129.block _ (rowB_lt hz122) (by simpa [Value.ownBlock] using zq109)]; exact hz122)
        refine ⟨(rowB_cell (rowB_below hT0.hx bb130 (rowB_lt hT0.hx)) 0 rfl), ?_⟩
        refine wpTr_one ?_
        have hbyt := byO_bytes bq128 (by simp) (fun y hy => (List.mem_append.1 hy).elim (fun h => by rw [List.mem_singleton.1 h]; exact HOP.out) (fun h => pb119 y h))
        have HR145 := Lib.hid (ready_any (.slice s1 s2 s3) la _ ([x.op] ++ p116) u124 (isArg_below HA.out (hT0.bel.trans (bb130.mono hT0.bel.size)) (Nat.le_refl _)) hwf1 hbyt (by have := Ppl118.out; simp; omega))
        clear hbyt
        go_wp2_with (go_at_call 35; refine HR145.out.mono ?_; rintro e u132 ⟨f133, g134, b135, rfl, hf136, hseven137, hm138, lg139, lb140, hb141⟩; have HSX := Lib.hid hseven137; clear hseven137)
        have HS142 := HSX
        clear HSX
        have bb146 := bb130.trans (hb141.mono bb130.size)
        have hz147 := rowB_below hz131 hb141 (rowB_lt hz131)
        have lg143 := Nat.le_trans bb130.size lg139
        have lb144 := Nat.le_trans bb130.size lb140
        have ng148 : ¬ flatG g134 b135 n111 := by have := rowB_lt hz131; rintro (h | h) <;> omega
        refine ⟨(rowB_cell (rowB_below hT0.hx bb146 (rowB_lt hT0.hx)) 0 rfl), ?_⟩
        refine wpTr_held (.tuple #[.agg (core12 f133 (-1) 0 false), .pointer (some ⟨g134, 0, none⟩)]) rfl (rowB_cell (rowB_below hT0.hx bb146 (rowB_lt hT0.hx)) 0 rfl) (fun w' hw' => by go_simp) ?_
        simp only [Act.put, List.setIfInBounds_toArray, List.set_cons_zero, List.set_cons_succ]
        refine wpTr_held (.agg (core12 f133 (-1) 0 false)) rfl (rowB_cell (rowB_below hT0.hx bb146 (rowB_lt hT0.hx)) 0 rfl) (fun w' hw' => by go_simp) ?_
        simp only [Act.put, List.setIfInBounds_toArray, List.set_cons_zero, List.set_cons_succ]
        refine wpTr_held (.pointer (some ⟨g134, 0, none⟩)) rfl (rowB_cell (rowB_below hT0.hx bb146 (rowB_lt hT0.hx)) 0 rfl) (fun w' hw' => by go_simp) ?_
        simp only [Act.put, List.setIfInBounds_toArray, List.set_cons_zero, List.set_cons_succ]
        have hfin := tim5_mk hT0 bb146 hz147 hm138 lz108 lg143 lb144 ng148 hf136 HS142.out (show ([x.op] ++ p116).getD 0 0 = x.op from rfl)
        have HFIN := Lib.hid hfin
        clear hfin
        refine wpTr_mix ?_
        refine wpMix_call ?_
        go_wp2_with (refine wpList_storeR rfl 29 _ _ rfl n111 rfl (core12 f133 (-1) 0 false) rfl (core12_one _ _ _ _) 29 (core12 (fun _ => 0) 0 0 false) rfl ?_ agK ?_; with_reducible exact hz147)
        have bbx := below_rowR bb146 (core12 f133 (-1) 0 false) lz108
        refine ⟨fun _ => (rowB_cell (rowB_below hT0.hx bbx (rowB_lt hT0.hx)) 0 rfl), ?_⟩
        clear bbx
        (refine wpMix_still (fun K hK => ?_); go_simp; refine hK _ ?_; clear hK K)
        refine wpMix_nil ?_
        go_wp2_with fail
        go_meet
        case rel => exact HFIN.out


    · go_wp2_with (go_at_call 42; refine (bytes_any (.slice t1 t2 t3) ll 2 (by decide) (by decide) u0 (isArg_below HL.out (hT0.bel.trans (bb0.mono hT0.bel.size)) (Nat.le_refl _)) hwf2).mono ?_; rintro e u149 ⟨yb150, rfl, hr151, -, hb152⟩)
      have bb157 := bb0.trans (hb152.mono bb0.size)
      obtain ⟨p153, pl155, pb156, hy154⟩ := hr151.isArr (by decide)
      have Ppl155 := Lib.hid pl155
      clear pl155
      refine ⟨(rowB_cell (rowB_below hT0.hx bb157 (rowB_lt hT0.hx)) 0 rfl), ?_⟩
      refine wpTr_two ?_ ?_
      · go_wp2_with fail
        have bb158 := bb157.alloc bb157.size (.cells #[.int .u8 x.op] 5)
        have hy159 := isArr_below byR_keeps hy154 (below_laid1 u149 (.cells #[.int .u8 x.op] 5)) (Nat.le_refl _)
        have bo160 := byO_one u149 x.op
        have lq161 := bb157.size
        have hqs162 : u149.heap.size < (u149.alloc (.cells #[.int .u8 x.op] 5)).heap.size := by simp
        try simp only [zero12]
        generalize u149.alloc (.cells #[.int .u8 x.op] 5) = u163 at *
        generalize u149.heap.size = n164 at *
        refine ⟨(rowB_cell (rowB_below hT0.hx bb158 (rowB_lt hT0.hx)) 0 rfl), ?_⟩
        refine wpTr_two ?_ ?_
        · go_wp2_with (refine wpList_byts rfl _ _ rfl n164 (.slice (some ⟨n164, 0, none⟩) 1 1) (.slice (some ⟨yb150, 0, none⟩) 2 2) rfl rfl [x.op] p153 bo160 hy159 (by have := Ppl155.out; simp; omega) (Nat.le_of_lt hqs162) ?_; intro aa166 an167 ac168 u165 bq169 hg170)
          have bb171 := bb158.grown hg170 bb158.size (fun k hk => by have e : n164 = k := (by simpa [Value.ownBlock] using hk); omega)
          refine ⟨(rowB_cell (rowB_below hT0.hx bb171 (rowB_lt hT0.hx)) 0 rfl), ?_⟩
          refine wpTr_two ?_ ?_
          · have hbyt := byO_bytes bq169 (by simp) (fun y hy => (List.mem_append.1 hy).elim (fun h => by rw [List.mem_singleton.1 h]; exact HOP.out) (fun h => pb156 y h))
            have HR185 := Lib.hid (ready_any (.slice s1 s2 s3) la _ ([x.op] ++ p153) u165 (isArg_below HA.out (hT0.bel.trans (bb171.mono hT0.bel.size)) (Nat.le_refl _)) hwf1 hbyt (by have := Ppl155.out; simp; omega))
            clear hbyt
            go_wp2_with (go_at_call 35; refine HR185.out.mono ?_; rintro e u172 ⟨f173, g174, b175, rfl, hf176, hseven177, hm178, lg179, lb180, hb181⟩; have HSX := Lib.hid hseven177; clear hseven177)
            have HS182 := HSX
            clear HSX
            have bb186 := bb171.trans (hb181.mono bb171.size)
            have lg183 := Nat.le_trans bb171.size lg179
            have lb184 := Nat.le_trans bb171.size lb180
            refine ⟨(rowB_cell (rowB_below hT0.hx bb186 (rowB_lt hT0.hx)) 0 rfl), ?_⟩
            refine wpTr_held (.tuple #[.agg (core12 f173 (-1) 0 false), .pointer (some ⟨g174, 0, none⟩)]) rfl (rowB_cell (rowB_below hT0.hx bb186 (rowB_lt hT0.hx)) 0 rfl) (fun w' hw' => by go_simp) ?_
            simp only [Act.put, List.setIfInBounds_toArray, List.set_cons_zero, List.set_cons_succ]
            refine wpTr_held (.agg (core12 f173 (-1) 0 false)) rfl (rowB_cell (rowB_below hT0.hx bb186 (rowB_lt hT0.hx)) 0 rfl) (fun w' hw' => by go_simp) ?_
            simp only [Act.put, List.setIfInBounds_toArray, List.set_cons_zero, List.set_cons_succ]
            refine wpTr_held (.pointer (some ⟨g174, 0, none⟩)) rfl (rowB_cell (rowB_below hT0.hx bb186 (rowB_lt hT0.hx)) 0 rfl) (fun w' hw' => by go_simp) ?_
            simp only [Act.put, List.setIfInBounds_toArray, List.set_cons_zero, List.set_cons_succ]
            refine wpTr_one ?_
            go_wp2_with fail
            have bb187 := bb186.alloc bb186.size (.cells (core12 (fun _ => 0) 0 0 false) 29)
            have hm188 := (flat_memC _ _).call hm178 (below_laid1 u172 (.cells (core12 (fun _ => 0) 0 0 false) 29))
            have hz189 := rowB_new u172 29 (core12 (fun _ => 0) 0 0 false)
            have lz190 := bb186.size
            have ng191 : ¬ flatG g174 b175 u172.heap.size := fun h => by have := hm178.low h; omega
            try simp only [zero12]
            generalize u172.alloc (.cells (core12 (fun _ => 0) 0 0 false) 29) = u192 at *
            generalize u172.heap.size = n193 at *
            refine ⟨(rowB_cell (rowB_below hT0.hx bb187 (rowB_lt hT0.hx)) 0 rfl), ?_⟩
            have hfin := tim5_mk hT0 bb187 hz189 hm188 lz190 lg183 lb184 ng191 hf176 HS182.out (show ([x.op] ++ p153).getD 0 0 = x.op from rfl)
            have HFIN := Lib.hid hfin
            clear hfin
            refine wpTr_mix ?_
            refine wpMix_call ?_
            go_wp2_with (refine wpList_storeR rfl 29 _ _ rfl n193 rfl (core12 f173 (-1) 0 false) rfl (core12_one _ _ _ _) 29 (core12 (fun _ => 0) 0 0 false) rfl ?_ agK ?_; with_reducible exact hz189)
            have bbx := below_rowR bb187 (core12 f173 (-1) 0 false) lz190
            refine ⟨fun _ => (rowB_cell (rowB_below hT0.hx bbx (rowB_lt hT0.hx)) 0 rfl), ?_⟩
            clear bbx
            (refine wpMix_still (fun K hK => ?_); go_simp; refine hK _ ?_; clear hK K)
            refine wpMix_nil ?_
            go_wp2_with fail
            go_meet
            case rel => exact HFIN.out

          · go_wp2_with fail
            have bb194 := bb171.alloc bb171.size (.cells (core12 (fun _ => 0) 0 0 false) 29)
            have bq195 := byO_below bq169 (below_laid1 u165 (.cells (core12 (fun _ => 0) 0 0 false) 29))
            have hz196 := rowB_new u165 29 (core12 (fun _ => 0) 0 0 false)
            have lz197 := bb171.size
            try simp only [zero12]
            generalize u165.alloc (.cells (core12 (fun _ => 0) 0 0 false) 29) = u198 at *
            generalize u165.heap.size = n199 at *
            refine ⟨(rowB_cell (rowB_below hT0.hx bb194 (rowB_lt hT0.hx)) 0 rfl), ?_⟩
            refine wpTr_one ?_
            have hbyt := byO_bytes bq195 (by simp) (fun y hy => (List.mem_append.1 hy).elim (fun h => by rw [List.mem_singleton.1 h]; exact HOP.out) (fun h => pb156 y h))
            have HR213 := Lib.hid (ready_any (.slice s1 s2 s3) la _ ([x.op] ++ p153) u198 (isArg_below HA.out (hT0.bel.trans (bb194.mono hT0.bel.size)) (Nat.le_refl _)) hwf1 hbyt (by have := Ppl155.out; simp; omega))
            clear hbyt
            go_wp2_with (go_at_call 35; refine HR213.out.mono ?_; rintro e u200 ⟨f201, g202, b203, rfl, hf204, hseven205, hm206, lg207, lb208, hb209⟩; have HSX := Lib.hid hseven205; clear hseven205)
            have HS210 := HSX
            clear HSX
            have bb214 := bb194.trans (hb209.mono bb194.size)
            have hz215 := rowB_below hz196 hb209 (rowB_lt hz196)
            have lg211 := Nat.le_trans bb194.size lg207
            have lb212 := Nat.le_trans bb194.size lb208
            have ng216 : ¬ flatG g202 b203 n199 := by have := rowB_lt hz196; rintro (h | h) <;> omega
            refine ⟨(rowB_cell (rowB_below hT0.hx bb214 (rowB_lt hT0.hx)) 0 rfl), ?_⟩
            refine wpTr_held (.tuple #[.agg (core12 f201 (-1) 0 false), .pointer (some ⟨g202, 0, none⟩)]) rfl (rowB_cell (rowB_below hT0.hx bb214 (rowB_lt hT0.hx)) 0 rfl) (fun w' hw' => by go_simp) ?_
            simp only [Act.put, List.setIfInBounds_toArray, List.set_cons_zero, List.set_cons_succ]
            refine wpTr_held (.agg (core12 f201 (-1) 0 false)) rfl (rowB_cell (rowB_below hT0.hx bb214 (rowB_lt hT0.hx)) 0 rfl) (fun w' hw' => by go_simp) ?_
            simp only [Act.put, List.setIfInBounds_toArray, List.set_cons_zero, List.set_cons_succ]
            refine wpTr_held (.pointer (some ⟨g202, 0, none⟩)) rfl (rowB_cell (rowB_below hT0.hx bb214 (rowB_lt hT0.hx)) 0 rfl) (fun w' hw' => by go_simp) ?_
            simp only [Act.put, List.setIfInBounds_toArray, List.set_cons_zero, List.set_cons_succ]
            have hfin := tim5_mk hT0 bb214 hz215 hm206 lz197 lg211 lb212 ng216 hf204 HS210.out (show ([x.op] ++ p153).getD 0 0 = x.op from rfl)
            have HFIN := Lib.hid hfin
            clear hfin
            refine wpTr_mix ?_
            refine wpMix_call ?_
            go_wp2_with (refine wpList_storeR rfl 29 _ _ rfl n199 rfl (core12 f201 (-1) 0 false) rfl (core12_one _ _ _ _) 29 (core12 (fun _ => 0) 0 0 false) rfl ?_ agK ?_; with_reducible exact hz215)
            have bbx := below_rowR bb214 (core12 f201 (-1) 0 false) lz197
            refine ⟨fun _ => (rowB_cell (rowB_below hT0.hx bbx (rowB_lt hT0.hx)) 0 rfl), ?_⟩
            clear bbx
            (refine wpMix_still (fun K hK => ?_); go_simp; refine hK _ ?_; clear hK K)
            refine wpMix_nil ?_
            go_wp2_with fail
            go_meet
            case rel => exact HFIN.out


        · go_wp2_with fail
          have bb217 := bb158.alloc bb158.size (.cells (core12 (fun _ => 0) 0 0 false) 29)
          have bo218 := byO_below bo160 (below_laid1 u163 (.cells (core12 (fun _ => 0) 0 0 false) 29))
          have hy219 := isArr_below byR_keeps hy159 (below_laid1 u163 (.cells (core12 (fun _ => 0) 0 0 false) 29)) (Nat.le_refl _)
          have hqs220 : n164 < (u163.alloc (.cells (core12 (fun _ => 0) 0 0 false) 29)).heap.size := by simp; omega
          have hz221 := rowB_new u163 29 (core12 (fun _ => 0) 0 0 false)
          have lz222 := bb158.size
          have zq223 : u163.heap.size ≠ n164 := by omega
          try simp only [zero12]
          generalize u163.alloc (.cells (core12 (fun _ => 0) 0 0 false) 29) = u224 at *
          generalize u163.heap.size = n225 at *
          refine ⟨(rowB_cell (rowB_below hT0.hx bb217 (rowB_lt hT0.hx)) 0 rfl), ?_⟩
          refine wpTr_one ?_
          go_wp2_with (refine wpList_byts rfl _ _ rfl n164 (.slice (some ⟨n164, 0, none⟩) 1 1) (.slice (some ⟨yb150, 0, none⟩) 2 2) rfl rfl [x.op] p153 bo218 hy219 (by have := Ppl155.out; simp; omega) (Nat.le_of_lt hqs220) ?_; intro aa227 an228 ac229 u226 bq230 hg231)
          have bb232 := bb217.grown hg231 bb217.size (fun k hk => by have e : n164 = k := (by simpa [Value.ownBlock] using hk); omega)
          have hz233 := (show rowB u226 n225 29 _ by unfold rowB; rw [hg231.block _ (rowB_lt hz221) (by simpa [Value.ownBlock] using zq223)]; exact hz221)
          refine ⟨(rowB_cell (rowB_below hT0.hx bb232 (rowB_lt hT0.hx)) 0 rfl), ?_⟩
          refine wpTr_one ?_
          have hbyt := byO_bytes bq230 (by simp) (fun y hy => (List.mem_append.1 hy).elim (fun h => by rw [List.mem_singleton.1 h]; exact HOP.out) (fun h => pb156 y h))
          have HR247 := Lib.hid (ready_any (.slice s1 s2 s3) la _ ([x.op] ++ p153) u226 (isArg_below HA.out (hT0.bel.trans (bb232.mono hT0.bel.size)) (Nat.le_refl _)) hwf1 hbyt (by have := Ppl155.out; simp; omega))
          clear hbyt
          go_wp2_with (go_at_call 35; refine HR247.out.mono ?_; rintro e u234 ⟨f235, g236, b237, rfl, hf238, hseven239, hm240, lg241, lb242, hb243⟩; have HSX := Lib.hid hseven239; clear hseven239)
          have HS244 := HSX
          clear HSX
          have bb248 := bb232.trans (hb243.mono bb232.size)
          have hz249 := rowB_below hz233 hb243 (rowB_lt hz233)
          have lg245 := Nat.le_trans bb232.size lg241
          have lb246 := Nat.le_trans bb232.size lb242
          have ng250 : ¬ flatG g236 b237 n225 := by have := rowB_lt hz233; rintro (h | h) <;> omega
          refine ⟨(rowB_cell (rowB_below hT0.hx bb248 (rowB_lt hT0.hx)) 0 rfl), ?_⟩
          refine wpTr_held (.tuple #[.agg (core12 f235 (-1) 0 false), .pointer (some ⟨g236, 0, none⟩)]) rfl (rowB_cell (rowB_below hT0.hx bb248 (rowB_lt hT0.hx)) 0 rfl) (fun w' hw' => by go_simp) ?_
          simp only [Act.put, List.setIfInBounds_toArray, List.set_cons_zero, List.set_cons_succ]
          refine wpTr_held (.agg (core12 f235 (-1) 0 false)) rfl (rowB_cell (rowB_below hT0.hx bb248 (rowB_lt hT0.hx)) 0 rfl) (fun w' hw' => by go_simp) ?_
          simp only [Act.put, List.setIfInBounds_toArray, List.set_cons_zero, List.set_cons_succ]
          refine wpTr_held (.pointer (some ⟨g236, 0, none⟩)) rfl (rowB_cell (rowB_below hT0.hx bb248 (rowB_lt hT0.hx)) 0 rfl) (fun w' hw' => by go_simp) ?_
          simp only [Act.put, List.setIfInBounds_toArray, List.set_cons_zero, List.set_cons_succ]
          have hfin := tim5_mk hT0 bb248 hz249 hm240 lz222 lg245 lb246 ng250 hf238 HS244.out (show ([x.op] ++ p153).getD 0 0 = x.op from rfl)
          have HFIN := Lib.hid hfin
          clear hfin
          refine wpTr_mix ?_
          refine wpMix_call ?_
          go_wp2_with (refine wpList_storeR rfl 29 _ _ rfl n225 rfl (core12 f235 (-1) 0 false) rfl (core12_one _ _ _ _) 29 (core12 (fun _ => 0) 0 0 false) rfl ?_ agK ?_; with_reducible exact hz249)
          have bbx := below_rowR bb248 (core12 f235 (-1) 0 false) lz222
          refine ⟨fun _ => (rowB_cell (rowB_below hT0.hx bbx (rowB_lt hT0.hx)) 0 rfl), ?_⟩
          clear bbx
          (refine wpMix_still (fun K hK => ?_); go_simp; refine hK _ ?_; clear hK K)
          refine wpMix_nil ?_
          go_wp2_with fail
          go_meet
          case rel => exact HFIN.out


      · go_wp2_with fail
        have bb251 := bb157.alloc bb157.size (.cells (core12 (fun _ => 0) 0 0 false) 29)
        have hy252 := isArr_below byR_keeps hy154 (below_laid1 u149 (.cells (core12 (fun _ => 0) 0 0 false) 29)) (Nat.le_refl _)
        have hz253 := rowB_new u149 29 (core12 (fun _ => 0) 0 0 false)
        have lz254 := bb157.size
        try simp only [zero12]
        generalize u149.alloc (.cells (core12 (fun _ => 0) 0 0 false) 29) = u255 at *
        generalize u149.heap.size = n256 at *
        refine ⟨(rowB_cell (rowB_below hT0.hx bb251 (rowB_lt hT0.hx)) 0 rfl), ?_⟩
        refine wpTr_one ?_
        go_wp2_with fail
        have bb257 := bb251.alloc bb251.size (.cells #[.int .u8 x.op] 5)
        have hy258 := isArr_below byR_keeps hy252 (below_laid1 u255 (.cells #[.int .u8 x.op] 5)) (Nat.le_refl _)
        have hz259 := rowB_alloc hz253 (.cells #[.int .u8 x.op] 5)
        have bo260 := byO_one u255 x.op
        have lq261 := bb251.size
        have hqs262 : u255.heap.size < (u255.alloc (.cells #[.int .u8 x.op] 5)).heap.size := by simp
        have zq263 : n256 ≠ u255.heap.size := (by have := rowB_lt hz253; omega)
        try simp only [zero12]
        generalize u255.alloc (.cells #[.int .u8 x.op] 5) = u264 at *
        generalize u255.heap.size = n265 at *
        refine ⟨(rowB_cell (rowB_below hT0.hx bb257 (rowB_lt hT0.hx)) 0 rfl), ?_⟩
        refine wpTr_one ?_
        go_wp2_with (refine wpList_byts rfl _ _ rfl n265 (.slice (some ⟨n265, 0, none⟩) 1 1) (.slice (some ⟨yb150, 0, none⟩) 2 2) rfl rfl [x.op] p153 bo260 hy258 (by have := Ppl155.out; simp; omega) (Nat.le_of_lt hqs262) ?_; intro aa267 an268 ac269 u266 bq270 hg271)
        have bb272 := bb257.grown hg271 bb257.size (fun k hk => by have e : n265 = k := (by simpa [Value.ownBlock] using hk); omega)
        have hz273 := (show rowB u266 n256 29 _ by unfold rowB; rw [hg271.block _ (rowB_lt hz259) (by simpa [Value.ownBlock] using zq263)]; exact hz259)
        refine ⟨(rowB_cell (rowB_below hT0.hx bb272 (rowB_lt hT0.hx)) 0 rfl), ?_⟩
        refine wpTr_one ?_
        have hbyt := byO_bytes bq270 (by simp) (fun y hy => (List.mem_append.1 hy).elim (fun h => by rw [List.mem_singleton.1 h]; exact HOP.out) (fun h => pb156 y h))
        have HR287 := Lib.hid (ready_any (.slice s1 s2 s3) la _ ([x.op] ++ p153) u266 (isArg_below HA.out (hT0.bel.trans (bb272.mono hT0.bel.size)) (Nat.le_refl _)) hwf1 hbyt (by have := Ppl155.out; simp; omega))
        clear hbyt
        go_wp2_with (go_at_call 35; refine HR287.out.mono ?_; rintro e u274 ⟨f275, g276, b277, rfl, hf278, hseven279, hm280, lg281, lb282, hb283⟩; have HSX := Lib.hid hseven279; clear hseven279)
        have HS284 := HSX
        clear HSX
        have bb288 := bb272.trans (hb283.mono bb272.size)
        have hz289 := rowB_below hz273 hb283 (rowB_lt hz273)
        have lg285 := Nat.le_trans bb272.size lg281
        have lb286 := Nat.le_trans bb272.size lb282
        have ng290 : ¬ flatG g276 b277 n256 := by have := rowB_lt hz273; rintro (h | h) <;> omega
        refine ⟨(rowB_cell (rowB_below hT0.hx bb288 (rowB_lt hT0.hx)) 0 rfl), ?_⟩
        refine wpTr_held (.tuple #[.agg (core12 f275 (-1) 0 false), .pointer (some ⟨g276, 0, none⟩)]) rfl (rowB_cell (rowB_below hT0.hx bb288 (rowB_lt hT0.hx)) 0 rfl) (fun w' hw' => by go_simp) ?_
        simp only [Act.put, List.setIfInBounds_toArray, List.set_cons_zero, List.set_cons_succ]
        refine wpTr_held (.agg (core12 f275 (-1) 0 false)) rfl (rowB_cell (rowB_below hT0.hx bb288 (rowB_lt hT0.hx)) 0 rfl) (fun w' hw' => by go_simp) ?_
        simp only [Act.put, List.setIfInBounds_toArray, List.set_cons_zero, List.set_cons_succ]
        refine wpTr_held (.pointer (some ⟨g276, 0, none⟩)) rfl (rowB_cell (rowB_below hT0.hx bb288 (rowB_lt hT0.hx)) 0 rfl) (fun w' hw' => by go_simp) ?_
        simp only [Act.put, List.setIfInBounds_toArray, List.set_cons_zero, List.set_cons_succ]
        have hfin := tim5_mk hT0 bb288 hz289 hm280 lz254 lg285 lb286 ng290 hf278 HS284.out (show ([x.op] ++ p153).getD 0 0 = x.op from rfl)
        have HFIN := Lib.hid hfin
        clear hfin
        refine wpTr_mix ?_
        refine wpMix_call ?_
        go_wp2_with (refine wpList_storeR rfl 29 _ _ rfl n256 rfl (core12 f275 (-1) 0 false) rfl (core12_one _ _ _ _) 29 (core12 (fun _ => 0) 0 0 false) rfl ?_ agK ?_; with_reducible exact hz289)
        have bbx := below_rowR bb288 (core12 f275 (-1) 0 false) lz254
        refine ⟨fun _ => (rowB_cell (rowB_below hT0.hx bbx (rowB_lt hT0.hx)) 0 rfl), ?_⟩
        clear bbx
        (refine wpMix_still (fun K hK => ?_); go_simp; refine hK _ ?_; clear hK K)
        refine wpMix_nil ?_
        go_wp2_with fail
        go_meet
        case rel => exact HFIN.out


    · go_wp2_with fail
      have bb291 := bb0.alloc bb0.size (.cells (core12 (fun _ => 0) 0 0 false) 29)
      have hz292 := rowB_new u0 29 (core12 (fun _ => 0) 0 0 false)
      have lz293 := bb0.size
      try simp only [zero12]
      generalize u0.alloc (.cells (core12 (fun _ => 0) 0 0 false) 29) = u294 at *
      generalize u0.heap.size = n295 at *
      refine ⟨(rowB_cell (rowB_below hT0.hx bb291 (rowB_lt hT0.hx)) 0 rfl), ?_⟩
      refine wpTr_two ?_ ?_
      · go_wp2_with fail
        have bb296 := bb291.alloc bb291.size (.cells #[.int .u8 x.op] 5)
        have hz297 := rowB_alloc hz292 (.cells #[.int .u8 x.op] 5)
        have bo298 := byO_one u294 x.op
        have lq299 := bb291.size
        have hqs300 : u294.heap.size < (u294.alloc (.cells #[.int .u8 x.op] 5)).heap.size := by simp
        have zq301 : n295 ≠ u294.heap.size := (by have := rowB_lt hz292; omega)
        try simp only [zero12]
        generalize u294.alloc (.cells #[.int .u8 x.op] 5) = u302 at *
        generalize u294.heap.size = n303 at *
        refine ⟨(rowB_cell (rowB_below hT0.hx bb296 (rowB_lt hT0.hx)) 0 rfl), ?_⟩
        refine wpTr_one ?_
        go_wp2_with (go_at_call 42; refine (bytes_any (.slice t1 t2 t3) ll 2 (by decide) (by decide) u302 (isArg_below HL.out (hT0.bel.trans (bb296.mono hT0.bel.size)) (Nat.le_refl _)) hwf2).mono ?_; rintro e u304 ⟨yb305, rfl, hr306, -, hb307⟩)
        have bb312 := bb296.trans (hb307.mono bb296.size)
        have bo313 := byO_below bo298 hb307
        have hz314 := rowB_below hz297 hb307 (rowB_lt hz297)
        have hqs315 := Nat.lt_of_lt_of_le hqs300 hb307.size
        obtain ⟨p308, pl310, pb311, hy309⟩ := hr306.isArr (by decide)
        have Ppl310 := Lib.hid pl310
        clear pl310
        refine ⟨(rowB_cell (rowB_below hT0.hx bb312 (rowB_lt hT0.hx)) 0 rfl), ?_⟩
        refine wpTr_one ?_
        go_wp2_with (refine wpList_byts rfl _ _ rfl n303 (.slice (some ⟨n303, 0, none⟩) 1 1) (.slice (some ⟨yb305, 0, none⟩) 2 2) rfl rfl [x.op] p308 bo313 hy309 (by have := Ppl310.out; simp; omega) (Nat.le_of_lt hqs315) ?_; intro aa317 an318 ac319 u316 bq320 hg321)
        have bb322 := bb312.grown hg321 bb312.size (fun k hk => by have e : n303 = k := (by simpa [Value.ownBlock] using hk); omega)
        have hz323 := (show rowB u316 n295 29 _ by unfold rowB; rw [hg321.block _ (rowB_lt hz314) (by simpa [Value.ownBlock] using zq301)]; exact hz314)
        refine ⟨(rowB_cell (rowB_below hT0.hx bb322 (rowB_lt hT0.hx)) 0 rfl), ?_⟩
        refine wpTr_one ?_
        have hbyt := byO_bytes bq320 (by simp) (fun y hy => (List.mem_append.1 hy).elim (fun h => by rw [List.mem_singleton.1 h]; exact HOP.out) (fun h => pb311 y h))
        have HR337 := Lib.hid (ready_any (.slice s1 s2 s3) la _ ([x.op] ++ p308) u316 (isArg_below HA.out (hT0.bel.trans (bb322.mono hT0.bel.size)) (Nat.le_refl _)) hwf1 hbyt (by have := Ppl310.out; simp; omega))
        clear hbyt
        go_wp2_with (go_at_call 35; refine HR337.out.mono ?_; rintro e u324 ⟨f325, g326, b327, rfl, hf328, hseven329, hm330, lg331, lb332, hb333⟩; have HSX := Lib.hid hseven329; clear hseven329)
        have HS334 := HSX
        clear HSX
        have bb338 := bb322.trans (hb333.mono bb322.size)
        have hz339 := rowB_below hz323 hb333 (rowB_lt hz323)
        have lg335 := Nat.le_trans bb322.size lg331
        have lb336 := Nat.le_trans bb322.size lb332
        have ng340 : ¬ flatG g326 b327 n295 := by have := rowB_lt hz323; rintro (h | h) <;> omega
        refine ⟨(rowB_cell (rowB_below hT0.hx bb338 (rowB_lt hT0.hx)) 0 rfl), ?_⟩
        refine wpTr_held (.tuple #[.agg (core12 f325 (-1) 0 false), .pointer (some ⟨g326, 0, none⟩)]) rfl (rowB_cell (rowB_below hT0.hx bb338 (rowB_lt hT0.hx)) 0 rfl) (fun w' hw' => by go_simp) ?_
        simp only [Act.put, List.setIfInBounds_toArray, List.set_cons_zero, List.set_cons_succ]
        refine wpTr_held (.agg (core12 f325 (-1) 0 false)) rfl (rowB_cell (rowB_below hT0.hx bb338 (rowB_lt hT0.hx)) 0 rfl) (fun w' hw' => by go_simp) ?_
        simp only [Act.put, List.setIfInBounds_toArray, List.set_cons_zero, List.set_cons_succ]
        refine wpTr_held (.pointer (some ⟨g326, 0, none⟩)) rfl (rowB_cell (rowB_below hT0.hx bb338 (rowB_lt hT0.hx)) 0 rfl) (fun w' hw' => by go_simp) ?_
        simp only [Act.put, List.setIfInBounds_toArray, List.set_cons_zero, List.set_cons_succ]
        have hfin := tim5_mk hT0 bb338 hz339 hm330 lz293 lg335 lb336 ng340 hf328 HS334.out (show ([x.op] ++ p308).getD 0 0 = x.op from rfl)
        have HFIN := Lib.hid hfin
        clear hfin
        refine wpTr_mix ?_
        refine wpMix_call ?_
        go_wp2_with (refine wpList_storeR rfl 29 _ _ rfl n295 rfl (core12 f325 (-1) 0 false) rfl (core12_one _ _ _ _) 29 (core12 (fun _ => 0) 0 0 false) rfl ?_ agK ?_; with_reducible exact hz339)
        have bbx := below_rowR bb338 (core12 f325 (-1) 0 false) lz293
        refine ⟨fun _ => (rowB_cell (rowB_below hT0.hx bbx (rowB_lt hT0.hx)) 0 rfl), ?_⟩
        clear bbx
        (refine wpMix_still (fun K hK => ?_); go_simp; refine hK _ ?_; clear hK K)
        refine wpMix_nil ?_
        go_wp2_with fail
        go_meet
        case rel => exact HFIN.out

      · go_wp2_with (go_at_call 42; refine (bytes_any (.slice t1 t2 t3) ll 2 (by decide) (by decide) u294 (isArg_below HL.out (hT0.bel.trans (bb291.mono hT0.bel.size)) (Nat.le_refl _)) hwf2).mono ?_; rintro e u341 ⟨yb342, rfl, hr343, -, hb344⟩)
        have bb349 := bb291.trans (hb344.mono bb291.size)
        have hz350 := rowB_below hz292 hb344 (rowB_lt hz292)
        obtain ⟨p345, pl347, pb348, hy346⟩ := hr343.isArr (by decide)
        have Ppl347 := Lib.hid pl347
        clear pl347
        refine ⟨(rowB_cell (rowB_below hT0.hx bb349 (rowB_lt hT0.hx)) 0 rfl), ?_⟩
        refine wpTr_one ?_
        go_wp2_with fail
        have bb351 := bb349.alloc bb349.size (.cells #[.int .u8 x.op] 5)
        have hy352 := isArr_below byR_keeps hy346 (below_laid1 u341 (.cells #[.int .u8 x.op] 5)) (Nat.le_refl _)
        have hz353 := rowB_alloc hz350 (.cells #[.int .u8 x.op] 5)
        have bo354 := byO_one u341 x.op
        have lq355 := bb349.size
        have hqs356 : u341.heap.size < (u341.alloc (.cells #[.int .u8 x.op] 5)).heap.size := by simp
        have zq357 : n295 ≠ u341.heap.size := (by have := rowB_lt hz350; omega)
        try simp only [zero12]
        generalize u341.alloc (.cells #[.int .u8 x.op] 5) = u358 at *
        generalize u341.heap.size = n359 at *
        refine ⟨(rowB_cell (rowB_below hT0.hx bb351 (rowB_lt hT0.hx)) 0 rfl), ?_⟩
        refine wpTr_one ?_
        go_wp2_with (refine wpList_byts rfl _ _ rfl n359 (.slice (some ⟨n359, 0, none⟩) 1 1) (.slice (some ⟨yb342, 0, none⟩) 2 2) rfl rfl [x.op] p345 bo354 hy352 (by have := Ppl347.out; simp; omega) (Nat.le_of_lt hqs356) ?_; intro aa361 an362 ac363 u360 bq364 hg365)
        have bb366 := bb351.grown hg365 bb351.size (fun k hk => by have e : n359 = k := (by simpa [Value.ownBlock] using hk); omega)
        have hz367 := (show rowB u360 n295 29 _ by unfold rowB; rw [hg365.block _ (rowB_lt hz353) (by simpa [Value.ownBlock] using zq357)]; exact hz353)
        refine ⟨(rowB_cell (rowB_below hT0.hx bb366 (rowB_lt hT0.hx)) 0 rfl), ?_⟩
        refine wpTr_one ?_
        have hbyt := byO_bytes bq364 (by simp) (fun y hy => (List.mem_append.1 hy).elim (fun h => by rw [List.mem_singleton.1 h]; exact HOP.out) (fun h => pb348 y h))
        have HR381 := Lib.hid (ready_any (.slice s1 s2 s3) la _ ([x.op] ++ p345) u360 (isArg_below HA.out (hT0.bel.trans (bb366.mono hT0.bel.size)) (Nat.le_refl _)) hwf1 hbyt (by have := Ppl347.out; simp; omega))
        clear hbyt
        go_wp2_with (go_at_call 35; refine HR381.out.mono ?_; rintro e u368 ⟨f369, g370, b371, rfl, hf372, hseven373, hm374, lg375, lb376, hb377⟩; have HSX := Lib.hid hseven373; clear hseven373)
        have HS378 := HSX
        clear HSX
        have bb382 := bb366.trans (hb377.mono bb366.size)
        have hz383 := rowB_below hz367 hb377 (rowB_lt hz367)
        have lg379 := Nat.le_trans bb366.size lg375
        have lb380 := Nat.le_trans bb366.size lb376
        have ng384 : ¬ flatG g370 b371 n295 := by have := rowB_lt hz367; rintro (h | h) <;> omega
        refine ⟨(rowB_cell (rowB_below hT0.hx bb382 (rowB_lt hT0.hx)) 0 rfl), ?_⟩
        refine wpTr_held (.tuple #[.agg (core12 f369 (-1) 0 false), .pointer (some ⟨g370, 0, none⟩)]) rfl (rowB_cell (rowB_below hT0.hx bb382 (rowB_lt hT0.hx)) 0 rfl) (fun w' hw' => by go_simp) ?_
        simp only [Act.put, List.setIfInBounds_toArray, List.set_cons_zero, List.set_cons_succ]
        refine wpTr_held (.agg (core12 f369 (-1) 0 false)) rfl (rowB_cell (rowB_below hT0.hx bb382 (rowB_lt hT0.hx)) 0 rfl) (fun w' hw' => by go_simp) ?_
        simp only [Act.put, List.setIfInBounds_toArray, List.set_cons_zero, List.set_cons_succ]
        refine wpTr_held (.pointer (some ⟨g370, 0, none⟩)) rfl (rowB_cell (rowB_below hT0.hx bb382 (rowB_lt hT0.hx)) 0 rfl) (fun w' hw' => by go_simp) ?_
        simp only [Act.put, List.setIfInBounds_toArray, List.set_cons_zero, List.set_cons_succ]
        have hfin := tim5_mk hT0 bb382 hz383 hm374 lz293 lg379 lb380 ng384 hf372 HS378.out (show ([x.op] ++ p345).getD 0 0 = x.op from rfl)
        have HFIN := Lib.hid hfin
        clear hfin
        refine wpTr_mix ?_
        refine wpMix_call ?_
        go_wp2_with (refine wpList_storeR rfl 29 _ _ rfl n295 rfl (core12 f369 (-1) 0 false) rfl (core12_one _ _ _ _) 29 (core12 (fun _ => 0) 0 0 false) rfl ?_ agK ?_; with_reducible exact hz383)
        have bbx := below_rowR bb382 (core12 f369 (-1) 0 false) lz293
        refine ⟨fun _ => (rowB_cell (rowB_below hT0.hx bbx (rowB_lt hT0.hx)) 0 rfl), ?_⟩
        clear bbx
        (refine wpMix_still (fun K hK => ?_); go_simp; refine hK _ ?_; clear hK K)
        refine wpMix_nil ?_
        go_wp2_with fail
        go_meet
        case rel => exact HFIN.out



  case rest =>
    obtain ⟨z, g, b, f, q, rfl, rfl, hW, hf, h7, h0, hT2, ngp, ngr, nzp, nzr⟩ := hcut
    clear hT
    have hT := hT2
    clear hT2
    have hm := hW.mem.byte
    have hl0 : loadP q 1024 = x.op := h0
    obtain ⟨f', l, m', hrun, hA, hB, hL, hkeep⟩ := std_runs HX.out hf h7 hm hl0
    have HKEEP := Lib.hid hkeep
    have HLA := Lib.hid hA
    have HLB := Lib.hid hB
    clear hkeep h7 h0 hl0 hm hA hB
    have hr := run_std ⟨f, -1, 0, false⟩ (loadP q) wc hW.mem hT.std
    rw [hrun] at hr
    have HRUN := Lib.hid hr
    clear hr hrun
    go_upto_region 7 with (first
      | (refine wpList_loadR rfl 25 _ rfl p rfl 25 (cpu5 stdC.name (.slice (some ⟨xb, xo, none⟩) 92 c0) (.slice a1 n1 c1) (.slice a2 n2 c2) (.slice a3 n3 c3)) ?_ agP ?_; with_reducible exact hT.hp)
      | (refine wpList_loadR rfl 29 _ rfl z rfl 29 (core12 f (-1) 0 false) ?_ agK ?_; with_reducible exact hW.hk)
      | (go_at_call 22; refine HRUN.out.mono ?_; rintro e wd ⟨sa, sn, sc, rfl, hbus, hi2, ho⟩; have hW2 := hW.ran ho hi2; have hT2 := hT.off hW.mem ho ngp ngr hW.lg hW.lb)
      | (refine wpList_storeR rfl 29 _ _ rfl z rfl (core12 f' (-1) 0 false) rfl (core12_one _ _ _ _) 29 (core12 f (-1) 0 false) rfl ?_ agK ?_; with_reducible exact hW2.hk))
    have hbz := ownArr_kept hbus (row_grown wd z (core12 f' (-1) 0 false)) (ownArr_off hbus (by have := rowB_lt hW.hk; omega))
    have hT3 := hT2.row hW2.hk nzp nzr hW2.lq (core12 f' (-1) 0 false)
    have hW3 := hW2.state (core12 f' (-1) 0 false)
    generalize wd.setRow z (core12 f' (-1) 0 false) = we at *
    clear hT hW hT2 hW2 hbus ho hi2 HRUN
    obtain ⟨hsn, gs, rfl, _, hgs, hc3, hc4, k0, k1, k2⟩ := busO_first hbz
    clear hbz
    have HSN := Lib.hid hsn
    clear hsn
    have htim := times_any x.op x.name x.mode (.slice xa xn xc) x.cycles we (cycles_isArr hT3.cy) (by have := (std_size (List.mem_of_getElem? HX.out)).2.1; omega)
    have HTIM := Lib.hid htim
    clear htim
    go_upto_region 8 with (first
      | (refine wpList_loadR rfl 49 _ rfl r rfl 49 #[.int .i64 x.op, .string x.name, .int .i64 x.mode, .slice xa xn xc] ?_ agIn ?_; with_reducible exact hT3.hx)
      | (go_at_call 26; refine HTIM.out.mono ?_; rintro e wf ⟨rfl, hb⟩))
    have hT4 := hT3.call hb
    have hW4 := hW3.call hb
    have c9 := coreB_op hW4.hk
    have cx := rowB_cell hT4.hx 0 (v := .int .i64 x.op) rfl
    have q0 := (hb.cell (p := ⟨gs, 0, none⟩) hgs).trans k0
    have q1 := (hb.cell (p := ⟨gs, 1, none⟩) hgs).trans k1
    have q2 := (hb.cell (p := ⟨gs, 2, none⟩) hgs).trans k2
    have hbel := hW4.bel
    have hgB : Try.prog.eqGuardType Try.prog.depth 34 = false := by kernel_rfl
    have hq : ∀ w, (Op.equalIn 10000 34 (.agg #[.int .i64 1, .int .i64 1024, .int .i64 x.op]) (.agg #[.int .i64 1, .int .i64 1024, .int .i64 x.op])).run Try.prog w = .ok true w := fun w => equal3 1 1024 x.op w
    have hn1 : leastN x.cycles + 1 ≤ sn := by have h1 := HLA.out; have h2 := HSN.out; omega
    have hn2 : sn ≤ x.cycles.length + 1 := by have h1 := HLB.out; have h2 := HSN.out; omega
    have hn3 : 0 < sn := by omega
    have hn4 : ((leastN x.cycles : Nat) : Int) + 1 ≤ (sn : Int) := by omega
    have hn5 : (sn : Int) ≤ (x.cycles.length : Int) + 1 := by omega
    generalize leastN x.cycles = LN at *
    clear hT3 hW3 hb k0 k1 k2 HTIM
    go_quiet (fail)
    have hbd := hbel.trans ((below_drewN wf nq _).mono hbel.size)
    go_wp2_with fail
    go_ret
    exact ⟨rfl, hbd⟩
end Go.Proofs.Ytdaaaaacknpbhaa
