/- The law CoreEnds: each instruction of a valid processor ends within the cycles that it has. -/
import Derived.Test.YtdaaaaacknpbhaaAluRegs
import Derived.Test.YtdaaaaacknpbhaaChecked
import Derived.Test.YtdaaaaacknpbhaaCoreAsk
import Derived.Test.YtdaaaaacknpbhaaCoreTell
import Derived.Test.YtdaaaaacknpbhaaCoresK
import Derived.Test.YtdaaaaacknpbhaaEndsP
import Derived.Test.YtdaaaaacknpbhaaLinT
import Derived.Test.YtdaaaaacknpbhaaMakeCpu
import Derived.Test.YtdaaaaacknpbhaaWholeTms
import Derived.Below
import Derived.BigQuiet
import Derived.Carry
import Derived.ChangeMaps5
import Derived.Deep.AppendLies
import Derived.Deep.CutBlock
import Derived.Deep.DeepAppendWide
import Derived.Deep.DeepCutAuto
import Derived.Deep.Draws
import Derived.Deep.MidRow
import Derived.Deep.OwnRows
import Derived.Deep.QuietTactic
import Derived.Deep.RegionHeld
import Derived.Deep.RegionHeld3
import Derived.Deep.RegionLaw
import Derived.Deep.RegionWith
import Derived.Deep.Slices
import Derived.Deep.WholeRow
import Derived.DeepKeys4
import Derived.Great.BuildSlice
import Derived.Handy
import Derived.KernelRfl
import Derived.Laws.OwnMore
import Derived.Laws.StructEq
import Derived.Lib.Bytealg
import Derived.Lib.Hide
import Derived.Lib.IndexAny
import Derived.Lib.SliceRun
import Derived.Lib.SmallJoins
import Derived.Lib.Walk
import Derived.Maps.Keyed
import Derived.Maps.OwnSet
import Derived.Maps.Views
import Derived.OpenShut
import Derived.OrdersHeld
import Derived.OwnWalk
import Derived.RangeFuncBox
import Derived.RangeFuncNested
import Derived.RowKit3
import Derived.Shelf.Abstract
import Derived.SizedLaws
import Derived.StillTactics
import Derived.StillTail
import Derived.StillTailTactics
import Derived.WalkKit
namespace Go.Proofs.Ytdaaaaacknpbhaa
open Go.RowKit
set_option maxRecDepth 100000

theorem agInE : isAg Try.prog 49 4 := ⟨⟨_, Try.underlying49, rfl⟩, by kernel_rfl⟩
theorem cell_row_far (w : World) {q : Nat} (cs : Array Value) {a : Addr} (h : q ≠ a.block) : (w.setRow q cs).cell? a = w.cell? a := by
  have e : (w.setRow q cs).heap[a.block]? = w.heap[a.block]? := by
    simp only [World.setRow, Array.getElem?_modify]
    rw [if_neg h]
  unfold World.cell?
  rw [e]
theorem steps_row {w : World} {v : Value} {l : List St} {lo q : Nat} (h : isArr 4 stepR w v l) (ha : fresh4 lo v l) (hq : q < lo) (c : Array Value) : isArr 4 stepR (w.setRow q c) v l := by
  rcases h with h | ⟨b, off, cap, rfl, h1, h2, h3, h4⟩
  · exact .inl h
  · rcases ha with rfl | ⟨b', off', n', cap', e, hlo⟩
    · exact .inl ⟨_, _, rfl, rfl⟩
    · cases e
      refine .inr ⟨b, off, cap, rfl, by simpa [size_row] using h1, h2, h3, fun i y hy => ?_⟩
      obtain ⟨cs, c1, c2, c3⟩ := h4 i y hy
      refine ⟨cs, c1, fun k hk => ?_, c3⟩
      rw [cell_row_far _ _ (by show q ≠ b; omega)]
      exact c2 k hk
theorem freshArr_row {lo : Nat} {w : World} {v : Value} {l : List Cy} (h : freshArr lo w v l) {q : Nat} (hq : q < lo) (c : Array Value) : freshArr lo (w.setRow q c) v l := by
  refine ⟨?_, h.2⟩
  rcases h.1 with h1 | ⟨b, off, cap, rfl, h1, h2, h3, h4⟩
  · exact .inl h1
  · rcases h.2 with rfl | ⟨b', off', n', cap', e, hlo⟩
    · exact .inl ⟨_, _, rfl, rfl⟩
    · cases e
      refine .inr ⟨b, off, cap, rfl, by simpa [size_row] using h1, h2, h3, fun i y hy => ?_⟩
      obtain ⟨cs, c1, c2, u, c3, c4, c5⟩ := h4 i y hy
      refine ⟨cs, c1, fun k hk => ?_, u, c3, steps_row c4 c5 hq _, c5⟩
      rw [cell_row_far _ _ (by show q ≠ b; omega)]
      exact c2 k hk
/-- The blocks of the walk, behind the search. -/
structure endW (w2 w : World) (lo p z r : Nat) (cpu kr xr : Array Value) (cv : Value) (xs : List Cy) : Prop where
  hp : rowB w p 25 cpu
  hk : rowB w z 29 kr
  hx : rowB w r 49 xr
  hc : freshArr lo w cv xs
  bel : Below w2.heap.size w2 w
  lp : p < w2.heap.size
  lz : w2.heap.size ≤ z
  zl : z < lo
  zr : z < r
section
variable {w2 w w' : World} {lo p z r : Nat} {cpu kr xr : Array Value} {cv : Value} {xs : List Cy}
theorem endW.call (h : endW w2 w lo p z r cpu kr xr cv xs) (hb : Below w.heap.size w w') : endW w2 w' lo p z r cpu kr xr cv xs :=
  ⟨rowB_below h.hp hb (rowB_lt h.hp), rowB_below h.hk hb (rowB_lt h.hk), rowB_below h.hx hb (rowB_lt h.hx), freshArr_below h.hc hb (Nat.le_refl _), h.bel.trans (hb.mono h.bel.size), h.lp, h.lz, h.zl, h.zr⟩
theorem endW.state (h : endW w2 w lo p z r cpu kr xr cv xs) (cs : Array Value) : endW w2 (w.setRow z cs) lo p z r cpu cs xr cv xs :=
  ⟨rowB_row_other h.hp cs (by have := h.lp; have := h.lz; omega), rowB_row h.hk cs, rowB_row_other h.hx cs (by have := h.zr; omega), freshArr_row h.hc h.zl cs, below_rowR h.bel cs h.lz, h.lp, h.lz, h.zl, h.zr⟩
end
/-- Behind the byte's cycle: the state's block. -/
def ends3 (w0 : World) (B : Int) (s : Value) (w : World) : Prop := ∃ (z : Nat) (f : Nat → Int), s = .pointer (some ⟨z, 0, none⟩) ∧ rowB w z 29 (core12 f B 0 false) ∧ fits f ∧ Below w0.heap.size w0 w ∧ w0.heap.size ≤ z
theorem found_mem {p : In → Bool} {l : List In} (h : isIn p l = true) : foundIn p l ∈ l := by
  unfold isIn at h
  cases hx : l.find? p with
  | none => rw [hx] at h; cases h
  | some x => unfold foundIn; rw [hx]; exact List.mem_of_find?_eq_some hx
set_option maxHeartbeats 8000000 in
theorem coreEnds_walk (va vr : Value) (la lr : List Int) (op : Int) (w : World) (h1 : isArg w va la) (hwf1 : ∀ x ∈ la, (Lit.int .i64 x).wf = true) (h2 : isArg w vr lr) (hwf2 : ∀ x ∈ lr, (Lit.int .i64 x).wf = true) (hi : -9223372036854775808 ≤ op ∧ op ≤ 9223372036854775807) :
    Calls Try.prog 5 #[va, vr, .int .i64 op] w fun e w' => e = .returned (.bool true) ∧ Below w.heap.size w w' := by
  have hmade := cpu_made va la w h1 hwf1
  obtain ⟨s1, s2, s3, rfl⟩ : ∃ a n c, va = .slice a n c := by
    rcases h1 with ⟨a, cap, rfl, _⟩ | ⟨b, off, cap, rfl, _⟩ <;> exact ⟨_, _, _, rfl⟩
  obtain ⟨t1, t2, t3, rfl⟩ : ∃ a n c, vr = .slice a n c := by
    rcases h2 with ⟨a, cap, rfl, _⟩ | ⟨b, off, cap, rfl, _⟩ <;> exact ⟨_, _, _, rfl⟩
  have HM := Lib.hid hmade
  have HR := Lib.hid h2
  clear h1 h2 hmade hwf1
  obtain ⟨jj, hjj⟩ : ∃ jj : Nat, op % 256 = (jj : Int) := ⟨(op % 256).toNat, by omega⟩
  have hjl : jj < 256 := by omega
  have hbelow := fun w => below_any op 256 hi (by decide) w
  rw [hjj] at hbelow
  have HB := Lib.hid hbelow
  clear hbelow hjj hi
  go_enter Try.func5, Try.ntmps5
  go_upto_region 2 with (first
    | (go_at_call 28; refine HM.out.mono ?_; rintro e w1 ⟨c, v0, v1, v2, v3, rfl, harg1, -, -, -, hsz, hb, -, -⟩; have HSZ := Lib.hid hsz; clear hsz; have nz := rowB_new w1 25 (cpu5 ⟨#[]⟩ (.slice none 0 0) (.slice none 0 0) (.slice none 0 0) (.slice none 0 0)); obtain ⟨a0, c0, rfl, -, -⟩ := isArr_form harg1.1; obtain ⟨a1, c1, rfl, -, -⟩ := isArr_form harg1.2.1; obtain ⟨a2, c2, rfl, -, -⟩ := isArr_form harg1.2.2.1; obtain ⟨a3, c3, rfl, -, -⟩ := isArr_form harg1.2.2.2.1)
    | (refine wpList_storeR rfl 25 _ _ rfl (w1.heap.size) rfl (cpu5 c.name (.slice a0 c.instrs.length c0) (.slice a1 c.res.length c1) (.slice a2 c.irq.length c2) (.slice a3 c.nmi.length c3)) rfl (cpu5_one _ _ _ _ _ _ _ _ _ _ _ _) 25 (cpu5 ⟨#[]⟩ (.slice none 0 0) (.slice none 0 0) (.slice none 0 0) (.slice none 0 0)) rfl ?_ agP ?_; exact nz))
  have ba := (Below.refl w1.heap.size w1).alloc (Nat.le_refl _) (.cells (cpu5 ⟨#[]⟩ (.slice none 0 0) (.slice none 0 0) (.slice none 0 0) (.slice none 0 0)) 25)
  have bb := below_rowR ba (g := w1.heap.size) (cpu5 c.name (.slice a0 c.instrs.length c0) (.slice a1 c.res.length c1) (.slice a2 c.irq.length c2) (.slice a3 c.nmi.length c3)) (Nat.le_refl _)
  have hbel := hb.trans (bb.mono hb.size)
  have hp := rowB_row nz (cpu5 c.name (.slice a0 c.instrs.length c0) (.slice a1 c.res.length c1) (.slice a2 c.irq.length c2) (.slice a3 c.nmi.length c3))
  have harg := cpuArg_below harg1 bb (Nat.le_refl _)
  change Code.wp _ _ _ _ ((w1.alloc (.cells (cpu5 ⟨#[]⟩ (.slice none 0 0) (.slice none 0 0) (.slice none 0 0) (.slice none 0 0)) 25)).setRow w1.heap.size (cpu5 c.name (.slice a0 c.instrs.length c0) (.slice a1 c.res.length c1) (.slice a2 c.irq.length c2) (.slice a3 c.nmi.length c3)))
  generalize (w1.alloc (.cells (cpu5 ⟨#[]⟩ (.slice none 0 0) (.slice none 0 0) (.slice none 0 0) (.slice none 0 0)) 25)).setRow w1.heap.size (cpu5 c.name (.slice a0 c.instrs.length c0) (.slice a1 c.res.length c1) (.slice a2 c.irq.length c2) (.slice a3 c.nmi.length c3)) = w2 at *
  generalize w1.heap.size = p at *
  clear nz ba bb hb harg1 HM
  have HARG := Lib.hid harg
  clear harg
  have hj0 : (0 : Int) ≤ (jj : Int) := by omega
  have hj1 : (jj : Int) < 256 := by omega
  go_upto_region 3 with (first
    | (go_at_call 29; refine (HB.out _).mono ?_; rintro e w3 ⟨rfl, rfl⟩))
  obtain ⟨B, hB⟩ : ∃ B, B = begunV c (jj : Int) := ⟨_, rfl⟩
  have hT0 : ∀ f, tellCore c f (-1) 0 false (jj : Int) = core12 f B 0 false := fun f => by
    unfold tellCore
    rw [if_pos rfl, lo8_eq, Int.emod_eq_of_lt hj0 hj1, hB]
  have HBV := Lib.hid hB
  clear hB HB
  go_cut [8] (fun s wx => ends3 w2 B s wx)
  case first =>
    have harg := HARG.out
    refine wp_region_tree (fun w' => rowB w' p 25 (cpu5 c.name (.slice a0 c.instrs.length c0) (.slice a1 c.res.length c1) (.slice a2 c.irq.length c2) (.slice a3 c.nmi.length c3))) [0, 1, 4] (.rd 0 (.rd 1 (.rd 4 (.two 2 (.two 3 (.two 5 (.one 6 (.mix [(7, 3)])) 6 (.one 5 (.mix [(7, 3)]))) 6 (.one 3 (.one 5 (.mix [(7, 3)])))) 6 (.one 2 (.one 3 (.one 5 (.mix [(7, 3)])))))))) (by kernel_rfl) (by kernel_rfl) (fun _ _ _ _ _ h => h) ?_
    simp only [Tr.put, List.map_cons, List.map_nil, opOf, List.getD_cons_zero, List.getD_cons_succ]
    change wpTr _ _ _ _ _ _ w2.drew
    have bb0 : Below w2.heap.size w2 w2.drew := (Below.refl _ _).drew
    have l0 : p < w2.heap.size := rowB_lt hp
    generalize w2.drew = u0 at *
    refine wpTr_held (.agg (cpu5 c.name (.slice a0 c.instrs.length c0) (.slice a1 c.res.length c1) (.slice a2 c.irq.length c2) (.slice a3 c.nmi.length c3))) rfl (rowB_below hp bb0 (rowB_lt hp)) (fun w' hw' => (by have q0 := rowB_cell hw' 0 (v := .string c.name) rfl; have q1 := rowB_cell hw' 1 (v := .slice a0 c.instrs.length c0) rfl; have q2 := rowB_cell hw' 2 (v := .slice a1 c.res.length c1) rfl; have q3 := rowB_cell hw' 3 (v := .slice a2 c.irq.length c2) rfl; have q4 := rowB_cell hw' 4 (v := .slice a3 c.nmi.length c3) rfl; go_simp; rfl)) ?_
    simp only [Act.put, List.setIfInBounds_toArray, List.set_cons_zero, List.set_cons_succ]
    refine wpTr_held (.slice t1 t2 t3) rfl (rowB_below hp bb0 (rowB_lt hp)) (fun w' hw' => by go_simp) ?_
    simp only [Act.put, List.setIfInBounds_toArray, List.set_cons_zero, List.set_cons_succ]
    refine wpTr_held (.int .i64 (jj : Int)) rfl (rowB_below hp bb0 (rowB_lt hp)) (fun w' hw' => by go_simp) ?_
    simp only [Act.put, List.setIfInBounds_toArray, List.set_cons_zero, List.set_cons_succ]
    refine wpTr_two ?_ ?_
    · go_wp2_with (go_at_call 31; refine (registers_any (.slice t1 t2 t3) lr u0 (isArg_below HR.out (hbel.trans (bb0.mono hbel.size)) (Nat.le_refl _)) hwf2).mono ?_; rintro e u1 ⟨f2, rfl, hf3, hb4⟩)
      have bb5 := bb0.trans (hb4.mono bb0.size)
      refine ⟨(rowB_below hp bb5 (rowB_lt hp)), ?_⟩
      refine wpTr_two ?_ ?_
      · refine wpList_buildTo rfl 29 _ rfl _ rfl (core12 f2 (-1) 0 false) (by kernel_rfl) ?_
        go_wp2_with fail
        refine ⟨(rowB_below hp bb5 (rowB_lt hp)), ?_⟩
        refine wpTr_two ?_ ?_
        · have htell := tell_any c (.slice a0 c.instrs.length c0) (.slice a1 c.res.length c1) (.slice a2 c.irq.length c2) (.slice a3 c.nmi.length c3) f2 (-1) 0 false (jj : Int) u1 (cpuArg_below harg bb5 (Nat.le_refl _))
          rw [fit_fits hf3, hT0] at htell
          have HTELL := Lib.hid htell
          clear htell
          go_wp2_with (go_at_call 30; refine HTELL.out.mono ?_; rintro e u6 ⟨rfl, hb7⟩)
          clear HTELL
          have bb8 := bb5.trans (hb7.mono bb5.size)
          refine ⟨(rowB_below hp bb8 (rowB_lt hp)), ?_⟩
          refine wpTr_one ?_
          go_wp2_with fail
          have bb11 := bb8.alloc bb8.size (.cells (core12 (fun _ => 0) 0 0 false) 29)
          have hz12 := rowB_new u6 29 (core12 (fun _ => 0) 0 0 false)
          have lz13 := bb8.size
          try simp only [zero12]
          generalize u6.alloc (.cells (core12 (fun _ => 0) 0 0 false) 29) = u9 at *
          generalize u6.heap.size = z10 at *
          refine ⟨(rowB_below hp bb11 (rowB_lt hp)), ?_⟩
          refine wpTr_mix ?_
          refine wpMix_call ?_
          go_wp2_with (refine wpList_storeR rfl 29 _ _ rfl z10 rfl (core12 f2 B 0 false) rfl (core12_one _ _ _ _) 29 (core12 (fun _ => 0) 0 0 false) rfl ?_ agK ?_; with_reducible exact hz12)
          have bbx := below_rowR bb11 (core12 f2 B 0 false) lz13
          have hzx := rowB_row hz12 (core12 f2 B 0 false)
          refine ⟨fun _ => (rowB_below hp bbx (rowB_lt hp)), ?_⟩
          refine wpMix_nil ?_
          have HFIN := Lib.hid (show ends3 w2 B _ _ from ⟨z10, f2, rfl, hzx, hf3, bbx, lz13⟩)
          go_wp2_with fail
          go_meet
          case rel => exact HFIN.out

        · go_wp2_with fail
          have bb16 := bb5.alloc bb5.size (.cells (core12 (fun _ => 0) 0 0 false) 29)
          have hz17 := rowB_new u1 29 (core12 (fun _ => 0) 0 0 false)
          have lz18 := bb5.size
          try simp only [zero12]
          generalize u1.alloc (.cells (core12 (fun _ => 0) 0 0 false) 29) = u14 at *
          generalize u1.heap.size = z15 at *
          refine ⟨(rowB_below hp bb16 (rowB_lt hp)), ?_⟩
          refine wpTr_one ?_
          have htell := tell_any c (.slice a0 c.instrs.length c0) (.slice a1 c.res.length c1) (.slice a2 c.irq.length c2) (.slice a3 c.nmi.length c3) f2 (-1) 0 false (jj : Int) u14 (cpuArg_below harg bb16 (Nat.le_refl _))
          rw [fit_fits hf3, hT0] at htell
          have HTELL := Lib.hid htell
          clear htell
          go_wp2_with (go_at_call 30; refine HTELL.out.mono ?_; rintro e u19 ⟨rfl, hb20⟩)
          clear HTELL
          have bb21 := bb16.trans (hb20.mono bb16.size)
          have hz22 := rowB_below hz17 hb20 (rowB_lt hz17)
          refine ⟨(rowB_below hp bb21 (rowB_lt hp)), ?_⟩
          refine wpTr_mix ?_
          refine wpMix_call ?_
          go_wp2_with (refine wpList_storeR rfl 29 _ _ rfl z15 rfl (core12 f2 B 0 false) rfl (core12_one _ _ _ _) 29 (core12 (fun _ => 0) 0 0 false) rfl ?_ agK ?_; with_reducible exact hz22)
          have bbx := below_rowR bb21 (core12 f2 B 0 false) lz18
          have hzx := rowB_row hz22 (core12 f2 B 0 false)
          refine ⟨fun _ => (rowB_below hp bbx (rowB_lt hp)), ?_⟩
          refine wpMix_nil ?_
          have HFIN := Lib.hid (show ends3 w2 B _ _ from ⟨z15, f2, rfl, hzx, hf3, bbx, lz18⟩)
          go_wp2_with fail
          go_meet
          case rel => exact HFIN.out


      · go_wp2_with fail
        have bb25 := bb5.alloc bb5.size (.cells (core12 (fun _ => 0) 0 0 false) 29)
        have hz26 := rowB_new u1 29 (core12 (fun _ => 0) 0 0 false)
        have lz27 := bb5.size
        try simp only [zero12]
        generalize u1.alloc (.cells (core12 (fun _ => 0) 0 0 false) 29) = u23 at *
        generalize u1.heap.size = z24 at *
        refine ⟨(rowB_below hp bb25 (rowB_lt hp)), ?_⟩
        refine wpTr_one ?_
        refine wpList_buildTo rfl 29 _ rfl _ rfl (core12 f2 (-1) 0 false) (by kernel_rfl) ?_
        go_wp2_with fail
        refine ⟨(rowB_below hp bb25 (rowB_lt hp)), ?_⟩
        refine wpTr_one ?_
        have htell := tell_any c (.slice a0 c.instrs.length c0) (.slice a1 c.res.length c1) (.slice a2 c.irq.length c2) (.slice a3 c.nmi.length c3) f2 (-1) 0 false (jj : Int) u23 (cpuArg_below harg bb25 (Nat.le_refl _))
        rw [fit_fits hf3, hT0] at htell
        have HTELL := Lib.hid htell
        clear htell
        go_wp2_with (go_at_call 30; refine HTELL.out.mono ?_; rintro e u28 ⟨rfl, hb29⟩)
        clear HTELL
        have bb30 := bb25.trans (hb29.mono bb25.size)
        have hz31 := rowB_below hz26 hb29 (rowB_lt hz26)
        refine ⟨(rowB_below hp bb30 (rowB_lt hp)), ?_⟩
        refine wpTr_mix ?_
        refine wpMix_call ?_
        go_wp2_with (refine wpList_storeR rfl 29 _ _ rfl z24 rfl (core12 f2 B 0 false) rfl (core12_one _ _ _ _) 29 (core12 (fun _ => 0) 0 0 false) rfl ?_ agK ?_; with_reducible exact hz31)
        have bbx := below_rowR bb30 (core12 f2 B 0 false) lz27
        have hzx := rowB_row hz31 (core12 f2 B 0 false)
        refine ⟨fun _ => (rowB_below hp bbx (rowB_lt hp)), ?_⟩
        refine wpMix_nil ?_
        have HFIN := Lib.hid (show ends3 w2 B _ _ from ⟨z24, f2, rfl, hzx, hf3, bbx, lz27⟩)
        go_wp2_with fail
        go_meet
        case rel => exact HFIN.out


    · go_wp2_with fail
      have bb34 := bb0.alloc bb0.size (.cells (core12 (fun _ => 0) 0 0 false) 29)
      have hz35 := rowB_new u0 29 (core12 (fun _ => 0) 0 0 false)
      have lz36 := bb0.size
      try simp only [zero12]
      generalize u0.alloc (.cells (core12 (fun _ => 0) 0 0 false) 29) = u32 at *
      generalize u0.heap.size = z33 at *
      refine ⟨(rowB_below hp bb34 (rowB_lt hp)), ?_⟩
      refine wpTr_one ?_
      go_wp2_with (go_at_call 31; refine (registers_any (.slice t1 t2 t3) lr u32 (isArg_below HR.out (hbel.trans (bb34.mono hbel.size)) (Nat.le_refl _)) hwf2).mono ?_; rintro e u37 ⟨f38, rfl, hf39, hb40⟩)
      have bb41 := bb34.trans (hb40.mono bb34.size)
      have hz42 := rowB_below hz35 hb40 (rowB_lt hz35)
      refine ⟨(rowB_below hp bb41 (rowB_lt hp)), ?_⟩
      refine wpTr_one ?_
      refine wpList_buildTo rfl 29 _ rfl _ rfl (core12 f38 (-1) 0 false) (by kernel_rfl) ?_
      go_wp2_with fail
      refine ⟨(rowB_below hp bb41 (rowB_lt hp)), ?_⟩
      refine wpTr_one ?_
      have htell := tell_any c (.slice a0 c.instrs.length c0) (.slice a1 c.res.length c1) (.slice a2 c.irq.length c2) (.slice a3 c.nmi.length c3) f38 (-1) 0 false (jj : Int) u37 (cpuArg_below harg bb41 (Nat.le_refl _))
      rw [fit_fits hf39, hT0] at htell
      have HTELL := Lib.hid htell
      clear htell
      go_wp2_with (go_at_call 30; refine HTELL.out.mono ?_; rintro e u43 ⟨rfl, hb44⟩)
      clear HTELL
      have bb45 := bb41.trans (hb44.mono bb41.size)
      have hz46 := rowB_below hz42 hb44 (rowB_lt hz42)
      refine ⟨(rowB_below hp bb45 (rowB_lt hp)), ?_⟩
      refine wpTr_mix ?_
      refine wpMix_call ?_
      go_wp2_with (refine wpList_storeR rfl 29 _ _ rfl z33 rfl (core12 f38 B 0 false) rfl (core12_one _ _ _ _) 29 (core12 (fun _ => 0) 0 0 false) rfl ?_ agK ?_; with_reducible exact hz46)
      have bbx := below_rowR bb45 (core12 f38 B 0 false) lz36
      have hzx := rowB_row hz46 (core12 f38 B 0 false)
      refine ⟨fun _ => (rowB_below hp bbx (rowB_lt hp)), ?_⟩
      refine wpMix_nil ?_
      have HFIN := Lib.hid (show ends3 w2 B _ _ from ⟨z33, f38, rfl, hzx, hf39, bbx, lz36⟩)
      go_wp2_with fail
      go_meet
      case rel => exact HFIN.out


  case rest =>
    obtain ⟨z, f, rfl, hk, hf, hb3, lz⟩ := hcut
    have hp3 := rowB_below hp hb3 (rowB_lt hp)
    have lp := rowB_lt hp
    have lz3 := rowB_lt hk
    have hfind := findT_any c (jj : Int) _ _ _ _ wc (cpuArg_below HARG.out hb3 (Nat.le_refl _)) HSZ.out
    unfold gives at hfind
    obtain ⟨X, hX⟩ : ∃ X, X = foundIn (opIs (jj : Int)) c.instrs := ⟨_, rfl⟩
    obtain ⟨I, hI⟩ : ∃ I, I = isIn (opIs (jj : Int)) c.instrs := ⟨_, rfl⟩
    rw [← hX, ← hI] at hfind
    have HFIND := Lib.hid hfind
    have HX := Lib.hid hX
    have HI := Lib.hid hI
    clear hfind hX hI hT0
    go_upto_region 5 with (first
      | (refine wpList_loadR rfl 25 _ rfl p rfl 25 (cpu5 c.name (.slice a0 c.instrs.length c0) (.slice a1 c.res.length c1) (.slice a2 c.irq.length c2) (.slice a3 c.nmi.length c3)) ?_ agP ?_; with_reducible exact hp3)
      | (go_at_call 32; refine HFIND.out.mono ?_; rintro e w4 ⟨uv, rfl, hu, hb4⟩; obtain ⟨ua, uc, hue, -, -⟩ := isArr_form (freshArr_isArr hu); subst hue; have nz := rowB_new w4 49 #[.int .i64 0, .string ⟨#[]⟩, .int .i64 0, .slice none 0 0])
      | (refine wpList_storeR rfl 49 _ _ rfl (w4.heap.size) rfl #[.int .i64 X.op, .string X.name, .int .i64 X.mode, .slice ua X.cycles.length uc] rfl (by simp [Value.oneCell']) 49 #[.int .i64 0, .string ⟨#[]⟩, .int .i64 0, .slice none 0 0] rfl ?_ agInE ?_; exact nz))
    have lw4 := hb4.size
    have bx := below_rowR ((Below.refl w4.heap.size w4).alloc (Nat.le_refl _) (.cells #[.int .i64 0, .string ⟨#[]⟩, .int .i64 0, .slice none 0 0] 49)) (g := w4.heap.size) #[.int .i64 X.op, .string X.name, .int .i64 X.mode, .slice ua X.cycles.length uc] (Nat.le_refl _)
    have b4 := hb3.trans (hb4.mono hb3.size)
    have hT : endW w2 _ wc.heap.size p z w4.heap.size (cpu5 c.name (.slice a0 c.instrs.length c0) (.slice a1 c.res.length c1) (.slice a2 c.irq.length c2) (.slice a3 c.nmi.length c3)) (core12 f B 0 false) #[.int .i64 X.op, .string X.name, .int .i64 X.mode, .slice ua X.cycles.length uc] (.slice ua X.cycles.length uc) X.cycles :=
      ⟨rowB_below (rowB_below hp3 hb4 (rowB_lt hp3)) bx (Nat.lt_of_lt_of_le (rowB_lt hp3) lw4), rowB_below (rowB_below hk hb4 (rowB_lt hk)) bx (Nat.lt_of_lt_of_le (rowB_lt hk) lw4), rowB_row nz #[.int .i64 X.op, .string X.name, .int .i64 X.mode, .slice ua X.cycles.length uc], freshArr_below hu bx (Nat.le_refl _), b4.trans (bx.mono b4.size), lp, lz, lz3, Nat.lt_of_lt_of_le lz3 lw4⟩
    change Code.wp _ _ _ _ ((w4.alloc (.cells #[.int .i64 0, .string ⟨#[]⟩, .int .i64 0, .slice none 0 0] 49)).setRow w4.heap.size #[.int .i64 X.op, .string X.name, .int .i64 X.mode, .slice ua X.cycles.length uc])
    generalize (w4.alloc (.cells #[.int .i64 0, .string ⟨#[]⟩, .int .i64 0, .slice none 0 0] 49)).setRow w4.heap.size #[.int .i64 X.op, .string X.name, .int .i64 X.mode, .slice ua X.cycles.length uc] = w5 at *
    generalize w4.heap.size = r at *
    generalize wc.heap.size = LO at *
    clear hp3 lp lz3 lz hu hb4 nz lw4 bx b4 hk hb3 HFIND hp
    cases I with
    | false =>
      obtain rfl : B = 259 := HBV.out.trans (end_none HI.out.symm)
      go_upto_if 35 with (first
        | (go_at_call 33; refine (cores_keep _).mono ?_; rintro e w6 ⟨rfl, hb6⟩; have hT6 := hT.call hb6))
      go_wp2_with (first
        | (go_at_call 33; refine (cores_keep _).mono ?_; rintro e w7 ⟨rfl, hb7⟩; have hT7 := hT6.call hb7; have c9 := coreB_op hT7.hk; have bE := hbel.trans (hT7.bel.mono hbel.size)))
      go_ret
      exact ⟨rfl, bE⟩
    | true =>
      have hin := HI.out.symm
      obtain ⟨hst, hcs⟩ := end_start (op := (jj : Int)) ⟨hj0, hj1⟩ f hin
      have hXm := found_mem hin
      rw [← HX.out] at hst hcs hXm
      rw [← HBV.out] at hst
      have hXl := (HSZ.out X hXm).1
      have hl2 : X.cycles.length ≤ 4611686018427387904 := by omega
      have HCS := Lib.hid hcs
      clear hcs hin hXm hXl
      obtain ⟨k0, hk0⟩ : ∃ k0 : Ks, k0 = ⟨f, B, 0, false⟩ := ⟨_, rfl⟩
      rw [← hk0] at hst
      have hT' : endW w2 w5 LO p z r (cpu5 c.name (.slice a0 c.instrs.length c0) (.slice a1 c.res.length c1) (.slice a2 c.irq.length c2) (.slice a3 c.nmi.length c3)) (core12 k0.f k0.op k0.pl k0.n) #[.int .i64 X.op, .string X.name, .int .i64 X.mode, .slice ua X.cycles.length uc] (.slice ua X.cycles.length uc) X.cycles := by rw [hk0]; exact hT
      have HST := Lib.hid hst
      clear hst hT hk0
      go_upto_if 35 with (first
        | (go_at_call 33; refine (cores_keep _).mono ?_; rintro e w6 ⟨rfl, hb6⟩; have hT6 := hT'.call hb6))
      clear hT' hb6
      go_wp2_with fail
      go_loopw [11] (fun i wr => ∃ (n : Nat) (k : Ks), n ≤ X.cycles.length ∧ i = .int .i64 n ∧ endSt X.cycles (jj : Int) n k ∧ endW w2 wr LO p z r (cpu5 c.name (.slice a0 c.instrs.length c0) (.slice a1 c.res.length c1) (.slice a2 c.irq.length c2) (.slice a3 c.nmi.length c3)) (core12 k.f k.op k.pl k.n) #[.int .i64 X.op, .string X.name, .int .i64 X.mode, .slice ua X.cycles.length uc] (.slice ua X.cycles.length uc) X.cycles) (fun i _ => X.cycles.length - (intOf i).toNat)
      case atStart => exact ⟨0, k0, by omega, rfl, HST.out, hT6⟩
      case round =>
        clear hT6 HST
        obtain ⟨n, k, hn, rfl, hst, hT⟩ := hrel
        have HST := Lib.hid hst
        clear hst
        have c9 := coreB_op hT.hk
        have x3 := rowB_cell hT.hx 3 (v := .slice ua X.cycles.length uc) rfl
        by_cases ho : k.op = -1
        · have hE : leastN X.cycles ≤ n := by
            rcases HST.out.2 with h | h
            · exact h.2.1
            · omega
          obtain ⟨kf, ko, kp, kn⟩ := k
          simp only at ho hT c9
          subst ho
          have htim := fun w' (hT' : endW w2 w' LO p z r (cpu5 c.name (.slice a0 c.instrs.length c0) (.slice a1 c.res.length c1) (.slice a2 c.irq.length c2) (.slice a3 c.nmi.length c3)) (core12 kf (-1) kp kn) #[.int .i64 X.op, .string X.name, .int .i64 X.mode, .slice ua X.cycles.length uc] (.slice ua X.cycles.length uc) X.cycles) => times_any X.op X.name X.mode (.slice ua X.cycles.length uc) X.cycles w' (freshArr_isArr hT'.hc) hl2
          have HTIM := Lib.hid htim
          clear htim
          have hn4 : ((leastN X.cycles : Nat) : Int) + 1 ≤ (n : Int) + 1 := by omega
          have hn5 : (n : Int) + 1 ≤ (X.cycles.length : Int) + 1 := by omega
          have hn6 : leastN X.cycles + 1 ≤ n + 1 := by omega
          have hn7 : n + 1 ≤ X.cycles.length + 1 := by omega
          generalize leastN X.cycles = LN at *
          go_upto_region 13 with (first
            | (refine wpList_loadR rfl 49 _ rfl r rfl 49 #[.int .i64 X.op, .string X.name, .int .i64 X.mode, .slice ua X.cycles.length uc] ?_ agInE ?_; with_reducible exact hT.hx)
            | (go_at_call 26; refine (HTIM.out _ hT).mono ?_; rintro e wf ⟨rfl, hb⟩))
          have hT7 := hT.call hb
          have d9 := coreB_op hT7.hk
          have bE := hbel.trans (hT7.bel.mono hbel.size)
          go_wp2_with fail
          go_ret
          exact ⟨rfl, bE⟩
        · have hlt : n < X.cycles.length := by
            rcases HST.out.2 with h | h
            · exact absurd h.1 ho
            · exact h.2.2.1
          have hle : (n : Int) ≤ (X.cycles.length : Int) := by omega
          have t1 : (k.op != -1) = true := by simpa using ho
          have t2 : (k.op == -1) = false := by simpa using ho
          have HHO := Lib.hid ho
          clear ho
          obtain ⟨k1, hk1⟩ : ∃ k1, k1 = askK c k true := ⟨_, rfl⟩
          obtain ⟨k2, hk2⟩ : ∃ k2, k2 = tellK c k1 (n : Int) := ⟨_, rfl⟩
          have hst2 : endSt X.cycles (jj : Int) (n + 1) k2 := by rw [hk2, hk1]; exact end_step ⟨hj0, hj1⟩ HCS.out HST.out HHO.out _
          have HST2 := Lib.hid hst2
          have HK1 := Lib.hid hk1
          have HK2 := Lib.hid hk2
          clear hst2 hk1 hk2
          go_upto_region 10 with (fail)
          have hask := ask_any c (.slice a0 c.instrs.length c0) (.slice a1 c.res.length c1) (.slice a2 c.irq.length c2) (.slice a3 c.nmi.length c3) k.f k.op k.pl k.n true wr (cpuArg_below HARG.out hT.bel (Nat.le_refl _))
          rw [askK_row, askU_row, ← HK1.out] at hask
          obtain ⟨ub, hub⟩ : ∃ ub, ub = (askU c k true).row := ⟨_, rfl⟩
          rw [← hub] at hask
          simp only [Ks.row] at hask
          have HASK := Lib.hid hask
          clear hask hub c9 x3 t1 t2
          go_upto_region 11 with (first
            | (refine wpList_loadR rfl 25 _ rfl p rfl 25 (cpu5 c.name (.slice a0 c.instrs.length c0) (.slice a1 c.res.length c1) (.slice a2 c.irq.length c2) (.slice a3 c.nmi.length c3)) ?_ agP ?_; with_reducible exact hT.hp)
            | (refine wpList_loadR rfl 29 _ rfl z rfl 29 (core12 k.f k.op k.pl k.n) ?_ agK ?_; with_reducible exact hT.hk)
            | (go_at_call 34; refine HASK.out.mono ?_; rintro e wa ⟨rfl, hb⟩; have hT1 := hT.call hb)
            | (refine wpList_storeR rfl 29 _ _ rfl z rfl (core12 k1.f k1.op k1.pl k1.n) rfl (core12_one _ _ _ _) 29 (core12 k.f k.op k.pl k.n) rfl ?_ agK ?_; with_reducible exact hT1.hk))
          have hT2 := hT1.state (core12 k1.f k1.op k1.pl k1.n)
          generalize wa.setRow z (core12 k1.f k1.op k1.pl k1.n) = wb at *
          clear hT hb hT1 HASK
          have htell := tell_any c (.slice a0 c.instrs.length c0) (.slice a1 c.res.length c1) (.slice a2 c.irq.length c2) (.slice a3 c.nmi.length c3) k1.f k1.op k1.pl k1.n (n : Int) wb (cpuArg_below HARG.out hT2.bel (Nat.le_refl _))
          rw [tellK_row, ← HK2.out] at htell
          simp only [Ks.row] at htell
          have HTELL := Lib.hid htell
          clear htell
          go_wp2_with (first
            | (refine wpList_loadR rfl 25 _ rfl p rfl 25 (cpu5 c.name (.slice a0 c.instrs.length c0) (.slice a1 c.res.length c1) (.slice a2 c.irq.length c2) (.slice a3 c.nmi.length c3)) ?_ agP ?_; with_reducible exact hT2.hp)
            | (refine wpList_loadR rfl 29 _ rfl z rfl 29 (core12 k1.f k1.op k1.pl k1.n) ?_ agK ?_; with_reducible exact hT2.hk)
            | (go_at_call 30; refine HTELL.out.mono ?_; rintro e wa2 ⟨rfl, hb⟩; have hT3 := hT2.call hb)
            | (refine wpList_storeR rfl 29 _ _ rfl z rfl (core12 k2.f k2.op k2.pl k2.n) rfl (core12_one _ _ _ _) 29 (core12 k1.f k1.op k1.pl k1.n) rfl ?_ agK ?_; with_reducible exact hT3.hk))
          have hT4 := hT3.state (core12 k2.f k2.op k2.pl k2.n)
          clear hT2 hb hT3 HTELL
          go_roundw
          case measure => simp [intOf]; omega
          case rel => exact ⟨n + 1, k2, by omega, by go_num, HST2.out, hT4⟩
end Go.Proofs.Ytdaaaaacknpbhaa
