/- The contract of the reference's Answered. -/
import Derived.Test.YthhihmggaddlmaaAluStep
import Derived.Test.YthhihmggaddlmaaChecked
import Derived.Test.YthhihmggaddlmaaCoreRefAsk
import Derived.Test.YthhihmggaddlmaaCoreRefT
import Derived.Test.YthhihmggaddlmaaCoreTellA
import Derived.Below
import Derived.BigQuiet
import Derived.Carry
import Derived.ChangeMaps5
import Derived.Deep.CutBlock
import Derived.Deep.DeepCutAuto
import Derived.Deep.Draws
import Derived.Deep.MidRow
import Derived.Deep.OwnRows
import Derived.Deep.QuietTactic
import Derived.Deep.RegionHeld3
import Derived.Deep.RegionLaw
import Derived.Deep.RegionWith
import Derived.Deep.Slices
import Derived.Deep.WholeRow
import Derived.Lib.Hide
import Derived.Lib.SmallJoins
import Derived.Maps.Keyed
import Derived.Maps.Own
import Derived.Maps.OwnOps
import Derived.OpenShut
import Derived.OrdersHeld
import Derived.OwnWalk
import Derived.RowKit3
import Derived.Shelf.Abstract
import Derived.SizedLaws
import Derived.StillTactics
import Derived.StillTail
import Derived.StillTailTactics
import Derived.WalkKit
namespace Go.Proofs.Ythhihmggaddlmaa
open Go.RowKit
set_option maxRecDepth 100000

/-- The four blocks of a call of Answered. -/
structure ansW (w0 w : World) (cpu ks : Array Value) (d : Int) : Prop where
  hp : rowB w w0.heap.size 25 cpu
  hk : rowB w (w0.heap.size + 1) 29 ks
  hd : rowB w (w0.heap.size + 2) 3 #[.int .i64 d]
  hr : rowB w (w0.heap.size + 3) 29 (core12 (fun _ => 0) 0 0 false)
  bel : Below w0.heap.size w0 w
section
variable {w0 w : World} {cpu ks : Array Value} {d : Int}
theorem ansW.call {w' : World} (h : ansW w0 w cpu ks d) (hb : Below w.heap.size w w') : ansW w0 w' cpu ks d :=
  ⟨rowB_below h.hp hb (rowB_lt h.hp), rowB_below h.hk hb (rowB_lt h.hk), rowB_below h.hd hb (rowB_lt h.hd), rowB_below h.hr hb (rowB_lt h.hr), h.bel.trans (hb.mono h.bel.size)⟩
theorem ansW.puts (h : ansW w0 w cpu ks d) (vs : List Value) : ansW w0 (w.setCells (w0.heap.size + 1) 0 vs) cpu (putsA ks 0 vs) d :=
  ⟨rowB_puts_other h.hp (by omega) 0 vs, rowB_puts h.hk 0 vs, rowB_puts_other h.hd (by omega) 0 vs, rowB_puts_other h.hr (by omega) 0 vs, below_puts h.bel (by omega) 0 vs⟩
theorem ansW.size (h : ansW w0 w cpu ks d) : w0.heap.size + 3 < w.heap.size := rowB_lt h.hr
theorem ansW.alloc (h : ansW w0 w cpu ks d) (o : Obj) : ansW w0 (w.alloc o) cpu ks d :=
  ⟨rowB_alloc h.hp o, rowB_alloc h.hk o, rowB_alloc h.hd o, rowB_alloc h.hr o, h.bel.alloc h.bel.size o⟩
theorem ansW.setNear {ds : Array Value} (h : ansW w0 w cpu ks d) (k : Nat) (v : Value) (hk : rowB (w.setCell ⟨w0.heap.size + 1, k, none⟩ v) (w0.heap.size + 1) 29 ds) : ansW w0 (w.setCell ⟨w0.heap.size + 1, k, none⟩ v) cpu ds d :=
  ⟨rowB_other h.hp _ v (by simp), hk, rowB_other h.hd _ v (by simp), rowB_other h.hr _ v (by simp), h.bel.setCell (p := ⟨w0.heap.size + 1, k, none⟩) (by simp) v⟩
theorem ansW.regs {f : Nat → Int} {op pl : Int} {n : Bool} (h : ansW w0 w cpu (core12 f op pl n) d) (F : Nat → Int) : ansW w0 (w.setCells (w0.heap.size + 1) 0 (arr9 F).toList) cpu (core12 F op pl n) d := by
  have := h.puts (arr9 F).toList
  rw [core12_puts] at this
  exact this
theorem ansW.setD (h : ansW w0 w cpu ks d) (x : Int) : ansW w0 (w.setCell ⟨w0.heap.size + 2, 0, none⟩ (.int .i64 x)) cpu ks x :=
  ⟨rowB_other h.hp _ _ (by simp), rowB_other h.hk _ _ (by simp), rowB_set h.hd 0 _, rowB_other h.hr _ _ (by simp), h.bel.setCell (p := ⟨w0.heap.size + 2, 0, none⟩) (by simp) _⟩
end
theorem ansW.start (w : World) (cpu ks : Array Value) (d : Int) : ansW w ((((w.alloc (.cells cpu 25)).alloc (.cells ks 29)).alloc (.cells #[.int .i64 d] 3)).alloc (.cells (core12 (fun _ => 0) 0 0 false) 29)) cpu ks d := by
  obtain ⟨k0, k1, k2, k3, b, s⟩ := boxes4 w (.cells cpu 25) (.cells ks 29) (.cells #[.int .i64 d] 3) (.cells (core12 (fun _ => 0) 0 0 false) 29)
  exact ⟨k0, k1, k2, k3, b⟩

set_option maxRecDepth 100000 in
set_option maxHeartbeats 4000000 in
theorem answered_any (c : Cp) (v0 v1 v2 v3 : Value) (f : Nat → Int) (op pl : Int) (n : Bool) (data : Int) (w : World) (h : cpuArg w v0 v1 v2 v3 c) :
    Calls Try.prog 17 #[.agg (cpu5 c.name v0 v1 v2 v3), .agg (core12 f op pl n), .int .i64 data] w fun e w' =>
      e = .returned (.agg (tellCore c (fitR f) op pl n data)) ∧ Below w.heap.size w w' := by
  have hmf := mkFn
  have hW := ansW.start w (cpu5 c.name v0 v1 v2 v3) (core12 f op pl n) data
  have hft := fittedRef_any f
  have hF := fits_fit f
  obtain ⟨F, hFe⟩ : ∃ F, F = fitR f := ⟨_, rfl⟩
  rw [← hFe] at hft hF ⊢
  clear hFe
  obtain ⟨Q, hQ⟩ : ∃ Q, Q = tellCore c F op pl n data := ⟨_, rfl⟩
  rw [← hQ]
  have HQ := Lib.hid hQ
  have HA := Lib.hid h
  have hmod := fun w => modRef_any data 256 (.inl rfl) w
  rw [show data % 256 = lo data 8 from (lo8_eq data).symm] at hmod
  clear h hQ
  go_enter Try.func17, Try.ntmps17
  go_upto_region 1 with (fail)
  change Code.wp _ _ _ _ ((((w.alloc (.cells (cpu5 c.name v0 v1 v2 v3) 25)).alloc (.cells (core12 f op pl n) 29)).alloc (.cells #[.int .i64 data] 3)).alloc (.cells (core12 (fun _ => 0) 0 0 false) 29))
  generalize (((w.alloc (.cells (cpu5 c.name v0 v1 v2 v3) 25)).alloc (.cells (core12 f op pl n) 29)).alloc (.cells #[.int .i64 data] 3)).alloc (.cells (core12 (fun _ => 0) 0 0 false) 29) = w1 at *
  have d0 := rowB_cell hW.hd 0 (v := .int .i64 data) rfl
  have y0 := rowB_free hW.hd 0
  have hWd := hW.setD (lo data 8)
  go_upto_region 2 with (go_at_call 14; refine (hmod _).mono ?_; rintro e w' ⟨rfl, rfl⟩)
  clear hW d0 y0 hmod
  have hd8 := hWd
  obtain ⟨d, hde⟩ : ∃ d, d = lo data 8 := ⟨_, rfl⟩
  rw [← hde] at hWd hd8 ⊢
  have HQ2 := HQ.out
  unfold tellCore at HQ2
  rw [← hde] at HQ2
  have HQ3 := Lib.hid HQ2
  clear HQ HQ2 hde hd8
  generalize w1.setCell ⟨w.heap.size + 2, 0, none⟩ (.int .i64 d) = w2 at *
  go_upto_region 3 with (first
      | (refine wpList_loadH rfl 27 _ rfl (w.heap.size + 1) rfl (arr9 f) 29 (core12 f op pl n) ?_ (core12_head _ _ _ _) agR ?_; with_reducible exact hWd.hk)
      | (go_at_call 51; refine (hft _).mono ?_; rintro e w3 ⟨rfl, hb3⟩; have hW2 := hWd.call hb3)
      | (refine wpList_storeH rfl 27 _ _ rfl (w.heap.size + 1) rfl (arr9 F) rfl (arr9_one _) 29 (core12 f op pl n) ?_ (show 9 ≤ 12 by decide) agR ?_; with_reducible exact hW2.hk))
  have hW3 := hW2.puts (arr9 F).toList
  rw [core12_puts] at hW3
  generalize w3.setCells (w.heap.size + 1) 0 (arr9 F).toList = w4 at *
  clear hWd hW2 hb3 hft
  go_upto_region 4 with (fail)
  have c9 := coreB_op hW3.hk
  by_cases ho : op = -1
  · subst ho
    have HV := Lib.hid (HQ3.out.trans (if_pos rfl) : Q = core12 F (begunV c d) 0 n)
    clear HQ3
    have hA := HA.out
    have harr := hA.1
    obtain ⟨a0, p0, rfl, _, hform⟩ := ins_form harr
    have HF := Lib.hid hform
    have hix := indexFunc_at 58 #[.pointer (some ⟨w.heap.size + 2, 0, none⟩)] (fun x => x.op == d) _ c.instrs w4 (isArr_below ins_keeps harr hW3.bel (Nat.le_refl _)) (enters_of Try.func58 (by kernel_rfl) rfl) (fun x cv w' hb hcy => byteIs_any _ d x cv w' (rowB_below hW3.hd hb (rowB_lt hW3.hd)) hcy)
    have e1 := rowB_cell hW3.hp 1 (v := .slice a0 c.instrs.length p0) rfl
    clear hA harr hform
    go_upto_region 6 with (go_at_call 57; refine hix.mono ?_; rintro e w5 ⟨rfl, hb5⟩; have hW5 := hW3.call hb5)
    clear hix hb5 hW3 c9 e1
    have z9 := rowB_free hW5.hk 9
    have z10 := rowB_free hW5.hk 10
    have y9 := coreB_op hW5.hk
    have y10 := coreB_pl hW5.hk
    rcases idx_op d c.instrs with ⟨hi, hv⟩ | ⟨k, x, hi, hx, hk, hv⟩
    · have HV2 := Lib.hid (HV.out.trans (by rw [show begunV c d = 259 from hv]) : Q = core12 F 259 0 n)
      have hW6 := (hW5.setNear 9 _ (coreB_setOp hW5.hk 259)).setNear 10 _ (coreB_setPl (coreB_setOp hW5.hk 259) 0)
      rw [hi]
      clear hv hi HV HF
      go_upto_region 11 with (fail)
      generalize (w5.setCell ⟨w.heap.size + 1, 9, none⟩ (.int .i64 259)).setCell ⟨w.heap.size + 1, 10, none⟩ (.int .i64 0) = w6 at *
      go_wp2_with (first
      | (refine wpList_loadR rfl 29 _ rfl (w.heap.size + 1) rfl 29 (core12 F 259 0 n) ?_ agK ?_; with_reducible exact hW6.hk)
      | (refine wpList_storeR rfl 29 _ _ rfl (w.heap.size + 3) rfl (core12 F 259 0 n) rfl (core12_one _ _ _ _) 29 (core12 (fun _ => 0) 0 0 false) rfl ?_ agK ?_; with_reducible exact hW6.hr))
      refine bodyPost_ret (resultsR rfl (w.heap.size + 3) _ rfl (rowB_row hW6.hr _) agK) rfl ⟨?_, below_rowR hW6.bel _ (by omega)⟩
      rw [HV2.out]
    · obtain ⟨b, off, rfl, u, hcell, hu⟩ := HF.out k x hx
      obtain ⟨d0, d3⟩ := hcell w5 hW5.bel
      obtain ⟨ua, ucap, rfl, _, _⟩ := isArr_form hu
      have e1 := rowB_cell hW5.hp 1 (v := .slice (some ⟨b, off, none⟩) c.instrs.length p0) rfl
      have e5 := rowB_cell hW5.hd 0 (v := .int .i64 d) rfl
      have HV2 := Lib.hid (HV.out.trans (by rw [show begunV c d = if x.cycles.length = 0 then -1 else d from hv]) : Q = core12 F (if x.cycles.length = 0 then -1 else d) 0 n)
      rw [hi]
      clear hv hi HV HF hcell hu hx
      by_cases hl : x.cycles.length = 0
      · have HV3 := Lib.hid (HV2.out.trans (by rw [if_pos hl]) : Q = core12 F (-1) 0 n)
        have hW6 := hW5.setNear 10 _ (coreB_setPl hW5.hk 0)
        have hlb : decide ((0 : Int) < (x.cycles.length : Int)) = false := decide_eq_false (by omega)
        have hlc : ¬ 0 < x.cycles.length := by omega
        clear HV2
        rw [hl] at d3
        clear hl hlb hlc
        go_upto_region 11 with (fail)
        generalize w5.setCell ⟨w.heap.size + 1, 10, none⟩ (.int .i64 0) = w6 at *
        go_wp2_with (first
      | (refine wpList_loadR rfl 29 _ rfl (w.heap.size + 1) rfl 29 (core12 F (-1) 0 n) ?_ agK ?_; with_reducible exact hW6.hk)
      | (refine wpList_storeR rfl 29 _ _ rfl (w.heap.size + 3) rfl (core12 F (-1) 0 n) rfl (core12_one _ _ _ _) 29 (core12 (fun _ => 0) 0 0 false) rfl ?_ agK ?_; with_reducible exact hW6.hr))
        refine bodyPost_ret (resultsR rfl (w.heap.size + 3) _ rfl (rowB_row hW6.hr _) agK) rfl ⟨?_, below_rowR hW6.bel _ (by omega)⟩
        rw [HV3.out]
      · have HV3 := Lib.hid (HV2.out.trans (by rw [if_neg hl]) : Q = core12 F d 0 n)
        have hW6 := (hW5.setNear 9 _ (coreB_setOp hW5.hk d)).setNear 10 _ (coreB_setPl (coreB_setOp hW5.hk d) 0)
        have hlc : 0 < x.cycles.length := by omega
        clear HV2 hl
        go_upto_region 11 with (fail)
        generalize (w5.setCell ⟨w.heap.size + 1, 9, none⟩ (.int .i64 d)).setCell ⟨w.heap.size + 1, 10, none⟩ (.int .i64 0) = w6 at *
        go_wp2_with (first
      | (refine wpList_loadR rfl 29 _ rfl (w.heap.size + 1) rfl 29 (core12 F d 0 n) ?_ agK ?_; with_reducible exact hW6.hk)
      | (refine wpList_storeR rfl 29 _ _ rfl (w.heap.size + 3) rfl (core12 F d 0 n) rfl (core12_one _ _ _ _) 29 (core12 (fun _ => 0) 0 0 false) rfl ?_ agK ?_; with_reducible exact hW6.hr))
        refine bodyPost_ret (resultsR rfl (w.heap.size + 3) _ rfl (rowB_row hW6.hr _) agK) rfl ⟨?_, below_rowR hW6.bel _ (by omega)⟩
        rw [HV3.out]
  · have hob : (op == -1) = false := by simpa using ho
    have HV := Lib.hid (HQ3.out.trans (if_neg ho) : Q = if curB (cyclesOf c op) pl = false then (if op = 259 then core12 F op pl n else core12 F (-1) 0 n)
      else if overB (cyclesOf c op) pl (stepsF (cycAt (cyclesOf c op) pl).steps (readR (cycAt (cyclesOf c op) pl) d F)) = true
        then core12 (stepsF (cycAt (cyclesOf c op) pl).steps (readR (cycAt (cyclesOf c op) pl) d F)).1 (-1) 0 n
        else core12 (stepsF (cycAt (cyclesOf c op) pl).steps (readR (cycAt (cyclesOf c op) pl) d F)).1 op (pl + 1) n)
    have hcy := cyclesR_any c v0 v1 v2 v3 op w w4 HA.out hW3.bel
    clear HQ3 HA ho
    generalize cyclesOf c op = l at *
    go_upto_region 13 with (first
      | (refine wpList_loadR rfl 25 _ rfl (w.heap.size) rfl 25 (cpu5 c.name v0 v1 v2 v3) ?_ agP ?_; with_reducible exact hW3.hp)
      | (go_at_call 52; with_reducible refine hcy.mono ?_; rintro e w5 ⟨u, rfl, hu, hb5⟩; have hW5 := hW3.call hb5; obtain ⟨ua, ucap, rfl, hlen, hform⟩ := cyc_form hu; have HF := Lib.hid hform; clear hu hform hcy))
    clear hW3 hb5 c9
    have y10 := coreB_pl hW5.hk
    obtain ⟨D, hD⟩ : ∃ D, D = !curB l pl := ⟨_, rfl⟩
    go_cut [58] (fun b wx => b = .bool D ∧ wx = w5)
    case first =>
      have HD := Lib.hid hD
      clear hD
      by_cases h1 : pl < 0
      · have h1b : decide (pl < 0) = true := by simpa using h1
        have HE := Lib.hid (show D = true by rw [HD.out]; unfold curB; rw [decide_eq_false (by omega : ¬ 0 ≤ pl)]; rfl)
        go_wp2_with fail
        go_meet
        case rel => exact ⟨by rw [HE.out], rfl⟩
      · have h1b : decide (pl < 0) = false := by simpa using h1
        obtain ⟨k, rfl⟩ : ∃ k : Nat, pl = (k : Int) := ⟨pl.toNat, by omega⟩
        have HE := Lib.hid (show D = decide (l.length ≤ k) by
          rw [HD.out]; unfold curB
          rw [decide_eq_true (by omega : (0 : Int) ≤ (k : Int))]
          by_cases hq : l.length ≤ k
          · rw [decide_eq_true hq, decide_eq_false (by omega : ¬ (k : Int) < (l.length : Int))]; rfl
          · rw [decide_eq_false hq, decide_eq_true (by omega : (k : Int) < (l.length : Int))]; rfl)
        clear h1
        go_wp2_with fail
        go_meet
        case rel => exact ⟨by rw [HE.out], rfl⟩
    case rest =>
    obtain ⟨rfl, hwc⟩ := hcut
    subst hwc
    cases D
    · have hcur : curB l pl = true := by simpa using hD.symm
      have h12 : 0 ≤ pl ∧ pl < (l.length : Int) := by
        have := hcur
        unfold curB at this
        simpa using this
      obtain ⟨k, rfl⟩ : ∃ k : Nat, pl = (k : Int) := ⟨pl.toNat, by omega⟩
      have hk : k < l.length := by omega
      obtain ⟨x, hx, _⟩ := drop_at hk
      have hxe : cycAt l (k : Int) = x := by unfold cycAt; rw [if_pos hcur, Int.toNat_natCast, List.getD_eq_getElem?_getD, hx]; rfl
      have hv := HV.out
      rw [hxe, if_neg (by rw [hcur]; decide)] at hv
      have HW := Lib.hid hv
      obtain ⟨b, off, rfl, sa, sc, hcell, hst⟩ := HF.out k x hx
      have HS := Lib.hid hst
      obtain ⟨x0, x1, x2, x3⟩ := hcell wc hW5.bel
      have hmax := hlen (by omega)
      clear hst hcell hx hxe hv HV h12 HF hlen hcur hD
      go_upto_region 18 with (fail)
      have nX := rowB_new wc 84 (cyc4 x.bus x.place x.reg (.slice sa x.steps.length sc))
      have lX := hW5.size
      have hW6 := hW5.alloc (.cells (cyc4 x.bus x.place x.reg (.slice sa x.steps.length sc)) 84)
      change Code.wp _ _ _ _ (wc.alloc (.cells (cyc4 x.bus x.place x.reg (.slice sa x.steps.length sc)) 84))
      clear hW5 y10 x0 x1 x2 x3
      generalize wc.alloc (.cells (cyc4 x.bus x.place x.reg (.slice sa x.steps.length sc)) 84) = w6 at *
      generalize wc.heap.size = y at *
      have x0 := rowB_cell nX 0 (v := .int .i64 x.bus) rfl
      have x2 := rowB_cell nX 2 (v := .int .i64 x.reg) rfl
      obtain ⟨D, hD⟩ : ∃ D, D = ((x.bus == 1) && isReg x.reg) := ⟨_, rfl⟩
      go_cut [82] (fun b wx => b = .bool D ∧ wx = w6)
      case first =>
        rw [isReg_nar] at hD
        by_cases h2 : x.bus = 1
        · have h2b : (x.bus == 1) = true := by simpa using h2
          have HD := Lib.hid (show D = (nar x.reg || wideB x.reg) by rw [hD, h2b]; rfl)
          clear h2 hD
          cases hn : nar x.reg
          all_goals
            go_wp2_with (first
              | (go_at_call 53; refine (narrowA_any _ _).mono ?_; rintro e w' ⟨rfl, rfl⟩; rw [hn])
              | (go_at_call 54; refine (wideRef_any _ _).mono ?_; rintro e w' ⟨rfl, rfl⟩))
            go_meet
            case rel => exact ⟨by rw [HD.out, hn]; rfl, rfl⟩
        · have h2b : (x.bus == 1) = false := by simpa using h2
          have HD := Lib.hid (show D = false by rw [hD, h2b]; rfl)
          clear h2 hD
          go_wp2_with fail
          go_meet
          case rel => exact ⟨by rw [HD.out], rfl⟩
      case rest =>
      obtain ⟨rfl, hwc⟩ := hcut
      subst hwc
      go_upto_if 82 with (fail)
      go_cut [] (fun wx => ansW w wx (cpu5 c.name v0 v1 v2 v3) (core12 (readR x d F) op k n) d ∧ rowB wx y 84 (cyc4 x.bus x.place x.reg (.slice sa x.steps.length sc)))
      case first =>
        cases D
        · have HD := Lib.hid (show readR x d F = F by
            unfold readR
            rw [if_neg]
            rintro ⟨h1, h2⟩
            rw [h1, h2] at hD
            cases hD)
          clear hD
          go_wp2_with fail
          go_meet
          case rel => rw [HD.out]; exact ⟨hW6, nX⟩
        · have hD2 : x.bus = 1 ∧ isReg x.reg = true := by simpa using hD.symm
          have HD := Lib.hid (show readR x d F = setR F x.reg.toNat d by unfold readR; rw [if_pos hD2])
          have hr2 : 0 ≤ x.reg ∧ x.reg < 9 := by have := hD2.2; unfold isReg at this; simpa using this
          clear hD hD2
          obtain ⟨j, hj⟩ : ∃ j : Nat, x.reg = (j : Int) := ⟨x.reg.toNat, by omega⟩
          have hj9 : j < 9 := by omega
          have cj := coreB_reg hW6.hk j hj9
          have zj := rowB_free hW6.hk j
          have e5 := rowB_cell hW6.hd 0 (v := .int .i64 d) rfl
          rw [hj] at HD x2
          clear hr2 hj
          go_wp2_with fail
          go_meet
          case rel =>
            rw [HD.out, Int.toNat_natCast]
            exact ⟨hW6.setNear j _ (coreB_setReg hW6.hk j d hj9), rowB_other nX _ _ (by show w.heap.size + 1 ≠ y; omega)⟩
      case rest =>
        clear hW6 nX x0 x2 hD
        obtain ⟨hW7, nX7⟩ := hcut
        generalize readR x d F = G at *
        have y10 := coreB_pl hW7.hk
        have z10 := rowB_free hW7.hk 10
        have hW8 := hW7.setNear 10 _ (coreB_setPl hW7.hk ((k : Int) + 1))
        have nX8 := rowB_other nX7 ⟨w.heap.size + 1, 10, none⟩ (.int .i64 ((k : Int) + 1)) (by show w.heap.size + 1 ≠ y; omega)
        have hwr : IntKind.i64.wrap ((k : Int) + 1) = (k : Int) + 1 := IntWalk.i64_in _ (by omega)
        obtain ⟨S, hS⟩ : ∃ S, S = stepsF x.steps G := ⟨_, rfl⟩
        have hv := HW.out
        rw [← hS] at hv
        have HW2 := Lib.hid hv
        have HSt := Lib.hid hS
        clear hv HW hS
        obtain ⟨sa', sc', heq, hslen, hcells⟩ := st_form HS.out
        have HCL := Lib.hid hcells
        simp only [Value.slice.injEq] at heq
        obtain ⟨rfl, _, rfl⟩ := heq
        clear hcells HS
        go_upto_region 21 with (fail)
        clear hW7 nX7 y10 z10
        generalize wc.setCell ⟨w.heap.size + 1, 10, none⟩ (.int .i64 ((k : Int) + 1)) = w8 at *
        have x3 := rowB_cell nX8 3 (v := .slice sa x.steps.length sc) rfl
        go_wp2_with fail
        clear x3
        go_loopw [95] (fun i wr => ∃ (j : Nat) (R : Nat → Int), j ≤ x.steps.length ∧ i = .int .i64 j ∧ ansW w wr (cpu5 c.name v0 v1 v2 v3) (core12 R op (k + 1) n) d ∧ S = stepsF (x.steps.drop j) R) (fun i _ => x.steps.length - (intOf i).toNat)
        case atStart => exact ⟨0, G, Nat.zero_le _, rfl, hW8, HSt.out⟩
        case round =>
          clear hW8 nX8
          obtain ⟨j, R, hj, rfl, hA, hSF⟩ := hrel
          have HSF := Lib.hid hSF
          clear hSF
          by_cases hlt : j < x.steps.length
          · obtain ⟨s, hs, hdr⟩ := drop_at hlt
            obtain ⟨sb, soff, rfl, hcell⟩ := HCL.out j s hs
            obtain ⟨e0, e1, e2, e3⟩ := hcell wr hA.bel
            have hd := stepped_any s.d s.t s.f s.n R
            have HS2 := Lib.hid (HSF.out.trans (by rw [hdr]; rfl) : S = if endB s.d (reg s.f) s.n (fitR R) = true then (doF s.d (reg s.t) (reg s.f) s.n (fitR R), true) else stepsF (x.steps.drop (j + 1)) (doF s.d (reg s.t) (reg s.f) s.n (fitR R)))
            clear hs hdr hcell HSF
            generalize doF s.d (reg s.t) (reg s.f) s.n (fitR R) = H at *
            generalize endB s.d (reg s.f) s.n (fitR R) = E at *
            obtain ⟨sd, t, u, sn⟩ := s
            dsimp only at e0 e1 e2 e3 hd
            have hA1 := hA.alloc (.cells #[.int .i64 sd, .int .i64 t, .int .i64 u, .int .i64 sn] 100)
            cases E
            · go_wp2_with (first
                | (go_at_call 59; refine (hd _).mono ?_; rintro e w9 ⟨rfl, hb9⟩; have hA2 := hA1.call hb9)
                | (refine wpList_loadH rfl 27 _ rfl (w.heap.size + 1) rfl (arr9 R) 29 (core12 R op (k + 1) n) ?_ (core12_head _ _ _ _) agR ?_; with_reducible exact hA1.hk)
                | (refine wpList_storeH rfl 27 _ _ rfl (w.heap.size + 1) rfl (arr9 H) rfl (arr9_one _) 29 (core12 R op (k + 1) n) ?_ (show 9 ≤ 12 by decide) agR ?_; with_reducible exact hA2.hk))
              go_roundw
              case measure => simp [intOf]; omega
              case rel => exact ⟨j + 1, H, by omega, by go_num, hA2.regs H, HS2.out⟩
            · have HS3 := Lib.hid (HW2.out.trans (by rw [show S = (H, true) from HS2.out]; rfl) : Q = core12 H (-1) 0 n)
              go_wp2_with (first
                | (go_at_call 59; refine (hd _).mono ?_; rintro e w9 ⟨rfl, hb9⟩; have hA2 := hA1.call hb9; have hA3 := hA2.regs H)
                | (refine wpList_loadH rfl 27 _ rfl (w.heap.size + 1) rfl (arr9 R) 29 (core12 R op (k + 1) n) ?_ (core12_head _ _ _ _) agR ?_; with_reducible exact hA1.hk)
                | (refine wpList_storeH rfl 27 _ _ rfl (w.heap.size + 1) rfl (arr9 H) rfl (arr9_one _) 29 (core12 R op (k + 1) n) ?_ (show 9 ≤ 12 by decide) agR ?_; with_reducible exact hA2.hk)
                | (go_at_call 56; refine (idle_any H op (k + 1) n (w.heap.size + 1) _ hA3.hk).mono ?_; rintro e wi ⟨rfl, hkeep, hbel⟩; have i3 := hkeep _ _ _ (show w.heap.size + 3 ≠ w.heap.size + 1 by omega) hA3.hr; have ib := hbel _ _ hA3.bel (by omega))
                | (refine wpList_storeR rfl 29 _ _ rfl (w.heap.size + 3) rfl (core12 H (-1) 0 n) rfl (core12_one _ _ _ _) 29 (core12 (fun _ => 0) 0 0 false) rfl ?_ agK ?_; with_reducible exact i3))
              refine bodyPost_ret (resultsR rfl (w.heap.size + 3) _ rfl (rowB_row i3 _) agK) rfl ⟨?_, below_rowR ib _ (by omega)⟩
              rw [HS3.out]
          · obtain rfl : j = x.steps.length := by omega
            have HS2 := Lib.hid (HSF.out.trans (by rw [List.drop_length]; rfl) : S = (R, false))
            have y10 := coreB_pl hA.hk
            clear HSF
            by_cases he : k + 1 = l.length
            · have HV := Lib.hid (HW2.out.trans (by rw [HS2.out]; exact if_pos (by unfold overB curB; rw [decide_eq_false (by omega : ¬ (k : Int) + 1 < (l.length : Int))]; simp)) : Q = core12 R (-1) 0 n)
              have heb : ((k : Int) + 1 == (l.length : Int)) = true := beq_iff_eq.2 (by omega)
              clear he
              go_wp2_with (first
                | (go_at_call 56; refine (idle_any R op (k + 1) n (w.heap.size + 1) _ hA.hk).mono ?_; rintro e wi ⟨rfl, hkeep, hbel⟩; have i3 := hkeep _ _ _ (show w.heap.size + 3 ≠ w.heap.size + 1 by omega) hA.hr; have ib := hbel _ _ hA.bel (by omega))
                | (refine wpList_storeR rfl 29 _ _ rfl (w.heap.size + 3) rfl (core12 R (-1) 0 n) rfl (core12_one _ _ _ _) 29 (core12 (fun _ => 0) 0 0 false) rfl ?_ agK ?_; with_reducible exact i3))
              refine bodyPost_ret (resultsR rfl (w.heap.size + 3) _ rfl (rowB_row i3 _) agK) rfl ⟨?_, below_rowR ib _ (by omega)⟩
              rw [HV.out]
            · have HV := Lib.hid (HW2.out.trans (by rw [HS2.out]; exact if_neg (by unfold overB curB; rw [decide_eq_true (by omega : (k : Int) + 1 < (l.length : Int)), decide_eq_true (by omega : (0 : Int) ≤ (k : Int) + 1)]; simp)) : Q = core12 R op (k + 1) n)
              have heb : ((k : Int) + 1 == (l.length : Int)) = false := beq_false_of_ne (by omega)
              clear he
              go_wp2_with (first
                | (refine wpList_loadR rfl 29 _ rfl (w.heap.size + 1) rfl 29 (core12 R op (k + 1) n) ?_ agK ?_; with_reducible exact hA.hk)
                | (refine wpList_storeR rfl 29 _ _ rfl (w.heap.size + 3) rfl (core12 R op (k + 1) n) rfl (core12_one _ _ _ _) 29 (core12 (fun _ => 0) 0 0 false) rfl ?_ agK ?_; with_reducible exact hA.hr))
              refine bodyPost_ret (resultsR rfl (w.heap.size + 3) _ rfl (rowB_row hA.hr _) agK) rfl ⟨?_, below_rowR hA.bel _ (by omega)⟩
              rw [HV.out]
    · have hcur : curB l pl = false := by simpa using hD.symm
      have hv := HV.out
      rw [if_pos hcur] at hv
      clear HV hcur hD HF hlen
      have y9 := coreB_op hW5.hk
      by_cases h9 : op = 259
      · subst h9
        have HV2 := Lib.hid (hv.trans (if_pos rfl) : Q = core12 F 259 pl n)
        clear hv
        go_wp2_with (first
      | (refine wpList_loadR rfl 29 _ rfl (w.heap.size + 1) rfl 29 (core12 F 259 pl n) ?_ agK ?_; with_reducible exact hW5.hk)
      | (refine wpList_storeR rfl 29 _ _ rfl (w.heap.size + 3) rfl (core12 F 259 pl n) rfl (core12_one _ _ _ _) 29 (core12 (fun _ => 0) 0 0 false) rfl ?_ agK ?_; with_reducible exact hW5.hr))
        refine bodyPost_ret (resultsR rfl (w.heap.size + 3) _ rfl (rowB_row hW5.hr _) agK) rfl ⟨?_, below_rowR hW5.bel _ (by omega)⟩
        rw [HV2.out]
      · have HV2 := Lib.hid (hv.trans (if_neg h9) : Q = core12 F (-1) 0 n)
        have h9b : (op == 259) = false := by simpa using h9
        clear hv h9
        have hid := idle_any F op pl n (w.heap.size + 1) wc hW5.hk
        go_wp2_with (first
      | (go_at_call 56; refine hid.mono ?_; rintro e w6 ⟨rfl, hkeep, hbel⟩; have i3 := hkeep _ _ _ (show w.heap.size + 3 ≠ w.heap.size + 1 by omega) hW5.hr; have ib := hbel _ _ hW5.bel (by omega))
      | (refine wpList_storeR rfl 29 _ _ rfl (w.heap.size + 3) rfl (core12 F (-1) 0 n) rfl (core12_one _ _ _ _) 29 (core12 (fun _ => 0) 0 0 false) rfl ?_ agK ?_; with_reducible exact i3))
        refine bodyPost_ret (resultsR rfl (w.heap.size + 3) _ rfl (rowB_row i3 _) agK) rfl ⟨?_, below_rowR ib _ (by omega)⟩
        rw [HV2.out]
end Go.Proofs.Ythhihmggaddlmaa
