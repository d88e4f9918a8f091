/- The contract of package core's Tell. -/
import Derived.Test.YthhihmggaddlmaaChecked
import Derived.Test.YthhihmggaddlmaaCoreAsked
import Derived.Test.YthhihmggaddlmaaCoreTellA
import Derived.Below
import Derived.BigQuiet
import Derived.ChangeMaps5
import Derived.Deep.CutBlock
import Derived.Deep.DeepCutAuto
import Derived.Deep.Draws
import Derived.Deep.MidRow
import Derived.Deep.OwnRows
import Derived.Deep.QuietTactic
import Derived.Deep.RegionHeld3
import Derived.Deep.RegionLaw
import Derived.Deep.RegionWith
import Derived.Deep.Slices
import Derived.Deep.WholeRow
import Derived.Lib.Hide
import Derived.Lib.SmallJoins
import Derived.OpenShut
import Derived.OrdersHeld
import Derived.OwnWalk
import Derived.RowKit3
import Derived.SizedLaws
import Derived.StillTactics
import Derived.StillTail
import Derived.StillTailTactics
import Derived.WalkKit
namespace Go.Proofs.Ythhihmggaddlmaa
open Go.RowKit
set_option maxRecDepth 100000

/-- The three blocks of a call of Tell. -/
structure telW (w0 w : World) (cpu ks : Array Value) : Prop where
  hp : rowB w w0.heap.size 25 cpu
  hk : rowB w (w0.heap.size + 1) 29 ks
  hr : rowB w (w0.heap.size + 2) 29 (core12 (fun _ => 0) 0 0 false)
  bel : Below w0.heap.size w0 w
section
variable {w0 w : World} {cpu ks : Array Value}
theorem telW.call {w' : World} (h : telW w0 w cpu ks) (hb : Below w.heap.size w w') : telW w0 w' cpu ks :=
  ⟨rowB_below h.hp hb (rowB_lt h.hp), rowB_below h.hk hb (rowB_lt h.hk), rowB_below h.hr hb (rowB_lt h.hr), h.bel.trans (hb.mono h.bel.size)⟩
theorem telW.puts (h : telW w0 w cpu ks) (vs : List Value) : telW w0 (w.setCells (w0.heap.size + 1) 0 vs) cpu (putsA ks 0 vs) :=
  ⟨rowB_puts_other h.hp (by omega) 0 vs, rowB_puts h.hk 0 vs, rowB_puts_other h.hr (by omega) 0 vs, below_puts h.bel (by omega) 0 vs⟩
theorem telW.size (h : telW w0 w cpu ks) : w0.heap.size + 2 < w.heap.size := rowB_lt h.hr
theorem telW.alloc (h : telW w0 w cpu ks) (o : Obj) : telW w0 (w.alloc o) cpu ks :=
  ⟨rowB_alloc h.hp o, rowB_alloc h.hk o, rowB_alloc h.hr o, h.bel.alloc h.bel.size o⟩
theorem telW.setNear {ds : Array Value} (h : telW w0 w cpu ks) (k : Nat) (v : Value) (hk : rowB (w.setCell ⟨w0.heap.size + 1, k, none⟩ v) (w0.heap.size + 1) 29 ds) : telW w0 (w.setCell ⟨w0.heap.size + 1, k, none⟩ v) cpu ds :=
  ⟨rowB_other h.hp _ v (by simp), hk, rowB_other h.hr _ v (by simp), h.bel.setCell (p := ⟨w0.heap.size + 1, k, none⟩) (by simp) v⟩
end
theorem telW.start (w : World) (cpu ks : Array Value) : telW w (((w.alloc (.cells cpu 25)).alloc (.cells ks 29)).alloc (.cells (core12 (fun _ => 0) 0 0 false) 29)) cpu ks := by
  obtain ⟨k0, k1, k2, b, s⟩ := boxes3 w (.cells cpu 25) (.cells ks 29) (.cells (core12 (fun _ => 0) 0 0 false) 29)
  exact ⟨k0, k1, k2, b⟩

set_option maxRecDepth 100000 in
set_option maxHeartbeats 4000000 in
theorem tell_any (c : Cp) (v0 v1 v2 v3 : Value) (f : Nat → Int) (op pl : Int) (n : Bool) (data : Int) (w : World) (h : cpuArg w v0 v1 v2 v3 c) :
    Calls Try.prog 62 #[.agg (cpu5 c.name v0 v1 v2 v3), .agg (core12 f op pl n), .int .i64 data] w fun e w' =>
      e = .returned (.agg (tellCore c (fitR f) op pl n data)) ∧ Below w.heap.size w w' := by
  have hW := telW.start w (cpu5 c.name v0 v1 v2 v3) (core12 f op pl n)
  have hft := fit_any f
  have hF := fits_fit f
  obtain ⟨F, hFe⟩ : ∃ F, F = fitR f := ⟨_, rfl⟩
  rw [← hFe] at hft hF ⊢
  clear hFe
  obtain ⟨Q, hQ⟩ : ∃ Q, Q = tellCore c F op pl n data := ⟨_, rfl⟩
  rw [← hQ]
  have HQ := Lib.hid hQ
  have HA := Lib.hid h
  have lo8 := fun n w => low_any n 8 w
  rw [show wd 8 = 8 from rfl] at lo8
  clear h hQ
  go_enter Try.func62, Try.ntmps62
  go_upto_region 1 with (fail)
  change Code.wp _ _ _ _ (((w.alloc (.cells (cpu5 c.name v0 v1 v2 v3) 25)).alloc (.cells (core12 f op pl n) 29)).alloc (.cells (core12 (fun _ => 0) 0 0 false) 29))
  generalize ((w.alloc (.cells (cpu5 c.name v0 v1 v2 v3) 25)).alloc (.cells (core12 f op pl n) 29)).alloc (.cells (core12 (fun _ => 0) 0 0 false) 29) = w1 at *
  go_upto_region 2 with (first
      | (refine wpList_loadH rfl 27 _ rfl (w.heap.size + 1) rfl (arr9 f) 29 (core12 f op pl n) ?_ (core12_head _ _ _ _) agR ?_; with_reducible exact hW.hk)
      | (go_at_call 87; refine (hft _).mono ?_; rintro e w2 ⟨rfl, hb2⟩; have hW2 := hW.call hb2)
      | (refine wpList_storeH rfl 27 _ _ rfl (w.heap.size + 1) rfl (arr9 F) rfl (arr9_one _) 29 (core12 f op pl n) ?_ (show 9 ≤ 12 by decide) agR ?_; with_reducible exact hW2.hk))
  have hW3 := hW2.puts (arr9 F).toList
  rw [core12_puts] at hW3
  generalize w2.setCells (w.heap.size + 1) 0 (arr9 F).toList = w3 at *
  clear hW hW2 hb2 hft
  go_upto_region 3 with (go_at_call 61; refine (lo8 _ _).mono ?_; rintro e w' ⟨rfl, rfl⟩)
  clear lo8
  have c9 := coreB_op hW3.hk
  by_cases ho : op = -1
  · subst ho
    have HV := Lib.hid (HQ.out.trans (by unfold tellCore; rw [if_pos rfl]) : Q = core12 F (begunV c (lo data 8)) 0 n)
    have hbe := begun_any c v0 v1 v2 v3 (lo data 8) w w3 HA.out hW3.bel
    clear HQ HA
    generalize lo data 8 = d at *
    generalize begunV c d = B at *
    go_upto_region 5 with (first
      | (refine wpList_loadR rfl 25 _ rfl (w.heap.size) rfl 25 (cpu5 c.name v0 v1 v2 v3) ?_ agP ?_; with_reducible exact hW3.hp)
      | (go_at_call 93; with_reducible refine hbe.mono ?_; rintro e w4 ⟨rfl, hb4⟩; have hW4 := hW3.call hb4; have z9 := rowB_free hW4.hk 9; have z10 := rowB_free hW4.hk 10; have y9 := coreB_op hW4.hk; have y10 := coreB_pl hW4.hk))
    have hW5 := (hW4.setNear 9 _ (coreB_setOp hW4.hk B)).setNear 10 _ (coreB_setPl (coreB_setOp hW4.hk B) 0)
    clear hbe c9 z9 z10 y9 y10 hb4 hW4
    generalize (w4.setCell ⟨w.heap.size + 1, 9, none⟩ (.int .i64 B)).setCell ⟨w.heap.size + 1, 10, none⟩ (.int .i64 0) = w5 at *
    go_wp2_with (first
      | (refine wpList_loadR rfl 29 _ rfl (w.heap.size + 1) rfl 29 (core12 F B 0 n) ?_ agK ?_; with_reducible exact hW5.hk)
      | (refine wpList_storeR rfl 29 _ _ rfl (w.heap.size + 2) rfl (core12 F B 0 n) rfl (core12_one _ _ _ _) 29 (core12 (fun _ => 0) 0 0 false) rfl ?_ agK ?_; with_reducible exact hW5.hr))
    refine bodyPost_ret (resultsR rfl (w.heap.size + 2) _ rfl (rowB_row hW5.hr _) agK) rfl ⟨?_, below_rowR hW5.bel _ (by omega)⟩
    rw [HV.out]
  · have hob : (op == -1) = false := by simpa using ho
    have HV := Lib.hid (HQ.out.trans (by unfold tellCore; rw [if_neg ho]) : Q = if curB (cyclesOf c op) pl = false then (if op = 259 then core12 F op pl n else core12 F (-1) 0 n)
      else if overB (cyclesOf c op) pl (stepsF (cycAt (cyclesOf c op) pl).steps (readR (cycAt (cyclesOf c op) pl) (lo data 8) F)) = true
        then core12 (stepsF (cycAt (cyclesOf c op) pl).steps (readR (cycAt (cyclesOf c op) pl) (lo data 8) F)).1 (-1) 0 n
        else core12 (stepsF (cycAt (cyclesOf c op) pl).steps (readR (cycAt (cyclesOf c op) pl) (lo data 8) F)).1 op (pl + 1) n)
    have hcy := cyclesC_any c v0 v1 v2 v3 op w w3 HA.out hW3.bel
    clear HQ HA ho
    generalize cyclesOf c op = l at *
    generalize lo data 8 = d at *
    go_upto_region 7 with (first
      | (refine wpList_loadR rfl 25 _ rfl (w.heap.size) rfl 25 (cpu5 c.name v0 v1 v2 v3) ?_ agP ?_; with_reducible exact hW3.hp)
      | (go_at_call 94; with_reducible refine hcy.mono ?_; rintro e w4 ⟨u, rfl, hu, hb4⟩; have hW4 := hW3.call hb4; obtain ⟨ua, ucap, rfl, hlen, hform⟩ := cyc_form hu; have HF := Lib.hid hform; clear hu hform hcy))
    clear hW3 hb4 c9
    cases hcur : curB l pl
    · have hst := stopped_any F op pl n
      have hv := HV.out
      rw [hcur, if_pos rfl] at hv
      have hQ1 : Q.all (·.oneCell') = true := by rw [hv]; split <;> exact core12_one _ _ _ _
      have hQ2 : Q.size = 12 := by rw [hv]; split <;> rfl
      rw [← hv] at hst
      have H1 := Lib.hid hQ1
      have H2 := Lib.hid hQ2
      have hg : isAg Try.prog 29 Q.size := by rw [hQ2]; exact agK
      clear hv hQ1 hQ2 HV
      go_wp2_with (first
      | (refine wpList_loadR rfl 29 _ rfl (w.heap.size + 1) rfl 29 (core12 F op pl n) ?_ agK ?_; with_reducible exact hW4.hk)
      | (go_at_call 95; refine (current_any _ _ _ _ _ _ _ _).mono ?_; rintro e w5 ⟨rfl, hb5⟩; rw [show (decide (0 ≤ pl) && decide (pl < (l.length : Int))) = false from hcur]; have hW5 := hW4.call hb5)
      | (refine wpList_loadR rfl 29 _ rfl (w.heap.size + 1) rfl 29 (core12 F op pl n) ?_ agK ?_; with_reducible exact hW5.hk)
      | (go_at_call 96; refine (hst _).mono ?_; rintro e w6 ⟨rfl, hb6⟩; have hW6 := hW5.call hb6)
      | (refine wpList_storeR rfl 29 _ _ rfl (w.heap.size + 2) rfl Q rfl H1.out 29 (core12 (fun _ => 0) 0 0 false) H2.out.symm ?_ hg ?_; with_reducible exact hW6.hr))
      exact bodyPost_ret (resultsR rfl (w.heap.size + 2) _ rfl (rowB_row hW6.hr _) hg) rfl ⟨rfl, below_rowR hW6.bel _ (by omega)⟩
    · have h12 : 0 ≤ pl ∧ pl < (l.length : Int) := by
        unfold curB at hcur
        simpa using hcur
      obtain ⟨k, rfl⟩ : ∃ k : Nat, pl = (k : Int) := ⟨pl.toNat, by omega⟩
      have hk : k < l.length := by omega
      obtain ⟨x, hx, _⟩ := drop_at hk
      have hxe : cycAt l (k : Int) = x := by unfold cycAt; rw [if_pos hcur, Int.toNat_natCast, List.getD_eq_getElem?_getD, hx]; rfl
      have hv := HV.out
      rw [hxe, if_neg (by rw [hcur]; decide)] at hv
      have HW := Lib.hid hv
      obtain ⟨b, off, rfl, sa, sc, hcell, hst⟩ := HF.out k x hx
      have HS := Lib.hid hst
      have HCL := Lib.hid hcell
      have hmax := hlen (by omega)
      clear hst hcell hx hxe hv HV h12 HF hlen
      go_upto_region 10 with (first
      | (refine wpList_loadR rfl 29 _ rfl (w.heap.size + 1) rfl 29 (core12 F op k n) ?_ agK ?_; with_reducible exact hW4.hk)
      | (go_at_call 95; refine (current_any _ _ _ _ _ _ _ _).mono ?_; rintro e w5 ⟨rfl, hb5⟩; rw [show (decide (0 ≤ (k : Int)) && decide ((k : Int) < (l.length : Int))) = true from hcur]; have hW5 := hW4.call hb5; have y10 := coreB_pl hW5.hk; obtain ⟨x0, x1, x2, x3⟩ := HCL.out w5 hW5.bel))
      have nX := rowB_new w5 84 (cyc4 x.bus x.place x.reg (.slice sa x.steps.length sc))
      have lX := hW5.size
      have hW6 := hW5.alloc (.cells (cyc4 x.bus x.place x.reg (.slice sa x.steps.length sc)) 84)
      change Code.wp _ _ _ _ (w5.alloc (.cells (cyc4 x.bus x.place x.reg (.slice sa x.steps.length sc)) 84))
      clear hW4 hb5 hW5 y10 x0 x1 x2 x3 HCL
      generalize w5.alloc (.cells (cyc4 x.bus x.place x.reg (.slice sa x.steps.length sc)) 84) = w6 at *
      generalize w5.heap.size = y at *
      have x0 := rowB_cell nX 0 (v := .int .i64 x.bus) rfl
      have x2 := rowB_cell nX 2 (v := .int .i64 x.reg) rfl
      obtain ⟨D, hD⟩ : ∃ D, D = ((x.bus == 1) && isReg x.reg) := ⟨_, rfl⟩
      go_cut [47] (fun b wx => b = .bool D ∧ wx = w6)
      case first =>
        by_cases h2 : x.bus = 1
        · have h2b : (x.bus == 1) = true := by simpa using h2
          have HD := Lib.hid (show D = isReg x.reg by rw [hD, h2b]; rfl)
          clear h2 hD
          go_wp2_with (go_at_call 90; refine (isReg_any _ _).mono ?_; rintro e w' ⟨rfl, rfl⟩)
          go_meet
          case rel => exact ⟨by rw [HD.out], rfl⟩
        · have h2b : (x.bus == 1) = false := by simpa using h2
          have HD := Lib.hid (show D = false by rw [hD, h2b]; rfl)
          clear h2 hD
          go_wp2_with fail
          go_meet
          case rel => exact ⟨by rw [HD.out], rfl⟩
      case rest =>
      obtain ⟨rfl, hwc⟩ := hcut
      subst hwc
      go_upto_if 47 with (fail)
      go_cut [] (fun wx => telW w wx (cpu5 c.name v0 v1 v2 v3) (core12 (readR x d F) op k n) ∧ rowB wx y 84 (cyc4 x.bus x.place x.reg (.slice sa x.steps.length sc)))
      case first =>
        cases D
        · have HD := Lib.hid (show readR x d F = F by
            unfold readR
            rw [if_neg]
            rintro ⟨h1, h2⟩
            rw [h1, h2] at hD
            cases hD)
          clear hD
          go_wp2_with fail
          go_meet
          case rel => rw [HD.out]; exact ⟨hW6, nX⟩
        · have hD2 : x.bus = 1 ∧ isReg x.reg = true := by simpa using hD.symm
          have HD := Lib.hid (show readR x d F = setR F x.reg.toNat d by unfold readR; rw [if_pos hD2])
          have hr2 : 0 ≤ x.reg ∧ x.reg < 9 := by have := hD2.2; unfold isReg at this; simpa using this
          clear hD hD2
          obtain ⟨j, hj⟩ : ∃ j : Nat, x.reg = (j : Int) := ⟨x.reg.toNat, by omega⟩
          have hj9 : j < 9 := by omega
          have cj := coreB_reg hW6.hk j hj9
          have zj := rowB_free hW6.hk j
          rw [hj] at HD x2
          clear hr2 hj
          go_wp2_with fail
          go_meet
          case rel =>
            rw [HD.out, Int.toNat_natCast]
            exact ⟨hW6.setNear j _ (coreB_setReg hW6.hk j d hj9), rowB_other nX _ _ (by show w.heap.size + 1 ≠ y; omega)⟩
      case rest =>
        clear hW6 nX x0 x2 hD
        obtain ⟨hW7, nX7⟩ := hcut
        generalize readR x d F = G at *
        have x3 := rowB_cell nX7 3 (v := .slice sa x.steps.length sc) rfl
        have y10 := coreB_pl hW7.hk
        have z10 := rowB_free hW7.hk 10
        have hW8 := hW7.setNear 10 _ (coreB_setPl hW7.hk ((k : Int) + 1))
        have hsp := fun w' (hb : Below w.heap.size w w') => steps_any _ x.steps G w w' HS.out hb
        obtain ⟨S, hS⟩ : ∃ S, S = stepsF x.steps G := ⟨_, rfl⟩
        rw [← hS] at hsp
        have hv := HW.out
        rw [← hS] at hv
        have HW2 := Lib.hid hv
        clear hv HW hS HS
        have hwr : IntKind.i64.wrap ((k : Int) + 1) = (k : Int) + 1 := IntWalk.i64_in _ (by omega)
        go_upto_region 15 with (first
      | (go_at_call 97; refine (hsp _ hW8.bel).mono ?_; rintro e w8 ⟨rfl, hb8⟩; have hW9 := hW8.call hb8)
      | (refine wpList_loadH rfl 27 _ rfl (w.heap.size + 1) rfl (arr9 G) 29 (core12 G op (k + 1) n) ?_ (core12_head _ _ _ _) agR ?_; with_reducible exact hW8.hk)
      | (refine wpList_storeH rfl 27 _ _ rfl (w.heap.size + 1) rfl (arr9 S.1) rfl (arr9_one _) 29 (core12 G op (k + 1) n) ?_ (show 9 ≤ 12 by decide) agR ?_; with_reducible exact hW9.hk))
        have hW10 := hW9.puts (arr9 S.1).toList
        rw [core12_puts] at hW10
        clear hW7 nX7 x3 y10 z10 hW8 hsp hb8 hW9
        generalize w8.setCells (w.heap.size + 1) 0 (arr9 S.1).toList = wa at *
        obtain ⟨R, E⟩ := S
        have hW11 : telW w wa (cpu5 c.name v0 v1 v2 v3) (core12 R op (k + 1) n) := hW10
        have HW3 := Lib.hid (show Q = if overB l k (R, E) = true then core12 R (-1) 0 n else core12 R op (k + 1) n from HW2.out)
        clear hW10 HW2
        obtain ⟨D2, hD2⟩ : ∃ D2, D2 = overB l k (R, E) := ⟨_, rfl⟩
        go_cut [72] (fun b wx => b = .bool D2 ∧ telW w wx (cpu5 c.name v0 v1 v2 v3) (core12 R op (k + 1) n))
        case first =>
          cases E
          · have HD := Lib.hid (show D2 = !curB l ((k : Int) + 1) from hD2)
            clear hD2
            go_wp2_with (first
      | (refine wpList_loadRg rfl 29 _ rfl (w.heap.size + 1) rfl 29 (core12 R op (k + 1) n) ?_ agK ?_; with_reducible exact hW11.hk)
      | (go_at_call 95; refine (current_any _ _ _ _ _ _ _ _).mono ?_; rintro e wb ⟨rfl, hbb⟩; rw [show (decide (0 ≤ (k : Int) + 1) && decide ((k : Int) + 1 < (l.length : Int))) = curB l ((k : Int) + 1) from rfl]; have hW12 := hW11.call hbb))
            go_meet
            case rel => exact ⟨by rw [HD.out], hW12⟩
          · have HD := Lib.hid (show D2 = true from hD2)
            clear hD2
            go_wp2_with fail
            go_meet
            case rel => exact ⟨by rw [HD.out], hW11⟩
        case rest =>
          clear hW11
          obtain ⟨rfl, hW11⟩ := hcut
          cases D2
          · have HV := Lib.hid (HW3.out.trans (if_neg (by rw [← hD2]; decide)) : Q = core12 R op (k + 1) n)
            clear hD2
            go_wp2_with (first
      | (refine wpList_loadR rfl 29 _ rfl (w.heap.size + 1) rfl 29 (core12 R op (k + 1) n) ?_ agK ?_; with_reducible exact hW11.hk)
      | (refine wpList_storeR rfl 29 _ _ rfl (w.heap.size + 2) rfl (core12 R op (k + 1) n) rfl (core12_one _ _ _ _) 29 (core12 (fun _ => 0) 0 0 false) rfl ?_ agK ?_; with_reducible exact hW11.hr))
            refine bodyPost_ret (resultsR rfl (w.heap.size + 2) _ rfl (rowB_row hW11.hr _) agK) rfl ⟨?_, below_rowR hW11.bel _ (by omega)⟩
            rw [HV.out]
          · have HV := Lib.hid (HW3.out.trans (if_pos hD2.symm) : Q = core12 R (-1) 0 n)
            clear hD2
            have z9 := rowB_free hW11.hk 9
            have z10 := rowB_free hW11.hk 10
            have y9 := coreB_op hW11.hk
            have y10 := coreB_pl hW11.hk
            have hW12 := (hW11.setNear 9 _ (coreB_setOp hW11.hk (-1))).setNear 10 _ (coreB_setPl (coreB_setOp hW11.hk (-1)) 0)
            go_upto_region 17 with (fail)
            generalize (wc.setCell ⟨w.heap.size + 1, 9, none⟩ (.int .i64 (-1))).setCell ⟨w.heap.size + 1, 10, none⟩ (.int .i64 0) = wd at *
            go_wp2_with (first
      | (refine wpList_loadR rfl 29 _ rfl (w.heap.size + 1) rfl 29 (core12 R (-1) 0 n) ?_ agK ?_; with_reducible exact hW12.hk)
      | (refine wpList_storeR rfl 29 _ _ rfl (w.heap.size + 2) rfl (core12 R (-1) 0 n) rfl (core12_one _ _ _ _) 29 (core12 (fun _ => 0) 0 0 false) rfl ?_ agK ?_; with_reducible exact hW12.hr))
            refine bodyPost_ret (resultsR rfl (w.heap.size + 2) _ rfl (rowB_row hW12.hr _) agK) rfl ⟨?_, below_rowR hW12.bel _ (by omega)⟩
            rw [HV.out]
end Go.Proofs.Ythhihmggaddlmaa
