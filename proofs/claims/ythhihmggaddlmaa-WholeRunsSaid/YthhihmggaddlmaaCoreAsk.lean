/- The contract of package core's Ask. -/
import Derived.Test.YthhihmggaddlmaaAluPure
import Derived.Test.YthhihmggaddlmaaChecked
import Derived.Test.YthhihmggaddlmaaCoreAskA
import Derived.Test.YthhihmggaddlmaaCoreAsked
import Derived.Below
import Derived.BigQuiet
import Derived.ChangeMaps5
import Derived.Deep.CutBlock
import Derived.Deep.DeepCutAuto
import Derived.Deep.Draws
import Derived.Deep.MidRow
import Derived.Deep.OwnRows
import Derived.Deep.QuietTactic
import Derived.Deep.RegionHeld3
import Derived.Deep.RegionLaw
import Derived.Deep.RegionWith
import Derived.Deep.Slices
import Derived.Deep.WholeRow
import Derived.Lib.Hide
import Derived.Lib.SmallJoins
import Derived.OpenShut
import Derived.OrdersHeld
import Derived.OwnWalk
import Derived.RowKit3
import Derived.SizedLaws
import Derived.StillTactics
import Derived.StillTail
import Derived.StillTailTactics
import Derived.WalkKit
namespace Go.Proofs.Ythhihmggaddlmaa
open Go.RowKit
set_option maxRecDepth 100000

/-- The four blocks of a call of Ask. -/
structure askW (w0 w : World) (cpu ks : Array Value) : Prop where
  hp : rowB w w0.heap.size 25 cpu
  hk : rowB w (w0.heap.size + 1) 29 ks
  hr : rowB w (w0.heap.size + 2) 29 (core12 (fun _ => 0) 0 0 false)
  hb : rowB w (w0.heap.size + 3) 34 (bus3 0 0 0)
  bel : Below w0.heap.size w0 w
section
variable {w0 w : World} {cpu ks : Array Value}
theorem askW.call {w' : World} (h : askW w0 w cpu ks) (hb : Below w.heap.size w w') : askW w0 w' cpu ks :=
  ⟨rowB_below h.hp hb (rowB_lt h.hp), rowB_below h.hk hb (rowB_lt h.hk), rowB_below h.hr hb (rowB_lt h.hr), rowB_below h.hb hb (rowB_lt h.hb), h.bel.trans (hb.mono h.bel.size)⟩
theorem askW.row (h : askW w0 w cpu ks) (cs : Array Value) : askW w0 (w.setRow (w0.heap.size + 1) cs) cpu cs :=
  ⟨rowB_row_other h.hp cs (by omega), rowB_row h.hk cs, rowB_row_other h.hr cs (by omega), rowB_row_other h.hb cs (by omega), below_rowR h.bel cs (by omega)⟩
theorem askW.puts (h : askW w0 w cpu ks) (vs : List Value) : askW w0 (w.setCells (w0.heap.size + 1) 0 vs) cpu (putsA ks 0 vs) :=
  ⟨rowB_puts_other h.hp (by omega) 0 vs, rowB_puts h.hk 0 vs, rowB_puts_other h.hr (by omega) 0 vs, rowB_puts_other h.hb (by omega) 0 vs, below_puts h.bel (by omega) 0 vs⟩
theorem askW.size (h : askW w0 w cpu ks) : w0.heap.size + 3 < w.heap.size := rowB_lt h.hb
/-- A block made behind them. -/
theorem askW.alloc (h : askW w0 w cpu ks) (o : Obj) : askW w0 (w.alloc o) cpu ks :=
  ⟨rowB_alloc h.hp o, rowB_alloc h.hk o, rowB_alloc h.hr o, rowB_alloc h.hb o, h.bel.alloc h.bel.size o⟩
theorem askW.rowFar (h : askW w0 w cpu ks) {g : Nat} (hg : w0.heap.size + 3 < g) (cs : Array Value) : askW w0 (w.setRow g cs) cpu ks :=
  ⟨rowB_row_other h.hp cs (by omega), rowB_row_other h.hk cs (by omega), rowB_row_other h.hr cs (by omega), rowB_row_other h.hb cs (by omega), below_rowR h.bel cs (by omega)⟩
theorem askW.setFar (h : askW w0 w cpu ks) {g k : Nat} (hg : w0.heap.size + 3 < g) (v : Value) : askW w0 (w.setCell ⟨g, k, none⟩ v) cpu ks :=
  ⟨rowB_other h.hp _ v (by show g ≠ _; omega), rowB_other h.hk _ v (by show g ≠ _; omega), rowB_other h.hr _ v (by show g ≠ _; omega), rowB_other h.hb _ v (by show g ≠ _; omega), h.bel.setCell (p := ⟨g, k, none⟩) (by show _ ≤ g; omega) v⟩
theorem askW.setNear {ds : Array Value} (h : askW w0 w cpu ks) (k : Nat) (v : Value) (hk : rowB (w.setCell ⟨w0.heap.size + 1, k, none⟩ v) (w0.heap.size + 1) 29 ds) : askW w0 (w.setCell ⟨w0.heap.size + 1, k, none⟩ v) cpu ds :=
  ⟨rowB_other h.hp _ v (by simp), hk, rowB_other h.hr _ v (by simp), rowB_other h.hb _ v (by simp), h.bel.setCell (p := ⟨w0.heap.size + 1, k, none⟩) (by simp) v⟩
theorem askW.drew (h : askW w0 w cpu ks) : askW w0 w.drew cpu ks := ⟨h.hp, h.hk, h.hr, h.hb, h.bel.drew⟩
end
theorem askW.start (w : World) (cpu ks : Array Value) : askW w ((((w.alloc (.cells cpu 25)).alloc (.cells ks 29)).alloc (.cells (core12 (fun _ => 0) 0 0 false) 29)).alloc (.cells (bus3 0 0 0) 34)) cpu ks := by
  obtain ⟨k0, k1, k2, k3, b, s⟩ := boxes4 w (.cells cpu 25) (.cells ks 29) (.cells (core12 (fun _ => 0) 0 0 false) 29) (.cells (bus3 0 0 0) 34)
  exact ⟨k0, k1, k2, k3, b⟩
theorem meetsFst (c : Cp) (f : Nat → Int) (op pl : Int) (n q : Bool) (h : op ≠ -1) : meets c f op pl n q = (op, pl, n) := by unfold meets; rw [if_neg h]

set_option maxHeartbeats 1000000 in
theorem ask_any (c : Cp) (v0 v1 v2 v3 : Value) (f : Nat → Int) (op pl : Int) (n q : Bool) (w : World) (h : cpuArg w v0 v1 v2 v3 c) :
    Calls Try.prog 60 #[.agg (cpu5 c.name v0 v1 v2 v3), .agg (core12 f op pl n), .bool q] w fun e w' =>
      e = .returned (.tuple #[.agg (askCore c (fitR f) op pl n q), .agg (askBus c (fitR f) op pl n q)]) ∧ Below w.heap.size w w' := by
  have hW := askW.start w (cpu5 c.name v0 v1 v2 v3) (core12 f op pl n)
  have hft := fit_any f
  have hF := fits_fit f
  obtain ⟨F, hFe⟩ : ∃ F, F = fitR f := ⟨_, rfl⟩
  rw [← hFe] at hft hF ⊢
  clear hFe
  obtain ⟨M, hM⟩ : ∃ M, M = meets c F op pl n q := ⟨_, rfl⟩
  obtain ⟨X, hX⟩ : ∃ X, X = doneC c M.1 M.2.1 := ⟨_, rfl⟩
  have HC := Lib.hid (show askCore c F op pl n q = if X.bus = 0 then coreM F M else coreM (placeR X.place F) M by rw [hX, hM]; rfl)
  have HB := Lib.hid (show askBus c F op pl n q = if X.bus = 0 then bus3 0 0 0 else bus3 X.bus (placeA X.place F) (dataA X F) by rw [hX, hM]; rfl)
  have HA := Lib.hid h
  have HX := Lib.hid hX
  have hin : ∀ w', op = -1 → Calls Try.prog 88 #[.agg (cpu5 c.name v0 v1 v2 v3), .agg (core12 F op pl n), .bool q] w' fun e w'' => e = .returned (.agg (coreM F M)) ∧ Below w'.heap.size w' w'' := fun w' ho => by
    have hM2 : M = intr c.irq.length c.nmi.length F op pl n q := by rw [hM]; unfold meets; rw [if_pos ho]
    obtain ⟨_, _, h2, h3, _⟩ := h
    obtain ⟨a2, p2, rfl, _, _⟩ := isArr_form h2
    obtain ⟨a3, p3, rfl, _, _⟩ := isArr_form h3
    rw [hM2]
    exact intr_any c.name v0 v1 a2 a3 _ p2 _ p3 F (fits4 hF) op pl n q w'
  have hno : op ≠ -1 → M = (op, pl, n) := fun ho => hM.trans (meetsFst c F op pl n q ho)
  have HN := Lib.hid hno
  have HI := Lib.hid hin
  clear h hM hX hno hin
  go_enter Try.func60, Try.ntmps60
  go_upto_region 1 with (fail)
  change Code.wp _ _ _ _ ((((w.alloc (.cells (cpu5 c.name v0 v1 v2 v3) 25)).alloc (.cells (core12 f op pl n) 29)).alloc (.cells (core12 (fun _ => 0) 0 0 false) 29)).alloc (.cells (bus3 0 0 0) 34))
  generalize (((w.alloc (.cells (cpu5 c.name v0 v1 v2 v3) 25)).alloc (.cells (core12 f op pl n) 29)).alloc (.cells (core12 (fun _ => 0) 0 0 false) 29)).alloc (.cells (bus3 0 0 0) 34) = w1 at *
  go_upto_region 2 with (first
      | (refine wpList_loadH rfl 27 _ rfl (w.heap.size + 1) rfl (arr9 f) 29 (core12 f op pl n) ?_ (core12_head _ _ _ _) agR ?_; with_reducible exact hW.hk)
      | (go_at_call 87; refine (hft _).mono ?_; rintro e w2 ⟨rfl, hb2⟩; have hW2 := hW.call hb2)
      | (refine wpList_storeH rfl 27 _ _ rfl (w.heap.size + 1) rfl (arr9 F) rfl (arr9_one _) 29 (core12 f op pl n) ?_ (show 9 ≤ 12 by decide) agR ?_; with_reducible exact hW2.hk))
  have hW3 := hW2.puts (arr9 F).toList
  rw [core12_puts] at hW3
  generalize w2.setCells (w.heap.size + 1) 0 (arr9 F).toList = w3 at *
  clear hW hW2 hb2 hft
  have c9 := coreB_op hW3.hk
  go_upto_if 16 with (fail)
  go_cut [] (fun wx => askW w wx (cpu5 c.name v0 v1 v2 v3) (coreM F M))
  case first =>
    by_cases ho : op = -1
    · subst ho
      have hi := HI.out w3 rfl
      go_wp2_with (first
      | (refine wpList_loadR rfl 25 _ rfl (w.heap.size) rfl 25 (cpu5 c.name v0 v1 v2 v3) ?_ agP ?_; with_reducible exact hW3.hp)
      | (refine wpList_loadR rfl 29 _ rfl (w.heap.size + 1) rfl 29 (core12 F (-1) pl n) ?_ agK ?_; with_reducible exact hW3.hk)
      | (go_at_call 88; with_reducible refine hi.mono ?_; rintro e w4 ⟨rfl, hb4⟩; have hW4 := hW3.call hb4)
      | (refine wpList_storeR rfl 29 _ _ rfl (w.heap.size + 1) rfl (coreM F M) rfl (core12_one _ _ _ _) 29 (core12 F (-1) pl n) rfl ?_ agK ?_; with_reducible exact hW4.hk))
      go_meet
      case rel => exact hW4.row _
    · have hob : (op == -1) = false := by simpa using ho
      have hM := HN.out ho
      go_wp2_with fail
      go_meet
      case rel => rw [hM]; exact hW3
  case rest =>
    clear hW3 c9 HI HN
    obtain ⟨op1, pl1, n1⟩ := M
    have hW : askW w wc (cpu5 c.name v0 v1 v2 v3) (core12 F op1 pl1 n1) := hcut
    have hask := askedC_any c v0 v1 v2 v3 F op1 pl1 n1 w wc HA.out hW.bel
    rw [← (show X = doneC c op1 pl1 from HX.out)] at hask
    clear hcut HX HA
    go_upto_region 5 with (first
      | (refine wpList_loadR rfl 25 _ rfl (w.heap.size) rfl 25 (cpu5 c.name v0 v1 v2 v3) ?_ agP ?_; with_reducible exact hW.hp)
      | (refine wpList_loadR rfl 29 _ rfl (w.heap.size + 1) rfl 29 (core12 F op1 pl1 n1) ?_ agK ?_; with_reducible exact hW.hk)
      | (go_at_call 89; with_reducible refine hask.mono ?_; rintro e w4 ⟨sa, sc, rfl, _, hb4⟩; have hW4 := hW.call hb4; have nz := rowB_new w4 84 (cyc4 0 0 0 (.slice none 0 0)))
      | (refine wpList_storeR rfl 84 _ _ rfl (w4.heap.size) rfl (cyc4 X.bus X.place X.reg (.slice sa X.steps.length sc)) rfl (cyc4_one _ _ _ _ _ _) 84 (cyc4 0 0 0 (.slice none 0 0)) rfl ?_ agC ?_; exact nz))
    have nX := rowB_row nz (cyc4 X.bus X.place X.reg (.slice sa X.steps.length sc))
    have lX := hW4.size
    have hW5 := (hW4.alloc (.cells (cyc4 0 0 0 (.slice none 0 0)) 84)).rowFar lX (cyc4 X.bus X.place X.reg (.slice sa X.steps.length sc))
    rw [show (#[.int .i64 0, .int .i64 0, .int .i64 0, .slice none 0 0] : Array Value) = cyc4 0 0 0 (.slice none 0 0) from rfl]
    generalize (w4.alloc (.cells (cyc4 0 0 0 (.slice none 0 0)) 84)).setRow w4.heap.size (cyc4 X.bus X.place X.reg (.slice sa X.steps.length sc)) = w5 at *
    generalize w4.heap.size = x at *
    clear hW hb4 hW4 nz hask
    have x0 := rowB_cell nX 0 (v := .int .i64 X.bus) rfl
    by_cases hbz : X.bus = 0
    · have hzb : (X.bus == 0) = true := by simpa using hbz
      have HZ := Lib.hid hbz
      clear hbz
      have r1 := rowB_row hW5.hr (core12 F op1 pl1 n1)
      have r2 := rowB_row_other hW5.hb (core12 F op1 pl1 n1) (show w.heap.size + 2 ≠ w.heap.size + 3 by omega)
      have r3 := rowB_row_other r1 (bus3 0 0 0) (show w.heap.size + 3 ≠ w.heap.size + 2 by omega)
      have r4 := rowB_row r2 (bus3 0 0 0)
      go_wp2_with (first
      | (refine wpList_loadR rfl 29 _ rfl (w.heap.size + 1) rfl 29 (core12 F op1 pl1 n1) ?_ agK ?_; with_reducible exact hW5.hk)
      | (refine wpList_storeR rfl 29 _ _ rfl (w.heap.size + 2) rfl (core12 F op1 pl1 n1) rfl (core12_one _ _ _ _) 29 (core12 (fun _ => 0) 0 0 false) rfl ?_ agK ?_; with_reducible exact hW5.hr)
      | (refine wpList_storeR rfl 34 _ _ rfl (w.heap.size + 3) rfl (bus3 0 0 0) rfl (bus3_one _ _ _) 34 (bus3 0 0 0) rfl ?_ agB ?_; with_reducible exact r2))
      refine bodyPost_ret (resultsRR rfl (w.heap.size + 2) (w.heap.size + 3) _ rfl rfl r3 r4 agK agB) rfl ⟨?_, below_rowR (below_rowR hW5.bel _ (by omega)) _ (by omega)⟩
      rw [HC.out, HB.out, if_pos HZ.out, if_pos HZ.out]
      rfl
    · have hzb : (X.bus == 0) = false := by simpa using hbz
      have HZ := Lib.hid hbz
      clear hbz
      go_upto_region 8 with (fail)
      have nB := rowB_new w5 34 (bus3 X.bus 0 0)
      have lY : x < w5.heap.size := rowB_lt nX
      have hW6 := hW5.alloc (.cells (bus3 X.bus 0 0) 34)
      have nX6 := rowB_alloc nX (.cells (bus3 X.bus 0 0) 34)
      rw [show (#[.int .i64 X.bus, .int .i64 0, .int .i64 0] : Array Value) = bus3 X.bus 0 0 from rfl]
      generalize w5.alloc (.cells (bus3 X.bus 0 0) 34) = w6 at *
      generalize w5.heap.size = y at *
      clear hW5 nX x0
      have x0 := rowB_cell nX6 0 (v := .int .i64 X.bus) rfl
      have x2 := rowB_cell nX6 2 (v := .int .i64 X.reg) rfl
      obtain ⟨D, hD⟩ : ∃ D, D = ((X.bus == 2) && isReg X.reg) := ⟨_, rfl⟩
      go_cut [39] (fun b wx => b = .bool D ∧ wx = w6)
      case first =>
        by_cases h2 : X.bus = 2
        · have h2b : (X.bus == 2) = true := by simpa using h2
          have HD := Lib.hid (show D = isReg X.reg by rw [hD, h2b]; rfl)
          clear h2 hD
          go_wp2_with (go_at_call 90; refine (isReg_any _ _).mono ?_; rintro e w' ⟨rfl, rfl⟩)
          go_meet
          case rel => exact ⟨by rw [HD.out], rfl⟩
        · have h2b : (X.bus == 2) = false := by simpa using h2
          have HD := Lib.hid (show D = false by rw [hD, h2b]; rfl)
          clear h2 hD
          go_wp2_with fail
          go_meet
          case rel => exact ⟨by rw [HD.out], rfl⟩
      case rest =>
      obtain ⟨rfl, hwc⟩ := hcut
      subst hwc
      go_upto_if 39 with (fail)
      go_cut [] (fun wx => askW w wx (cpu5 c.name v0 v1 v2 v3) (core12 F op1 pl1 n1) ∧ rowB wx x 84 (cyc4 X.bus X.place X.reg (.slice sa X.steps.length sc)) ∧ rowB wx y 34 (bus3 X.bus 0 (dataA X F)))
      case first =>
        cases D
        · have HD := Lib.hid (show dataA X F = 0 by
            unfold dataA
            rw [if_neg]
            rintro ⟨h1, h2⟩
            rw [h1, h2] at hD
            cases hD)
          clear hD
          go_wp2_with fail
          go_meet
          case rel => rw [HD.out]; exact ⟨hW6, nX6, nB⟩
        · have hD2 : X.bus = 2 ∧ isReg X.reg = true := by simpa using hD.symm
          have HD := Lib.hid (show dataA X F = lo (F X.reg.toNat) 8 by unfold dataA; rw [if_pos hD2])
          have hr2 : 0 ≤ X.reg ∧ X.reg < 9 := by have := hD2.2; unfold isReg at this; simpa using this
          clear hD hD2
          obtain ⟨k, hk⟩ : ∃ k : Nat, X.reg = (k : Int) := ⟨X.reg.toNat, by omega⟩
          have hk9 : k < 9 := by omega
          have ck := coreB_reg hW6.hk k hk9
          rw [hk] at HD x2
          clear hr2
          have b2 := rowB_cell nB 2 (v := .int .i64 0) rfl
          have z2 := rowB_free nB 2
          have lo8 := fun n w => low_any n 8 w
          rw [show wd 8 = 8 from rfl] at lo8
          clear hk
          go_wp2_with (go_at_call 61; refine (lo8 _ _).mono ?_; rintro e w' ⟨rfl, rfl⟩)
          go_meet
          case rel =>
            rw [HD.out, Int.toNat_natCast]
            exact ⟨hW6.setFar (by omega) _, rowB_other nX6 _ _ (by show y ≠ x; omega), rowB_eq (rowB_set nB 2 _) rfl⟩
      case rest =>
        clear hW6 nX6 nB x0 x2
        obtain ⟨hW7, nX7, nB7⟩ := hcut
        have x1 := rowB_cell nX7 1 (v := .int .i64 X.place) rfl
        have hadr := address_any X.place F hF
        clear nX7 hzb
        obtain ⟨G, hG⟩ : ∃ G, G = placeR X.place F := ⟨_, rfl⟩
        obtain ⟨A, hA⟩ : ∃ A, A = placeA X.place F := ⟨_, rfl⟩
        obtain ⟨D2, hD2⟩ : ∃ D2, D2 = dataA X F := ⟨_, rfl⟩
        rw [← hG, ← hA] at hadr
        rw [← hD2] at nB7
        have HC2 := Lib.hid (HC.out.trans (by rw [if_neg HZ.out, ← hG]) : askCore c F op pl n q = coreM G (op1, pl1, n1))
        have HB2 := Lib.hid (HB.out.trans (by rw [if_neg HZ.out, ← hA, ← hD2]) : askBus c F op pl n q = bus3 X.bus A D2)
        clear HC HB hG hA hD2 HZ
        go_upto_region 11 with (first
      | (refine wpList_loadH rfl 27 _ rfl (w.heap.size + 1) rfl (arr9 F) 29 (core12 F op1 pl1 n1) ?_ (core12_head _ _ _ _) agR ?_; with_reducible exact hW7.hk)
      | (go_at_call 91; with_reducible refine (hadr _).mono ?_; rintro e w8 ⟨rfl, hb8⟩; have hW8 := hW7.call hb8; have nB8 := rowB_below nB7 hb8 (rowB_lt nB7); have z1 := rowB_free nB8 1; have b1 := rowB_cell nB8 1 (v := .int .i64 0) rfl; have hW9 := hW8.setFar (k := 1) (show w.heap.size + 3 < y by omega) (.int .i64 A))
      | (refine wpList_storeH rfl 27 _ _ rfl (w.heap.size + 1) rfl (arr9 G) rfl (arr9_one _) 29 (core12 F op1 pl1 n1) ?_ (show 9 ≤ 12 by decide) agR ?_; with_reducible exact hW9.hk))
        have hW10 := hW9.puts (arr9 G).toList
        rw [core12_puts] at hW10
        have nB9 : rowB (w8.setCell ⟨y, 1, none⟩ (.int .i64 A)) y 34 (bus3 X.bus A D2) := rowB_eq (rowB_set nB8 1 (.int .i64 A)) rfl
        have nB10 := rowB_puts_other nB9 (show w.heap.size + 1 ≠ y by omega) 0 (arr9 G).toList
        generalize (w8.setCell ⟨y, 1, none⟩ (.int .i64 A)).setCells (w.heap.size + 1) 0 (arr9 G).toList = w10 at *
        clear hW7 nB7 hW8 nB8 z1 b1 hW9 nB9 hb8 hadr x1
        refine wp_region_mix (fun w' => rowB w' (w.heap.size + 1) 29 (core12 G op1 pl1 n1) ∧ rowB w' y 34 (bus3 X.bus A D2)) [(0, 1), (1, 1), (2, 3), (3, 2)] (by kernel_rfl) (by kernel_rfl) (fun _ _ _ _ _ h => h) ?_
        simp only [List.map_cons, List.map_nil, opOf, List.getD_cons_zero, List.getD_cons_succ]
        change wpMix _ _ _ _ _ _ w10.drew
        have hW11 := hW10.drew
        have nB11 : rowB w10.drew y 34 (bus3 X.bus A D2) := nB10
        generalize w10.drew = w11 at *
        clear hW10 nB10
        refine wpMix_held (.agg (core12 G op1 pl1 n1)) rfl ⟨hW11.hk, nB11⟩ (fun w' hw' => exec_rowR 29 _ rfl (w.heap.size + 1) rfl 29 (core12 G op1 pl1 n1) hw'.1 agK) ?_
        simp only [Act.put, List.setIfInBounds_toArray, List.set_cons_zero, List.set_cons_succ]
        refine wpMix_held (.agg (bus3 X.bus A D2)) rfl ⟨hW11.hk, nB11⟩ (fun w' hw' => exec_rowR 34 _ rfl y rfl 34 (bus3 X.bus A D2) hw'.2 agB) ?_
        simp only [Act.put, List.setIfInBounds_toArray, List.set_cons_zero, List.set_cons_succ]
        refine wpMix_call ?_
        go_wp2_with (refine wpList_storeR rfl 29 _ _ rfl (w.heap.size + 2) rfl (core12 G op1 pl1 n1) rfl (core12_one _ _ _ _) 29 (core12 (fun _ => 0) 0 0 false) rfl ?_ agK ?_; with_reducible exact hW11.hr)
        refine ⟨fun _ => ⟨rowB_row_other hW11.hk _ (by omega), rowB_row_other nB11 _ (by omega)⟩, ?_⟩
        have r1 := rowB_row hW11.hr (core12 G op1 pl1 n1)
        have r2 := rowB_row_other hW11.hb (core12 G op1 pl1 n1) (show w.heap.size + 2 ≠ w.heap.size + 3 by omega)
        have r3 := rowB_row_other r1 (bus3 X.bus A D2) (show w.heap.size + 3 ≠ w.heap.size + 2 by omega)
        have r4 := rowB_row r2 (bus3 X.bus A D2)
        refine wpMix_call ?_
        go_wp2_with (refine wpList_storeR rfl 34 _ _ rfl (w.heap.size + 3) rfl (bus3 X.bus A D2) rfl (bus3_one _ _ _) 34 (bus3 0 0 0) rfl ?_ agB ?_; with_reducible exact r2)
        refine ⟨fun h => (by cases h), ?_⟩
        refine wpMix_nil ?_
        go_wp2_with fail
        refine bodyPost_ret (resultsRR rfl (w.heap.size + 2) (w.heap.size + 3) _ rfl rfl r3 r4 agK agB) rfl ⟨?_, below_rowR (below_rowR hW11.bel _ (by omega)) _ (by omega)⟩
        rw [HC2.out, HB2.out]
        rfl
end Go.Proofs.Ythhihmggaddlmaa
