/- The law CoreStops: a processor that has stopped does nothing any more. -/
import Derived.Test.YtbgjnegojoaimaaCoreAsk
import Derived.Test.YtbgjnegojoaimaaCoreTell
import Derived.Test.YtbgjnegojoaimaaCoreEq
import Derived.Test.YtbgjnegojoaimaaAluRegs
import Derived.Test.YtbgjnegojoaimaaLin
import Derived.Great.BuildSlice
namespace Go.Proofs.Ytbgjnegojoaimaa
open Go.RowKit
set_option maxRecDepth 100000

theorem cores_keep (w : World) :
    Calls Try.prog 10 #[] w fun e w' => e = .returned (.bool true) ∧ Below w.heap.size w w' := by
  go_enter Try.func10, Try.ntmps10
  go_upto_region 2 with (first
      | (go_at_call 35; refine (new_any _).mono ?_; rintro e w1 ⟨rfl, hb⟩; have nz := rowB_new w1 27 (core12 (fun _ => 0) 0 0 false))
      | (refine wpList_storeR rfl 27 _ _ rfl (w1.heap.size) rfl (core12 newR 258 0 false) rfl (core12_one _ _ _ _) 27 (core12 (fun _ => 0) 0 0 false) rfl ?_ agK ?_; exact nz))
  have nX := rowB_row nz (core12 newR 258 0 false)
  have bX := below_rowR (hb.alloc hb.size (.cells (core12 (fun _ => 0) 0 0 false) 27)) (core12 newR 258 0 false) hb.size
  have c9 := coreB_op nX
  have c4 := coreB_reg nX 4 (by decide)
  rw [show newR 4 = 4 from rfl] at c4
  rw [zero12]
  generalize (w1.alloc (.cells (core12 (fun _ => 0) 0 0 false) 27)).setRow w1.heap.size (core12 newR 258 0 false) = w2 at *
  go_wp2_with fail
  go_ret
  exact ⟨rfl, bX⟩

/-- A processor that has stopped: what Ask and Tell make of it. -/
theorem cycles_jam (c : Cp) : cyclesOf c 259 = [] := by
  unfold cyclesOf
  rw [if_neg (by decide), if_neg (by decide), if_neg (by decide), lo8_eq, if_neg (by decide)]
theorem ask_jam (c : Cp) (f : Nat → Int) (n q : Bool) : askCore c f 259 0 n q = core12 f 259 0 n ∧ askBus c f 259 0 n q = bus3 0 0 0 := by
  have hm : meets c f 259 0 n q = (259, 0, n) := meetsFst c f 259 0 n q (by decide)
  have hd : doneC c 259 0 = ⟨0, 0, 0, []⟩ := by
    unfold doneC
    rw [if_neg (by decide), cycles_jam]
    rfl
  unfold askCore askBus
  simp only [hm, hd]
  exact ⟨rfl, rfl⟩
theorem tell_jam (c : Cp) (f : Nat → Int) (n : Bool) (d : Int) : tellCore c f 259 0 n d = core12 f 259 0 n := by
  unfold tellCore
  rw [if_neg (by decide), cycles_jam]
  rfl
/-- The museum's processor, as far as this law asks: a processor in memory. -/
def stdGives (P : Program) (fn : Nat) (w : World) : Prop := Calls P fn #[] w fun e w' => ∃ (c : Cp) (v0 v1 v2 v3 : Value), e = .returned (.agg (cpu5 c.name v0 v1 v2 v3)) ∧ (cpu5 c.name v0 v1 v2 v3).all (·.oneCell') = true ∧ cpuArg w' v0 v1 v2 v3 c ∧ Below w.heap.size w w'

/-- The three variables of the law, beside the bus; the processor lies in the world wc. -/
structure jamW (w0 wc w : World) (a b k : Nat) (cpu ks ns : Array Value) : Prop where
  hk : rowB w a 27 ks
  hp : rowB w b 31 cpu
  hn : rowB w k 27 ns
  bel : Below w0.heap.size w0 w
  org : Below wc.heap.size wc w
section
variable {w0 wc w : World} {a b k : Nat} {cpu ks ns : Array Value}
theorem jamW.call {w' : World} (h : jamW w0 wc w a b k cpu ks ns) (hb : Below w.heap.size w w') : jamW w0 wc w' a b k cpu ks ns :=
  ⟨rowB_below h.hk hb (rowB_lt h.hk), rowB_below h.hp hb (rowB_lt h.hp), rowB_below h.hn hb (rowB_lt h.hn), h.bel.trans (hb.mono h.bel.size), h.org.trans (hb.mono h.org.size)⟩
theorem jamW.alloc (h : jamW w0 wc w a b k cpu ks ns) (o : Obj) : jamW w0 wc (w.alloc o) a b k cpu ks ns :=
  ⟨rowB_alloc h.hk o, rowB_alloc h.hp o, rowB_alloc h.hn o, h.bel.alloc h.bel.size o, h.org.alloc h.org.size o⟩
theorem jamW.row (h : jamW w0 wc w a b k cpu ks ns) (cs : Array Value) (h1 : k ≠ a) (h2 : k ≠ b) (h3 : w0.heap.size ≤ k) (h4 : wc.heap.size ≤ k) : jamW w0 wc (w.setRow k cs) a b k cpu ks cs :=
  ⟨rowB_row_other h.hk cs h1, rowB_row_other h.hp cs h2, rowB_row h.hn cs, below_rowR h.bel cs h3, below_rowR h.org cs h4⟩
theorem jamW.far (h : jamW w0 wc w a b k cpu ks ns) {g : Nat} (cs : Array Value) (h1 : g ≠ a) (h2 : g ≠ b) (h5 : g ≠ k) (h3 : w0.heap.size ≤ g) (h4 : wc.heap.size ≤ g) : jamW w0 wc (w.setRow g cs) a b k cpu ks ns :=
  ⟨rowB_row_other h.hk cs h1, rowB_row_other h.hp cs h2, rowB_row_other h.hn cs h5, below_rowR h.bel cs h3, below_rowR h.org cs h4⟩
theorem jamW.drew (h : jamW w0 wc w a b k cpu ks ns) : jamW w0 wc w.drew a b k cpu ks ns := ⟨h.hk, h.hp, h.hn, h.bel.drew, h.org.drew⟩
end

set_option maxRecDepth 100000 in
set_option maxHeartbeats 4000000 in
theorem coreStops_walk (v : Value) (l : List Int) (data many : Int) (w : World) (h : isArg w v l) (hwf : ∀ x ∈ l, (Lit.int .i64 x).wf = true) (hm : -9223372036854775808 ≤ many ∧ many ≤ 9223372036854775807)
    (hstd : ∀ w, stdGives Try.prog 5 w) :
    Calls Try.prog 3 #[v, .int .i64 data, .int .i64 many] w fun e w' => e = .returned (.bool true) ∧ Below w.heap.size w w' := by
  obtain ⟨sa, sl, scap, rfl⟩ : ∃ a n c, v = .slice a n c := by
    rcases h with ⟨a, cap, rfl, _⟩ | ⟨b, off, cap, rfl, _⟩ <;> exact ⟨_, _, _, rfl⟩
  have HSTD := Lib.hid hstd
  clear hstd
  go_enter Try.func3, Try.ntmps3
  go_upto_region 2 with (first
      | (go_at_call 4; refine (registers_any _ l _ h hwf).mono ?_; rintro e w1 ⟨f, rfl, hf, hb⟩; have hz := rowB_new w1 27 (core12 (fun _ => 0) 0 0 false))
      | (refine wpList_buildTo rfl 27 _ rfl _ rfl (core12 f 259 0 false) (by kernel_rfl) ?_)
      | (refine wpList_storeR rfl 27 _ _ rfl (w1.heap.size) rfl (core12 f 259 0 false) rfl (core12_one _ _ _ _) 27 (core12 (fun _ => 0) 0 0 false) rfl ?_ agK ?_; exact hz))
  have hA := rowB_row hz (core12 f 259 0 false)
  have bA := below_rowR (hb.alloc hb.size (.cells (core12 (fun _ => 0) 0 0 false) 27)) (core12 f 259 0 false) hb.size
  have lA := rowB_lt hA
  have la := hb.size
  rw [zero12]
  generalize (w1.alloc (.cells (core12 (fun _ => 0) 0 0 false) 27)).setRow w1.heap.size (core12 f 259 0 false) = wA at *
  generalize w1.heap.size = a at *
  clear hz hb h hwf
  have hs := HSTD.out wA
  unfold stdGives at hs
  have HS := Lib.hid hs
  clear hs HSTD
  go_upto_region 3 with (first
      | (go_at_call 5; refine HS.out.mono ?_; rintro e w3 ⟨c, v0, v1, v2, v3, rfl, ho, hc, hb3⟩; have nz := rowB_new w3 31 (cpu5 ⟨#[]⟩ (.slice none 0 0) (.slice none 0 0) (.slice none 0 0) (.slice none 0 0)); have HO := Lib.hid ho; have HC := Lib.hid hc; clear ho hc)
      | (refine wpList_storeR rfl 31 _ _ rfl (w3.heap.size) rfl (cpu5 c.name v0 v1 v2 v3) rfl HO.out 31 (cpu5 ⟨#[]⟩ (.slice none 0 0) (.slice none 0 0) (.slice none 0 0) (.slice none 0 0)) rfl ?_ agP ?_; exact nz))
  have hA3 := rowB_row_other (rowB_alloc (rowB_below hA hb3 lA) (.cells (cpu5 ⟨#[]⟩ (.slice none 0 0) (.slice none 0 0) (.slice none 0 0) (.slice none 0 0)) 31)) (cpu5 c.name v0 v1 v2 v3) (show w3.heap.size ≠ a by have := hb3.size; omega)
  have hP3 := rowB_row nz (cpu5 c.name v0 v1 v2 v3)
  have bA3 := bA.trans (hb3.mono bA.size)
  have b3 := below_rowR (bA3.alloc bA3.size (.cells (cpu5 ⟨#[]⟩ (.slice none 0 0) (.slice none 0 0) (.slice none 0 0) (.slice none 0 0)) 31)) (cpu5 c.name v0 v1 v2 v3) bA3.size
  have o3 := below_rowR ((Below.refl w3.heap.size w3).alloc (Nat.le_refl _) (.cells (cpu5 ⟨#[]⟩ (.slice none 0 0) (.slice none 0 0) (.slice none 0 0) (.slice none 0 0)) 31)) (cpu5 c.name v0 v1 v2 v3) (Nat.le_refl _)
  have lb : a < w3.heap.size := Nat.lt_of_lt_of_le lA hb3.size
  have lP := rowB_lt hP3
  change Code.wp _ _ _ _ ((w3.alloc (.cells (cpu5 ⟨#[]⟩ (.slice none 0 0) (.slice none 0 0) (.slice none 0 0) (.slice none 0 0)) 31)).setRow w3.heap.size (cpu5 c.name v0 v1 v2 v3))
  generalize (w3.alloc (.cells (cpu5 ⟨#[]⟩ (.slice none 0 0) (.slice none 0 0) (.slice none 0 0) (.slice none 0 0)) 31)).setRow w3.heap.size (cpu5 c.name v0 v1 v2 v3) = wB at *
  clear hA bA lA hb3 nz bA3 HS
  have nz := rowB_new wB 27 (core12 (fun _ => 0) 0 0 false)
  go_upto_region 4 with (first
      | (refine wpList_loadR rfl 27 _ rfl (a) rfl 27 (core12 f 259 0 false) ?_ agK ?_; with_reducible exact hA3)
      | (refine wpList_storeR rfl 27 _ _ rfl (wB.heap.size) rfl (core12 f 259 0 false) rfl (core12_one _ _ _ _) 27 (core12 (fun _ => 0) 0 0 false) rfl ?_ agK ?_; exact nz))
  have hJ : jamW w w3 ((wB.alloc (.cells (core12 (fun _ => 0) 0 0 false) 27)).setRow wB.heap.size (core12 f 259 0 false)) a w3.heap.size wB.heap.size (cpu5 c.name v0 v1 v2 v3) (core12 f 259 0 false) (core12 f 259 0 false) :=
    ⟨rowB_row_other (rowB_alloc hA3 _) _ (by omega), rowB_row_other (rowB_alloc hP3 _) _ (by omega), rowB_row nz _, below_rowR (b3.alloc b3.size _) _ (by omega), below_rowR (o3.alloc (by omega) _) _ (by omega)⟩
  change Code.wp _ _ _ _ ((wB.alloc (.cells (core12 (fun _ => 0) 0 0 false) 27)).setRow wB.heap.size (core12 f 259 0 false))
  generalize (wB.alloc (.cells (core12 (fun _ => 0) 0 0 false) 27)).setRow wB.heap.size (core12 f 259 0 false) = wC at *
  clear nz hA3 hP3 b3 o3
  generalize wB.heap.size = k at *
  obtain ⟨b, hbe⟩ : ∃ b, b = w3.heap.size := ⟨_, rfl⟩
  rw [← hbe] at hJ lb lP
  have Hbe := Lib.hid hbe
  have hm0 := Int.emod_nonneg many (b := 20) (by decide)
  have hm1 := Int.emod_lt_of_pos many (b := 20) (by decide)
  simp only [← hbe]
  clear hbe
  go_wp2_with (go_at_call 6; refine (below_any _ _ hm (by decide) _).mono ?_; rintro e w' ⟨rfl, rfl⟩)
  obtain ⟨m, hme⟩ : ∃ m : Nat, many % 20 = (m : Int) := ⟨(many % 20).toNat, by omega⟩
  rw [hme] at hm1 ⊢
  have hask := fun w' (hb : Below w3.heap.size w3 w') => ask_any c v0 v1 v2 v3 f 259 0 true true w' (cpuArg_below HC.out hb (Nat.le_refl _))
  rw [fit_fits hf, (ask_jam c f true true).1, (ask_jam c f true true).2] at hask
  have htell := fun w' (hb : Below w3.heap.size w3 w') => tell_any c v0 v1 v2 v3 f 259 0 true data w' (cpuArg_below HC.out hb (Nat.le_refl _))
  rw [fit_fits hf, tell_jam c f true data] at htell
  have HASK := Lib.hid hask
  have HTELL := Lib.hid htell
  have hgB : Try.prog.eqGuardType Try.prog.depth 35 = false := by kernel_rfl
  have hq : ∀ w, (Op.equalIn 10000 35 (.agg (bus3 0 0 0)) (.agg #[.int .i64 0, .int .i64 0, .int .i64 0])).run Try.prog w = .ok true w := fun w => equal3 0 0 0 w
  have lw : w.heap.size ≤ k := by omega
  have lo : w3.heap.size ≤ k := by have := Hbe.out; omega
  clear hask htell hme hm0 hm Hbe HC HO
  go_loopw [18] (fun i wr => ∃ (j : Nat) (p : Bool), j ≤ m ∧ i = .int .i64 j ∧ jamW w w3 wr a b k (cpu5 c.name v0 v1 v2 v3) (core12 f 259 0 false) (core12 f 259 0 p)) (fun i _ => m - (intOf i).toNat)
  case atStart => exact ⟨0, false, Nat.zero_le _, rfl, hJ⟩
  case round =>
    clear hJ
    obtain ⟨j, p, hj, rfl, hJ⟩ := hrel
    by_cases hlt : j < m
    · have ly := rowB_lt hJ.hn
      have nB := rowB_new wr 35 (bus3 0 0 0)
      have hJ2 := hJ.alloc (.cells (bus3 0 0 0) 35)
      go_upto_region 7 with (fail)
      change Code.wp _ _ _ _ (wr.alloc (.cells (bus3 0 0 0) 35))
      generalize wr.alloc (.cells (bus3 0 0 0) 35) = wq at *
      generalize wr.heap.size = y at *
      clear hJ
      refine wp_region_mix (fun w' => rowB w' b 31 (cpu5 c.name v0 v1 v2 v3)) [(0, 1), (1, 0), (2, 3), (3, 2), (4, 0), (5, 0), (6, 1), (7, 3), (8, 2)] (by kernel_rfl) (by kernel_rfl) (fun _ _ _ _ _ h => h) ?_
      simp only [List.map_cons, List.map_nil, opOf, List.getD_cons_zero, List.getD_cons_succ]
      change wpMix _ _ _ _ _ _ wq.drew
      have hJ := hJ2.drew
      have nB : rowB wq.drew y 35 (bus3 0 0 0) := nB
      generalize wq.drew = wq at *
      clear hJ2
      refine wpMix_held (.agg (cpu5 c.name v0 v1 v2 v3)) rfl hJ.hp (fun w' h' => exec_rowR 31 _ rfl b rfl 31 (cpu5 c.name v0 v1 v2 v3) h' agP) ?_
      simp only [Act.put, List.setIfInBounds_toArray, List.set_cons_zero, List.set_cons_succ]
      have r0 := coreB_reg hJ.hn 0 (by decide)
      have r1 := coreB_reg hJ.hn 1 (by decide)
      have r2 := coreB_reg hJ.hn 2 (by decide)
      have r3 := coreB_reg hJ.hn 3 (by decide)
      have r4 := coreB_reg hJ.hn 4 (by decide)
      have r5 := coreB_reg hJ.hn 5 (by decide)
      have r6 := coreB_reg hJ.hn 6 (by decide)
      have r7 := coreB_reg hJ.hn 7 (by decide)
      have r8 := coreB_reg hJ.hn 8 (by decide)
      have r9 := coreB_op hJ.hn
      have r10 := coreB_pl hJ.hn
      have r11 := coreB_nm hJ.hn
      (refine wpMix_still (fun K hK => ?_); go_simp; refine hK _ ?_; clear hK K)
      clear r0 r1 r2 r3 r4 r5 r6 r7 r8 r9 r10 r11
      refine wpMix_call ?_
      go_wp2_with (go_at_call 8; refine (nmi_any f 259 0 p _).mono ?_; rintro e va ⟨rfl, hb⟩; have hJ1 := hJ.call hb; have nB1 := rowB_below nB hb (rowB_lt nB))
      first | refine ⟨fun _ => hJ1.hp, ?_⟩ | refine ⟨hJ1.hp, ?_⟩
      clear hJ nB hb
      refine wpMix_call ?_
      go_wp2_with (go_at_call 7; refine (HASK.out _ hJ1.org).mono ?_; rintro e vb ⟨rfl, hb⟩; have hJ2 := hJ1.call hb; have nB2 := rowB_below nB1 hb (rowB_lt nB1))
      first | refine ⟨fun h => (by cases h), ?_⟩ | skip
      clear hJ1 nB1 hb
      (refine wpMix_still (fun K hK => ?_); go_simp; refine hK _ ?_; clear hK K)
      (refine wpMix_still (fun K hK => ?_); go_simp; refine hK _ ?_; clear hK K)
      refine wpMix_held (.agg (bus3 0 0 0)) rfl hJ2.hp (fun w' h' => by go_simp) ?_
      simp only [Act.put, List.setIfInBounds_toArray, List.set_cons_zero, List.set_cons_succ]
      refine wpMix_call ?_
      go_wp2_with (refine wpList_storeR rfl 27 _ _ rfl (k) rfl (core12 f 259 0 true) rfl (core12_one _ _ _ _) 27 (core12 f 259 0 p) rfl ?_ agK ?_; with_reducible exact hJ2.hn)
      have hJ3 := hJ2.row (core12 f 259 0 true) (by omega) (by omega) lw lo
      have nB3 := rowB_row_other nB2 (core12 f 259 0 true) (show k ≠ y by omega)
      first | refine ⟨fun _ => hJ3.hp, ?_⟩ | refine ⟨hJ3.hp, ?_⟩
      generalize vb.setRow k (core12 f 259 0 true) = vc at *
      clear hJ2 nB2
      refine wpMix_call ?_
      go_wp2_with (refine wpList_storeR rfl 35 _ _ rfl (y) rfl (bus3 0 0 0) rfl (bus3_one _ _ _) 35 (bus3 0 0 0) rfl ?_ agB ?_; with_reducible exact nB3)
      have hJ4 := hJ3.far (g := y) (bus3 0 0 0) (by omega) (by omega) (by omega) (by omega) (by omega)
      have nB4 := rowB_row nB3 (bus3 0 0 0)
      first | refine ⟨fun h => (by cases h), ?_⟩ | skip
      generalize vc.setRow y (bus3 0 0 0) = vd at *
      clear hJ3 nB3
      refine wpMix_nil ?_
      go_wp2_with (first
      | (refine wpList_loadR rfl 35 _ rfl (y) rfl 35 (bus3 0 0 0) ?_ agB ?_; with_reducible exact nB4)
      | (refine wpList_loadR rfl 31 _ rfl (b) rfl 31 (cpu5 c.name v0 v1 v2 v3) ?_ agP ?_; with_reducible exact hJ4.hp)
      | (refine wpList_loadR rfl 27 _ rfl (k) rfl 27 (core12 f 259 0 true) ?_ agK ?_; with_reducible exact hJ4.hn)
      | (go_at_call 9; refine (HTELL.out _ hJ4.org).mono ?_; rintro e ve ⟨rfl, hb⟩; have hJ5 := hJ4.call hb)
      | (refine wpList_storeR rfl 27 _ _ rfl (k) rfl (core12 f 259 0 true) rfl (core12_one _ _ _ _) 27 (core12 f 259 0 true) rfl ?_ agK ?_; with_reducible exact hJ5.hn))
      go_roundw
      case measure => simp [intOf]; omega
      case rel => exact ⟨j + 1, true, by omega, by go_num, hJ5.row _ (by omega) (by omega) lw lo⟩
    · obtain rfl : j = m := by omega
      have hgR : Try.prog.eqGuardType Try.prog.depth 24 = false := by kernel_rfl
      have he : ∀ w, (Op.equalIn 10000 24 (.agg (arr9 f)) (.agg (arr9 f))).run Try.prog w = .ok true w := equal9 9998 f
      go_wp2_with (first
      | (go_at_call 10; refine (cores_keep _).mono ?_; rintro e va ⟨rfl, hb⟩; have hJ1 := hJ.call hb; have r9 := coreB_op hJ1.hn)
      | (refine wpList_loadHg rfl 24 _ rfl (k) rfl (arr9 f) 27 (core12 f 259 0 p) ?_ (core12_head _ _ _ _) agR ?_; with_reducible exact hJ1.hn)
      | (refine wpList_loadHg rfl 24 _ rfl (a) rfl (arr9 f) 27 (core12 f 259 0 false) ?_ (core12_head _ _ _ _) agR ?_; with_reducible exact hJ1.hk))
      go_ret
      exact ⟨rfl, hJ1.bel⟩
end Go.Proofs.Ytbgjnegojoaimaa
