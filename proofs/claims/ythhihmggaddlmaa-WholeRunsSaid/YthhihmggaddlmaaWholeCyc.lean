/- The contract of package whole's Cycle, for any processor, any state and any memory. -/
import Derived.Test.YthhihmggaddlmaaChecked
import Derived.Test.YthhihmggaddlmaaCoreAsk
import Derived.Test.YthhihmggaddlmaaCoreTell
import Derived.Test.YthhihmggaddlmaaWholeMem
import Derived.Below
import Derived.BigQuiet
import Derived.ChangeMaps5
import Derived.Deep.CutBlock
import Derived.Deep.DeepAppendWide
import Derived.Deep.DeepCutAuto
import Derived.Deep.Draws
import Derived.Deep.MidRow
import Derived.Deep.OwnRows
import Derived.Deep.QuietTactic
import Derived.Deep.RegionHeld3
import Derived.Deep.RegionLaw
import Derived.Deep.RegionWith
import Derived.Deep.Slices
import Derived.Deep.WholeRow
import Derived.Laws.OwnMore
import Derived.Lib.Hide
import Derived.Lib.SmallJoins
import Derived.OpenShut
import Derived.OrdersHeld
import Derived.OwnWalk
import Derived.RowKit3
import Derived.SizedLaws
import Derived.StillTactics
import Derived.StillTail
import Derived.StillTailTactics
import Derived.WalkKit
namespace Go.Proofs.Ythhihmggaddlmaa
open Go.RowKit
set_option maxRecDepth 100000

/-- Addresses and data that Ask puts on the bus are small. -/
theorem askU_bd (c : Cp) (k : Ks) (q : Bool) : (0 ≤ (askU c k q).a ∧ (askU c k q).a < 65792) ∧ 0 ≤ (askU c k q).x ∧ (askU c k q).x < 65536 := by
  have hf := fits_fit k.f
  have h3 := hf 3
  have h7 := hf 7
  have h8 := hf 8
  unfold askU
  simp only
  split
  · exact ⟨⟨by decide, by decide⟩, by decide, by decide⟩
  · refine ⟨?_, ?_⟩
    · unfold placeA fixedAt
      simp only [lo8_eq, lo16_eq]
      repeat' split
      all_goals first | (simp at *; omega) | omega
    · unfold dataA
      split
      · simp only [lo8_eq]; omega
      · exact ⟨Int.le_refl 0, by show (0 : Int) < 65536; decide⟩
set_option maxHeartbeats 4000000 in
theorem cycle_any {T : TypeId} {v : Value} {fr fw : Nat} {G : Nat → Prop} {M : Type} {F : MemF M} {inv : World → M → Prop} (hC : memC T v fr fw G F inv)
    (c : Cp) (v0 v1 v2 v3 : Value) (k : Ks) (q : Bool) (m : M) (w : World) (hm : inv w m) (hst : ∀ w', Off G w w' → cpuArg w' v0 v1 v2 v3 c) :
    Calls Try.prog 18 #[.agg (cpu5 c.name v0 v1 v2 v3), .agg k.row, .bool q, .iface T v] w fun e w' =>
      e = .returned (.tuple #[.agg (cycK F c k q m).1.row, .agg (cycK F c k q m).2.1.row]) ∧ inv w' (cycK F c k q m).2.2 ∧ Off G w w' := by
  have hG : ∀ g, G g → g < w.heap.size := fun g hg => hC.low w m g hm hg
  obtain ⟨f, op, pl, n⟩ := k
  have hW := cycW.start hC w hm (cpu5 c.name v0 v1 v2 v3) (core12 f op pl n)
  have hask := fun w' (ho : Off G w w') => ask_any c v0 v1 v2 v3 f op pl n q w' (hst w' ho)
  obtain ⟨a, ha⟩ : ∃ a, a = askK c ⟨f, op, pl, n⟩ q := ⟨_, rfl⟩
  obtain ⟨b, hb⟩ : ∃ b, b = askU c ⟨f, op, pl, n⟩ q := ⟨_, rfl⟩
  have hrow : askCore c (fitR f) op pl n q = a.row := ha ▸ askK_row c ⟨f, op, pl, n⟩ q
  have hbus : askBus c (fitR f) op pl n q = b.row := hb ▸ askU_row c ⟨f, op, pl, n⟩ q
  simp only [hrow, hbus] at hask
  have hcyc : cycK F c ⟨f, op, pl, n⟩ q m = (tellK c a (datU F b m), ⟨b.d, b.a, datU F b m⟩, putU F b m) := by unfold cycK; rw [← ha, ← hb]
  obtain ⟨Dt, hDt⟩ : ∃ Dt, Dt = datU F b m := ⟨_, rfl⟩
  obtain ⟨m', hm'⟩ : ∃ m', m' = putU F b m := ⟨_, rfl⟩
  obtain ⟨t, ht⟩ : ∃ t, t = tellK c a Dt := ⟨_, rfl⟩
  rw [← hDt, ← hm', ← ht] at hcyc
  have hbd : (0 ≤ b.a ∧ b.a < 65792) ∧ 0 ≤ b.x ∧ b.x < 65536 := hb ▸ askU_bd c ⟨f, op, pl, n⟩ q
  obtain ⟨b0, b1, b2⟩ := b
  obtain ⟨⟨n1, n2⟩, n3, n4⟩ := hbd
  obtain ⟨af, ao, ap, an⟩ := a
  have htell := fun w' (ho : Off G w w') => tell_any c v0 v1 v2 v3 af ao ap an Dt w' (hst w' ho)
  have htr := tellK_row c ⟨af, ao, ap, an⟩ Dt
  rw [← ht] at htr
  simp only at htr
  simp only [htr] at htell
  obtain ⟨tf, tq, tp, tn⟩ := t
  rw [hcyc]
  simp only [Ks.row, Bu.row] at hask htell ⊢
  have HDt := Lib.hid hDt
  have Hm' := Lib.hid hm'
  clear hDt hm' ht
  have HASK := Lib.hid hask
  have HTELL := Lib.hid htell
  have HRD := Lib.hid (fun w m h => hC.rd w m b1 n1 n2 h)
  have HWR := Lib.hid (fun w m h => hC.wr w m b1 b2 n1 n2 n3 n4 h)
  clear n1 n2 n3 n4
  have mr := hC.mr
  have mw := hC.mw
  have er := hC.er
  have ew := hC.ew
  have lo8 := fun n w => low_any n 8 w
  rw [show wd 8 = 8 from rfl] at lo8
  clear hask htell hst hrow hbus hcyc htr ha hb
  go_enter Try.func18, Try.ntmps18
  go_upto_region 1 with (fail)
  change Code.wp _ _ _ _ ((((w.alloc (.cells (cpu5 c.name v0 v1 v2 v3) 25)).alloc (.cells (core12 f op pl n) 29)).alloc (.cells (core12 (fun _ => 0) 0 0 false) 29)).alloc (.cells (bus3 0 0 0) 34))
  generalize (((w.alloc (.cells (cpu5 c.name v0 v1 v2 v3) 25)).alloc (.cells (core12 f op pl n) 29)).alloc (.cells (core12 (fun _ => 0) 0 0 false) 29)).alloc (.cells (bus3 0 0 0) 34) = w1 at *
  go_upto_region 2 with (first
      | (refine wpList_loadR rfl 25 _ rfl (w.heap.size) rfl 25 (cpu5 c.name v0 v1 v2 v3) ?_ agP ?_; with_reducible exact hW.hp)
      | (refine wpList_loadR rfl 29 _ rfl (w.heap.size + 1) rfl 29 (core12 f op pl n) ?_ agK ?_; with_reducible exact hW.hk)
      | (go_at_call 60; refine (HASK.out _ hW.off).mono ?_; rintro e w2 ⟨rfl, hb⟩; have hW2 := (hW.call hC hb).alloc hC (.cells (bus3 0 0 0) 34); have nz := rowB_new w2 34 (bus3 0 0 0))
      | (refine wpList_storeR rfl 29 _ _ rfl (w.heap.size + 1) rfl (core12 af ao ap an) rfl (core12_one _ _ _ _) 29 (core12 f op pl n) rfl ?_ agK ?_; exact hW2.hk)
      | (refine wpList_storeR rfl 34 _ _ rfl (w2.heap.size) rfl (bus3 b0 b1 b2) rfl (bus3_one _ _ _) 34 (bus3 0 0 0) rfl ?_ agB ?_; exact rowB_row_other nz _ (by have h3 := hW.size; have h4 := hb.size; omega)))
  have hW3 := (hW2.state hC hG (core12 af ao ap an)).far hC hG (g := w2.heap.size) (by have h3 := hW.size; have h4 := hb.size; omega) (bus3 b0 b1 b2)
  have nB := rowB_row (rowB_row_other nz (core12 af ao ap an) (show w.heap.size + 1 ≠ w2.heap.size by have h3 := hW.size; have h4 := hb.size; omega)) (bus3 b0 b1 b2)
  have hy : w.heap.size + 3 < w2.heap.size := by have h3 := hW.size; have h4 := hb.size; omega
  change Code.wp _ _ _ _ (((w2.alloc (.cells (bus3 0 0 0) 34)).setRow (w.heap.size + 1) (core12 af ao ap an)).setRow w2.heap.size (bus3 b0 b1 b2))
  generalize ((w2.alloc (.cells (bus3 0 0 0) 34)).setRow (w.heap.size + 1) (core12 af ao ap an)).setRow w2.heap.size (bus3 b0 b1 b2) = w3 at *
  generalize w2.heap.size = y at *
  clear hW hW2 hb nz
  obtain ⟨d0, d1, d2⟩ := bus3_at nB
  go_upto_block 0 with (fail)
  clear d0
  go_cut [] (fun wx => cycW G inv w wx (cpu5 c.name v0 v1 v2 v3) (core12 af ao ap an) (core12 (fun _ => 0) 0 0 false) (bus3 0 0 0) m' ∧ rowB wx y 34 (bus3 b0 b1 Dt))
  case first =>
    have hf2 := rowB_free nB 2
    by_cases h1 : b0 = 1
    · subst h1
      clear HWR mw ew
      go_wp2_with (first
        | (with_reducible refine (HRD.out _ m hW3.mem).mono ?_; rintro e w4 ⟨rfl, hb⟩; have hW4 := hW3.call hC hb; have nB4 := rowB_below nB hb (rowB_lt nB); have hf4 := rowB_free nB4 2; obtain ⟨e0, e1, e2⟩ := bus3_at nB4)
        | (go_at_call 61; refine (lo8 _ _).mono ?_; rintro e w' ⟨rfl, rfl⟩))
      go_meet
      case rel => exact ⟨by rw [show m' = m from Hm'.out]; exact hW4.farC hC hG hy _, by rw [show Dt = lo (F.rd m b1) 8 from HDt.out]; exact bus3_set nB4 _⟩
    · have t1 : (b0 == 1) = false := by simpa using h1
      obtain rfl : Dt = b2 := by rw [HDt.out]; unfold datU; exact if_neg h1
      clear HDt HRD mr er
      by_cases h2 : b0 = 2
      · subst h2
        obtain rfl : m' = F.wr m b1 Dt := Hm'.out
        clear Hm'
        go_wp2_with (with_reducible refine (HWR.out _ m hW3.mem).mono ?_; rintro e w4 ⟨rfl, hi, ho⟩; have hW4 := hW3.wrote hG ho hi; have nB4 := rowB_off nB ho (fun hg => by have := hG _ hg; omega))
        go_meet
        case rel => exact ⟨hW4, nB4⟩
      · have t2 : (b0 == 2) = false := by simpa using h2
        obtain rfl : m' = m := by rw [Hm'.out]; unfold putU; exact if_neg h2
        clear Hm'
        go_wp2_with fail
        go_meet
        case rel => exact ⟨hW3, nB⟩
  case rest =>
    clear hW3 nB d1 d2 lo8 mr mw er ew HRD HWR HASK
    obtain ⟨hW, nB⟩ := hcut
    clear hm HDt Hm'
    go_upto_region 7 with (fail)
    obtain ⟨d0, d1, d2⟩ := bus3_at nB
    refine wp_region_mix (fun w' => rowB w' w.heap.size 25 (cpu5 c.name v0 v1 v2 v3) ∧ rowB w' (w.heap.size + 1) 29 (core12 af ao ap an) ∧ rowB w' y 34 (bus3 b0 b1 Dt)) [(0, 1), (1, 1), (2, 0), (3, 0), (5, 1), (4, 3), (6, 3), (7, 2)] (by kernel_rfl) (by kernel_rfl) (fun _ _ _ _ _ h => h) ?_
    simp only [List.map_cons, List.map_nil, opOf, List.getD_cons_zero, List.getD_cons_succ]
    change wpMix _ _ _ _ _ _ wc.drew
    have hW := hW.drew hC
    have nB : rowB wc.drew y 34 (bus3 b0 b1 Dt) := nB
    have d2 : wc.drew.cell? ⟨y, 2, none⟩ = some (.int .i64 Dt) := d2
    clear d0 d1
    generalize wc.drew = wd at *
    refine wpMix_held (.agg (cpu5 c.name v0 v1 v2 v3)) rfl ⟨hW.hp, hW.hk, nB⟩ (fun w' h' => exec_rowR 25 _ rfl (w.heap.size) rfl 25 (cpu5 c.name v0 v1 v2 v3) h'.1 agP) ?_
    simp only [Act.put, List.setIfInBounds_toArray, List.set_cons_zero, List.set_cons_succ]
    refine wpMix_held (.agg (core12 af ao ap an)) rfl ⟨hW.hp, hW.hk, nB⟩ (fun w' h' => exec_rowR 29 _ rfl (w.heap.size + 1) rfl 29 (core12 af ao ap an) h'.2.1 agK) ?_
    simp only [Act.put, List.setIfInBounds_toArray, List.set_cons_zero, List.set_cons_succ]
    (refine wpMix_still (fun K hK => ?_); go_simp; refine hK _ ?_; clear hK K)
    (refine wpMix_still (fun K hK => ?_); go_simp; refine hK _ ?_; clear hK K)
    refine wpMix_held (.agg (bus3 b0 b1 Dt)) rfl ⟨hW.hp, hW.hk, nB⟩ (fun w' h' => exec_rowR 34 _ rfl y rfl 34 (bus3 b0 b1 Dt) h'.2.2 agB) ?_
    simp only [Act.put, List.setIfInBounds_toArray, List.set_cons_zero, List.set_cons_succ]
    refine wpMix_call ?_
    go_wp2_with (go_at_call 62; refine (HTELL.out _ hW.off).mono ?_; rintro e we ⟨rfl, hb⟩; have hW2 := hW.call hC hb; have nB2 := rowB_below nB hb (rowB_lt nB))
    first | refine ⟨fun _ => ⟨hW2.hp, hW2.hk, nB2⟩, ?_⟩ | refine ⟨⟨hW2.hp, hW2.hk, nB2⟩, ?_⟩
    clear hW nB d2 hb
    refine wpMix_call ?_
    go_wp2_with (refine wpList_storeR rfl 29 _ _ rfl (w.heap.size + 2) rfl (core12 tf tq tp tn) rfl (core12_one _ _ _ _) 29 (core12 (fun _ => 0) 0 0 false) rfl ?_ agK ?_; with_reducible exact hW2.hr)
    have hW3 := hW2.outR hC hG (core12 tf tq tp tn)
    have nB3 := rowB_row_other nB2 (core12 tf tq tp tn) (show w.heap.size + 2 ≠ y by omega)
    first | refine ⟨fun _ => ⟨hW3.hp, hW3.hk, nB3⟩, ?_⟩ | refine ⟨⟨hW3.hp, hW3.hk, nB3⟩, ?_⟩
    generalize we.setRow (w.heap.size + 2) (core12 tf tq tp tn) = wf at *
    clear hW2 nB2
    refine wpMix_call ?_
    go_wp2_with (refine wpList_storeR rfl 34 _ _ rfl (w.heap.size + 3) rfl (bus3 b0 b1 Dt) rfl (bus3_one _ _ _) 34 (bus3 0 0 0) rfl ?_ agB ?_; with_reducible exact hW3.hb)
    have hW4 := hW3.outB hC hG (bus3 b0 b1 Dt)
    first | refine ⟨fun h => (by cases h), ?_⟩ | skip
    generalize wf.setRow (w.heap.size + 3) (bus3 b0 b1 Dt) = wg at *
    clear hW3 nB3
    refine wpMix_nil ?_
    go_wp2_with fail
    exact bodyPost_ret (resultsRR rfl (w.heap.size + 2) (w.heap.size + 3) _ rfl rfl hW4.hr hW4.hb agK agB) rfl ⟨rfl, hW4.mem, hW4.off⟩
end Go.Proofs.Ythhihmggaddlmaa
