/- The walk of the law DriveSteps. -/
import Derived.Test.YtmjddoboogccoaaBitWalksB
import Derived.Test.YtmjddoboogccoaaChecked
import Derived.Test.YtmjddoboogccoaaDrvKeep
import Derived.Test.YtmjddoboogccoaaDrvRb
import Derived.Below
import Derived.BigQuiet
import Derived.ChangeMaps5
import Derived.Deep.AppendSrc
import Derived.Deep.DeepAppendWide
import Derived.Deep.DeepCutAuto
import Derived.Deep.Draws
import Derived.Deep.MidRow
import Derived.Deep.OwnRows
import Derived.Deep.QuietTactic
import Derived.Deep.RegionHeld3
import Derived.Deep.RegionWith
import Derived.Deep.Slices
import Derived.Deep.WholeRow
import Derived.Laws.CopyOwn
import Derived.Laws.OwnMore
import Derived.Lib.Hide
import Derived.Lib.SmallJoins
import Derived.Maps.AppendAt
import Derived.OpenShut
import Derived.OrdersHeld
import Derived.OwnWalk
import Derived.RowKit3
import Derived.StillTactics
import Derived.StillTail
import Derived.StillTailTactics
import Derived.WalkKit
namespace Go.Proofs.Ytmjddoboogccoaa
open Go.RowKit
set_option maxRecDepth 100000

/-- The first disk of zeros lies in the drive. -/
def stepS (t : Int) : Dr := ⟨1, t, 0, 0, 0, 0, 0, 0, 0, 0, List.replicate 256 0⟩
theorem stepS_start : (Dr.of [] (List.replicate 256 0)).change 1 = stepS 0 := by
  rw [Dr.of_nil, drM_zero]
  unfold Dr.change
  rw [if_pos rfl]
  dsimp only
  rw [List.length_replicate]
  rfl
theorem stepS_fit (t : Int) (h : 0 ≤ t ∧ t < 4) : (stepS t).fit := by
  refine ⟨?_, h, by dsimp only [stepS]; omega, by dsimp only [stepS]; omega, by dsimp only [stepS]; omega, by dsimp only [stepS]; omega, by dsimp only [stepS]; omega, by dsimp only [stepS]; omega, by dsimp only [stepS]; omega, by dsimp only [stepS]; omega, ?_, rep_bytes 256⟩
  · dsimp only [stepS]; rw [List.length_replicate]; omega
  · dsimp only [stepS]; rw [List.length_replicate]
theorem stepS_len (t : Int) : (stepS t).m.length ≤ 140737488351232 := by
  show (List.replicate 256 (0 : Int)).length ≤ _
  rw [List.length_replicate]
  decide
set_option maxHeartbeats 4000000 in
theorem driveSteps_walk (v : Value) (l : List Int) (w : World) (h : isArg w v l) (hwf : ∀ x ∈ l, -9223372036854775808 ≤ x ∧ x ≤ 9223372036854775807) :
    Calls Try.prog 8 #[v] w fun e w' => e = .returned (.bool true) ∧ Below w.heap.size w w' := by
  obtain ⟨va, vc, rfl, hf⟩ := isArg_form h
  obtain ⟨m, hm, hm2⟩ : ∃ m : Nat, min (l.length : Int) 20 = m ∧ m ≤ l.length := ⟨min l.length 20, by omega, by omega⟩
  have hcap : m ≤ vc := by
    rcases h with ⟨a', cap', e, rfl⟩ | ⟨b', off', cap', e, _, h2, _⟩
    · have : m ≤ 0 := hm2
      omega
    · cases e
      omega
  obtain ⟨ii, i1, i2, i3, i4⟩ := infoBt
  have b1 := (Below.refl w.heap.size w).alloc (Nat.le_refl _) (.cells (byts (List.replicate 256 0)) 5)
  have n0 := rowB_new w 5 (byts (List.replicate 256 0))
  have HZ := Lib.hid (made_byts 256)
  have hB0 : isByt (w.alloc (.cells (byts (List.replicate 256 0)) 5)) (.slice (some ⟨w.heap.size, 0, none⟩) 256 256) (List.replicate 256 0) := by
    have := bytB_arg n0 (by rw [List.length_replicate]; decide)
    rwa [List.length_replicate] at this
  have hNew := drvNew_any _ _ _ hB0 (by rw [List.length_replicate]; decide)
  have hf0 := Dr.of_fit [] (List.replicate 256 0) (rep_bytes 256)
  have hl0 : (Dr.of [] (List.replicate 256 0)).m.length ≤ 140737488351232 := by
    rw [Dr.of_nil, drM_zero]
    show (List.replicate 256 (0 : Int)).length ≤ _
    rw [List.length_replicate]
    decide
  have hst := Lib.hid stepS_start
  generalize Dr.of [] (List.replicate 256 0) = s0 at *
  have H1 := Lib.hid (stepS_fit 0 (by omega))
  go_enter Try.func8, Try.ntmps8
  go_upto_region 2 with (first
    | (at_make; refine wpList_make_row _ rfl _ _ _ rfl 5 ii (.int .u8 0) Try.underlying23 i1 i2 i3 rfl _ _ 256 rfl rfl (by rw [i4]; omega) (by omega) ?_; rw [HZ.out])
    | (go_at_call 11; refine hNew.mono ?_; rintro e w2 ⟨u, rfl, hx2, hb2⟩)
    | (go_at_call 17; refine (drvChange_at hf0 hl0 1 (by decide) hst.out hx2).mono ?_; rintro e w3 ⟨u3, rfl, hx3, hb3⟩; obtain ⟨a3, c3, b3, d3, rfl, p3, q3⟩ := hx3.open))
  change Code.wp _ _ _ _ (w3.alloc (.cells #[.slice a3 10 c3, .slice b3 (stepS 0).m.length d3] 25))
  have z1 := b1.size
  have z2 := hb2.size
  have z3 := hb3.size
  have hle : w.heap.size ≤ w3.heap.size := by omega
  have bX := ((b1.trans (hb2.mono z1)).trans (hb3.mono (by omega))).alloc hle (.cells #[.slice a3 10 c3, .slice b3 (stepS 0).m.length d3] 25)
  have hbox : boxA (w3.alloc (.cells #[.slice a3 10 c3, .slice b3 (stepS 0).m.length d3] 25)) w3.heap.size (stepS 0) := ⟨_, _, rowB_new w3 25 #[.slice a3 10 c3, .slice b3 (stepS 0).m.length d3], isArg_below p3 ((Below.refl _ _).alloc (Nat.le_refl _) _) (Nat.le_refl _), isByt_below q3 ((Below.refl _ _).alloc (Nat.le_refl _) _) (Nat.le_refl _)⟩
  generalize w3.alloc (.cells #[.slice a3 10 c3, .slice b3 (stepS 0).m.length d3] 25) = wA at *
  generalize w3.heap.size = B at *
  clear b1 n0 hNew hf0 hl0 hst hb2 hb3 hx2 hx3 p3 q3 z1 z2 z3 hB0 HZ
  go_upto_region 4 with (refine wpList_min2 rfl _ _ _ rfl .i64 l.length 20 rfl rfl ?_; rw [hm])
  go_loopw [4, 21] (fun tr i wr => ∃ (j : Nat) (t : Int), j ≤ m ∧ i = .int .i64 j ∧ tr = .int .i64 t ∧ (0 ≤ t ∧ t < 4) ∧ boxA wr B (stepS t) ∧ Below w.heap.size w wr) (fun _ i _ => m - (intOf i).toNat)
  case atStart => exact ⟨0, 0, Nat.zero_le _, rfl, rfl, by omega, hbox, bX⟩
  case round =>
    clear hbox bX
    obtain ⟨j, t, hj, rfl, rfl, ht, hbox, bX⟩ := hrel
    by_cases hlt : j < m
    · have hd : decide ((j : Int) < m) = true := decide_eq_true (by omega)
      obtain ⟨b', off, rfl, hbb, _, _, hcl⟩ := hf j (by omega)
      have hxr := hwf (l.getD j 0) (by rw [List.getD_eq_getElem?_getD, List.getElem?_eq_getElem (show j < l.length by omega)]; exact List.getElem_mem _)
      have hc0 : wr.cell? ⟨b', off + j, none⟩ = some (.int .i64 (l.getD j 0)) := by
        rw [bX.cell (p := ⟨b', off + j, none⟩) hbb]
        exact hcl
      generalize l.getD j 0 = x at *
      have hbl1 := fun w => below_any x 2 hxr (by decide) w
      have hyr : -9223372036854775808 ≤ x.tdiv 2 ∧ x.tdiv 2 ≤ 9223372036854775807 := by
        have h1 := Int.tdiv_eq_ediv (a := x) (b := 2)
        simp only [show Int.sign 2 = 1 from rfl] at h1
        split at h1 <;> omega
      have wy : IntKind.i64.wrap (x.tdiv 2) = x.tdiv 2 := IntWalk.i64_in _ hyr
      have hbl2 := fun w => below_any (x.tdiv 2) 30 hyr (by decide) w
      obtain ⟨J, hJ⟩ : ∃ J : Nat, x.tdiv 2 % 30 = J := ⟨(x.tdiv 2 % 30).toNat, by omega⟩
      have hJ2 : J < 30 := by omega
      rw [hJ] at hbl2
      have hf0 := stepS_fit t ht
      have hl0 := stepS_len t
      rcases (by omega : x % 2 = 0 ∨ x % 2 = 1) with hp | hp
      · rw [hp] at hbl1
        obtain ⟨t', ht'⟩ : ∃ t', t' = (if t < 3 then t + 1 else t) := ⟨_, rfl⟩
        have hE := Dr.step_mid (stepS t) rfl 1 2 (.inl rfl) J hJ2 t' (by rw [if_pos rfl]; exact ht')
        obtain ⟨T1, hT1⟩ : ∃ T, (stepS t).write 0 1 = T := ⟨_, rfl⟩
        obtain ⟨T2, hT2⟩ : ∃ T, T1.ticks J = T := ⟨_, rfl⟩
        obtain ⟨T3, hT3⟩ : ∃ T, T2.write 0 2 = T := ⟨_, rfl⟩
        have hf1 : T1.fit := by rw [← hT1]; exact Dr.write_fit hf0 _ _
        have hf2 : T2.fit := by rw [← hT2]; exact Dr.ticks_fit hf1 _
        have hf3 : T3.fit := by rw [← hT3]; exact Dr.write_fit hf2 _ _
        have hl1 : T1.m.length ≤ 140737488351232 := by rw [← hT1, Dr.write_m]; exact hl0
        have hl2 : T2.m.length ≤ 140737488351232 := by rw [← hT2, Dr.ticks_len]; exact hl1
        have hl3 : T3.m.length ≤ 140737488351232 := by rw [← hT3, Dr.write_m]; exact hl2
        rw [hT1, hT2, hT3] at hE
        replace hE : T3.ticks (30 : Int).toNat = stepS t' := hE
        have ht2 : 0 ≤ t' ∧ t' < 4 := by rw [ht']; split <;> omega
        have hf4 := stepS_fit t' ht2
        have hl4 := stepS_len t'
        have hT2' : T1.ticks (J : Int).toNat = T2 := by rw [Int.toNat_natCast]; exact hT2
        have HT1 := Lib.hid hT1
        have HT2 := Lib.hid hT2'
        have HT3 := Lib.hid hT3
        have HE := Lib.hid hE
        clear hT1 hT2 hT2' hT3 hE
        go_upto_region 7 with (go_at_call 30; with_reducible refine (hbl1 _).mono ?_; rintro e wx ⟨rfl, rfl⟩)
        change Code.wp _ _ _ _ (wr.alloc (.cells #[.int .i64 1, .int .i64 2] 3))
        replace hbox := hbox.below ((Below.refl _ _).alloc (Nat.le_refl _) (.cells #[.int .i64 1, .int .i64 2] 3))
        replace bX := bX.alloc bX.size (.cells #[.int .i64 1, .int .i64 2] 3)
        generalize wr.alloc (.cells #[.int .i64 1, .int .i64 2] 3) = w5 at *
        obtain ⟨vx, vy, r0, h1, h2⟩ := hbox
        have lB := rowB_lt r0
        obtain ⟨y0, y1, _, _⟩ := dcells2 r0
        go_upto_region 8 with (first
          | (go_at_call 15; refine (drvWrite_at hf0 hl0 0 1 HT1.out ⟨_, _, rfl, h1, h2⟩).mono ?_; rintro e v6 ⟨u6, rfl, hx6, hb6⟩; obtain ⟨a6, c6, b6, d6, rfl, p6, q6⟩ := hx6.open; have rz := rowB_below r0 hb6 lB; have bz := boxA.below ⟨_, _, r0, h1, h2⟩ hb6; have hz := hb6)
          | (refine wpList_storeR rfl 25 _ _ rfl B rfl #[.slice a6 10 c6, .slice b6 T1.m.length d6] rfl (dev2_one _ _ _ _ _ _) 25 #[vx, vy] rfl ?_ agDv ?_; with_reducible exact rz)
        )
        have hbox := bz.store p6 q6
        replace bX := below_rowR (bX.trans (hz.mono bX.size)) #[.slice a6 10 c6, .slice b6 T1.m.length d6] hle
        change Code.wp _ _ _ _ (v6.setRow B #[.slice a6 10 c6, .slice b6 T1.m.length d6])
        generalize v6.setRow B #[.slice a6 10 c6, .slice b6 T1.m.length d6] = w6 at *
        clear r0 h1 h2 y0 y1 lB bz hz rz
        obtain ⟨vx, vy, r0, h1, h2⟩ := hbox
        have lB := rowB_lt r0
        have hS : Below w6.heap.size w6 w6.drew := (Below.refl _ _).drew
        refine wp_region_mix (fun w' => Below w6.heap.size w6 w') [(0, 1), (1, 0), (2, 0), (5, 1), (6, 1), (3, 3), (4, 3), (7, 2), (8, 2)] (by kernel_rfl) (by kernel_rfl) (fun _ _ _ _ _ h => h) ?_
        simp only [List.map_cons, List.map_nil, opOf, List.getD_cons_zero, List.getD_cons_succ]
        change wpMix _ _ _ _ _ _ w6.drew
        refine wpMix_held ((.agg #[vx, vy])) rfl hS (fun w' hw' => exec_rowR 25 _ rfl B rfl 25 #[vx, vy] (rowB_below r0 hw' (rowB_lt r0)) agDv) ?_
        simp only [Act.put, List.setIfInBounds_toArray, List.set_cons_zero, List.set_cons_succ]
        (refine wpMix_still (fun K hK => ?_); go_simp; refine hK _ ?_; clear hK K)
        (refine wpMix_still (fun K hK => ?_); go_simp; refine hK _ ?_; clear hK K)
        refine wpMix_held (.int .i64 1) rfl hS (fun w' hw' => by go_simp) ?_
        simp only [Act.put, List.setIfInBounds_toArray, List.set_cons_zero, List.set_cons_succ]
        refine wpMix_held (.int .i64 2) rfl hS (fun w' hw' => by go_simp; try decide) ?_
        simp only [Act.put, List.setIfInBounds_toArray, List.set_cons_zero, List.set_cons_succ]
        refine wpMix_call ?_
        go_wp2_with (go_at_call 30; with_reducible refine (hbl2 _).mono ?_; rintro e wx ⟨rfl, rfl⟩)
        first | refine ⟨fun _ => hS, ?_⟩ | refine ⟨hS, ?_⟩ | refine And.intro (fun _ => hS) ?_
        refine wpMix_call ?_
        go_wp2_with (go_at_call 28; refine (drvSkip_at hf1 hl1 J (by omega) HT2.out (devA.below ⟨_, _, rfl, h1, h2⟩ hS)).mono ?_; rintro e v7 ⟨u7, rfl, hx7, hb7⟩; obtain ⟨a7, c7, b7, d7, rfl, p7, q7⟩ := hx7.open; replace hx7 : devA _ _ _ := ⟨_, _, rfl, p7, q7⟩; replace hS := hS.trans (hb7.mono hS.size); clear hb7)
        first | refine ⟨fun _ => hS, ?_⟩ | refine ⟨hS, ?_⟩ | refine And.intro (fun _ => hS) ?_
        refine wpMix_call ?_
        go_wp2_with (go_at_call 15; refine (drvWrite_at hf2 hl2 0 2 HT3.out hx7).mono ?_; rintro e v8 ⟨u8, rfl, hx8, hb8⟩; obtain ⟨a8, c8, b8, d8, rfl, p8, q8⟩ := hx8.open; replace hS := hS.trans (hb8.mono hS.size); clear hb8)
        have rz := rowB_below r0 hS lB
        have bz := boxA.below ⟨_, _, r0, h1, h2⟩ hS
        have hz := hS
        try refine ⟨fun h => (by cases h), ?_⟩
        refine wpMix_call ?_
        go_wp2_with (refine wpList_storeR rfl 25 _ _ rfl B rfl #[.slice a8 10 c8, .slice b8 T3.m.length d8] rfl (dev2_one _ _ _ _ _ _) 25 #[vx, vy] rfl ?_ agDv ?_; with_reducible exact rz)
        try refine ⟨fun h => (by cases h), ?_⟩
        refine wpMix_nil ?_
        have hbox := bz.store p8 q8
        replace bX := below_rowR (bX.trans (hz.mono bX.size)) #[.slice a8 10 c8, .slice b8 T3.m.length d8] hle
        generalize v8.setRow B #[.slice a8 10 c8, .slice b8 T3.m.length d8] = w8 at *
        clear r0 h1 h2 lB bz hz rz hS p7 q7 hx7
        obtain ⟨vx, vy, r0, h1, h2⟩ := hbox
        have lB := rowB_lt r0
        obtain ⟨y0, y1, _, _⟩ := dcells2 r0
        go_upto_region 10 with (first
          | (go_at_call 28; refine (drvSkip_at hf3 hl3 30 (by decide) HE.out ⟨_, _, rfl, h1, h2⟩).mono ?_; rintro e v9 ⟨u9, rfl, hx9, hb9⟩; obtain ⟨a9, c9, b9, d9, rfl, p9, q9⟩ := hx9.open; have rz := rowB_below r0 hb9 lB; have bz := boxA.below ⟨_, _, r0, h1, h2⟩ hb9; have hz := hb9)
          | (refine wpList_storeR rfl 25 _ _ rfl B rfl #[.slice a9 10 c9, .slice b9 (stepS t').m.length d9] rfl (dev2_one _ _ _ _ _ _) 25 #[vx, vy] rfl ?_ agDv ?_; with_reducible exact rz)
        )
        have hbox := bz.store p9 q9
        replace bX := below_rowR (bX.trans (hz.mono bX.size)) #[.slice a9 10 c9, .slice b9 (stepS t').m.length d9] hle
        change Code.wp _ _ _ _ (v9.setRow B #[.slice a9 10 c9, .slice b9 (stepS t').m.length d9])
        generalize v9.setRow B #[.slice a9 10 c9, .slice b9 (stepS t').m.length d9] = w9 at *
        clear r0 h1 h2 y0 y1 lB bz hz rz
        obtain ⟨vx, vy, r0, h1, h2⟩ := hbox
        have lB := rowB_lt r0
        obtain ⟨y0, y1, _, _⟩ := dcells2 r0
        have hMn : max 0 (min (t + 3 - 2) 3) = t' := by rw [ht']; split <;> omega
        have wa : wrap64 (t + 3) = t + 3 := IntWalk.wrap64_in _ (by omega)
        have wb : wrap64 (t + 3 - 2) = t + 3 - 2 := IntWalk.wrap64_in _ (by omega)
        clear ht'
        go_upto_region 12 with (first
          | (refine wpList_min2 rfl _ _ _ rfl .i64 (t + 3 - 2) 3 rfl rfl ?_)
          | (refine wpList_max2 rfl _ _ _ rfl .i64 0 (min (t + 3 - 2) 3) rfl rfl ?_; rw [hMn])
          | (go_at_call 13; refine (drvRead_at hf4 hl4 2 (t := stepS t') rfl (n := t') rfl ⟨_, _, rfl, h1, h2⟩).mono ?_; rintro e va ⟨ua, rfl, hxa, hba⟩; obtain ⟨aa, ca, ba, da, rfl, pa, qa⟩ := hxa.open)
        )
        have hbox := (boxA.below ⟨_, _, r0, h1, h2⟩ hba).below ((Below.refl _ _).alloc (Nat.le_refl _) (.cells #[.slice aa 10 ca, .slice ba (stepS t').m.length da] 25))
        replace bX := (bX.trans (hba.mono bX.size)).alloc (Nat.le_trans bX.size hba.size) (.cells #[.slice aa 10 ca, .slice ba (stepS t').m.length da] 25)
        change Code.wp _ _ _ _ (va.alloc (.cells #[.slice aa 10 ca, .slice ba (stepS t').m.length da] 25))
        generalize va.alloc (.cells #[.slice aa 10 ca, .slice ba (stepS t').m.length da] 25) = vb at *
        clear r0 h1 h2 y0 y1 lB hxa pa qa
        obtain ⟨vx, vy, r0, h1, h2⟩ := hbox
        obtain ⟨y0, y1, _, _⟩ := dcells2 r0
        go_wp2_with (go_at_call 21; refine (drvOut_at hf4 hl4 (n := t') rfl ⟨_, _, rfl, h1, h2⟩).mono ?_; rintro e vd ⟨rfl, hbd⟩)
        go_roundw
        case rel => exact ⟨j + 1, t', by omega, by go_num, rfl, ht2, boxA.below ⟨_, _, r0, h1, h2⟩ hbd, bX.trans (hbd.mono bX.size)⟩
        case measure => simp [intOf]; omega
      · rw [hp] at hbl1
        obtain ⟨t', ht'⟩ : ∃ t', t' = (if 0 < t then t - 1 else t) := ⟨_, rfl⟩
        have hE := Dr.step_mid (stepS t) rfl 2 1 (.inr rfl) J hJ2 t' (by rw [if_neg (by decide)]; exact ht')
        obtain ⟨T1, hT1⟩ : ∃ T, (stepS t).write 0 2 = T := ⟨_, rfl⟩
        obtain ⟨T2, hT2⟩ : ∃ T, T1.ticks J = T := ⟨_, rfl⟩
        obtain ⟨T3, hT3⟩ : ∃ T, T2.write 0 1 = T := ⟨_, rfl⟩
        have hf1 : T1.fit := by rw [← hT1]; exact Dr.write_fit hf0 _ _
        have hf2 : T2.fit := by rw [← hT2]; exact Dr.ticks_fit hf1 _
        have hf3 : T3.fit := by rw [← hT3]; exact Dr.write_fit hf2 _ _
        have hl1 : T1.m.length ≤ 140737488351232 := by rw [← hT1, Dr.write_m]; exact hl0
        have hl2 : T2.m.length ≤ 140737488351232 := by rw [← hT2, Dr.ticks_len]; exact hl1
        have hl3 : T3.m.length ≤ 140737488351232 := by rw [← hT3, Dr.write_m]; exact hl2
        rw [hT1, hT2, hT3] at hE
        replace hE : T3.ticks (30 : Int).toNat = stepS t' := hE
        have ht2 : 0 ≤ t' ∧ t' < 4 := by rw [ht']; split <;> omega
        have hf4 := stepS_fit t' ht2
        have hl4 := stepS_len t'
        have hT2' : T1.ticks (J : Int).toNat = T2 := by rw [Int.toNat_natCast]; exact hT2
        have HT1 := Lib.hid hT1
        have HT2 := Lib.hid hT2'
        have HT3 := Lib.hid hT3
        have HE := Lib.hid hE
        clear hT1 hT2 hT2' hT3 hE
        go_upto_region 7 with (go_at_call 30; with_reducible refine (hbl1 _).mono ?_; rintro e wx ⟨rfl, rfl⟩)
        change Code.wp _ _ _ _ (wr.alloc (.cells #[.int .i64 1, .int .i64 2] 3))
        replace hbox := hbox.below ((Below.refl _ _).alloc (Nat.le_refl _) (.cells #[.int .i64 1, .int .i64 2] 3))
        replace bX := bX.alloc bX.size (.cells #[.int .i64 1, .int .i64 2] 3)
        generalize wr.alloc (.cells #[.int .i64 1, .int .i64 2] 3) = w5 at *
        obtain ⟨vx, vy, r0, h1, h2⟩ := hbox
        have lB := rowB_lt r0
        obtain ⟨y0, y1, _, _⟩ := dcells2 r0
        go_upto_region 8 with (first
          | (go_at_call 15; refine (drvWrite_at hf0 hl0 0 2 HT1.out ⟨_, _, rfl, h1, h2⟩).mono ?_; rintro e v6 ⟨u6, rfl, hx6, hb6⟩; obtain ⟨a6, c6, b6, d6, rfl, p6, q6⟩ := hx6.open; have rz := rowB_below r0 hb6 lB; have bz := boxA.below ⟨_, _, r0, h1, h2⟩ hb6; have hz := hb6)
          | (refine wpList_storeR rfl 25 _ _ rfl B rfl #[.slice a6 10 c6, .slice b6 T1.m.length d6] rfl (dev2_one _ _ _ _ _ _) 25 #[vx, vy] rfl ?_ agDv ?_; with_reducible exact rz)
        )
        have hbox := bz.store p6 q6
        replace bX := below_rowR (bX.trans (hz.mono bX.size)) #[.slice a6 10 c6, .slice b6 T1.m.length d6] hle
        change Code.wp _ _ _ _ (v6.setRow B #[.slice a6 10 c6, .slice b6 T1.m.length d6])
        generalize v6.setRow B #[.slice a6 10 c6, .slice b6 T1.m.length d6] = w6 at *
        clear r0 h1 h2 y0 y1 lB bz hz rz
        obtain ⟨vx, vy, r0, h1, h2⟩ := hbox
        have lB := rowB_lt r0
        have hS : Below w6.heap.size w6 w6.drew := (Below.refl _ _).drew
        refine wp_region_mix (fun w' => Below w6.heap.size w6 w') [(0, 1), (1, 0), (2, 0), (5, 1), (6, 1), (3, 3), (4, 3), (7, 2), (8, 2)] (by kernel_rfl) (by kernel_rfl) (fun _ _ _ _ _ h => h) ?_
        simp only [List.map_cons, List.map_nil, opOf, List.getD_cons_zero, List.getD_cons_succ]
        change wpMix _ _ _ _ _ _ w6.drew
        refine wpMix_held ((.agg #[vx, vy])) rfl hS (fun w' hw' => exec_rowR 25 _ rfl B rfl 25 #[vx, vy] (rowB_below r0 hw' (rowB_lt r0)) agDv) ?_
        simp only [Act.put, List.setIfInBounds_toArray, List.set_cons_zero, List.set_cons_succ]
        (refine wpMix_still (fun K hK => ?_); go_simp; refine hK _ ?_; clear hK K)
        (refine wpMix_still (fun K hK => ?_); go_simp; refine hK _ ?_; clear hK K)
        refine wpMix_held (.int .i64 2) rfl hS (fun w' hw' => by go_simp) ?_
        simp only [Act.put, List.setIfInBounds_toArray, List.set_cons_zero, List.set_cons_succ]
        refine wpMix_held (.int .i64 1) rfl hS (fun w' hw' => by go_simp; try decide) ?_
        simp only [Act.put, List.setIfInBounds_toArray, List.set_cons_zero, List.set_cons_succ]
        refine wpMix_call ?_
        go_wp2_with (go_at_call 30; with_reducible refine (hbl2 _).mono ?_; rintro e wx ⟨rfl, rfl⟩)
        first | refine ⟨fun _ => hS, ?_⟩ | refine ⟨hS, ?_⟩ | refine And.intro (fun _ => hS) ?_
        refine wpMix_call ?_
        go_wp2_with (go_at_call 28; refine (drvSkip_at hf1 hl1 J (by omega) HT2.out (devA.below ⟨_, _, rfl, h1, h2⟩ hS)).mono ?_; rintro e v7 ⟨u7, rfl, hx7, hb7⟩; obtain ⟨a7, c7, b7, d7, rfl, p7, q7⟩ := hx7.open; replace hx7 : devA _ _ _ := ⟨_, _, rfl, p7, q7⟩; replace hS := hS.trans (hb7.mono hS.size); clear hb7)
        first | refine ⟨fun _ => hS, ?_⟩ | refine ⟨hS, ?_⟩ | refine And.intro (fun _ => hS) ?_
        refine wpMix_call ?_
        go_wp2_with (go_at_call 15; refine (drvWrite_at hf2 hl2 0 1 HT3.out hx7).mono ?_; rintro e v8 ⟨u8, rfl, hx8, hb8⟩; obtain ⟨a8, c8, b8, d8, rfl, p8, q8⟩ := hx8.open; replace hS := hS.trans (hb8.mono hS.size); clear hb8)
        have rz := rowB_below r0 hS lB
        have bz := boxA.below ⟨_, _, r0, h1, h2⟩ hS
        have hz := hS
        try refine ⟨fun h => (by cases h), ?_⟩
        refine wpMix_call ?_
        go_wp2_with (refine wpList_storeR rfl 25 _ _ rfl B rfl #[.slice a8 10 c8, .slice b8 T3.m.length d8] rfl (dev2_one _ _ _ _ _ _) 25 #[vx, vy] rfl ?_ agDv ?_; with_reducible exact rz)
        try refine ⟨fun h => (by cases h), ?_⟩
        refine wpMix_nil ?_
        have hbox := bz.store p8 q8
        replace bX := below_rowR (bX.trans (hz.mono bX.size)) #[.slice a8 10 c8, .slice b8 T3.m.length d8] hle
        generalize v8.setRow B #[.slice a8 10 c8, .slice b8 T3.m.length d8] = w8 at *
        clear r0 h1 h2 lB bz hz rz hS p7 q7 hx7
        obtain ⟨vx, vy, r0, h1, h2⟩ := hbox
        have lB := rowB_lt r0
        obtain ⟨y0, y1, _, _⟩ := dcells2 r0
        go_upto_region 10 with (first
          | (go_at_call 28; refine (drvSkip_at hf3 hl3 30 (by decide) HE.out ⟨_, _, rfl, h1, h2⟩).mono ?_; rintro e v9 ⟨u9, rfl, hx9, hb9⟩; obtain ⟨a9, c9, b9, d9, rfl, p9, q9⟩ := hx9.open; have rz := rowB_below r0 hb9 lB; have bz := boxA.below ⟨_, _, r0, h1, h2⟩ hb9; have hz := hb9)
          | (refine wpList_storeR rfl 25 _ _ rfl B rfl #[.slice a9 10 c9, .slice b9 (stepS t').m.length d9] rfl (dev2_one _ _ _ _ _ _) 25 #[vx, vy] rfl ?_ agDv ?_; with_reducible exact rz)
        )
        have hbox := bz.store p9 q9
        replace bX := below_rowR (bX.trans (hz.mono bX.size)) #[.slice a9 10 c9, .slice b9 (stepS t').m.length d9] hle
        change Code.wp _ _ _ _ (v9.setRow B #[.slice a9 10 c9, .slice b9 (stepS t').m.length d9])
        generalize v9.setRow B #[.slice a9 10 c9, .slice b9 (stepS t').m.length d9] = w9 at *
        clear r0 h1 h2 y0 y1 lB bz hz rz
        obtain ⟨vx, vy, r0, h1, h2⟩ := hbox
        have lB := rowB_lt r0
        obtain ⟨y0, y1, _, _⟩ := dcells2 r0
        have hMn : max 0 (min (t + 3 - 4) 3) = t' := by rw [ht']; split <;> omega
        have wa : wrap64 (t + 3) = t + 3 := IntWalk.wrap64_in _ (by omega)
        have wb : wrap64 (t + 3 - 4) = t + 3 - 4 := IntWalk.wrap64_in _ (by omega)
        clear ht'
        go_upto_region 12 with (first
          | (refine wpList_min2 rfl _ _ _ rfl .i64 (t + 3 - 4) 3 rfl rfl ?_)
          | (refine wpList_max2 rfl _ _ _ rfl .i64 0 (min (t + 3 - 4) 3) rfl rfl ?_; rw [hMn])
          | (go_at_call 13; refine (drvRead_at hf4 hl4 2 (t := stepS t') rfl (n := t') rfl ⟨_, _, rfl, h1, h2⟩).mono ?_; rintro e va ⟨ua, rfl, hxa, hba⟩; obtain ⟨aa, ca, ba, da, rfl, pa, qa⟩ := hxa.open)
        )
        have hbox := (boxA.below ⟨_, _, r0, h1, h2⟩ hba).below ((Below.refl _ _).alloc (Nat.le_refl _) (.cells #[.slice aa 10 ca, .slice ba (stepS t').m.length da] 25))
        replace bX := (bX.trans (hba.mono bX.size)).alloc (Nat.le_trans bX.size hba.size) (.cells #[.slice aa 10 ca, .slice ba (stepS t').m.length da] 25)
        change Code.wp _ _ _ _ (va.alloc (.cells #[.slice aa 10 ca, .slice ba (stepS t').m.length da] 25))
        generalize va.alloc (.cells #[.slice aa 10 ca, .slice ba (stepS t').m.length da] 25) = vb at *
        clear r0 h1 h2 y0 y1 lB hxa pa qa
        obtain ⟨vx, vy, r0, h1, h2⟩ := hbox
        obtain ⟨y0, y1, _, _⟩ := dcells2 r0
        go_wp2_with (go_at_call 21; refine (drvOut_at hf4 hl4 (n := t') rfl ⟨_, _, rfl, h1, h2⟩).mono ?_; rintro e vd ⟨rfl, hbd⟩)
        go_roundw
        case rel => exact ⟨j + 1, t', by omega, by go_num, rfl, ht2, boxA.below ⟨_, _, r0, h1, h2⟩ hbd, bX.trans (hbd.mono bX.size)⟩
        case measure => simp [intOf]; omega
    · have hd : decide ((j : Int) < m) = false := decide_eq_false (by omega)
      have hf0 := stepS_fit t ht
      have hl0 := stepS_len t
      obtain ⟨vx, vy, r0, h1, h2⟩ := hbox
      obtain ⟨y0, y1, _, _⟩ := dcells2 r0
      go_upto_region 16 with (go_at_call 13; refine (drvRead_at hf0 hl0 0 (t := stepS t) rfl (n := 0) rfl ⟨_, _, rfl, h1, h2⟩).mono ?_; rintro e ve ⟨ue, rfl, hxe, hbe⟩; obtain ⟨ae, ce, be, de, rfl, pe, qe⟩ := hxe.open)
      replace bX := (bX.trans (hbe.mono bX.size)).alloc (Nat.le_trans bX.size hbe.size) (.cells #[.slice ae 10 ce, .slice be (stepS t).m.length de] 25)
      change Code.wp _ _ _ _ (ve.alloc (.cells #[.slice ae 10 ce, .slice be (stepS t).m.length de] 25))
      generalize ve.alloc (.cells #[.slice ae 10 ce, .slice be (stepS t).m.length de] 25) = vf at *
      go_wp2_with (go_at_call 32; refine (drivesK_any _).mono ?_; rintro e vg ⟨rfl, hbg⟩)
      go_ret
      exact ⟨rfl, bX.trans (hbg.mono bX.size)⟩
end Go.Proofs.Ytmjddoboogccoaa
