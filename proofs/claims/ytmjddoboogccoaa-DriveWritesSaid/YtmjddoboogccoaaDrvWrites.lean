/- The walk of the law DriveWrites. -/
import Derived.Test.YtmjddoboogccoaaChecked
import Derived.Test.YtmjddoboogccoaaDrvKeep
import Derived.Below
import Derived.BigQuiet
import Derived.ChangeMaps5
import Derived.Deep.AppendSrc
import Derived.Deep.DeepAppendWide
import Derived.Deep.DeepCutAuto
import Derived.Deep.Draws
import Derived.Deep.MidRow
import Derived.Deep.OwnRows
import Derived.Deep.QuietTactic
import Derived.Deep.RegionHeld3
import Derived.Deep.RegionWith
import Derived.Deep.Slices
import Derived.Deep.WholeRow
import Derived.Laws.CopyOwn
import Derived.Laws.OwnMore
import Derived.Lib.Hide
import Derived.Lib.SmallJoins
import Derived.Maps.AppendAt
import Derived.OpenShut
import Derived.OrdersHeld
import Derived.OwnWalk
import Derived.RowKit3
import Derived.StillTactics
import Derived.StillTail
import Derived.StillTailTactics
import Derived.WalkKit
import Derived.Test.YtmjddoboogccoaaBytes
import Derived.Test.YtmjddoboogccoaaDrvRb
import Derived.Deep.CutBlock
import Derived.Deep.RegionLaw
import Derived.Great.BuildSlice
import Derived.RangeFuncBox
import Derived.Shelf.Abstract
import Derived.SizedLaws
import Derived.Test.YtmjddoboogccoaaLinT
namespace Go.Proofs.Ytmjddoboogccoaa
open Go.RowKit
set_option maxRecDepth 100000

/-- The bytes of a sector. -/
def fetL (s : Dr) (e : Int) : List Int := (List.range 16).map fun i => vreg s.m (s.base e + (i : Nat)).toNat
theorem fetL_len (s : Dr) (e : Int) : (fetL s e).length = 16 := by simp [fetL]
theorem fetL_get (s : Dr) (e : Int) (i : Nat) (h : i < 16) : (fetL s e).getD i 0 = vreg s.m (s.base e + (i : Nat)).toNat := by
  unfold fetL
  rw [List.getD_eq_getElem?_getD, List.getElem?_map, List.getElem?_range h]
  rfl
theorem fetL_take (s : Dr) (e : Int) (i : Nat) (h : i < 16) : (fetL s e).take i ++ [vreg s.m (s.base e + (i : Nat)).toNat] = (fetL s e).take (i + 1) := by
  have hl := fetL_len s e
  rw [List.take_add_one, List.getElem?_eq_getElem (by omega)]
  have := fetL_get s e i h
  rw [List.getD_eq_getElem?_getD, List.getElem?_eq_getElem (by omega)] at this
  rw [← this]
  rfl
theorem Dr.fet_fit {s : Dr} (h : s.fit) (hk : s.k ≠ 0) (hc : s.c = 0) (e : Int) (he : 0 ≤ e ∧ e < 4) (i : Nat) (hi : i ≤ 16) : (s.fet e i).fit := by
  induction i with
  | zero => rw [← Dr.fet_start s hc hk e he]; exact Dr.write_fit h _ _
  | succ i ih =>
    rw [← (Dr.fet_next s hk e i (by omega)).2]
    exact Dr.read_fit (Dr.ticks_fit (ih (by omega)) _) _
theorem Dr.fet_m (s : Dr) (e : Int) (i : Nat) : (s.fet e i).m = s.m := by
  unfold Dr.fet
  split <;> rfl
set_option maxHeartbeats 4000000 in
theorem fetch_any {s : Dr} (hs : s.fit) (hL : s.m.length ≤ 140737488351232) (hk : s.k ≠ 0) (hc : s.c = 0) (e : Int) (he : 0 ≤ e ∧ e < 4) (w : World) (v vm : Value) (h : isArg w v s.ns) (hm : isByt w vm s.m) :
    Calls Try.prog 31 #[.agg #[v, vm], .int .i64 e] w fun r w' => ∃ u o, r = .returned (.tuple #[u, o]) ∧ devA w' u (s.fet e 16) ∧ isArg w' o (fetL s e) ∧ Below w.heap.size w w' := by
  obtain ⟨k0, k1, bW, sW⟩ := boxes2 w (.cells #[v, vm] 25) (.cells #[.slice none 0 0, .slice none 0 0] 25)
  have k0 : rowB _ _ _ _ := k0
  have k1 : rowB _ _ _ _ := k1
  have h0 := isArg_below h bW (Nat.le_refl _)
  have m0 := isByt_below hm bW (Nat.le_refl _)
  have w1 : wrap64 (16 * e) = 16 * e := IntWalk.wrap64_in _ (by omega)
  have w2 : wrap64 (3 + 16 * e) = 3 + 16 * e := IntWalk.wrap64_in _ (by omega)
  have hF0 := Lib.hid (Dr.fet_start s hc hk e he)
  have hfit := fun i hi => Dr.fet_fit hs hk hc e he i hi
  have hlen : ∀ i, (s.fet e i).m.length ≤ 140737488351232 := fun i => by rw [Dr.fet_m]; exact hL
  have hinf : (Try.prog.info? 3).map (fun i => (i.zero, i.size, i.bytes)) = some (some (.int .i64 0), 1, 8) := by kernel_rfl
  go_enter Try.func31, Try.ntmps31
  go_upto_region 2 with (fail)
  change Code.wp _ _ _ _ ((w.alloc (.cells #[v, vm] 25)).alloc (.cells #[.slice none 0 0, .slice none 0 0] 25))
  generalize (w.alloc (.cells #[v, vm] 25)).alloc (.cells #[.slice none 0 0, .slice none 0 0] 25) = wA at *
  obtain ⟨y0, y1, _, _⟩ := dcells2 k0
  go_upto_region 4 with (first
    | (go_at_call 15; refine (drvWrite_at hs hL 0 (3 + 16 * e) hF0.out ⟨_, _, rfl, h0, m0⟩).mono ?_; rintro r v6 ⟨u6, rfl, hx6, hb6⟩; obtain ⟨a6, c6, b6, d6, rfl, p6, q6⟩ := hx6.open; have rz := rowB_below k0 hb6 (rowB_lt k0); have r1 := rowB_below k1 hb6 (rowB_lt k1))
    | (refine wpList_storeR rfl 25 _ _ rfl w.heap.size rfl #[.slice a6 10 c6, .slice b6 (s.fet e 0).m.length d6] rfl (dev2_one _ _ _ _ _ _) 25 #[v, vm] rfl ?_ agDv ?_; with_reducible exact rz))
  have bX := below_rowR (bW.trans (hb6.mono bW.size)) #[.slice a6 10 c6, .slice b6 (s.fet e 0).m.length d6] (Nat.le_refl _)
  have bz : boxA v6 w.heap.size s := boxA.below ⟨_, _, k0, h0, m0⟩ hb6
  have hbox := bz.store p6 q6
  have r1' := rowB_row_other r1 #[.slice a6 10 c6, .slice b6 (s.fet e 0).m.length d6] (show w.heap.size ≠ w.heap.size + 1 by omega)
  have r0' := rowB_row rz #[.slice a6 10 c6, .slice b6 (s.fet e 0).m.length d6]
  have hsz : w.heap.size + 2 ≤ (v6.setRow w.heap.size #[.slice a6 10 c6, .slice b6 (s.fet e 0).m.length d6]).heap.size := by rw [size_row]; have := hb6.size; omega
  have p6' := isArg_box rz (isArg_no (isArg_below h0 hb6 (Nat.le_refl _)) _) (isByt_no (isByt_below m0 hb6 (Nat.le_refl _)) _) p6 #[.slice a6 10 c6, .slice b6 (s.fet e 0).m.length d6]
  have q6' := isByt_box rz (isArg_no (isArg_below h0 hb6 (Nat.le_refl _)) _) (isByt_no (isByt_below m0 hb6 (Nat.le_refl _)) _) q6 #[.slice a6 10 c6, .slice b6 (s.fet e 0).m.length d6]
  generalize v6.setRow w.heap.size #[.slice a6 10 c6, .slice b6 (s.fet e 0).m.length d6] = w7 at *
  clear bz hbox rz r1 hb6 k0 k1 h0 m0 y0 y1 sW bW hx6 p6 q6
  have hml : 0 < s.m.length := by have := hs.k; omega
  go_loopw [6, 14] (fun o i wr => ∃ (j : Nat) (vx vy : Value), j ≤ 16 ∧ i = .int .i64 j ∧ own (w.heap.size + 2) wr o ((fetL s e).take j) ∧ rowB wr w.heap.size 25 #[vx, vy] ∧ isArg wr vx (s.fet e j).ns ∧ isByt wr vy (s.fet e j).m ∧ apart o vx ∧ apart o vy ∧ rowB wr (w.heap.size + 1) 25 #[.slice none 0 0, .slice none 0 0] ∧ Below w.heap.size w wr) (fun _ i _ => 16 - (intOf i).toNat)
  case atStart => exact ⟨0, _, _, by decide, rfl, own_nil _ _, r0', p6', q6', apart_nil _, apart_nil _, r1', bX⟩
  case round =>
    clear r0' p6' q6' r1' bX hsz
    obtain ⟨j, vx, vy, hj, rfl, ho, r0, h1, h2, hax, hay, r1, bX⟩ := hrel
    have l1 := rowB_lt r1
    have l0 := rowB_lt r0
    by_cases hlt : j < 16
    · have hd : decide ((j : Int) < 16) = true := decide_eq_true (by omega)
      obtain ⟨g1, g2⟩ := Dr.fet_next s hk e j hlt
      have hfj := hfit j (by omega)
      have hfn := hfit (j + 1) (by omega)
      have hlj := hlen j
      have hln := hlen (j + 1)
      have hmj : 0 < (s.fet e (j + 1)).m.length := by rw [Dr.fet_m]; exact hml
      have htk := fetL_take s e j hlt
      obtain ⟨V, hV⟩ : ∃ V, vreg s.m (s.base e + (j : Nat)).toNat = V := ⟨_, rfl⟩
      rw [hV] at g1 htk
      have hnl : 0 < (s.fet e (j + 1)).ns.length := by show (0 : Nat) < 10; decide
      have HTK := Lib.hid htk
      clear htk hV
      rcases (by omega : j = 0 ∨ 0 < j) with hj0 | hj0
      · rw [if_pos hj0] at g1 g2
        have hmn : min (j : Int) 1 = 0 := by omega
        clear hj0
        obtain ⟨T1, hT1⟩ : ∃ T, (s.fet e j).ticks 30 = T := ⟨_, rfl⟩
        rw [hT1] at g1 g2
        have hf1 : T1.fit := by rw [← hT1]; exact Dr.ticks_fit hfj _
        have hl1 : T1.m.length ≤ 140737488351232 := by rw [← hT1, Dr.ticks_len]; exact hlj
        replace hT1 : (s.fet e j).ticks (30 : Int).toNat = T1 := hT1
        have HT1 := Lib.hid hT1
        have G1 := Lib.hid g1
        have G2 := Lib.hid g2
        clear hT1 g1 g2
        go_upto_region 6 with (fail)
        refine wp_region_mix (fun w' => Below wr.heap.size wr w') [(0, 1), (2, 1), (3, 1), (1, 3), (4, 0), (5, 0), (6, 2), (7, 2)] (by kernel_rfl) (by kernel_rfl) (fun _ _ _ _ _ h => h) ?_
        simp only [List.map_cons, List.map_nil, opOf, List.getD_cons_zero, List.getD_cons_succ]
        change wpMix _ _ _ _ _ _ wr.drew
        have hS : Below wr.heap.size wr wr.drew := (Below.refl _ _).drew
        generalize wr.drew = wd at *
        refine wpMix_held ((.agg #[vx, vy])) rfl hS (fun w' hw' => exec_rowR 25 _ rfl w.heap.size rfl 25 #[vx, vy] (rowB_below r0 hw' (rowB_lt r0)) agDv) ?_
        simp only [Act.put, List.setIfInBounds_toArray, List.set_cons_zero, List.set_cons_succ]
        refine wpMix_held (.int .i64 j) rfl hS (fun w' hw' => by go_simp) ?_
        simp only [Act.put, List.setIfInBounds_toArray, List.set_cons_zero, List.set_cons_succ]
        refine wpMix_held (.int .i64 0) rfl hS (fun w' hw' => (exec_min2 _ _ _ rfl .i64 j 1 rfl rfl).trans (by rw [hmn])) ?_
        simp only [Act.put, List.setIfInBounds_toArray, List.set_cons_zero, List.set_cons_succ]
        refine wpMix_call ?_
        go_wp2_with fail
        have nS := rowB_new wd 3 #[.int .i64 30, .int .i64 20]
        have lS := hS.size
        replace hS := hS.alloc lS (.cells #[.int .i64 30, .int .i64 20] 3)
        generalize wd.alloc (.cells #[.int .i64 30, .int .i64 20] 3) = we at *
        generalize wd.heap.size = z at *
        have sc := rowB_cell nS 0 (v := .int .i64 30) rfl
        first | refine ⟨fun _ => hS, ?_⟩ | refine ⟨hS, ?_⟩ | refine And.intro (fun _ => hS) ?_
        (refine wpMix_still (fun K hK => ?_); go_simp; refine hK _ ?_; clear hK K)
        (refine wpMix_still (fun K hK => ?_); go_simp; refine hK _ ?_; clear hK K)
        refine wpMix_call ?_
        go_wp2_with (go_at_call 28; refine (drvSkip_fat hfj hlj 30 (by decide) HT1.out (isArg_below h1 hS (Nat.le_refl _)) (isByt_below h2 hS (Nat.le_refl _))).mono ?_; rintro r v8 ⟨u8, rfl, hx8, hb8⟩; obtain ⟨a8, c8, b8, d8, rfl, p8, q8, f8⟩ := hx8.open; have ap8 := apart_from (own_below ho hS (Nat.le_refl _)) hax hay f8; replace hS := hS.trans (hb8.mono hS.size); clear hb8 f8 hx8)
        have rz := rowB_below r0 hS l0
        try refine ⟨fun h => (by cases h), ?_⟩
        refine wpMix_call ?_
        go_wp2_with (refine wpList_storeR rfl 25 _ _ rfl w.heap.size rfl #[.slice a8 10 c8, .slice b8 T1.m.length d8] rfl (dev2_one _ _ _ _ _ _) 25 #[vx, vy] rfl ?_ agDv ?_; with_reducible exact rz)
        try refine ⟨fun h => (by cases h), ?_⟩
        refine wpMix_nil ?_
        have k1 := rowB_row_other (rowB_below r1 hS l1) #[.slice a8 10 c8, .slice b8 T1.m.length d8] (show w.heap.size ≠ w.heap.size + 1 by omega)
        have k0 := rowB_row rz #[.slice a8 10 c8, .slice b8 T1.m.length d8]
        have kp := isArg_box rz (isArg_no (isArg_below h1 hS (Nat.le_refl _)) _) (isByt_no (isByt_below h2 hS (Nat.le_refl _)) _) p8 #[.slice a8 10 c8, .slice b8 T1.m.length d8]
        have kq := isByt_box rz (isArg_no (isArg_below h1 hS (Nat.le_refl _)) _) (isByt_no (isByt_below h2 hS (Nat.le_refl _)) _) q8 #[.slice a8 10 c8, .slice b8 T1.m.length d8]
        have ko := own_setRow (own_below ho hS (Nat.le_refl _)) (show w.heap.size < w.heap.size + 2 by omega) #[.slice a8 10 c8, .slice b8 T1.m.length d8]
        replace bX := below_rowR (bX.trans (hS.mono bX.size)) #[.slice a8 10 c8, .slice b8 T1.m.length d8] (Nat.le_refl _)
        generalize v8.setRow w.heap.size #[.slice a8 10 c8, .slice b8 T1.m.length d8] = w9 at *
        clear r0 r1 h1 h2 ho hax hay rz hS p8 q8 l0 l1
        obtain ⟨hax, hay⟩ := ap8
        have r0 := k0
        have r1 := k1
        have h1 := kp
        have h2 := kq
        have ho := ko
        clear k0 k1 kp kq ko
        have l1 := rowB_lt r1
        have l0 := rowB_lt r0
        clear nS sc lS
        obtain ⟨y0, y1, _, _⟩ := dcells2 r0
        go_upto_region 9 with (first
          | (go_at_call 13; refine (drvRead_fat hf1 hl1 1 G2.out G1.out h1 h2).mono ?_; rintro r va ⟨ua, rfl, hxa, hba⟩; obtain ⟨aa, ca, ba, da, rfl, pa, qa, fa⟩ := hxa.open; have apa := apart_from ho hax hay fa; have rz := rowB_below r0 hba l0; have hz := hba; clear fa hxa)
          | (refine wpList_storeR rfl 25 _ _ rfl w.heap.size rfl #[.slice aa 10 ca, .slice ba (s.fet e (j + 1)).m.length da] rfl (dev2_one _ _ _ _ _ _) 25 #[.slice a8 10 c8, .slice b8 T1.m.length d8] rfl ?_ agDv ?_; with_reducible exact rz)
        )
        change Code.wp _ _ _ _ (va.setRow w.heap.size #[.slice aa 10 ca, .slice ba (s.fet e (j + 1)).m.length da])
        clear y0 y1
        have k1 := rowB_row_other (rowB_below r1 hz l1) #[.slice aa 10 ca, .slice ba (s.fet e (j + 1)).m.length da] (show w.heap.size ≠ w.heap.size + 1 by omega)
        have k0 := rowB_row rz #[.slice aa 10 ca, .slice ba (s.fet e (j + 1)).m.length da]
        have kp := isArg_box rz (isArg_no (isArg_below h1 hz (Nat.le_refl _)) _) (isByt_no (isByt_below h2 hz (Nat.le_refl _)) _) pa #[.slice aa 10 ca, .slice ba (s.fet e (j + 1)).m.length da]
        have kq := isByt_box rz (isArg_no (isArg_below h1 hz (Nat.le_refl _)) _) (isByt_no (isByt_below h2 hz (Nat.le_refl _)) _) qa #[.slice aa 10 ca, .slice ba (s.fet e (j + 1)).m.length da]
        have ko := own_setRow (own_below ho hz (Nat.le_refl _)) (show w.heap.size < w.heap.size + 2 by omega) #[.slice aa 10 ca, .slice ba (s.fet e (j + 1)).m.length da]
        replace bX := below_rowR (bX.trans (hz.mono bX.size)) #[.slice aa 10 ca, .slice ba (s.fet e (j + 1)).m.length da] (Nat.le_refl _)
        generalize va.setRow w.heap.size #[.slice aa 10 ca, .slice ba (s.fet e (j + 1)).m.length da] = wb at *
        clear hba r0 r1 h1 h2 ho hax hay rz hz pa qa l0 l1
        obtain ⟨hax, hay⟩ := apa
        have r0 := k0
        have r1 := k1
        have h1 := kp
        have h2 := kq
        have ho := ko
        clear k0 k1 kp kq ko
        have l1 := rowB_lt r1
        have l0 := rowB_lt r0
        have rV := row_at wb V wb.heap.size rfl
        have ho2 := own_alloc ho (.cells #[.int .i64 V] 3)
        have r02 := rowB_alloc r0 (.cells #[.int .i64 V] 3)
        have r12 := rowB_alloc r1 (.cells #[.int .i64 V] 3)
        have h12 := isArg_below h1 ((Below.refl _ _).alloc (Nat.le_refl _) (.cells #[.int .i64 V] 3)) (Nat.le_refl _)
        have h22 := isByt_below h2 ((Below.refl _ _).alloc (Nat.le_refl _) (.cells #[.int .i64 V] 3)) (Nat.le_refl _)
        have bX2 := bX.alloc bX.size (.cells #[.int .i64 V] 3)
        go_wp2_with (at_builtin; refine wpList_append_at rfl _ _ _ rfl Try.underlying22 hinf (w.heap.size + 2) _ _ rfl rfl _ [V] ho2 rV (Nat.lt_succ_self 0) (by rw [List.length_take]; show min j _ + 1 ≤ _; omega) (by have := rowB_lt r12; omega) ?_; intro o' wc hoc hgc hatc)
        rw [HTK.out] at hoc
        have hbc := below_grown (Below.refl (w.heap.size + 2) _) ho2 hgc (by have := rowB_lt r12; omega)
        go_roundw
        case rel => exact ⟨j + 1, _, _, by omega, by go_num, hoc, rowB_below r02 hbc (by omega), isArg_kept h12 hgc (fun g hg => hax g hg), isByt_kept h22 hgc (fun g hg => hay g hg), apart_grow hax hatc (arg_block h12 hnl), apart_grow hay hatc (byt_block h22 hmj), rowB_below r12 hbc (by omega), bX2.trans (hbc.mono (by omega))⟩
        case measure => simp [intOf]; omega
      · rw [if_neg (by omega)] at g1 g2
        have hmn : min (j : Int) 1 = 1 := by omega
        clear hj0
        obtain ⟨T1, hT1⟩ : ∃ T, (s.fet e j).ticks 20 = T := ⟨_, rfl⟩
        rw [hT1] at g1 g2
        have hf1 : T1.fit := by rw [← hT1]; exact Dr.ticks_fit hfj _
        have hl1 : T1.m.length ≤ 140737488351232 := by rw [← hT1, Dr.ticks_len]; exact hlj
        replace hT1 : (s.fet e j).ticks (20 : Int).toNat = T1 := hT1
        have HT1 := Lib.hid hT1
        have G1 := Lib.hid g1
        have G2 := Lib.hid g2
        clear hT1 g1 g2
        go_upto_region 6 with (fail)
        refine wp_region_mix (fun w' => Below wr.heap.size wr w') [(0, 1), (2, 1), (3, 1), (1, 3), (4, 0), (5, 0), (6, 2), (7, 2)] (by kernel_rfl) (by kernel_rfl) (fun _ _ _ _ _ h => h) ?_
        simp only [List.map_cons, List.map_nil, opOf, List.getD_cons_zero, List.getD_cons_succ]
        change wpMix _ _ _ _ _ _ wr.drew
        have hS : Below wr.heap.size wr wr.drew := (Below.refl _ _).drew
        generalize wr.drew = wd at *
        refine wpMix_held ((.agg #[vx, vy])) rfl hS (fun w' hw' => exec_rowR 25 _ rfl w.heap.size rfl 25 #[vx, vy] (rowB_below r0 hw' (rowB_lt r0)) agDv) ?_
        simp only [Act.put, List.setIfInBounds_toArray, List.set_cons_zero, List.set_cons_succ]
        refine wpMix_held (.int .i64 j) rfl hS (fun w' hw' => by go_simp) ?_
        simp only [Act.put, List.setIfInBounds_toArray, List.set_cons_zero, List.set_cons_succ]
        refine wpMix_held (.int .i64 1) rfl hS (fun w' hw' => (exec_min2 _ _ _ rfl .i64 j 1 rfl rfl).trans (by rw [hmn])) ?_
        simp only [Act.put, List.setIfInBounds_toArray, List.set_cons_zero, List.set_cons_succ]
        refine wpMix_call ?_
        go_wp2_with fail
        have nS := rowB_new wd 3 #[.int .i64 30, .int .i64 20]
        have lS := hS.size
        replace hS := hS.alloc lS (.cells #[.int .i64 30, .int .i64 20] 3)
        generalize wd.alloc (.cells #[.int .i64 30, .int .i64 20] 3) = we at *
        generalize wd.heap.size = z at *
        have sc := rowB_cell nS 1 (v := .int .i64 20) rfl
        first | refine ⟨fun _ => hS, ?_⟩ | refine ⟨hS, ?_⟩ | refine And.intro (fun _ => hS) ?_
        (refine wpMix_still (fun K hK => ?_); go_simp; refine hK _ ?_; clear hK K)
        (refine wpMix_still (fun K hK => ?_); go_simp; refine hK _ ?_; clear hK K)
        refine wpMix_call ?_
        go_wp2_with (go_at_call 28; refine (drvSkip_fat hfj hlj 20 (by decide) HT1.out (isArg_below h1 hS (Nat.le_refl _)) (isByt_below h2 hS (Nat.le_refl _))).mono ?_; rintro r v8 ⟨u8, rfl, hx8, hb8⟩; obtain ⟨a8, c8, b8, d8, rfl, p8, q8, f8⟩ := hx8.open; have ap8 := apart_from (own_below ho hS (Nat.le_refl _)) hax hay f8; replace hS := hS.trans (hb8.mono hS.size); clear hb8 f8 hx8)
        have rz := rowB_below r0 hS l0
        try refine ⟨fun h => (by cases h), ?_⟩
        refine wpMix_call ?_
        go_wp2_with (refine wpList_storeR rfl 25 _ _ rfl w.heap.size rfl #[.slice a8 10 c8, .slice b8 T1.m.length d8] rfl (dev2_one _ _ _ _ _ _) 25 #[vx, vy] rfl ?_ agDv ?_; with_reducible exact rz)
        try refine ⟨fun h => (by cases h), ?_⟩
        refine wpMix_nil ?_
        have k1 := rowB_row_other (rowB_below r1 hS l1) #[.slice a8 10 c8, .slice b8 T1.m.length d8] (show w.heap.size ≠ w.heap.size + 1 by omega)
        have k0 := rowB_row rz #[.slice a8 10 c8, .slice b8 T1.m.length d8]
        have kp := isArg_box rz (isArg_no (isArg_below h1 hS (Nat.le_refl _)) _) (isByt_no (isByt_below h2 hS (Nat.le_refl _)) _) p8 #[.slice a8 10 c8, .slice b8 T1.m.length d8]
        have kq := isByt_box rz (isArg_no (isArg_below h1 hS (Nat.le_refl _)) _) (isByt_no (isByt_below h2 hS (Nat.le_refl _)) _) q8 #[.slice a8 10 c8, .slice b8 T1.m.length d8]
        have ko := own_setRow (own_below ho hS (Nat.le_refl _)) (show w.heap.size < w.heap.size + 2 by omega) #[.slice a8 10 c8, .slice b8 T1.m.length d8]
        replace bX := below_rowR (bX.trans (hS.mono bX.size)) #[.slice a8 10 c8, .slice b8 T1.m.length d8] (Nat.le_refl _)
        generalize v8.setRow w.heap.size #[.slice a8 10 c8, .slice b8 T1.m.length d8] = w9 at *
        clear r0 r1 h1 h2 ho hax hay rz hS p8 q8 l0 l1
        obtain ⟨hax, hay⟩ := ap8
        have r0 := k0
        have r1 := k1
        have h1 := kp
        have h2 := kq
        have ho := ko
        clear k0 k1 kp kq ko
        have l1 := rowB_lt r1
        have l0 := rowB_lt r0
        clear nS sc lS
        obtain ⟨y0, y1, _, _⟩ := dcells2 r0
        go_upto_region 9 with (first
          | (go_at_call 13; refine (drvRead_fat hf1 hl1 1 G2.out G1.out h1 h2).mono ?_; rintro r va ⟨ua, rfl, hxa, hba⟩; obtain ⟨aa, ca, ba, da, rfl, pa, qa, fa⟩ := hxa.open; have apa := apart_from ho hax hay fa; have rz := rowB_below r0 hba l0; have hz := hba; clear fa hxa)
          | (refine wpList_storeR rfl 25 _ _ rfl w.heap.size rfl #[.slice aa 10 ca, .slice ba (s.fet e (j + 1)).m.length da] rfl (dev2_one _ _ _ _ _ _) 25 #[.slice a8 10 c8, .slice b8 T1.m.length d8] rfl ?_ agDv ?_; with_reducible exact rz)
        )
        change Code.wp _ _ _ _ (va.setRow w.heap.size #[.slice aa 10 ca, .slice ba (s.fet e (j + 1)).m.length da])
        clear y0 y1
        have k1 := rowB_row_other (rowB_below r1 hz l1) #[.slice aa 10 ca, .slice ba (s.fet e (j + 1)).m.length da] (show w.heap.size ≠ w.heap.size + 1 by omega)
        have k0 := rowB_row rz #[.slice aa 10 ca, .slice ba (s.fet e (j + 1)).m.length da]
        have kp := isArg_box rz (isArg_no (isArg_below h1 hz (Nat.le_refl _)) _) (isByt_no (isByt_below h2 hz (Nat.le_refl _)) _) pa #[.slice aa 10 ca, .slice ba (s.fet e (j + 1)).m.length da]
        have kq := isByt_box rz (isArg_no (isArg_below h1 hz (Nat.le_refl _)) _) (isByt_no (isByt_below h2 hz (Nat.le_refl _)) _) qa #[.slice aa 10 ca, .slice ba (s.fet e (j + 1)).m.length da]
        have ko := own_setRow (own_below ho hz (Nat.le_refl _)) (show w.heap.size < w.heap.size + 2 by omega) #[.slice aa 10 ca, .slice ba (s.fet e (j + 1)).m.length da]
        replace bX := below_rowR (bX.trans (hz.mono bX.size)) #[.slice aa 10 ca, .slice ba (s.fet e (j + 1)).m.length da] (Nat.le_refl _)
        generalize va.setRow w.heap.size #[.slice aa 10 ca, .slice ba (s.fet e (j + 1)).m.length da] = wb at *
        clear hba r0 r1 h1 h2 ho hax hay rz hz pa qa l0 l1
        obtain ⟨hax, hay⟩ := apa
        have r0 := k0
        have r1 := k1
        have h1 := kp
        have h2 := kq
        have ho := ko
        clear k0 k1 kp kq ko
        have l1 := rowB_lt r1
        have l0 := rowB_lt r0
        have rV := row_at wb V wb.heap.size rfl
        have ho2 := own_alloc ho (.cells #[.int .i64 V] 3)
        have r02 := rowB_alloc r0 (.cells #[.int .i64 V] 3)
        have r12 := rowB_alloc r1 (.cells #[.int .i64 V] 3)
        have h12 := isArg_below h1 ((Below.refl _ _).alloc (Nat.le_refl _) (.cells #[.int .i64 V] 3)) (Nat.le_refl _)
        have h22 := isByt_below h2 ((Below.refl _ _).alloc (Nat.le_refl _) (.cells #[.int .i64 V] 3)) (Nat.le_refl _)
        have bX2 := bX.alloc bX.size (.cells #[.int .i64 V] 3)
        go_wp2_with (at_builtin; refine wpList_append_at rfl _ _ _ rfl Try.underlying22 hinf (w.heap.size + 2) _ _ rfl rfl _ [V] ho2 rV (Nat.lt_succ_self 0) (by rw [List.length_take]; show min j _ + 1 ≤ _; omega) (by have := rowB_lt r12; omega) ?_; intro o' wc hoc hgc hatc)
        rw [HTK.out] at hoc
        have hbc := below_grown (Below.refl (w.heap.size + 2) _) ho2 hgc (by have := rowB_lt r12; omega)
        go_roundw
        case rel => exact ⟨j + 1, _, _, by omega, by go_num, hoc, rowB_below r02 hbc (by omega), isArg_kept h12 hgc (fun g hg => hax g hg), isByt_kept h22 hgc (fun g hg => hay g hg), apart_grow hax hatc (arg_block h12 hnl), apart_grow hay hatc (byt_block h22 hmj), rowB_below r12 hbc (by omega), bX2.trans (hbc.mono (by omega))⟩
        case measure => simp [intOf]; omega
    · have hd : decide ((j : Int) < 16) = false := decide_eq_false (by omega)
      obtain rfl : j = 16 := by omega
      have ho1 := isArg_row (own_row ho)
      rw [List.take_of_length_le (by rw [fetL_len]; exact Nat.le_refl _)] at ho1
      obtain ⟨ax, cx, rfl, _⟩ := isArg_form h1
      obtain ⟨ay, cy, rfl, _⟩ := isByt_form h2
      obtain ⟨y0, y1, _, _⟩ := dcells2 r0
      go_wp2_with (refine wpList_storeR rfl 25 _ _ rfl (w.heap.size + 1) rfl #[.slice ax (s.fet e 16).ns.length cx, .slice ay (s.fet e 16).m.length cy] rfl (dev2_one _ _ _ _ _ _) 25 #[.slice none 0 0, .slice none 0 0] rfl ?_ agDv ?_; with_reducible exact r1)
      refine bodyPost_ret (resultsRT rfl (w.heap.size + 1) _ rfl (rowB_row r1 _) agDv rfl) rfl ?_
      exact ⟨_, _, rfl, ⟨_, _, rfl, isArg_box r1 (fun n e => by cases e) (fun n e => by cases e) h1 _, isByt_box r1 (fun n e => by cases e) (fun n e => by cases e) h2 _⟩, isArg_box r1 (fun n e => by cases e) (fun n e => by cases e) ho1 _, below_rowR bX _ (by omega)⟩
end Go.Proofs.Ytmjddoboogccoaa
namespace Go.Proofs.Ytmjddoboogccoaa
open Go.RowKit
set_option maxRecDepth 100000

theorem byteRow.byts {w : World} {b n : Nat} (h : byteRow w b n) : ∃ p : List Int, p.length = n ∧ (∀ x ∈ p, 0 ≤ x ∧ x < 256) ∧ rowB w b 5 (byts p) := by
  obtain ⟨cs, h1, h2, h3⟩ := h
  let f : Nat → Int := fun k => match cs[k]? with
    | some (.int _ x) => x
    | _ => 0
  have hf : ∀ k, k < n → cs[k]? = some (.int .u8 (f k)) ∧ 0 ≤ f k ∧ f k < 256 := fun k hk => by
    obtain ⟨x, e, hx⟩ := h3 k hk
    have : f k = x := by show (match cs[k]? with | some (.int _ x) => x | _ => 0) = x; rw [e]
    rw [this]
    exact ⟨e, hx⟩
  refine ⟨(List.range n).map f, by simp, fun x hx => ?_, rowB_eq h1 ?_⟩
  · obtain ⟨k, hk, rfl⟩ := List.mem_map.1 hx
    exact (hf k (List.mem_range.1 hk)).2
  · refine Array.ext_getElem? fun i => ?_
    rw [byts_get, List.getElem?_map]
    by_cases hi : i < n
    · rw [List.getElem?_range hi, (hf i hi).1]; rfl
    · rw [List.getElem?_eq_none (by simpa using hi), Array.getElem?_eq_none (by omega)]; rfl
theorem byts_cell {w : World} {q : Nat} {m : List Int} (h : rowB w q 5 (byts m)) (i : Nat) (hi : i < m.length) : w.cell? ⟨q, i, none⟩ = some (.int .u8 (vreg m i)) := by
  refine rowB_cell h i ?_
  rw [byts_get, List.getElem?_eq_getElem hi]
  unfold vreg
  rw [List.getD_eq_getElem?_getD, List.getElem?_eq_getElem hi]
  rfl
theorem isArg_at {w : World} {a : Option Addr} {n c : Nat} {l : List Int} (h : isArg w (.slice a n c) l) (i : Nat) (hi : i < l.length) : ∃ b off, a = some ⟨b, off, none⟩ ∧ w.cell? ⟨b, off + i, none⟩ = some (.int .i64 (l.getD i 0)) := by
  obtain ⟨a', c', e, hf⟩ := isArg_form h
  cases e
  obtain ⟨b, off, e, _, _, _, hc⟩ := hf i hi
  exact ⟨b, off, e, hc⟩
/-- A drive on a track, a disk in it, without a command. -/
def diskS (k t : Int) (b : List Int) : Dr := ⟨k, t, 0, 0, 0, 0, 0, 0, 0, 0, b⟩
theorem diskS_start (b : List Int) (k : Int) (hk : 0 < k ∧ k < 256) (hl : (b.length : Int) = 256 * k) : (Dr.of [] b).change k = diskS k 0 b := by
  rw [Dr.of_nil, drM_self (by omega)]
  unfold Dr.change
  rw [if_pos rfl]
  dsimp only
  rw [if_pos ⟨hk.1, by omega⟩, Int.emod_eq_of_lt (by omega) hk.2]
  rfl
theorem diskS_fit (k t : Int) (b : List Int) (hk : 0 < k ∧ k < 256) (hl : (b.length : Int) = 256 * k) (ht : 0 ≤ t ∧ t < 4) (hb : ∀ x ∈ b, 0 ≤ x ∧ x < 256) : (diskS k t b).fit := by
  refine ⟨?_, ht, by dsimp only [diskS]; omega, by dsimp only [diskS]; omega, by dsimp only [diskS]; omega, by dsimp only [diskS]; omega, by dsimp only [diskS]; omega, by dsimp only [diskS]; omega, by dsimp only [diskS]; omega, by dsimp only [diskS]; omega, ?_, hb⟩
  · dsimp only [diskS]; omega
  · dsimp only [diskS]; omega
theorem diskS_in (k : Int) (j : Nat) (hj : j < 3) (b : List Int) : ((diskS k j b).write 0 1).ticks (30 : Int).toNat = diskS k (j + 1 : Nat) b := by
  have h := Dr.step_in (diskS k j b) rfl
  refine Eq.trans h ?_
  show Dr.mk k (if (j : Int) < 3 then (j : Int) + 1 else j) 0 0 0 0 0 0 0 0 b = Dr.mk k ((j + 1 : Nat) : Int) 0 0 0 0 0 0 0 0 b
  rw [if_pos (by omega)]
  rfl
set_option maxHeartbeats 4000000 in
theorem driveReads_walk (v : Value) (l : List Int) (a b : Int) (w : World) (h : isArg w v l) (hwf : ∀ x ∈ l, (Lit.int .i64 x).wf = true) (ha : -9223372036854775808 ≤ a ∧ a ≤ 9223372036854775807) (hb : -9223372036854775808 ≤ b ∧ b ≤ 9223372036854775807) :
    Calls Try.prog 6 #[v, .int .i64 a, .int .i64 b] w fun e w' => e = .returned (.bool true) ∧ Below w.heap.size w w' := by
  have hby := bytes_any v l 512 (by decide) (by decide) w h hwf
  have hbl1 := fun w => below_any a 4 ha (by decide) w
  have hbl2 := fun w => below_any b 4 hb (by decide) w
  obtain ⟨T, hT⟩ : ∃ T : Nat, a % 4 = T := ⟨(a % 4).toNat, by omega⟩
  obtain ⟨e, hE⟩ : ∃ e, b % 4 = e := ⟨_, rfl⟩
  rw [hT] at hbl1
  rw [hE] at hbl2
  have hT4 : T < 4 := by omega
  have he : 0 ≤ e ∧ e < 4 := by omega
  clear hT hE ha hb hwf
  go_enter Try.func6, Try.ntmps6
  go_upto_region 2 with (go_at_call 29; refine hby.mono ?_; rintro r v1 ⟨g1, rfl, hg1, hle1, hb1⟩)
  obtain ⟨p, hpl, hpb, hrow⟩ := hg1.byts
  have hlr := rowB_lt hrow
  have hB1 : isByt v1 (.slice (some ⟨g1, 0, none⟩) 512 512) p := by
    have := bytB_arg hrow (by rw [hpl]; decide)
    rwa [hpl] at this
  have hpL : p.length ≤ 140737488351232 := by omega
  have hst := Lib.hid (diskS_start p 2 (by decide) (by omega))
  have hf0 := Dr.of_fit [] p hpb
  have hl0 : (Dr.of [] p).m.length ≤ 140737488351232 := Nat.le_trans (Dr.of_len [] p) hpL
  have hfd := fun (j : Nat) (hj : j < 4) => diskS_fit 2 j p (by decide) (by omega) (by omega) hpb
  have hld : ∀ t, (diskS 2 t p).m.length ≤ 140737488351232 := fun t => hpL
  have hNew := drvNew_any _ p v1 hB1 hpL
  generalize Dr.of [] p = s0 at *
  clear hby hg1 hB1
  go_upto_region 4 with (first
    | (go_at_call 30; with_reducible refine (hbl1 _).mono ?_; rintro r wx ⟨rfl, rfl⟩)
    | (go_at_call 30; with_reducible refine (hbl2 _).mono ?_; rintro r wx ⟨rfl, rfl⟩)
    | (go_at_call 11; refine hNew.mono ?_; rintro r v2 ⟨u2, rfl, hx2, hb2⟩)
    | (go_at_call 17; refine (drvChange_at hf0 hl0 2 (by decide) hst.out hx2).mono ?_; rintro r v3 ⟨u3, rfl, hx3, hb3⟩; obtain ⟨a3, c3, b3, d3, rfl, p3, q3⟩ := hx3.open))
  change Code.wp _ _ _ _ (v3.alloc (.cells #[.slice a3 10 c3, .slice b3 (diskS 2 0 p).m.length d3] 25))
  have z1 := hb1.size
  have z2 := hb2.size
  have z3 := hb3.size
  have hle : w.heap.size ≤ v3.heap.size := by omega
  have hgB : g1 < v3.heap.size := by omega
  have bX := ((hb1.trans (hb2.mono z1)).trans (hb3.mono (by omega))).alloc hle (.cells #[.slice a3 10 c3, .slice b3 (diskS 2 0 p).m.length d3] 25)
  have hbox : boxA (v3.alloc (.cells #[.slice a3 10 c3, .slice b3 (diskS 2 0 p).m.length d3] 25)) v3.heap.size (diskS 2 (0 : Nat) p) := ⟨_, _, rowB_new v3 25 #[.slice a3 10 c3, .slice b3 (diskS 2 0 p).m.length d3], isArg_below p3 ((Below.refl _ _).alloc (Nat.le_refl _) _) (Nat.le_refl _), isByt_below q3 ((Below.refl _ _).alloc (Nat.le_refl _) _) (Nat.le_refl _)⟩
  replace hrow := rowB_alloc (rowB_below (rowB_below hrow hb2 hlr) hb3 (by omega)) (.cells #[.slice a3 10 c3, .slice b3 (diskS 2 0 p).m.length d3] 25)
  generalize v3.alloc (.cells #[.slice a3 10 c3, .slice b3 (diskS 2 0 p).m.length d3] 25) = vA at *
  generalize v3.heap.size = B at *
  clear hb1 hb2 hb3 hx2 hx3 p3 q3 z1 z2 z3 hNew hf0 hl0 hst hlr hle1
  go_wp2_with fail
  go_loopw [25] (fun i wr => ∃ j : Nat, j ≤ T ∧ i = .int .i64 j ∧ boxA wr B (diskS 2 j p) ∧ Below B vA wr) (fun i _ => T - (intOf i).toNat)
  case atStart => exact ⟨0, Nat.zero_le _, rfl, hbox, Below.refl _ _⟩
  case round =>
    clear hbox
    obtain ⟨j, hj, rfl, hbox, hS⟩ := hrel
    obtain ⟨vx, vy, r0, h1, h2⟩ := hbox
    have lB := rowB_lt r0
    obtain ⟨y0, y1, _, _⟩ := dcells2 r0
    by_cases hlt : j < T
    · have hd : decide ((j : Int) < T) = true := decide_eq_true (by omega)
      have hin := diskS_in 2 j (by omega) p
      have hfj := hfd j (by omega)
      have hfn := hfd (j + 1) (by omega)
      obtain ⟨T1, hT1⟩ : ∃ T1, (diskS 2 j p).write 0 1 = T1 := ⟨_, rfl⟩
      have hf1 : T1.fit := by rw [← hT1]; exact Dr.write_fit hfj _ _
      have hl1 : T1.m.length ≤ 140737488351232 := by rw [← hT1, Dr.write_m]; exact hld _
      rw [hT1] at hin
      have HIN := Lib.hid hin
      have HT1 := Lib.hid hT1
      clear hin hT1
      go_wp2_with (first
        | (go_at_call 15; refine (drvWrite_at hfj (hld _) 0 1 HT1.out ⟨_, _, rfl, h1, h2⟩).mono ?_; rintro r v6 ⟨u6, rfl, hx6, hb6⟩)
        | (go_at_call 28; refine (drvSkip_at hf1 hl1 30 (by decide) HIN.out hx6).mono ?_; rintro r v7 ⟨u7, rfl, hx7, hb7⟩; obtain ⟨a7, c7, b7, d7, rfl, p7, q7⟩ := hx7.open; have hz := hb6.trans (hb7.mono hb6.size); have rz := rowB_below r0 hz lB; have bz := boxA.below ⟨_, _, r0, h1, h2⟩ hz)
        | (refine wpList_storeR rfl 25 _ _ rfl B rfl #[.slice a7 10 c7, .slice b7 (diskS 2 (j + 1 : Nat) p).m.length d7] rfl (dev2_one _ _ _ _ _ _) 25 #[vx, vy] rfl ?_ agDv ?_; with_reducible exact rz))
      go_roundw
      case rel => exact ⟨j + 1, by omega, by go_num, bz.store p7 q7, below_rowR (hS.trans (hz.mono (by omega))) _ (Nat.le_refl _)⟩
      case measure => simp [intOf]; omega
    · have hd : decide ((j : Int) < T) = false := decide_eq_false (by omega)
      obtain rfl : j = T := by omega
      have hfT := hfd j hT4
      replace hrow := rowB_below hrow hS hgB
      replace bX := bX.trans (hS.mono hle)
      have hft := hfT
      go_upto_region 9 with (first
        | (go_at_call 31; refine (fetch_any hfT (hld _) (by show (2 : Int) ≠ 0; decide) rfl e he _ _ _ h1 h2).mono ?_; rintro r v8 ⟨u8, o8, rfl, hx8, ho8, hb8⟩; obtain ⟨a8, c8, b8, d8, rfl, p8, q8⟩ := hx8.open; have rz := rowB_below r0 hb8 lB; have bz := boxA.below ⟨_, _, r0, h1, h2⟩ hb8)
        | (refine wpList_storeR rfl 25 _ _ rfl B rfl #[.slice a8 10 c8, .slice b8 ((diskS 2 (j : Nat) p).fet e 16).m.length d8] rfl (dev2_one _ _ _ _ _ _) 25 #[vx, vy] rfl ?_ agDv ?_; with_reducible exact rz))
      have hF := Dr.fet_fit hfT (by show (2 : Int) ≠ 0; decide) rfl e he 16 (by decide)
      have hFl : ((diskS 2 (j : Nat) p).fet e 16).m.length ≤ 140737488351232 := by rw [Dr.fet_m]; exact hld _
      have hF0 := Lib.hid (show ((diskS 2 (j : Nat) p).fet e 16).reg 0 = 0 from rfl)
      have hFr := Lib.hid (show ((diskS 2 (j : Nat) p).fet e 16).read 0 = (diskS 2 (j : Nat) p).fet e 16 from rfl)
      have hFt := Lib.hid (show ((diskS 2 (j : Nat) p).fet e 16).t = (j : Nat) from rfl)
      have hbox := bz.store p8 q8
      have ho := isArg_box rz (isArg_no (isArg_below h1 hb8 (Nat.le_refl _)) _) (isByt_no (isByt_below h2 hb8 (Nat.le_refl _)) _) ho8 #[.slice a8 10 c8, .slice b8 ((diskS 2 (j : Nat) p).fet e 16).m.length d8]
      replace hrow := rowB_row_other (rowB_below hrow hb8 (rowB_lt hrow)) #[.slice a8 10 c8, .slice b8 ((diskS 2 (j : Nat) p).fet e 16).m.length d8] (show B ≠ g1 by omega)
      replace bX := below_rowR (bX.trans (hb8.mono bX.size)) #[.slice a8 10 c8, .slice b8 ((diskS 2 (j : Nat) p).fet e 16).m.length d8] hle
      change Code.wp _ _ _ _ (v8.setRow B #[.slice a8 10 c8, .slice b8 ((diskS 2 (j : Nat) p).fet e 16).m.length d8])
      generalize v8.setRow B #[.slice a8 10 c8, .slice b8 ((diskS 2 (j : Nat) p).fet e 16).m.length d8] = v9 at *
      generalize (diskS 2 (j : Nat) p).fet e 16 = F at *
      have hform := isArg_form ho
      rw [fetL_len] at hform
      obtain ⟨ao, co, rfl, _⟩ := hform
      clear r0 h1 h2 y0 y1 rz bz hb8 p8 q8 hx8 ho8 hS lB hft hfT
      obtain ⟨vx, vy, r0, h1, h2⟩ := hbox
      obtain ⟨y0, y1, _, _⟩ := dcells2 r0
      go_upto_region 10 with (go_at_call 13; refine (drvRead_at hF hFl 0 hFr.out hF0.out ⟨_, _, rfl, h1, h2⟩).mono ?_; rintro r va ⟨ua, rfl, hxa, hba⟩; obtain ⟨aa, ca, ba, da, rfl, pa, qa⟩ := hxa.open)
      have hz := hba.alloc hba.size (.cells #[.slice aa 10 ca, .slice ba F.m.length da] 25)
      have hbox := boxA.below ⟨_, _, r0, h1, h2⟩ hz
      replace ho := isArg_below ho hz (Nat.le_refl _)
      replace hrow := rowB_below hrow hz (rowB_lt hrow)
      replace bX := bX.trans (hz.mono bX.size)
      change Code.wp _ _ _ _ (va.alloc (.cells #[.slice aa 10 ca, .slice ba F.m.length da] 25))
      generalize va.alloc (.cells #[.slice aa 10 ca, .slice ba F.m.length da] 25) = vE at *
      clear r0 h1 h2 y0 y1 hba hz hxa pa qa
      obtain ⟨fr, hfr⟩ : ∃ fr : Nat, 256 + ((j : Int) * 4 + e) * 16 = fr := ⟨(256 + ((j : Int) * 4 + e) * 16).toNat, by omega⟩
      have w1 : wrap64 ((j : Int) * 4) = (j : Int) * 4 := IntWalk.wrap64_in _ (by omega)
      have w2 : wrap64 ((j : Int) * 4 + e) = (j : Int) * 4 + e := IntWalk.wrap64_in _ (by omega)
      have w3 : wrap64 (((j : Int) * 4 + e) * 16) = ((j : Int) * 4 + e) * 16 := IntWalk.wrap64_in _ (by omega)
      have w4 : wrap64 (256 + ((j : Int) * 4 + e) * 16) = fr := (IntWalk.wrap64_in _ (by omega)).trans hfr
      go_wp2_with fail
      go_loopw [50] (fun i wr => ∃ n : Nat, n ≤ 16 ∧ i = .int .i64 n ∧ wr = vE) (fun i _ => 16 - (intOf i).toNat)
      case atStart => exact ⟨0, Nat.zero_le _, rfl, rfl⟩
      case round =>
        obtain ⟨n, hn, rfl, hw⟩ := hrel
        subst hw
        by_cases hlt : n < 16
        · have hd : decide ((n : Int) < 16) = true := decide_eq_true (by omega)
          obtain ⟨b', off, rfl, hc1⟩ := isArg_at ho n (by rw [fetL_len]; exact hlt)
          rw [fetL_get _ _ n hlt] at hc1
          have hbs : ((diskS 2 (j : Nat) p).base e + (n : Nat)).toNat = fr + n := by
            show (256 * (2 : Int) - 256 + 64 * (j : Int) + 16 * e + (n : Int)).toNat = fr + n
            omega
          rw [hbs] at hc1
          replace hc1 : wr.cell? ⟨b', off + n, none⟩ = some (.int .i64 (vreg p (fr + n))) := hc1
          have hc2 := byts_cell hrow (fr + n) (by omega)
          have hX := Vd.reg_bd hpb (fr + n)
          obtain ⟨q, hq⟩ : ∃ q, fr + n = q := ⟨_, rfl⟩
          have hq2 : q < 512 := by omega
          have wi : wrap64 ((fr : Int) + n) = q := (IntWalk.wrap64_in _ (by omega)).trans (by omega)
          rw [hq] at hc1 hc2 hX
          generalize vreg p q = Y at *
          have wY : wrap64 Y = Y := IntWalk.wrap64_in _ (by omega)
          clear hbs hq hfr w1 w2 w3 w4 hX hfd hld
          go_upto_region 14 with (fail)
          go_wp2_with fail
          go_roundw
          case rel => exact ⟨n + 1, by omega, by go_num, (by first | trivial | rfl)⟩
          case measure => simp [intOf]; omega
        · have hd : decide ((n : Int) < 16) = false := decide_eq_false (by omega)
          obtain ⟨vx, vy, r0, h1, h2⟩ := hbox
          go_wp2_with (first
            | (go_at_call 32; refine (drivesK_any _).mono ?_; rintro r vg ⟨rfl, hbg⟩; obtain ⟨y0, y1, _, _⟩ := dcells2 (rowB_below r0 hbg (rowB_lt r0)))
            | (go_at_call 21; refine (drvOut_at hF hFl hFt.out (devA.below ⟨_, _, rfl, h1, h2⟩ hbg)).mono ?_; rintro r vh ⟨rfl, hbh⟩))
          go_ret
          have zg := hbg.size
          exact ⟨rfl, (bX.trans (hbg.mono bX.size)).trans (hbh.mono (by have := bX.size; omega))⟩
end Go.Proofs.Ytmjddoboogccoaa
namespace Go.Proofs.Ytmjddoboogccoaa
open Go.RowKit
set_option maxRecDepth 100000

theorem Dr.sto_fit {s : Dr} (h : s.fit) (hk : s.k ≠ 0) (hc : s.c = 0) (e : Int) (he : 0 ≤ e ∧ e < 4) (hb : 0 ≤ s.base e) (x : List Int) (hx : ∀ i, 0 ≤ x.getD i 0 ∧ x.getD i 0 < 256) (i : Nat) (hi : i ≤ 16) : (s.sto e x i).fit := by
  induction i with
  | zero => rw [← Dr.sto_start s hc hk e he x]; exact Dr.write_fit h _ _
  | succ i ih =>
    rw [← Dr.sto_next s hk e hb x i (by omega) (hx i)]
    exact Dr.ticks_fit (Dr.write_fit (ih (by omega)) _ _) _
theorem Dr.sto_m (s : Dr) (e : Int) (x : List Int) (i : Nat) : (s.sto e x i).m.length = s.m.length := by
  unfold Dr.sto
  split <;> exact sset_len _ _ _ _
theorem at_sector {f : Int} {n : Nat} (hf : 0 ≤ f ∧ f < 4) (hn : n < 16) : ∃ q : Nat, (16 * f + (n : Nat)).toNat = q ∧ (f * 16 + (n : Int)).toNat = q ∧ q < 256 := ⟨_, rfl, by omega, by omega⟩
theorem sto_read (p px : List Int) (e : Int) (he : 0 ≤ e ∧ e < 4) (hp : p.length = 256) (f : Int) (hf : 0 ≤ f ∧ f < 4) (n : Nat) (hn : n < 16) :
    vreg ((diskS 1 0 p).sto e px 16).m (256 * (1 : Int) - 256 + 64 * 0 + 16 * f + (n : Nat)).toNat = if f = e then px.getD n 0 else vreg p (16 * f + n).toNat := by
  show vreg (sset p (256 * (1 : Int) - 256 + 64 * 0 + 16 * e).toNat px 16) _ = _
  rw [sset_get _ _ _ _ _ (by omega)]
  by_cases h : f = e
  · rw [if_pos h, if_pos (by omega)]
    congr 1
    omega
  · rw [if_neg h, if_neg (by omega)]
    congr 1
    omega
set_option maxHeartbeats 8000000 in
theorem driveWrites_walk (v u : Value) (l lx : List Int) (a b : Int) (w : World) (h : isArg w v l) (hwf : ∀ x ∈ l, (Lit.int .i64 x).wf = true) (hu : isArg w u lx) (hwx : ∀ x ∈ lx, (Lit.int .i64 x).wf = true) (ha : -9223372036854775808 ≤ a ∧ a ≤ 9223372036854775807) (hb : -9223372036854775808 ≤ b ∧ b ≤ 9223372036854775807) :
    Calls Try.prog 7 #[v, u, .int .i64 a, .int .i64 b] w fun e w' => e = .returned (.bool true) ∧ Below w.heap.size w w' := by
  have hby := bytes_any v l 256 (by decide) (by decide) w h hwf
  have hbx := fun w h => bytes_any u lx 16 (by decide) (by decide) w h hwx
  have hbl1 := fun w => below_any a 4 ha (by decide) w
  have hbl2 := fun w => below_any b 4 hb (by decide) w
  obtain ⟨e, hE⟩ : ∃ e, a % 4 = e := ⟨_, rfl⟩
  obtain ⟨f, hF⟩ : ∃ f, b % 4 = f := ⟨_, rfl⟩
  rw [hE] at hbl1
  rw [hF] at hbl2
  have he : 0 ≤ e ∧ e < 4 := by omega
  have hf : 0 ≤ f ∧ f < 4 := by omega
  clear hE hF ha hb hwf hwx
  have w1 : wrap64 (16 * e) = 16 * e := IntWalk.wrap64_in _ (by omega)
  have w2 : wrap64 (4 + 16 * e) = 4 + 16 * e := IntWalk.wrap64_in _ (by omega)
  go_enter Try.func7, Try.ntmps7
  go_upto_region 2 with (go_at_call 29; refine hby.mono ?_; rintro r v1 ⟨g1, rfl, hg1, hle1, hb1⟩)
  obtain ⟨p, hpl, hpb, hrow⟩ := hg1.byts
  have hlr := rowB_lt hrow
  go_upto_region 3 with (go_at_call 29; refine (hbx _ (isArg_below hu hb1 (Nat.le_refl _))).mono ?_; rintro r v2 ⟨g2, rfl, hg2, hle2, hb2⟩)
  obtain ⟨px, hxl, hxb, hrx⟩ := hg2.byts
  replace hrow := rowB_below hrow hb2 hlr
  have hlx := rowB_lt hrx
  have hxd : ∀ i, 0 ≤ px.getD i 0 ∧ px.getD i 0 < 256 := fun i => Vd.reg_bd hxb i
  have hB1 : isByt v2 (.slice (some ⟨g1, 0, none⟩) 256 256) p := by
    have := bytB_arg hrow (by rw [hpl]; decide)
    rwa [hpl] at this
  have hpL : p.length ≤ 140737488351232 := by omega
  have hst := Lib.hid (diskS_start p 1 (by decide) (by omega))
  have hf0 := Dr.of_fit [] p hpb
  have hl0 : (Dr.of [] p).m.length ≤ 140737488351232 := Nat.le_trans (Dr.of_len [] p) hpL
  have hfd := diskS_fit 1 0 p (by decide) (by omega) (by decide) hpb
  have hld : (diskS 1 0 p).m.length ≤ 140737488351232 := hpL
  have hk1 : (diskS 1 0 p).k ≠ 0 := by show (1 : Int) ≠ 0; decide
  have hba : 0 ≤ (diskS 1 0 p).base e := by show 0 ≤ 256 * (1 : Int) - 256 + 64 * 0 + 16 * e; omega
  have hS0 := Lib.hid (Dr.sto_start (diskS 1 0 p) rfl hk1 e he px)
  have hfs := fun i hi => Dr.sto_fit hfd hk1 rfl e he hba px hxd i hi
  have hls : ∀ i, ((diskS 1 0 p).sto e px i).m.length ≤ 140737488351232 := fun i => by rw [Dr.sto_m]; exact hld
  have hNew := drvNew_any _ p v2 hB1 hpL
  generalize Dr.of [] p = s0 at *
  clear hby hbx hg1 hg2 hB1
  go_upto_region 5 with (first
    | (go_at_call 30; with_reducible refine (hbl1 _).mono ?_; rintro r wx ⟨rfl, rfl⟩)
    | (go_at_call 30; with_reducible refine (hbl2 _).mono ?_; rintro r wx ⟨rfl, rfl⟩)
    | (go_at_call 11; refine hNew.mono ?_; rintro r v3 ⟨u3, rfl, hx3, hb3⟩)
    | (go_at_call 17; refine (drvChange_at hf0 hl0 1 (by decide) hst.out hx3).mono ?_; rintro r v4 ⟨u4, rfl, hx4, hb4⟩)
    | (go_at_call 15; refine (drvWrite_at hfd hld 0 (4 + 16 * e) hS0.out hx4).mono ?_; rintro r v5 ⟨u5, rfl, hx5, hb5⟩; obtain ⟨a3, c3, b3, d3, rfl, p3, q3⟩ := hx5.open))
  change Code.wp _ _ _ _ (v5.alloc (.cells #[.slice a3 10 c3, .slice b3 ((diskS 1 0 p).sto e px 0).m.length d3] 25))
  have z1 := hb1.size
  have z2 := hb2.size
  have z3 := hb3.size
  have z4 := hb4.size
  have z5 := hb5.size
  have hle : w.heap.size ≤ v5.heap.size := by omega
  have hgB : g1 < v5.heap.size := by omega
  have hgX : g2 < v5.heap.size := by omega
  have bX := ((((hb1.trans (hb2.mono z1)).trans (hb3.mono (by omega))).trans (hb4.mono (by omega))).trans (hb5.mono (by omega))).alloc hle (.cells #[.slice a3 10 c3, .slice b3 ((diskS 1 0 p).sto e px 0).m.length d3] 25)
  have hbox : boxA (v5.alloc (.cells #[.slice a3 10 c3, .slice b3 ((diskS 1 0 p).sto e px 0).m.length d3] 25)) v5.heap.size ((diskS 1 0 p).sto e px 0) := ⟨_, _, rowB_new v5 25 #[.slice a3 10 c3, .slice b3 ((diskS 1 0 p).sto e px 0).m.length d3], isArg_below p3 ((Below.refl _ _).alloc (Nat.le_refl _) _) (Nat.le_refl _), isByt_below q3 ((Below.refl _ _).alloc (Nat.le_refl _) _) (Nat.le_refl _)⟩
  replace hrow := rowB_alloc (rowB_below (rowB_below (rowB_below hrow hb3 (by omega)) hb4 (by omega)) hb5 (by omega)) (.cells #[.slice a3 10 c3, .slice b3 ((diskS 1 0 p).sto e px 0).m.length d3] 25)
  replace hrx := rowB_alloc (rowB_below (rowB_below (rowB_below hrx hb3 (by omega)) hb4 (by omega)) hb5 (by omega)) (.cells #[.slice a3 10 c3, .slice b3 ((diskS 1 0 p).sto e px 0).m.length d3] 25)
  generalize v5.alloc (.cells #[.slice a3 10 c3, .slice b3 ((diskS 1 0 p).sto e px 0).m.length d3] 25) = vA at *
  generalize v5.heap.size = B at *
  clear hb1 hb2 hb3 hb4 hb5 hx3 hx4 hx5 p3 q3 z1 z2 z3 z4 z5 hNew hf0 hl0 hst hlr hle1 hle2 hlx hS0 w1 w2
  go_wp2_with fail
  go_loopw [38] (fun i wr => ∃ j : Nat, j ≤ 16 ∧ i = .int .i64 j ∧ boxA wr B ((diskS 1 0 p).sto e px j) ∧ Below B vA wr) (fun i _ => 16 - (intOf i).toNat)
  case atStart => exact ⟨0, Nat.zero_le _, rfl, hbox, Below.refl _ _⟩
  case round =>
    clear hbox
    obtain ⟨j, hj, rfl, hbox, hB⟩ := hrel
    obtain ⟨vx, vy, r0, h1, h2⟩ := hbox
    have lB := rowB_lt r0
    by_cases hlt : j < 16
    · have hd : decide ((j : Int) < 16) = true := decide_eq_true (by omega)
      have hn := Dr.sto_next (diskS 1 0 p) hk1 e hba px j hlt (hxd j)
      have hfj := hfs j (by omega)
      have hlj := hls j
      have hc := byts_cell (rowB_below hrx hB hgX) j (by omega)
      have hY := hxd j
      replace hc : wr.cell? ⟨g2, j, none⟩ = some (.int .u8 (px.getD j 0)) := hc
      generalize px.getD j 0 = Y at *
      have wY : IntKind.i64.wrap Y = Y := IntWalk.i64_in _ (by omega)
      obtain ⟨T1, hW⟩ : ∃ T1, ((diskS 1 0 p).sto e px j).write 1 Y = T1 := ⟨_, rfl⟩
      have hf1 : T1.fit := by rw [← hW]; exact Dr.write_fit hfj _ _
      have hl1 : T1.m.length ≤ 140737488351232 := by rw [← hW, Dr.write_m]; exact hlj
      rw [hW] at hn
      have HW := Lib.hid hW
      clear hW hY
      rcases (by omega : j = 0 ∨ 0 < j) with hj0 | hj0
      · rw [if_pos hj0] at hn
        have hmn : min (j : Int) 1 = 0 := by omega
        clear hj0
        replace hn : T1.ticks (30 : Int).toNat = ((diskS 1 0 p).sto e px (j + 1)) := hn
        have HT := Lib.hid hn
        clear hn
        go_upto_region 8 with (fail)
        refine wp_region_treeN (fun w' => Below wr.heap.size wr w') [0, 1, 2, 5, 6, 7] [3, 4, 8, 9] (.rd 0 (.rd 1 (.rd 2 (.rd 5 (.rd 6 (.two 3 (.one 4 (.rd 7 (.one 8 (.mix [(9, 3), (10, 2)])))) 4 (.rd 7 (.two 3 (.one 8 (.mix [(9, 3), (10, 2)])) 8 (.one 3 (.mix [(9, 3), (10, 2)])))))))))) (by kernel_rfl) (by kernel_rfl) (fun _ _ _ _ _ h => h) ?_
        simp only [Tr.put, List.map_cons, List.map_nil, opOf, List.getD_cons_zero, List.getD_cons_succ]
        change wpTr _ _ _ _ _ _ wr.drew
        have hS : Below wr.heap.size wr wr.drew := (Below.refl wr.heap.size wr).drew
        generalize wr.drew = w2 at *
        refine wpTr_held (.agg #[vx, vy]) rfl hS (fun w' hw' => exec_rowR 25 _ rfl B rfl 25 #[vx, vy] (rowB_below r0 hw' (rowB_lt r0)) agDv) ?_
        simp only [Act.put, List.setIfInBounds_toArray, List.set_cons_zero, List.set_cons_succ]
        refine wpTr_held (.int .u8 Y) rfl hS (fun w' hw' => by go_simp) ?_
        simp only [Act.put, List.setIfInBounds_toArray, List.set_cons_zero, List.set_cons_succ]
        refine wpTr_held (.int .i64 Y) rfl hS (fun w' hw' => by go_simp) ?_
        simp only [Act.put, List.setIfInBounds_toArray, List.set_cons_zero, List.set_cons_succ]
        refine wpTr_held (.int .i64 j) rfl hS (fun w' hw' => by go_simp) ?_
        simp only [Act.put, List.setIfInBounds_toArray, List.set_cons_zero, List.set_cons_succ]
        refine wpTr_held (.int .i64 0) rfl hS (fun w' hw' => (exec_min2 _ _ _ rfl .i64 j 1 rfl rfl).trans (by rw [hmn])) ?_
        simp only [Act.put, List.setIfInBounds_toArray, List.set_cons_zero, List.set_cons_succ]
        refine wpTr_two ?_ ?_
        · go_wp2_with (go_at_call 15; refine (drvWrite_at hfj hlj 1 Y HW.out (devA.below ⟨_, _, rfl, h1, h2⟩ hS)).mono ?_; rintro r u1 ⟨v6, rfl, hx6, hb6⟩; replace hS := hS.trans (hb6.mono hS.size); clear hb6)
          refine ⟨hS, ?_⟩
          refine wpTr_one ?_
          go_wp2_with fail
          have nS := rowB_new u1 3 #[.int .i64 30, .int .i64 20]
          have lS := hS.size
          replace hS := hS.alloc lS (.cells #[.int .i64 30, .int .i64 20] 3)
          replace hx6 := hx6.below ((Below.refl _ _).alloc (Nat.le_refl _) (.cells #[.int .i64 30, .int .i64 20] 3))
          generalize u1.alloc (.cells #[.int .i64 30, .int .i64 20] 3) = u2 at *
          generalize u1.heap.size = z2 at *
          refine ⟨hS, ?_⟩
          refine wpTr_held (.pointer (some ⟨z2, 0, none⟩)) rfl hS (fun w' hw' => by go_simp) ?_
          simp only [Act.put, List.setIfInBounds_toArray, List.set_cons_zero, List.set_cons_succ]
          refine wpTr_one ?_
          have sc := rowB_cell nS 0 (v := .int .i64 30) rfl
          go_wp2_with fail
          clear sc
          refine ⟨hS, ?_⟩
          refine wpTr_mix ?_
          refine wpMix_call ?_
          go_wp2_with (go_at_call 28; refine (drvSkip_at hf1 hl1 30 (by decide) HT.out hx6).mono ?_; rintro r u4 ⟨v7, rfl, hx7, hb7⟩; obtain ⟨a7, c7, b7, d7, rfl, p7, q7⟩ := hx7.open; replace hS := hS.trans (hb7.mono hS.size); clear hb7 hx7 nS)
          first | refine ⟨fun _ => hS, ?_⟩ | refine ⟨hS, ?_⟩ | refine And.intro (fun _ => hS) ?_
          refine wpMix_call ?_
          have rz := rowB_below r0 hS (rowB_lt r0)
          have bz := boxA.below ⟨_, _, r0, h1, h2⟩ hS
          have hz := hS
          go_wp2_with (refine wpList_storeR rfl 25 _ _ rfl B rfl #[.slice a7 10 c7, .slice b7 ((diskS 1 0 p).sto e px (j + 1)).m.length d7] rfl (dev2_one _ _ _ _ _ _) 25 #[vx, vy] rfl ?_ agDv ?_; with_reducible exact rz)
          try refine ⟨fun h => (by cases h), ?_⟩
          refine wpMix_nil ?_
          go_wp2_with fail
          go_roundw
          case rel => exact ⟨j + 1, by omega, by go_num, bz.store p7 q7, below_rowR (hB.trans (hz.mono (by omega))) _ (Nat.le_refl _)⟩
          case measure => simp [intOf]; omega
        · go_wp2_with fail
          have nS := rowB_new w2 3 #[.int .i64 30, .int .i64 20]
          have lS := hS.size
          replace hS := hS.alloc lS (.cells #[.int .i64 30, .int .i64 20] 3)
          generalize w2.alloc (.cells #[.int .i64 30, .int .i64 20] 3) = u6 at *
          generalize w2.heap.size = z6 at *
          refine ⟨hS, ?_⟩
          refine wpTr_held (.pointer (some ⟨z6, 0, none⟩)) rfl hS (fun w' hw' => by go_simp) ?_
          simp only [Act.put, List.setIfInBounds_toArray, List.set_cons_zero, List.set_cons_succ]
          refine wpTr_two ?_ ?_
          · go_wp2_with (go_at_call 15; refine (drvWrite_at hfj hlj 1 Y HW.out (devA.below ⟨_, _, rfl, h1, h2⟩ hS)).mono ?_; rintro r u7 ⟨v6, rfl, hx6, hb6⟩; replace nS := rowB_below nS hb6 (rowB_lt nS); replace hS := hS.trans (hb6.mono hS.size); clear hb6)
            refine ⟨hS, ?_⟩
            refine wpTr_one ?_
            have sc := rowB_cell nS 0 (v := .int .i64 30) rfl
            go_wp2_with fail
            clear sc
            refine ⟨hS, ?_⟩
            refine wpTr_mix ?_
            refine wpMix_call ?_
            go_wp2_with (go_at_call 28; refine (drvSkip_at hf1 hl1 30 (by decide) HT.out hx6).mono ?_; rintro r u9 ⟨v7, rfl, hx7, hb7⟩; obtain ⟨a7, c7, b7, d7, rfl, p7, q7⟩ := hx7.open; replace hS := hS.trans (hb7.mono hS.size); clear hb7 hx7 nS)
            first | refine ⟨fun _ => hS, ?_⟩ | refine ⟨hS, ?_⟩ | refine And.intro (fun _ => hS) ?_
            refine wpMix_call ?_
            have rz := rowB_below r0 hS (rowB_lt r0)
            have bz := boxA.below ⟨_, _, r0, h1, h2⟩ hS
            have hz := hS
            go_wp2_with (refine wpList_storeR rfl 25 _ _ rfl B rfl #[.slice a7 10 c7, .slice b7 ((diskS 1 0 p).sto e px (j + 1)).m.length d7] rfl (dev2_one _ _ _ _ _ _) 25 #[vx, vy] rfl ?_ agDv ?_; with_reducible exact rz)
            try refine ⟨fun h => (by cases h), ?_⟩
            refine wpMix_nil ?_
            go_wp2_with fail
            go_roundw
            case rel => exact ⟨j + 1, by omega, by go_num, bz.store p7 q7, below_rowR (hB.trans (hz.mono (by omega))) _ (Nat.le_refl _)⟩
            case measure => simp [intOf]; omega
          · have sc := rowB_cell nS 0 (v := .int .i64 30) rfl
            go_wp2_with fail
            clear sc
            refine ⟨hS, ?_⟩
            refine wpTr_one ?_
            go_wp2_with (go_at_call 15; refine (drvWrite_at hfj hlj 1 Y HW.out (devA.below ⟨_, _, rfl, h1, h2⟩ hS)).mono ?_; rintro r u12 ⟨v6, rfl, hx6, hb6⟩; replace nS := rowB_below nS hb6 (rowB_lt nS); replace hS := hS.trans (hb6.mono hS.size); clear hb6)
            refine ⟨hS, ?_⟩
            refine wpTr_mix ?_
            refine wpMix_call ?_
            go_wp2_with (go_at_call 28; refine (drvSkip_at hf1 hl1 30 (by decide) HT.out hx6).mono ?_; rintro r u13 ⟨v7, rfl, hx7, hb7⟩; obtain ⟨a7, c7, b7, d7, rfl, p7, q7⟩ := hx7.open; replace hS := hS.trans (hb7.mono hS.size); clear hb7 hx7 nS)
            first | refine ⟨fun _ => hS, ?_⟩ | refine ⟨hS, ?_⟩ | refine And.intro (fun _ => hS) ?_
            refine wpMix_call ?_
            have rz := rowB_below r0 hS (rowB_lt r0)
            have bz := boxA.below ⟨_, _, r0, h1, h2⟩ hS
            have hz := hS
            go_wp2_with (refine wpList_storeR rfl 25 _ _ rfl B rfl #[.slice a7 10 c7, .slice b7 ((diskS 1 0 p).sto e px (j + 1)).m.length d7] rfl (dev2_one _ _ _ _ _ _) 25 #[vx, vy] rfl ?_ agDv ?_; with_reducible exact rz)
            try refine ⟨fun h => (by cases h), ?_⟩
            refine wpMix_nil ?_
            go_wp2_with fail
            go_roundw
            case rel => exact ⟨j + 1, by omega, by go_num, bz.store p7 q7, below_rowR (hB.trans (hz.mono (by omega))) _ (Nat.le_refl _)⟩
            case measure => simp [intOf]; omega
      · rw [if_neg (by omega)] at hn
        have hmn : min (j : Int) 1 = 1 := by omega
        clear hj0
        replace hn : T1.ticks (20 : Int).toNat = ((diskS 1 0 p).sto e px (j + 1)) := hn
        have HT := Lib.hid hn
        clear hn
        go_upto_region 8 with (fail)
        refine wp_region_treeN (fun w' => Below wr.heap.size wr w') [0, 1, 2, 5, 6, 7] [3, 4, 8, 9] (.rd 0 (.rd 1 (.rd 2 (.rd 5 (.rd 6 (.two 3 (.one 4 (.rd 7 (.one 8 (.mix [(9, 3), (10, 2)])))) 4 (.rd 7 (.two 3 (.one 8 (.mix [(9, 3), (10, 2)])) 8 (.one 3 (.mix [(9, 3), (10, 2)])))))))))) (by kernel_rfl) (by kernel_rfl) (fun _ _ _ _ _ h => h) ?_
        simp only [Tr.put, List.map_cons, List.map_nil, opOf, List.getD_cons_zero, List.getD_cons_succ]
        change wpTr _ _ _ _ _ _ wr.drew
        have hS : Below wr.heap.size wr wr.drew := (Below.refl wr.heap.size wr).drew
        generalize wr.drew = w2 at *
        refine wpTr_held (.agg #[vx, vy]) rfl hS (fun w' hw' => exec_rowR 25 _ rfl B rfl 25 #[vx, vy] (rowB_below r0 hw' (rowB_lt r0)) agDv) ?_
        simp only [Act.put, List.setIfInBounds_toArray, List.set_cons_zero, List.set_cons_succ]
        refine wpTr_held (.int .u8 Y) rfl hS (fun w' hw' => by go_simp) ?_
        simp only [Act.put, List.setIfInBounds_toArray, List.set_cons_zero, List.set_cons_succ]
        refine wpTr_held (.int .i64 Y) rfl hS (fun w' hw' => by go_simp) ?_
        simp only [Act.put, List.setIfInBounds_toArray, List.set_cons_zero, List.set_cons_succ]
        refine wpTr_held (.int .i64 j) rfl hS (fun w' hw' => by go_simp) ?_
        simp only [Act.put, List.setIfInBounds_toArray, List.set_cons_zero, List.set_cons_succ]
        refine wpTr_held (.int .i64 1) rfl hS (fun w' hw' => (exec_min2 _ _ _ rfl .i64 j 1 rfl rfl).trans (by rw [hmn])) ?_
        simp only [Act.put, List.setIfInBounds_toArray, List.set_cons_zero, List.set_cons_succ]
        refine wpTr_two ?_ ?_
        · go_wp2_with (go_at_call 15; refine (drvWrite_at hfj hlj 1 Y HW.out (devA.below ⟨_, _, rfl, h1, h2⟩ hS)).mono ?_; rintro r u1 ⟨v6, rfl, hx6, hb6⟩; replace hS := hS.trans (hb6.mono hS.size); clear hb6)
          refine ⟨hS, ?_⟩
          refine wpTr_one ?_
          go_wp2_with fail
          have nS := rowB_new u1 3 #[.int .i64 30, .int .i64 20]
          have lS := hS.size
          replace hS := hS.alloc lS (.cells #[.int .i64 30, .int .i64 20] 3)
          replace hx6 := hx6.below ((Below.refl _ _).alloc (Nat.le_refl _) (.cells #[.int .i64 30, .int .i64 20] 3))
          generalize u1.alloc (.cells #[.int .i64 30, .int .i64 20] 3) = u2 at *
          generalize u1.heap.size = z2 at *
          refine ⟨hS, ?_⟩
          refine wpTr_held (.pointer (some ⟨z2, 1, none⟩)) rfl hS (fun w' hw' => by go_simp) ?_
          simp only [Act.put, List.setIfInBounds_toArray, List.set_cons_zero, List.set_cons_succ]
          refine wpTr_one ?_
          have sc := rowB_cell nS 1 (v := .int .i64 20) rfl
          go_wp2_with fail
          clear sc
          refine ⟨hS, ?_⟩
          refine wpTr_mix ?_
          refine wpMix_call ?_
          go_wp2_with (go_at_call 28; refine (drvSkip_at hf1 hl1 20 (by decide) HT.out hx6).mono ?_; rintro r u4 ⟨v7, rfl, hx7, hb7⟩; obtain ⟨a7, c7, b7, d7, rfl, p7, q7⟩ := hx7.open; replace hS := hS.trans (hb7.mono hS.size); clear hb7 hx7 nS)
          first | refine ⟨fun _ => hS, ?_⟩ | refine ⟨hS, ?_⟩ | refine And.intro (fun _ => hS) ?_
          refine wpMix_call ?_
          have rz := rowB_below r0 hS (rowB_lt r0)
          have bz := boxA.below ⟨_, _, r0, h1, h2⟩ hS
          have hz := hS
          go_wp2_with (refine wpList_storeR rfl 25 _ _ rfl B rfl #[.slice a7 10 c7, .slice b7 ((diskS 1 0 p).sto e px (j + 1)).m.length d7] rfl (dev2_one _ _ _ _ _ _) 25 #[vx, vy] rfl ?_ agDv ?_; with_reducible exact rz)
          try refine ⟨fun h => (by cases h), ?_⟩
          refine wpMix_nil ?_
          go_wp2_with fail
          go_roundw
          case rel => exact ⟨j + 1, by omega, by go_num, bz.store p7 q7, below_rowR (hB.trans (hz.mono (by omega))) _ (Nat.le_refl _)⟩
          case measure => simp [intOf]; omega
        · go_wp2_with fail
          have nS := rowB_new w2 3 #[.int .i64 30, .int .i64 20]
          have lS := hS.size
          replace hS := hS.alloc lS (.cells #[.int .i64 30, .int .i64 20] 3)
          generalize w2.alloc (.cells #[.int .i64 30, .int .i64 20] 3) = u6 at *
          generalize w2.heap.size = z6 at *
          refine ⟨hS, ?_⟩
          refine wpTr_held (.pointer (some ⟨z6, 1, none⟩)) rfl hS (fun w' hw' => by go_simp) ?_
          simp only [Act.put, List.setIfInBounds_toArray, List.set_cons_zero, List.set_cons_succ]
          refine wpTr_two ?_ ?_
          · go_wp2_with (go_at_call 15; refine (drvWrite_at hfj hlj 1 Y HW.out (devA.below ⟨_, _, rfl, h1, h2⟩ hS)).mono ?_; rintro r u7 ⟨v6, rfl, hx6, hb6⟩; replace nS := rowB_below nS hb6 (rowB_lt nS); replace hS := hS.trans (hb6.mono hS.size); clear hb6)
            refine ⟨hS, ?_⟩
            refine wpTr_one ?_
            have sc := rowB_cell nS 1 (v := .int .i64 20) rfl
            go_wp2_with fail
            clear sc
            refine ⟨hS, ?_⟩
            refine wpTr_mix ?_
            refine wpMix_call ?_
            go_wp2_with (go_at_call 28; refine (drvSkip_at hf1 hl1 20 (by decide) HT.out hx6).mono ?_; rintro r u9 ⟨v7, rfl, hx7, hb7⟩; obtain ⟨a7, c7, b7, d7, rfl, p7, q7⟩ := hx7.open; replace hS := hS.trans (hb7.mono hS.size); clear hb7 hx7 nS)
            first | refine ⟨fun _ => hS, ?_⟩ | refine ⟨hS, ?_⟩ | refine And.intro (fun _ => hS) ?_
            refine wpMix_call ?_
            have rz := rowB_below r0 hS (rowB_lt r0)
            have bz := boxA.below ⟨_, _, r0, h1, h2⟩ hS
            have hz := hS
            go_wp2_with (refine wpList_storeR rfl 25 _ _ rfl B rfl #[.slice a7 10 c7, .slice b7 ((diskS 1 0 p).sto e px (j + 1)).m.length d7] rfl (dev2_one _ _ _ _ _ _) 25 #[vx, vy] rfl ?_ agDv ?_; with_reducible exact rz)
            try refine ⟨fun h => (by cases h), ?_⟩
            refine wpMix_nil ?_
            go_wp2_with fail
            go_roundw
            case rel => exact ⟨j + 1, by omega, by go_num, bz.store p7 q7, below_rowR (hB.trans (hz.mono (by omega))) _ (Nat.le_refl _)⟩
            case measure => simp [intOf]; omega
          · have sc := rowB_cell nS 1 (v := .int .i64 20) rfl
            go_wp2_with fail
            clear sc
            refine ⟨hS, ?_⟩
            refine wpTr_one ?_
            go_wp2_with (go_at_call 15; refine (drvWrite_at hfj hlj 1 Y HW.out (devA.below ⟨_, _, rfl, h1, h2⟩ hS)).mono ?_; rintro r u12 ⟨v6, rfl, hx6, hb6⟩; replace nS := rowB_below nS hb6 (rowB_lt nS); replace hS := hS.trans (hb6.mono hS.size); clear hb6)
            refine ⟨hS, ?_⟩
            refine wpTr_mix ?_
            refine wpMix_call ?_
            go_wp2_with (go_at_call 28; refine (drvSkip_at hf1 hl1 20 (by decide) HT.out hx6).mono ?_; rintro r u13 ⟨v7, rfl, hx7, hb7⟩; obtain ⟨a7, c7, b7, d7, rfl, p7, q7⟩ := hx7.open; replace hS := hS.trans (hb7.mono hS.size); clear hb7 hx7 nS)
            first | refine ⟨fun _ => hS, ?_⟩ | refine ⟨hS, ?_⟩ | refine And.intro (fun _ => hS) ?_
            refine wpMix_call ?_
            have rz := rowB_below r0 hS (rowB_lt r0)
            have bz := boxA.below ⟨_, _, r0, h1, h2⟩ hS
            have hz := hS
            go_wp2_with (refine wpList_storeR rfl 25 _ _ rfl B rfl #[.slice a7 10 c7, .slice b7 ((diskS 1 0 p).sto e px (j + 1)).m.length d7] rfl (dev2_one _ _ _ _ _ _) 25 #[vx, vy] rfl ?_ agDv ?_; with_reducible exact rz)
            try refine ⟨fun h => (by cases h), ?_⟩
            refine wpMix_nil ?_
            go_wp2_with fail
            go_roundw
            case rel => exact ⟨j + 1, by omega, by go_num, bz.store p7 q7, below_rowR (hB.trans (hz.mono (by omega))) _ (Nat.le_refl _)⟩
            case measure => simp [intOf]; omega
    · have hd : decide ((j : Int) < 16) = false := decide_eq_false (by omega)
      obtain rfl : j = 16 := by omega
      have hfD := hfs 16 (by decide)
      have hlD := hls 16
      have hkD : ((diskS 1 0 p).sto e px 16).k ≠ 0 := by show (1 : Int) ≠ 0; decide
      have hF1 := Dr.fet_fit hfD hkD rfl e he 16 (by decide)
      have hl1 : (((diskS 1 0 p).sto e px 16).fet e 16).m.length ≤ 140737488351232 := by rw [Dr.fet_m]; exact hlD
      have hk2 : (((diskS 1 0 p).sto e px 16).fet e 16).k ≠ 0 := by show (1 : Int) ≠ 0; decide
      have hD0 := Lib.hid (show ((diskS 1 0 p).sto e px 16).reg 0 = 0 from rfl)
      have hDr := Lib.hid (show ((diskS 1 0 p).sto e px 16).read 0 = ((diskS 1 0 p).sto e px 16) from rfl)
      replace hrow := rowB_below hrow hB hgB
      replace hrx := rowB_below hrx hB hgX
      replace bX := bX.trans (hB.mono hle)
      obtain ⟨y0, y1, _, _⟩ := dcells2 r0
      go_upto_region 11 with (first
        | (go_at_call 13; refine (drvRead_at hfD hlD 0 hDr.out hD0.out ⟨_, _, rfl, h1, h2⟩).mono ?_; rintro r va ⟨ua, rfl, hxa, hba⟩; obtain ⟨aa, ca, ba, da, rfl, pa, qa⟩ := hxa.open; have rz := rowB_below r0 hba lB; have bz := boxA.below ⟨_, _, r0, h1, h2⟩ hba)
        | (refine wpList_storeR rfl 25 _ _ rfl B rfl #[.slice aa 10 ca, .slice ba ((diskS 1 0 p).sto e px 16).m.length da] rfl (dev2_one _ _ _ _ _ _) 25 #[vx, vy] rfl ?_ agDv ?_; with_reducible exact rz))
      have hbox := bz.store pa qa
      replace hrow := rowB_row_other (rowB_below hrow hba (rowB_lt hrow)) #[.slice aa 10 ca, .slice ba ((diskS 1 0 p).sto e px 16).m.length da] (show B ≠ g1 by omega)
      replace hrx := rowB_row_other (rowB_below hrx hba (rowB_lt hrx)) #[.slice aa 10 ca, .slice ba ((diskS 1 0 p).sto e px 16).m.length da] (show B ≠ g2 by omega)
      replace bX := below_rowR (bX.trans (hba.mono bX.size)) #[.slice aa 10 ca, .slice ba ((diskS 1 0 p).sto e px 16).m.length da] hle
      change Code.wp _ _ _ _ (va.setRow B #[.slice aa 10 ca, .slice ba ((diskS 1 0 p).sto e px 16).m.length da])
      generalize va.setRow B #[.slice aa 10 ca, .slice ba ((diskS 1 0 p).sto e px 16).m.length da] = vb at *
      clear r0 h1 h2 y0 y1 rz bz hba pa qa hxa lB hB
      obtain ⟨vx, vy, r0, h1, h2⟩ := hbox
      have lB := rowB_lt r0
      obtain ⟨y0, y1, _, _⟩ := dcells2 r0
      go_upto_region 12 with (first
        | (go_at_call 31; refine (fetch_any hfD hlD hkD rfl e he _ _ _ h1 h2).mono ?_; rintro r v8 ⟨u8, o8, rfl, hx8, ho8, hb8⟩; obtain ⟨a8, c8, b8, d8, rfl, p8, q8⟩ := hx8.open; have rz := rowB_below r0 hb8 lB; have bz := boxA.below ⟨_, _, r0, h1, h2⟩ hb8)
        | (refine wpList_storeR rfl 25 _ _ rfl B rfl #[.slice a8 10 c8, .slice b8 (((diskS 1 0 p).sto e px 16).fet e 16).m.length d8] rfl (dev2_one _ _ _ _ _ _) 25 #[vx, vy] rfl ?_ agDv ?_; with_reducible exact rz))
      have hbox := bz.store p8 q8
      have ho := isArg_box rz (isArg_no (isArg_below h1 hb8 (Nat.le_refl _)) _) (isByt_no (isByt_below h2 hb8 (Nat.le_refl _)) _) ho8 #[.slice a8 10 c8, .slice b8 (((diskS 1 0 p).sto e px 16).fet e 16).m.length d8]
      replace hrow := rowB_row_other (rowB_below hrow hb8 (rowB_lt hrow)) #[.slice a8 10 c8, .slice b8 (((diskS 1 0 p).sto e px 16).fet e 16).m.length d8] (show B ≠ g1 by omega)
      replace hrx := rowB_row_other (rowB_below hrx hb8 (rowB_lt hrx)) #[.slice a8 10 c8, .slice b8 (((diskS 1 0 p).sto e px 16).fet e 16).m.length d8] (show B ≠ g2 by omega)
      replace bX := below_rowR (bX.trans (hb8.mono bX.size)) #[.slice a8 10 c8, .slice b8 (((diskS 1 0 p).sto e px 16).fet e 16).m.length d8] hle
      change Code.wp _ _ _ _ (v8.setRow B #[.slice a8 10 c8, .slice b8 (((diskS 1 0 p).sto e px 16).fet e 16).m.length d8])
      generalize v8.setRow B #[.slice a8 10 c8, .slice b8 (((diskS 1 0 p).sto e px 16).fet e 16).m.length d8] = v9 at *
      clear r0 h1 h2 y0 y1 rz bz hb8 p8 q8 hx8 ho8 lB
      have hform := isArg_form ho
      rw [fetL_len] at hform
      obtain ⟨ao, co, rfl, _⟩ := hform
      obtain ⟨vx, vy, r0, h1, h2⟩ := hbox
      obtain ⟨y0, y1, _, _⟩ := dcells2 r0
      go_upto_region 13 with (go_at_call 31; refine (fetch_any hF1 hl1 hk2 rfl f hf _ _ _ h1 h2).mono ?_; rintro r vc ⟨uc, oc, rfl, hxc, hoc, hbc⟩; obtain ⟨ac, cc, bc, dc, rfl, pc, qc⟩ := hxc.open)
      have hz := hbc.alloc hbc.size (.cells #[.slice ac 10 cc, .slice bc ((((diskS 1 0 p).sto e px 16).fet e 16).fet f 16).m.length dc] 25)
      replace ho := isArg_below ho hz (Nat.le_refl _)
      replace hoc := isArg_below hoc ((Below.refl _ _).alloc (Nat.le_refl _) (.cells #[.slice ac 10 cc, .slice bc ((((diskS 1 0 p).sto e px 16).fet e 16).fet f 16).m.length dc] 25)) (Nat.le_refl _)
      replace hrow := rowB_below hrow hz (rowB_lt hrow)
      replace hrx := rowB_below hrx hz (rowB_lt hrx)
      replace bX := bX.trans (hz.mono bX.size)
      change Code.wp _ _ _ _ (vc.alloc (.cells #[.slice ac 10 cc, .slice bc ((((diskS 1 0 p).sto e px 16).fet e 16).fet f 16).m.length dc] 25))
      generalize vc.alloc (.cells #[.slice ac 10 cc, .slice bc ((((diskS 1 0 p).sto e px 16).fet e 16).fet f 16).m.length dc] 25) = vE at *
      have hform := isArg_form hoc
      rw [fetL_len] at hform
      obtain ⟨aq, cq, rfl, _⟩ := hform
      clear r0 h1 h2 y0 y1 hbc hz hxc pc qc
      have g1v := fun n hn => sto_read p px e he hpl e he n hn
      have g2v := fun n hn => sto_read p px e he hpl f hf n hn
      simp only [if_pos] at g1v
      have HG1 := Lib.hid g1v
      have HG2 := Lib.hid g2v
      have HX := Lib.hid hxd
      clear g1v g2v hfD hlD hF1 hl1 hk2 hkD hD0 hDr hfs hls hfd hld hba hxd
      go_wp2_with fail
      go_loopw [73] (fun i wr => ∃ n : Nat, n ≤ 16 ∧ i = .int .i64 n ∧ wr = vE) (fun i _ => 16 - (intOf i).toNat)
      case atStart => exact ⟨0, Nat.zero_le _, rfl, rfl⟩
      case round =>
        obtain ⟨n, hn, rfl, hw⟩ := hrel
        subst hw
        by_cases hlt : n < 16
        · have hd2 : decide ((n : Int) < 16) = true := decide_eq_true (by omega)
          obtain ⟨b', off, rfl, hc1⟩ := isArg_at ho n (by rw [fetL_len]; exact hlt)
          rw [fetL_get _ _ n hlt] at hc1
          obtain ⟨b2, off2, rfl, hc2⟩ := isArg_at hoc n (by rw [fetL_len]; exact hlt)
          rw [fetL_get _ _ n hlt] at hc2
          have hv1 : vreg ((diskS 1 0 p).sto e px 16).m (((diskS 1 0 p).sto e px 16).base e + (n : Nat)).toNat = px.getD n 0 := by
            rw [show ((diskS 1 0 p).sto e px 16).base e = 256 * (1 : Int) - 256 + 64 * 0 + 16 * e from rfl]
            exact HG1.out n hlt
          have hv2 : vreg (((diskS 1 0 p).sto e px 16).fet e 16).m ((((diskS 1 0 p).sto e px 16).fet e 16).base f + (n : Nat)).toNat = if f = e then px.getD n 0 else vreg p (16 * f + (n : Nat)).toNat := by
            rw [Dr.fet_m, show (((diskS 1 0 p).sto e px 16).fet e 16).base f = 256 * (1 : Int) - 256 + 64 * 0 + 16 * f from rfl]
            exact HG2.out n hlt
          rw [hv1] at hc1
          rw [hv2] at hc2
          have hcx := byts_cell hrx n (by omega)
          replace hcx : wr.cell? ⟨g2, n, none⟩ = some (.int .u8 (px.getD n 0)) := hcx
          have hX := HX.out n
          generalize px.getD n 0 = Y at *
          have wY : wrap64 Y = Y := IntWalk.wrap64_in _ (by omega)
          clear hv1 hv2
          by_cases hfe : f = e
          · have hdf : decide (f = e) = true := decide_eq_true hfe
            rw [if_pos hfe] at hc2
            clear HG1 HG2 HX hX hrow hrx ho hoc
            subst hfe
            go_upto_region 19 with (fail)
            go_wp2_with fail
            go_roundw
            case rel => exact ⟨n + 1, by omega, by go_num, (by first | trivial | rfl)⟩
            case measure => simp [intOf]; omega
          · have hdf : (f != e) = true := by simpa using hfe
            rw [if_neg hfe] at hc2
            obtain ⟨q, hq, hqi, hq2⟩ := at_sector hf hlt
            rw [hq] at hc2
            have hcp := byts_cell hrow q (by rw [hpl]; exact hq2)
            have hZ := Vd.reg_bd hpb q
            generalize vreg p q = Z at *
            have wZ : wrap64 Z = Z := IntWalk.wrap64_in _ (by omega)
            clear HG1 HG2 HX hX hrow hrx ho hoc hq hfe hZ
            go_upto_region 19 with (fail)
            go_wp2_with fail
            go_roundw
            case rel => exact ⟨n + 1, by omega, by go_num, (by first | trivial | rfl)⟩
            case measure => simp [intOf]; omega
        · have hd2 : decide ((n : Int) < 16) = false := decide_eq_false (by omega)
          go_wp2_with (go_at_call 32; refine (drivesK_any _).mono ?_; rintro r vg ⟨rfl, hbg⟩)
          go_ret
          exact ⟨rfl, bX.trans (hbg.mono bX.size)⟩
end Go.Proofs.Ytmjddoboogccoaa
