/- A part of the proof of ChipBanks: ChBanks. -/
import Derived.Test.YtakaebjojgeehaaChipBanksK01
import Derived.Test.YtakaebjojgeehaaChipBanksK02
import Derived.Test.YtakaebjojgeehaaChipBanksK03
import Derived.Test.YtakaebjojgeehaaChipBanksK04
import Derived.Test.YtakaebjojgeehaaChipBanksK05
import Derived.Test.YtakaebjojgeehaaChipBanksK06
import Derived.Test.YtakaebjojgeehaaChipBanksK07
import Derived.Test.YtakaebjojgeehaaChipBanksK08
import Derived.Test.YtakaebjojgeehaaChipBanksK09
import Derived.Test.YtakaebjojgeehaaChipBanksK10
import Derived.Test.YtakaebjojgeehaaChipBanksK11
import Derived.Test.YtakaebjojgeehaaChipBanksK12
import Derived.Test.YtakaebjojgeehaaChipBanksK13
import Derived.Test.YtakaebjojgeehaaChipBanksK14
import Derived.Test.YtakaebjojgeehaaChipBanksK15
import Derived.Test.YtakaebjojgeehaaChipBanksK16
import Derived.Test.YtakaebjojgeehaaChipBanksK17
import Derived.Test.YtakaebjojgeehaaChipBanksK18
import Derived.Test.YtakaebjojgeehaaChipBanksK19
import Derived.Test.YtakaebjojgeehaaChipBanksK20
import Derived.Test.YtakaebjojgeehaaChipBanksK21
import Derived.Test.YtakaebjojgeehaaChipBanksK22
import Derived.Test.YtakaebjojgeehaaChipBanksK23
import Derived.Test.YtakaebjojgeehaaChipBanksK24
import Derived.Test.YtakaebjojgeehaaChipBanksK25
import Derived.Test.YtakaebjojgeehaaChipBanksK26
import Derived.Test.YtakaebjojgeehaaChipBanksK27
import Derived.Test.YtakaebjojgeehaaChipBanksK28
import Derived.Test.YtakaebjojgeehaaChipBanksK29
import Derived.Test.YtakaebjojgeehaaChipBanksK30
import Derived.Test.YtakaebjojgeehaaChipBanksK31
import Derived.Test.YtakaebjojgeehaaChipBanksK32
import Derived.Test.YtakaebjojgeehaaChipBanksK33
import Derived.Test.YtakaebjojgeehaaChipBanksK34
import Derived.Test.YtakaebjojgeehaaChipBanksK35
import Derived.Test.YtakaebjojgeehaaChipBanksK36
import Derived.Test.YtakaebjojgeehaaChipBanksK37
import Derived.Test.YtakaebjojgeehaaChipBanksK38
import Derived.Test.YtakaebjojgeehaaChipBanksK39
import Derived.Test.YtakaebjojgeehaaChipBanksK40
import Derived.Test.YtakaebjojgeehaaChipBanksK41
import Derived.Test.YtakaebjojgeehaaChipBanksK42
import Derived.Test.YtakaebjojgeehaaChipBanksK43
import Derived.Test.YtakaebjojgeehaaChipBanksK44
import Derived.Test.YtakaebjojgeehaaChipBanksK45
import Derived.Test.YtakaebjojgeehaaChipBanksK46
import Derived.Test.YtakaebjojgeehaaChipBanksK47
import Derived.Test.YtakaebjojgeehaaChipBanksK48
import Derived.Test.YtakaebjojgeehaaChipBanksK49
import Derived.Test.YtakaebjojgeehaaChipBanksK50
import Derived.Test.YtakaebjojgeehaaChipBanksK51
import Derived.Test.YtakaebjojgeehaaChipBanksK52
import Derived.Test.YtakaebjojgeehaaChipBanksK53
import Derived.Below
import Derived.BigQuiet
import Derived.ChangeMaps5
import Derived.Deep.AppendSrc
import Derived.Deep.DeepAppendWide
import Derived.Deep.DeepCutAuto
import Derived.Deep.Draws
import Derived.Deep.MidRow
import Derived.Deep.OwnRows
import Derived.Deep.QuietTactic
import Derived.Deep.RegionHeld3
import Derived.Deep.RegionWith
import Derived.Deep.Slices
import Derived.Deep.WholeRow
import Derived.Laws.CopyOwn
import Derived.Laws.OwnMore
import Derived.Lib.Bytealg
import Derived.Lib.Hide
import Derived.Lib.IndexAny
import Derived.Lib.SmallJoins
import Derived.Lib.Walk
import Derived.Maps.AppendAt
import Derived.OpenShut
import Derived.OrdersHeld
import Derived.OwnWalk
import Derived.RangeFuncBox
import Derived.RowKit3
import Derived.Shelf.Abstract
import Derived.StillTactics
import Derived.StillTail
import Derived.StillTailTactics
import Derived.Test.YtakaebjojgeehaaChecked
import Derived.WalkKit
namespace Go.Proofs.Ytakaebjojgeehaa
open Go.RowKit
set_option maxRecDepth 100000
set_option linter.unusedVariables false
def zer24 : List Int := List.replicate 24 0
/-- The bytes behind both writes. -/
def bk24 (a : Int) (at' : Int) (d : Int) : List Int := zer24.set (a * 8 + (at' - 1)).toNat (lo d 8)
theorem bk_len (a at' d : Int) : (bk24 a at' d).length = 24 := by unfold bk24; rw [List.length_set]; rfl
theorem zer24_bd : ∀ x ∈ zer24, 0 ≤ x ∧ x < 256 := fun x hx => by rw [List.eq_of_mem_replicate hx]; decide
theorem bk_bd (a at' d : Int) : ∀ x ∈ bk24 a at' d, 0 ≤ x ∧ x < 256 := fun x hx => by
  rcases List.mem_or_eq_of_mem_set hx with h | rfl
  · exact zer24_bd x h
  · exact ⟨lo_nonneg _ _, lo_lt _ _⟩
theorem mwin9 : mwin 9 = 8 := by decide
theorem mbank24 : mbank 24 (mwin 9) = 3 := by decide
theorem msize24 : memSize 2 9 24 = 24 := by decide
theorem lo3 {a : Int} (ha : 0 ≤ a ∧ a < 3) : lo a 8 % 3 = a := by
  have e : lo a 8 = a := lo_of ha.1 (by have := ha.2; show a < 256; omega)
  rw [e]; omega
theorem bank_of {a : Int} (ha : 0 ≤ a ∧ a < 3) : bankOf 2 9 24 [a] = a := by
  unfold bankOf
  rw [if_pos rfl, mbank24]
  show a % 3 = a
  omega
variable {da : Option Addr} {dc : Nat}
theorem bkNew_any (vd : Value) (w : World) (h : isByt w vd zer24) : Calls Try.prog 11 #[.agg #[.string ⟨#[97]⟩, .int .i64 2, .int .i64 0, .int .i64 9, vd]] w fun e w' => ∃ vx vm, e = .returned (.agg #[vx, vm]) ∧ isArg w' vx [0] ∧ isByt w' vm zer24 ∧ Below w.heap.size w w' := by
  refine (chNew_any ⟨#[97]⟩ 2 0 9 vd zer24 w h (by decide) (by decide)).mono ?_
  rintro e w' ⟨u, rfl, ⟨vx, vm, rfl, h1, h2⟩, hb⟩
  exact ⟨vx, vm, rfl, h1, h2, hb⟩
theorem wf_of {a : Int} (ha : 0 ≤ a ∧ a < 3) : ∀ x ∈ [a], (Lit.int .i64 x).wf = true := fun x hx => by
  rw [List.mem_singleton.1 hx]
  simp [Lit.wf, IntKind.min, IntKind.max, IntKind.signed, IntKind.bits]
  omega
/-- A bank is chosen. -/
theorem bkPick_any (vx vm : Value) (a0 a : Int) (m : List Int) (hml : m.length = 24) (hmb : ∀ x ∈ m, 0 ≤ x ∧ x < 256) (ha0 : 0 ≤ a0 ∧ a0 < 3) (ha : 0 ≤ a ∧ a < 3) (w : World) (h : isArg w vx [a0]) (hm : isByt w vm m) : Calls Try.prog 14 #[.agg #[.string ⟨#[97]⟩, .int .i64 2, .int .i64 0, .int .i64 9, .slice da 24 dc], .agg #[vx, vm], .int .i64 0, .int .i64 a] w fun e w' => ∃ vx vm, e = .returned (.agg #[vx, vm]) ∧ isArg w' vx [a] ∧ isByt w' vm m ∧ Below w.heap.size w w' := by
  refine (chWrite_any ⟨#[97]⟩ 2 0 9 da 24 dc vx vm [a0] m 0 a (by decide) w h hm (wf_of ha0) hmb (fun h => absurd h (by decide)) (by decide) (by decide)).mono ?_
  rintro e w' ⟨u, rfl, ⟨vx, vm, rfl, h1, h2⟩, hb⟩
  have e1 : wrNs 2 9 24 [a0] m 0 a = [a] := by
    rw [wrNs2, show memWb 2 9 24 (bankOf 2 9 24 [a0]) 0 a = a by unfold memWb; rw [if_pos ⟨rfl, rfl⟩, mbank24, lo3 ha]]
  have e2 : wrBs 2 9 24 [a0] m 0 a = m := by
    rw [wrBs_not 2 9 24 [a0] m 0 a (by decide), if_pos (by decide), bank_of ha0, msize24, pad_self hml]
    unfold memWm
    rw [if_pos (.inr (by rw [memAt_zero]; decide))]
  rw [e1] at h1
  rw [e2] at h2
  exact ⟨vx, vm, rfl, h1, h2, hb⟩
theorem bk_at {a at' : Int} (ha : 0 ≤ a ∧ a < 3) (hat : 1 ≤ at' ∧ at' ≤ 8) (n : Nat) : memAt 2 9 a n at' = a * 8 + (at' - 1) := by
  unfold memAt
  rw [if_pos rfl, mwin9, if_pos hat]
/-- A byte is written. -/
theorem bkPut_any (vx vm : Value) (a at' d : Int) (ha : 0 ≤ a ∧ a < 3) (hat : 1 ≤ at' ∧ at' ≤ 8) (w : World) (h : isArg w vx [a]) (hm : isByt w vm zer24) : Calls Try.prog 14 #[.agg #[.string ⟨#[97]⟩, .int .i64 2, .int .i64 0, .int .i64 9, .slice da 24 dc], .agg #[vx, vm], .int .i64 at', .int .i64 d] w fun e w' => ∃ vx vm, e = .returned (.agg #[vx, vm]) ∧ isArg w' vx [a] ∧ isByt w' vm (bk24 a at' d) ∧ Below w.heap.size w w' := by
  refine (chWrite_any ⟨#[97]⟩ 2 0 9 da 24 dc vx vm [a] zer24 at' d (by omega) w h hm (wf_of ha) zer24_bd (by decide) (by decide) (by decide)).mono ?_
  rintro e w' ⟨u, rfl, ⟨vx, vm, rfl, h1, h2⟩, hb⟩
  have e1 : wrNs 2 9 24 [a] zer24 at' d = [a] := by
    rw [wrNs2, show memWb 2 9 24 (bankOf 2 9 24 [a]) at' d = a by unfold memWb; rw [if_neg (by omega), bank_of ha]]
  have e2 : wrBs 2 9 24 [a] zer24 at' d = bk24 a at' d := by
    rw [wrBs_not 2 9 24 [a] zer24 at' d (by decide), if_pos (by decide), bank_of ha, msize24, pad_self (by decide)]
    unfold memWm bk24
    rw [bk_at ha hat, if_neg (by omega)]
  rw [e1] at h1
  rw [e2] at h2
  exact ⟨vx, vm, rfl, h1, h2, hb⟩
theorem bk_get {a b at' : Int} (d : Int) (ha : 0 ≤ a ∧ a < 3) (hb : 0 ≤ b ∧ b < 3) (hat : 1 ≤ at' ∧ at' ≤ 8) : (bk24 a at' d).getD (b * 8 + (at' - 1)).toNat 0 = if a = b then lo d 8 else 0 := by
  unfold bk24
  rw [List.getD_eq_getElem?_getD, List.getElem?_set]
  by_cases e : a = b
  · subst e
    rw [if_pos rfl, if_pos (by show (a * 8 + (at' - 1)).toNat < 24; omega), if_pos rfl]
    rfl
  · rw [if_neg (by omega), if_neg e]
    unfold zer24
    rw [List.getElem?_replicate, if_pos (by omega)]
    rfl
/-- What is read. -/
theorem bkRead_any (vx vm : Value) (a b at' d : Int) (ha : 0 ≤ a ∧ a < 3) (hb : 0 ≤ b ∧ b < 3) (hat : 1 ≤ at' ∧ at' ≤ 8) (w : World) (h : isArg w vx [b]) (hm : isByt w vm (bk24 a at' d)) : Calls Try.prog 15 #[.agg #[.string ⟨#[97]⟩, .int .i64 2, .int .i64 0, .int .i64 9, .slice da 24 dc], .agg #[vx, vm], .int .i64 at'] w fun e w' => ∃ vx vm, e = .returned (.tuple #[.agg #[vx, vm], .int .i64 (if a = b then lo d 8 else 0)]) ∧ vx.oneCell' = true ∧ vm.oneCell' = true ∧ Below w.heap.size w w' := by
  refine (chRead_any ⟨#[97]⟩ 2 0 9 da 24 dc vx vm [b] (bk24 a at' d) at' (by omega) w h hm (wf_of hb) (bk_bd a at' d) (fun h => absurd h (by decide)) (by decide) (by decide)).mono ?_
  rintro e w' ⟨u, rfl, ⟨vx, vm, rfl, h1, h2⟩, hb'⟩
  have e1 : rdVal 2 9 24 [b] (bk24 a at' d) at' = if a = b then lo d 8 else 0 := by
    rw [rdVal_not 2 9 24 [b] (bk24 a at' d) at' (by decide), if_pos (by decide), bank_of hb, msize24, pad_self (bk_len a at' d)]
    unfold memRd
    rw [if_neg (by omega), bk_at hb hat, if_pos (by omega), bk_get d ha hb hat]
  rw [e1]
  exact ⟨vx, vm, rfl, isArg_one h1, isByt_one h2, hb'⟩
theorem bkBank_any (vx vm : Value) (a b at' d : Int) (hb : 0 ≤ b ∧ b < 3) (w : World) (h : isArg w vx [b]) (hm : isByt w vm (bk24 a at' d)) : Calls Try.prog 15 #[.agg #[.string ⟨#[97]⟩, .int .i64 2, .int .i64 0, .int .i64 9, .slice da 24 dc], .agg #[vx, vm], .int .i64 0] w fun e w' => ∃ vx vm, e = .returned (.tuple #[.agg #[vx, vm], .int .i64 b]) ∧ vx.oneCell' = true ∧ vm.oneCell' = true ∧ Below w.heap.size w w' := by
  refine (chRead_any ⟨#[97]⟩ 2 0 9 da 24 dc vx vm [b] (bk24 a at' d) 0 (by decide) w h hm (wf_of hb) (bk_bd a at' d) (fun h => absurd h (by decide)) (by decide) (by decide)).mono ?_
  rintro e w' ⟨u, rfl, ⟨vx, vm, rfl, h1, h2⟩, hb'⟩
  have e1 : rdVal 2 9 24 [b] (bk24 a at' d) 0 = b := by
    rw [rdVal_not 2 9 24 [b] (bk24 a at' d) 0 (by decide), if_pos (by decide), bank_of hb]
    unfold memRd
    rw [if_pos ⟨rfl, rfl⟩]
  rw [e1]
  exact ⟨vx, vm, rfl, isArg_one h1, isByt_one h2, hb'⟩
theorem bkBanks_any (w : World) : Calls Try.prog 9 #[.agg #[.string ⟨#[97]⟩, .int .i64 2, .int .i64 0, .int .i64 9, .slice da 24 dc]] w fun e w' => e = .returned (.int .i64 3) ∧ Below w.heap.size w w' := by
  have := chBanks_any ⟨#[97]⟩ 2 0 9 da 24 dc w (by decide) (by decide)
  rw [mbank24] at this
  exact this
/-- A box with a state that reads as numbers and bytes. -/
def boxN (w : World) (B : Nat) (ns m : List Int) : Prop := ∃ vx vm, rowB w B 34 #[vx, vm] ∧ isArg w vx ns ∧ isByt w vm m
theorem boxN.below {w w' : World} {B : Nat} {ns m : List Int} (h : boxN w B ns m) (hb : Below w.heap.size w w') : boxN w' B ns m := by
  obtain ⟨vx, vm, h0, h1, h2⟩ := h
  exact ⟨vx, vm, rowB_below h0 hb (rowB_lt h0), isArg_below h1 hb (Nat.le_refl _), isByt_below h2 hb (Nat.le_refl _)⟩
theorem boxN.store {w : World} {B : Nat} {ns m ns' m' : List Int} {vx vm : Value} (h : boxN w B ns m) (h1 : isArg w vx ns') (h2 : isByt w vm m') : boxN (w.setRow B #[vx, vm]) B ns' m' := by
  obtain ⟨ux, um, h0, k1, k2⟩ := h
  exact ⟨vx, vm, rowB_row h0 _, isArg_box h0 (isArg_no k1 _) (isByt_no k2 _) h1 _, isByt_box h0 (isArg_no k1 _) (isByt_no k2 _) h2 _⟩
set_option maxHeartbeats 4000000 in
theorem chipBanks_walk (d at' a b : Int) (w : World) (hat : -9223372036854775808 ≤ at' ∧ at' ≤ 9223372036854775807) (ha : -9223372036854775808 ≤ a ∧ a ≤ 9223372036854775807) (hb : -9223372036854775808 ≤ b ∧ b ≤ 9223372036854775807) :
    Calls Try.prog 4 #[.int .i64 d, .int .i64 at', .int .i64 a, .int .i64 b] w fun e w' => e = .returned (.bool true) ∧ Below w.heap.size w w' := by
  obtain ⟨A, hA⟩ : ∃ A, a % 3 = A := ⟨_, rfl⟩
  obtain ⟨B, hB⟩ : ∃ B, b % 3 = B := ⟨_, rfl⟩
  obtain ⟨T, hT⟩ : ∃ T, at' % 8 = T := ⟨_, rfl⟩
  have hA3 : 0 ≤ A ∧ A < 3 := by omega
  have hB3 : 0 ≤ B ∧ B < 3 := by omega
  have hT8 : 0 ≤ T ∧ T < 8 := by omega
  have cA := fun w => below_any a 3 ha (by decide) w
  have cB := fun w => below_any b 3 hb (by decide) w
  have cT := fun w => below_any at' 8 hat (by decide) w
  simp only [hA] at cA
  simp only [hB] at cB
  simp only [hT] at cT
  obtain ⟨Y, hY⟩ : ∃ Y, 1 + T = Y := ⟨_, rfl⟩
  have hY8 : 1 ≤ Y ∧ Y ≤ 8 := by omega
  have wY : wrap64 (1 + T) = Y := (IntWalk.wrap64_in _ (by omega)).trans hY
  have hlow := fun w => low_any d 8 w
  rw [show wd 8 = 8 from rfl] at hlow
  clear hA hB hT hat ha hb hY
  obtain ⟨ii, i1, i2, i3, i4⟩ := infoBt
  have hZ : madeCells #[.int .u8 0] 24 = byts zer24 := made_byts 24
  have HZ := Lib.hid hZ
  clear hZ
  have b0 := (Below.refl w.heap.size w).alloc (Nat.le_refl _) (.cells (byts zer24) 5)
  have n0 := rowB_new w 5 (byts zer24)
  have bW := b0.alloc b0.size (.cells #[.string ⟨#[97]⟩, .int .i64 2, .int .i64 0, .int .i64 9, .slice (some ⟨w.heap.size, 0, none⟩) 24 24] 24)
  have k0 := rowB_new (w.alloc (.cells (byts zer24) 5)) 24 #[.string ⟨#[97]⟩, .int .i64 2, .int .i64 0, .int .i64 9, .slice (some ⟨w.heap.size, 0, none⟩) 24 24]
  rw [World.size_alloc] at k0
  have n1 := rowB_alloc n0 (.cells #[.string ⟨#[97]⟩, .int .i64 2, .int .i64 0, .int .i64 9, .slice (some ⟨w.heap.size, 0, none⟩) 24 24] 24)
  have hM : isByt ((w.alloc (.cells (byts zer24) 5)).alloc (.cells #[.string ⟨#[97]⟩, .int .i64 2, .int .i64 0, .int .i64 9, .slice (some ⟨w.heap.size, 0, none⟩) 24 24] 24)) (.slice (some ⟨w.heap.size, 0, none⟩) 24 24) zer24 := bytB_arg n1 (by decide)
  go_enter Try.func4, Try.ntmps4
  go_upto_region 2 with (at_make; refine wpList_make_row _ rfl _ _ _ rfl 5 ii (.int .u8 0) Try.underlying22 i1 i2 i3 rfl _ _ 24 rfl rfl (by rw [i4]; omega) (by omega) ?_; rw [HZ.out])
  change Code.wp _ _ _ _ ((w.alloc (.cells (byts zer24) 5)).alloc (.cells #[.string ⟨#[97]⟩, .int .i64 2, .int .i64 0, .int .i64 9, .slice (some ⟨w.heap.size, 0, none⟩) 24 24] 24))
  clear b0 n0 n1
  generalize (w.alloc (.cells (byts zer24) 5)).alloc (.cells #[.string ⟨#[97]⟩, .int .i64 2, .int .i64 0, .int .i64 9, .slice (some ⟨w.heap.size, 0, none⟩) 24 24] 24) = w1 at *
  have l1 := rowB_lt k0
  go_upto_region 4 with (first
    | (go_at_call_of 13 (Value.int .i64 at'); refine (cT _).mono ?_; rintro e w' ⟨rfl, rfl⟩)
    | (go_at_call_of 13 (Value.int .i64 a); refine (cA _).mono ?_; rintro e w' ⟨rfl, rfl⟩)
    | (go_at_call_of 13 (Value.int .i64 b); refine (cB _).mono ?_; rintro e w' ⟨rfl, rfl⟩))
  refine wp_region_treeN (fun w' => Below w1.heap.size w1 w') [0, 1, 3] [2, 4, 5, 6] (.rd 0 (.rd 1 (.rd 3 (.two 2 (.two 4 (.one 5 (.one 6 (.mix []))) 5 (.one 4 (.one 6 (.mix [])))) 5 (.one 2 (.one 4 (.one 6 (.mix [])))))))) (by kernel_rfl) (by kernel_rfl) (fun _ _ _ _ _ h => h) ?_
  simp only [Tr.put, List.map_nil, opOf, List.getD_cons_zero, List.getD_cons_succ]
  change wpTr _ _ _ _ _ _ w1.drew
  have hS := (Below.refl w1.heap.size w1).drew
  generalize w1.drew = u0 at *
  refine wpTr_held (.agg #[.string ⟨#[97]⟩, .int .i64 2, .int .i64 0, .int .i64 9, .slice (some ⟨w.heap.size, 0, none⟩) 24 24]) rfl hS (fun w' hw' => exec_rowR 24 _ rfl (w.heap.size + 1) rfl 24 #[.string ⟨#[97]⟩, .int .i64 2, .int .i64 0, .int .i64 9, .slice (some ⟨w.heap.size, 0, none⟩) 24 24] (rowB_below k0 hw' (rowB_lt k0)) agCh) ?_
  simp only [Act.put, List.setIfInBounds_toArray, List.set_cons_zero, List.set_cons_succ]
  refine wpTr_held (.agg #[.string ⟨#[97]⟩, .int .i64 2, .int .i64 0, .int .i64 9, .slice (some ⟨w.heap.size, 0, none⟩) 24 24]) rfl hS (fun w' hw' => exec_rowR 24 _ rfl (w.heap.size + 1) rfl 24 #[.string ⟨#[97]⟩, .int .i64 2, .int .i64 0, .int .i64 9, .slice (some ⟨w.heap.size, 0, none⟩) 24 24] (rowB_below k0 hw' (rowB_lt k0)) agCh) ?_
  simp only [Act.put, List.setIfInBounds_toArray, List.set_cons_zero, List.set_cons_succ]
  refine wpTr_held (.int .i64 A) rfl hS (fun w' hw' => by go_simp) ?_
  simp only [Act.put, List.setIfInBounds_toArray, List.set_cons_zero, List.set_cons_succ]
  refine wpTr_two ?_ ?_
  · go_wp2_with (go_at_call 11; refine (bkNew_any _ _ (isByt_below hM hS (Nat.le_refl _))).mono ?_; rintro e u0_2 ⟨vA, mA, rfl, hvA, hMA, hbb⟩)
    replace hS := hS.trans (hbb.mono hS.size)
    try replace nP := rowB_below nP hbb (rowB_lt nP)
    first | refine ⟨hS, ?_⟩ | refine ⟨fun _ => hS, ?_⟩
    refine wpTr_two ?_ ?_
    · go_wp2_with (go_at_call 14; refine (bkPick_any _ _ 0 A zer24 (by decide) zer24_bd (by decide) hA3 _ hvA hMA).mono ?_; rintro e u0_2_4 ⟨vB, mB, rfl, hvB, hMB, hbb⟩)
      replace hS := hS.trans (hbb.mono hS.size)
      try replace nP := rowB_below nP hbb (rowB_lt nP)
      first | refine ⟨hS, ?_⟩ | refine ⟨fun _ => hS, ?_⟩
      refine wpTr_one ?_
      go_wp2_with fail
      have hpS := hS.size
      have nP := rowB_new u0_2_4 34 #[.slice none 0 0, .slice none 0 0]
      have hbb : Below u0_2_4.heap.size u0_2_4 (u0_2_4.alloc (.cells #[.slice none 0 0, .slice none 0 0] 34)) := (Below.refl _ _).alloc (Nat.le_refl _) _
      replace hS := hS.trans (hbb.mono hS.size)
      try replace hvA := isArg_below hvA hbb (Nat.le_refl _)
      try replace hMA := isByt_below hMA hbb (Nat.le_refl _)
      try replace hvB := isArg_below hvB hbb (Nat.le_refl _)
      try replace hMB := isByt_below hMB hbb (Nat.le_refl _)
      generalize u0_2_4.alloc (.cells #[.slice none 0 0, .slice none 0 0] 34) = u0_2_4_5 at *
      clear hbb
      generalize u0_2_4.heap.size = p at *
      first | refine ⟨hS, ?_⟩ | refine ⟨fun _ => hS, ?_⟩
      refine wpTr_one ?_
      go_wp2_with (refine wpList_storeR rfl 34 _ _ rfl p rfl #[vB, mB] rfl (two_one (isArg_one hvB) (isByt_one hMB)) 34 #[.slice none 0 0, .slice none 0 0] rfl ?_ agDv ?_; with_reducible exact nP)
      have hd : boxN (u0_2_4_5.setRow p #[vB, mB]) p [A] zer24 := boxN.store ⟨_, _, nP, isArg_none _, isByt_none _⟩ hvB hMB
      replace hS := below_rowR hS #[vB, mB] hpS
      generalize u0_2_4_5.setRow p #[vB, mB] = u0_2_4_5_6 at *
      first | refine ⟨hS, ?_⟩ | refine ⟨fun _ => hS, ?_⟩
      refine wpTr_mix ?_
      refine wpMix_nil ?_
      clear hbb hvB hMB hM nP
      have kC := rowB_below k0 hS (rowB_lt k0)
      obtain ⟨xv, xm, rD, x1, x2⟩ := hd
      have lD := rowB_lt rD
      go_upto_region 6 with (first
        | (refine wpList_loadR rfl 24 _ rfl (w.heap.size + 1) rfl 24 #[.string ⟨#[97]⟩, .int .i64 2, .int .i64 0, .int .i64 9, .slice (some ⟨w.heap.size, 0, none⟩) 24 24] ?_ agCh ?_; with_reducible exact kC)
        | (refine wpList_loadR rfl 34 _ rfl p rfl 34 #[xv, xm] ?_ agDv ?_; with_reducible exact rD)
        | (go_at_call 14; refine (bkPut_any xv xm A (1 + T) d hA3 (by omega) _ x1 x2).mono ?_; rintro e vv ⟨yv, ym, rfl, y1, y2, hbb⟩; have rE := rowB_below rD hbb lD)
        | (refine wpList_storeR rfl 34 _ _ rfl p rfl #[yv, ym] rfl (two_one (isArg_one y1) (isByt_one y2)) 34 #[xv, xm] rfl ?_ agDv ?_; with_reducible exact rE))
      have hd := boxN.store ⟨_, _, rE, isArg_below x1 hbb (Nat.le_refl _), isByt_below x2 hbb (Nat.le_refl _)⟩ y1 y2
      replace hS := below_rowR (hS.trans (hbb.mono hS.size)) #[yv, ym] hpS
      change Code.wp _ _ _ _ (vv.setRow p #[yv, ym])
      generalize vv.setRow p #[yv, ym] = vw6 at *
      clear rE y1 y2 x1 x2 rD hbb kC lD
      have kC := rowB_below k0 hS (rowB_lt k0)
      obtain ⟨xv, xm, rD, x1, x2⟩ := hd
      have lD := rowB_lt rD
      go_upto_region 7 with (first
        | (refine wpList_loadR rfl 24 _ rfl (w.heap.size + 1) rfl 24 #[.string ⟨#[97]⟩, .int .i64 2, .int .i64 0, .int .i64 9, .slice (some ⟨w.heap.size, 0, none⟩) 24 24] ?_ agCh ?_; with_reducible exact kC)
        | (refine wpList_loadR rfl 34 _ rfl p rfl 34 #[xv, xm] ?_ agDv ?_; with_reducible exact rD)
        | (go_at_call 14; refine (bkPick_any xv xm A B (bk24 A (1 + T) d) (bk_len _ _ _) (bk_bd _ _ _) hA3 hB3 _ x1 x2).mono ?_; rintro e vv ⟨yv, ym, rfl, y1, y2, hbb⟩; have rE := rowB_below rD hbb lD)
        | (refine wpList_storeR rfl 34 _ _ rfl p rfl #[yv, ym] rfl (two_one (isArg_one y1) (isByt_one y2)) 34 #[xv, xm] rfl ?_ agDv ?_; with_reducible exact rE))
      have hd := boxN.store ⟨_, _, rE, isArg_below x1 hbb (Nat.le_refl _), isByt_below x2 hbb (Nat.le_refl _)⟩ y1 y2
      replace hS := below_rowR (hS.trans (hbb.mono hS.size)) #[yv, ym] hpS
      change Code.wp _ _ _ _ (vv.setRow p #[yv, ym])
      generalize vv.setRow p #[yv, ym] = vw7 at *
      clear rE y1 y2 x1 x2 rD hbb kC lD
      obtain ⟨R, hR⟩ : ∃ R, (if A = B then lo d 8 else 0) = R := ⟨_, rfl⟩
      have HR := Lib.hid hR
      clear hR
      have kC := rowB_below k0 hS (rowB_lt k0)
      obtain ⟨xv, xm, rD, x1, x2⟩ := hd
      have lD := rowB_lt rD
      go_upto_region 8 with (first
        | (refine wpList_loadR rfl 24 _ rfl (w.heap.size + 1) rfl 24 #[.string ⟨#[97]⟩, .int .i64 2, .int .i64 0, .int .i64 9, .slice (some ⟨w.heap.size, 0, none⟩) 24 24] ?_ agCh ?_; with_reducible exact kC)
        | (refine wpList_loadR rfl 34 _ rfl p rfl 34 #[xv, xm] ?_ agDv ?_; with_reducible exact rD)
        | (go_at_call 15; refine (bkRead_any xv xm A B (1 + T) d hA3 hB3 (by omega) _ x1 x2).mono ?_; rintro e v7 ⟨yv, ym, rfl, o1, o2, hb7⟩; rw [HR.out]; have nQ := rowB_new v7 34 #[.slice none 0 0, .slice none 0 0])
        | (refine wpList_storeR rfl 34 _ _ rfl v7.heap.size rfl #[yv, ym] rfl (two_one o1 o2) 34 #[.slice none 0 0, .slice none 0 0] rfl ?_ agDv ?_; with_reducible exact nQ))
      have hS7 := hS.trans (hb7.mono hS.size)
      have hS8 := below_rowR (hS7.alloc hS7.size (.cells #[.slice none 0 0, .slice none 0 0] 34)) #[yv, ym] hS7.size
      have hN := (Below.refl v7.heap.size v7).alloc (Nat.le_refl _) (.cells #[.slice none 0 0, .slice none 0 0] 34)
      have hN2 := below_rowR hN #[yv, ym] (Nat.le_refl _)
      have bD : boxN v7 p [B] (bk24 A (1 + T) d) := boxN.below ⟨_, _, rD, x1, x2⟩ hb7
      have hd8 := bD.below hN2
      change Code.wp _ _ _ _ ((v7.alloc (.cells #[.slice none 0 0, .slice none 0 0] 34)).setRow v7.heap.size #[yv, ym])
      generalize (v7.alloc (.cells #[.slice none 0 0, .slice none 0 0] 34)).setRow v7.heap.size #[yv, ym] = v8 at *
      clear nQ hN hN2 bD rD x1 x2 hb7 hS hS7 o1 o2 kC lD
      have kC := rowB_below k0 hS8 (rowB_lt k0)
      obtain ⟨xv, xm, rD, x1, x2⟩ := hd8
      go_upto_region 9 with (first
        | (refine wpList_loadR rfl 24 _ rfl (w.heap.size + 1) rfl 24 #[.string ⟨#[97]⟩, .int .i64 2, .int .i64 0, .int .i64 9, .slice (some ⟨w.heap.size, 0, none⟩) 24 24] ?_ agCh ?_; with_reducible exact kC)
        | (refine wpList_loadR rfl 34 _ rfl p rfl 34 #[xv, xm] ?_ agDv ?_; with_reducible exact rD)
        | (go_at_call 15; refine (bkBank_any xv xm A B (1 + T) d hB3 _ x1 x2).mono ?_; rintro e v9 ⟨yv, ym, rfl, o1, o2, hb9⟩; have nQ := rowB_new v9 34 #[.slice none 0 0, .slice none 0 0])
        | (refine wpList_storeR rfl 34 _ _ rfl v9.heap.size rfl #[yv, ym] rfl (two_one o1 o2) 34 #[.slice none 0 0, .slice none 0 0] rfl ?_ agDv ?_; with_reducible exact nQ))
      have hS9 := hS8.trans (hb9.mono hS8.size)
      have hS := below_rowR (hS9.alloc hS9.size (.cells #[.slice none 0 0, .slice none 0 0] 34)) #[yv, ym] hS9.size
      change Code.wp _ _ _ _ ((v9.alloc (.cells #[.slice none 0 0, .slice none 0 0] 34)).setRow v9.heap.size #[yv, ym])
      generalize (v9.alloc (.cells #[.slice none 0 0, .slice none 0 0] 34)).setRow v9.heap.size #[yv, ym] = va at *
      clear nQ rD x1 x2 hb9 hS8 hS9 o1 o2 kC
      have kC := rowB_below k0 hS (rowB_lt k0)
      have bZ := bW.trans (hS.mono bW.size)
      by_cases hAB : A = B
      · have hR2 : lo d 8 = R := by have := HR.out; rwa [if_pos hAB] at this
        simp only [hR2] at hlow
        have qAB : (A == B) = true := by simpa using hAB
        have HAB := Lib.hid hAB
        clear hAB hR2
        go_wp2_with (first
          | (go_at_call 16; refine (hlow _).mono ?_; rintro e w' ⟨rfl, rfl⟩)
          | (go_at_call 17; refine (chipsK_any _).mono ?_; rintro e vb ⟨rfl, hbb⟩; have kD := rowB_below kC hbb (rowB_lt kC); have bY := bZ.trans (hbb.mono bZ.size))
          | (refine wpList_loadRg rfl 24 _ rfl (w.heap.size + 1) rfl 24 #[.string ⟨#[97]⟩, .int .i64 2, .int .i64 0, .int .i64 9, .slice (some ⟨w.heap.size, 0, none⟩) 24 24] ?_ agCh ?_; with_reducible exact kD)
          | (go_at_call 9; refine (bkBanks_any _).mono ?_; rintro e vc ⟨rfl, hbc⟩; have bX := bY.trans (hbc.mono bY.size)))
        go_ret
        exact ⟨rfl, bX⟩
      · have hR2 : R = 0 := by have := HR.out; rw [if_neg hAB] at this; exact this.symm
        subst hR2
        have qAB : (A == B) = false := by simpa using hAB
        clear hAB
        go_wp2_with (first
          | (go_at_call 17; refine (chipsK_any _).mono ?_; rintro e vb ⟨rfl, hbb⟩; have kD := rowB_below kC hbb (rowB_lt kC); have bY := bZ.trans (hbb.mono bZ.size))
          | (refine wpList_loadRg rfl 24 _ rfl (w.heap.size + 1) rfl 24 #[.string ⟨#[97]⟩, .int .i64 2, .int .i64 0, .int .i64 9, .slice (some ⟨w.heap.size, 0, none⟩) 24 24] ?_ agCh ?_; with_reducible exact kD)
          | (go_at_call 9; refine (bkBanks_any _).mono ?_; rintro e vc ⟨rfl, hbc⟩; have bX := bY.trans (hbc.mono bY.size)))
        go_ret
        exact ⟨rfl, bX⟩
    · go_wp2_with fail
      have hpS := hS.size
      have nP := rowB_new u0_2 34 #[.slice none 0 0, .slice none 0 0]
      have hbb : Below u0_2.heap.size u0_2 (u0_2.alloc (.cells #[.slice none 0 0, .slice none 0 0] 34)) := (Below.refl _ _).alloc (Nat.le_refl _) _
      replace hS := hS.trans (hbb.mono hS.size)
      try replace hvA := isArg_below hvA hbb (Nat.le_refl _)
      try replace hMA := isByt_below hMA hbb (Nat.le_refl _)
      try replace hvB := isArg_below hvB hbb (Nat.le_refl _)
      try replace hMB := isByt_below hMB hbb (Nat.le_refl _)
      generalize u0_2.alloc (.cells #[.slice none 0 0, .slice none 0 0] 34) = u0_2_5 at *
      clear hbb
      generalize u0_2.heap.size = p at *
      first | refine ⟨hS, ?_⟩ | refine ⟨fun _ => hS, ?_⟩
      refine wpTr_one ?_
      go_wp2_with (go_at_call 14; refine (bkPick_any _ _ 0 A zer24 (by decide) zer24_bd (by decide) hA3 _ hvA hMA).mono ?_; rintro e u0_2_5_4 ⟨vB, mB, rfl, hvB, hMB, hbb⟩)
      replace hS := hS.trans (hbb.mono hS.size)
      try replace nP := rowB_below nP hbb (rowB_lt nP)
      first | refine ⟨hS, ?_⟩ | refine ⟨fun _ => hS, ?_⟩
      refine wpTr_one ?_
      go_wp2_with (refine wpList_storeR rfl 34 _ _ rfl p rfl #[vB, mB] rfl (two_one (isArg_one hvB) (isByt_one hMB)) 34 #[.slice none 0 0, .slice none 0 0] rfl ?_ agDv ?_; with_reducible exact nP)
      have hd : boxN (u0_2_5_4.setRow p #[vB, mB]) p [A] zer24 := boxN.store ⟨_, _, nP, isArg_none _, isByt_none _⟩ hvB hMB
      replace hS := below_rowR hS #[vB, mB] hpS
      generalize u0_2_5_4.setRow p #[vB, mB] = u0_2_5_4_6 at *
      first | refine ⟨hS, ?_⟩ | refine ⟨fun _ => hS, ?_⟩
      refine wpTr_mix ?_
      refine wpMix_nil ?_
      clear hbb hvB hMB hM nP
      have kC := rowB_below k0 hS (rowB_lt k0)
      obtain ⟨xv, xm, rD, x1, x2⟩ := hd
      have lD := rowB_lt rD
      go_upto_region 6 with (first
        | (refine wpList_loadR rfl 24 _ rfl (w.heap.size + 1) rfl 24 #[.string ⟨#[97]⟩, .int .i64 2, .int .i64 0, .int .i64 9, .slice (some ⟨w.heap.size, 0, none⟩) 24 24] ?_ agCh ?_; with_reducible exact kC)
        | (refine wpList_loadR rfl 34 _ rfl p rfl 34 #[xv, xm] ?_ agDv ?_; with_reducible exact rD)
        | (go_at_call 14; refine (bkPut_any xv xm A (1 + T) d hA3 (by omega) _ x1 x2).mono ?_; rintro e vv ⟨yv, ym, rfl, y1, y2, hbb⟩; have rE := rowB_below rD hbb lD)
        | (refine wpList_storeR rfl 34 _ _ rfl p rfl #[yv, ym] rfl (two_one (isArg_one y1) (isByt_one y2)) 34 #[xv, xm] rfl ?_ agDv ?_; with_reducible exact rE))
      have hd := boxN.store ⟨_, _, rE, isArg_below x1 hbb (Nat.le_refl _), isByt_below x2 hbb (Nat.le_refl _)⟩ y1 y2
      replace hS := below_rowR (hS.trans (hbb.mono hS.size)) #[yv, ym] hpS
      change Code.wp _ _ _ _ (vv.setRow p #[yv, ym])
      generalize vv.setRow p #[yv, ym] = vw6 at *
      clear rE y1 y2 x1 x2 rD hbb kC lD
      have kC := rowB_below k0 hS (rowB_lt k0)
      obtain ⟨xv, xm, rD, x1, x2⟩ := hd
      have lD := rowB_lt rD
      go_upto_region 7 with (first
        | (refine wpList_loadR rfl 24 _ rfl (w.heap.size + 1) rfl 24 #[.string ⟨#[97]⟩, .int .i64 2, .int .i64 0, .int .i64 9, .slice (some ⟨w.heap.size, 0, none⟩) 24 24] ?_ agCh ?_; with_reducible exact kC)
        | (refine wpList_loadR rfl 34 _ rfl p rfl 34 #[xv, xm] ?_ agDv ?_; with_reducible exact rD)
        | (go_at_call 14; refine (bkPick_any xv xm A B (bk24 A (1 + T) d) (bk_len _ _ _) (bk_bd _ _ _) hA3 hB3 _ x1 x2).mono ?_; rintro e vv ⟨yv, ym, rfl, y1, y2, hbb⟩; have rE := rowB_below rD hbb lD)
        | (refine wpList_storeR rfl 34 _ _ rfl p rfl #[yv, ym] rfl (two_one (isArg_one y1) (isByt_one y2)) 34 #[xv, xm] rfl ?_ agDv ?_; with_reducible exact rE))
      have hd := boxN.store ⟨_, _, rE, isArg_below x1 hbb (Nat.le_refl _), isByt_below x2 hbb (Nat.le_refl _)⟩ y1 y2
      replace hS := below_rowR (hS.trans (hbb.mono hS.size)) #[yv, ym] hpS
      change Code.wp _ _ _ _ (vv.setRow p #[yv, ym])
      generalize vv.setRow p #[yv, ym] = vw7 at *
      clear rE y1 y2 x1 x2 rD hbb kC lD
      obtain ⟨R, hR⟩ : ∃ R, (if A = B then lo d 8 else 0) = R := ⟨_, rfl⟩
      have HR := Lib.hid hR
      clear hR
      have kC := rowB_below k0 hS (rowB_lt k0)
      obtain ⟨xv, xm, rD, x1, x2⟩ := hd
      have lD := rowB_lt rD
      go_upto_region 8 with (first
        | (refine wpList_loadR rfl 24 _ rfl (w.heap.size + 1) rfl 24 #[.string ⟨#[97]⟩, .int .i64 2, .int .i64 0, .int .i64 9, .slice (some ⟨w.heap.size, 0, none⟩) 24 24] ?_ agCh ?_; with_reducible exact kC)
        | (refine wpList_loadR rfl 34 _ rfl p rfl 34 #[xv, xm] ?_ agDv ?_; with_reducible exact rD)
        | (go_at_call 15; refine (bkRead_any xv xm A B (1 + T) d hA3 hB3 (by omega) _ x1 x2).mono ?_; rintro e v7 ⟨yv, ym, rfl, o1, o2, hb7⟩; rw [HR.out]; have nQ := rowB_new v7 34 #[.slice none 0 0, .slice none 0 0])
        | (refine wpList_storeR rfl 34 _ _ rfl v7.heap.size rfl #[yv, ym] rfl (two_one o1 o2) 34 #[.slice none 0 0, .slice none 0 0] rfl ?_ agDv ?_; with_reducible exact nQ))
      have hS7 := hS.trans (hb7.mono hS.size)
      have hS8 := below_rowR (hS7.alloc hS7.size (.cells #[.slice none 0 0, .slice none 0 0] 34)) #[yv, ym] hS7.size
      have hN := (Below.refl v7.heap.size v7).alloc (Nat.le_refl _) (.cells #[.slice none 0 0, .slice none 0 0] 34)
      have hN2 := below_rowR hN #[yv, ym] (Nat.le_refl _)
      have bD : boxN v7 p [B] (bk24 A (1 + T) d) := boxN.below ⟨_, _, rD, x1, x2⟩ hb7
      have hd8 := bD.below hN2
      change Code.wp _ _ _ _ ((v7.alloc (.cells #[.slice none 0 0, .slice none 0 0] 34)).setRow v7.heap.size #[yv, ym])
      generalize (v7.alloc (.cells #[.slice none 0 0, .slice none 0 0] 34)).setRow v7.heap.size #[yv, ym] = v8 at *
      clear nQ hN hN2 bD rD x1 x2 hb7 hS hS7 o1 o2 kC lD
      have kC := rowB_below k0 hS8 (rowB_lt k0)
      obtain ⟨xv, xm, rD, x1, x2⟩ := hd8
      go_upto_region 9 with (first
        | (refine wpList_loadR rfl 24 _ rfl (w.heap.size + 1) rfl 24 #[.string ⟨#[97]⟩, .int .i64 2, .int .i64 0, .int .i64 9, .slice (some ⟨w.heap.size, 0, none⟩) 24 24] ?_ agCh ?_; with_reducible exact kC)
        | (refine wpList_loadR rfl 34 _ rfl p rfl 34 #[xv, xm] ?_ agDv ?_; with_reducible exact rD)
        | (go_at_call 15; refine (bkBank_any xv xm A B (1 + T) d hB3 _ x1 x2).mono ?_; rintro e v9 ⟨yv, ym, rfl, o1, o2, hb9⟩; have nQ := rowB_new v9 34 #[.slice none 0 0, .slice none 0 0])
        | (refine wpList_storeR rfl 34 _ _ rfl v9.heap.size rfl #[yv, ym] rfl (two_one o1 o2) 34 #[.slice none 0 0, .slice none 0 0] rfl ?_ agDv ?_; with_reducible exact nQ))
      have hS9 := hS8.trans (hb9.mono hS8.size)
      have hS := below_rowR (hS9.alloc hS9.size (.cells #[.slice none 0 0, .slice none 0 0] 34)) #[yv, ym] hS9.size
      change Code.wp _ _ _ _ ((v9.alloc (.cells #[.slice none 0 0, .slice none 0 0] 34)).setRow v9.heap.size #[yv, ym])
      generalize (v9.alloc (.cells #[.slice none 0 0, .slice none 0 0] 34)).setRow v9.heap.size #[yv, ym] = va at *
      clear nQ rD x1 x2 hb9 hS8 hS9 o1 o2 kC
      have kC := rowB_below k0 hS (rowB_lt k0)
      have bZ := bW.trans (hS.mono bW.size)
      by_cases hAB : A = B
      · have hR2 : lo d 8 = R := by have := HR.out; rwa [if_pos hAB] at this
        simp only [hR2] at hlow
        have qAB : (A == B) = true := by simpa using hAB
        have HAB := Lib.hid hAB
        clear hAB hR2
        go_wp2_with (first
          | (go_at_call 16; refine (hlow _).mono ?_; rintro e w' ⟨rfl, rfl⟩)
          | (go_at_call 17; refine (chipsK_any _).mono ?_; rintro e vb ⟨rfl, hbb⟩; have kD := rowB_below kC hbb (rowB_lt kC); have bY := bZ.trans (hbb.mono bZ.size))
          | (refine wpList_loadRg rfl 24 _ rfl (w.heap.size + 1) rfl 24 #[.string ⟨#[97]⟩, .int .i64 2, .int .i64 0, .int .i64 9, .slice (some ⟨w.heap.size, 0, none⟩) 24 24] ?_ agCh ?_; with_reducible exact kD)
          | (go_at_call 9; refine (bkBanks_any _).mono ?_; rintro e vc ⟨rfl, hbc⟩; have bX := bY.trans (hbc.mono bY.size)))
        go_ret
        exact ⟨rfl, bX⟩
      · have hR2 : R = 0 := by have := HR.out; rw [if_neg hAB] at this; exact this.symm
        subst hR2
        have qAB : (A == B) = false := by simpa using hAB
        clear hAB
        go_wp2_with (first
          | (go_at_call 17; refine (chipsK_any _).mono ?_; rintro e vb ⟨rfl, hbb⟩; have kD := rowB_below kC hbb (rowB_lt kC); have bY := bZ.trans (hbb.mono bZ.size))
          | (refine wpList_loadRg rfl 24 _ rfl (w.heap.size + 1) rfl 24 #[.string ⟨#[97]⟩, .int .i64 2, .int .i64 0, .int .i64 9, .slice (some ⟨w.heap.size, 0, none⟩) 24 24] ?_ agCh ?_; with_reducible exact kD)
          | (go_at_call 9; refine (bkBanks_any _).mono ?_; rintro e vc ⟨rfl, hbc⟩; have bX := bY.trans (hbc.mono bY.size)))
        go_ret
        exact ⟨rfl, bX⟩
  · go_wp2_with fail
    have hpS := hS.size
    have nP := rowB_new u0 34 #[.slice none 0 0, .slice none 0 0]
    have hbb : Below u0.heap.size u0 (u0.alloc (.cells #[.slice none 0 0, .slice none 0 0] 34)) := (Below.refl _ _).alloc (Nat.le_refl _) _
    replace hS := hS.trans (hbb.mono hS.size)
    try replace hvA := isArg_below hvA hbb (Nat.le_refl _)
    try replace hMA := isByt_below hMA hbb (Nat.le_refl _)
    try replace hvB := isArg_below hvB hbb (Nat.le_refl _)
    try replace hMB := isByt_below hMB hbb (Nat.le_refl _)
    generalize u0.alloc (.cells #[.slice none 0 0, .slice none 0 0] 34) = u0_5 at *
    clear hbb
    generalize u0.heap.size = p at *
    first | refine ⟨hS, ?_⟩ | refine ⟨fun _ => hS, ?_⟩
    refine wpTr_one ?_
    go_wp2_with (go_at_call 11; refine (bkNew_any _ _ (isByt_below hM hS (Nat.le_refl _))).mono ?_; rintro e u0_5_2 ⟨vA, mA, rfl, hvA, hMA, hbb⟩)
    replace hS := hS.trans (hbb.mono hS.size)
    try replace nP := rowB_below nP hbb (rowB_lt nP)
    first | refine ⟨hS, ?_⟩ | refine ⟨fun _ => hS, ?_⟩
    refine wpTr_one ?_
    go_wp2_with (go_at_call 14; refine (bkPick_any _ _ 0 A zer24 (by decide) zer24_bd (by decide) hA3 _ hvA hMA).mono ?_; rintro e u0_5_2_4 ⟨vB, mB, rfl, hvB, hMB, hbb⟩)
    replace hS := hS.trans (hbb.mono hS.size)
    try replace nP := rowB_below nP hbb (rowB_lt nP)
    first | refine ⟨hS, ?_⟩ | refine ⟨fun _ => hS, ?_⟩
    refine wpTr_one ?_
    go_wp2_with (refine wpList_storeR rfl 34 _ _ rfl p rfl #[vB, mB] rfl (two_one (isArg_one hvB) (isByt_one hMB)) 34 #[.slice none 0 0, .slice none 0 0] rfl ?_ agDv ?_; with_reducible exact nP)
    have hd : boxN (u0_5_2_4.setRow p #[vB, mB]) p [A] zer24 := boxN.store ⟨_, _, nP, isArg_none _, isByt_none _⟩ hvB hMB
    replace hS := below_rowR hS #[vB, mB] hpS
    generalize u0_5_2_4.setRow p #[vB, mB] = u0_5_2_4_6 at *
    first | refine ⟨hS, ?_⟩ | refine ⟨fun _ => hS, ?_⟩
    refine wpTr_mix ?_
    refine wpMix_nil ?_
    clear hbb hvB hMB hM nP
    have kC := rowB_below k0 hS (rowB_lt k0)
    obtain ⟨xv, xm, rD, x1, x2⟩ := hd
    have lD := rowB_lt rD
    go_upto_region 6 with (first
      | (refine wpList_loadR rfl 24 _ rfl (w.heap.size + 1) rfl 24 #[.string ⟨#[97]⟩, .int .i64 2, .int .i64 0, .int .i64 9, .slice (some ⟨w.heap.size, 0, none⟩) 24 24] ?_ agCh ?_; with_reducible exact kC)
      | (refine wpList_loadR rfl 34 _ rfl p rfl 34 #[xv, xm] ?_ agDv ?_; with_reducible exact rD)
      | (go_at_call 14; refine (bkPut_any xv xm A (1 + T) d hA3 (by omega) _ x1 x2).mono ?_; rintro e vv ⟨yv, ym, rfl, y1, y2, hbb⟩; have rE := rowB_below rD hbb lD)
      | (refine wpList_storeR rfl 34 _ _ rfl p rfl #[yv, ym] rfl (two_one (isArg_one y1) (isByt_one y2)) 34 #[xv, xm] rfl ?_ agDv ?_; with_reducible exact rE))
    have hd := boxN.store ⟨_, _, rE, isArg_below x1 hbb (Nat.le_refl _), isByt_below x2 hbb (Nat.le_refl _)⟩ y1 y2
    replace hS := below_rowR (hS.trans (hbb.mono hS.size)) #[yv, ym] hpS
    change Code.wp _ _ _ _ (vv.setRow p #[yv, ym])
    generalize vv.setRow p #[yv, ym] = vw6 at *
    clear rE y1 y2 x1 x2 rD hbb kC lD
    have kC := rowB_below k0 hS (rowB_lt k0)
    obtain ⟨xv, xm, rD, x1, x2⟩ := hd
    have lD := rowB_lt rD
    go_upto_region 7 with (first
      | (refine wpList_loadR rfl 24 _ rfl (w.heap.size + 1) rfl 24 #[.string ⟨#[97]⟩, .int .i64 2, .int .i64 0, .int .i64 9, .slice (some ⟨w.heap.size, 0, none⟩) 24 24] ?_ agCh ?_; with_reducible exact kC)
      | (refine wpList_loadR rfl 34 _ rfl p rfl 34 #[xv, xm] ?_ agDv ?_; with_reducible exact rD)
      | (go_at_call 14; refine (bkPick_any xv xm A B (bk24 A (1 + T) d) (bk_len _ _ _) (bk_bd _ _ _) hA3 hB3 _ x1 x2).mono ?_; rintro e vv ⟨yv, ym, rfl, y1, y2, hbb⟩; have rE := rowB_below rD hbb lD)
      | (refine wpList_storeR rfl 34 _ _ rfl p rfl #[yv, ym] rfl (two_one (isArg_one y1) (isByt_one y2)) 34 #[xv, xm] rfl ?_ agDv ?_; with_reducible exact rE))
    have hd := boxN.store ⟨_, _, rE, isArg_below x1 hbb (Nat.le_refl _), isByt_below x2 hbb (Nat.le_refl _)⟩ y1 y2
    replace hS := below_rowR (hS.trans (hbb.mono hS.size)) #[yv, ym] hpS
    change Code.wp _ _ _ _ (vv.setRow p #[yv, ym])
    generalize vv.setRow p #[yv, ym] = vw7 at *
    clear rE y1 y2 x1 x2 rD hbb kC lD
    obtain ⟨R, hR⟩ : ∃ R, (if A = B then lo d 8 else 0) = R := ⟨_, rfl⟩
    have HR := Lib.hid hR
    clear hR
    have kC := rowB_below k0 hS (rowB_lt k0)
    obtain ⟨xv, xm, rD, x1, x2⟩ := hd
    have lD := rowB_lt rD
    go_upto_region 8 with (first
      | (refine wpList_loadR rfl 24 _ rfl (w.heap.size + 1) rfl 24 #[.string ⟨#[97]⟩, .int .i64 2, .int .i64 0, .int .i64 9, .slice (some ⟨w.heap.size, 0, none⟩) 24 24] ?_ agCh ?_; with_reducible exact kC)
      | (refine wpList_loadR rfl 34 _ rfl p rfl 34 #[xv, xm] ?_ agDv ?_; with_reducible exact rD)
      | (go_at_call 15; refine (bkRead_any xv xm A B (1 + T) d hA3 hB3 (by omega) _ x1 x2).mono ?_; rintro e v7 ⟨yv, ym, rfl, o1, o2, hb7⟩; rw [HR.out]; have nQ := rowB_new v7 34 #[.slice none 0 0, .slice none 0 0])
      | (refine wpList_storeR rfl 34 _ _ rfl v7.heap.size rfl #[yv, ym] rfl (two_one o1 o2) 34 #[.slice none 0 0, .slice none 0 0] rfl ?_ agDv ?_; with_reducible exact nQ))
    have hS7 := hS.trans (hb7.mono hS.size)
    have hS8 := below_rowR (hS7.alloc hS7.size (.cells #[.slice none 0 0, .slice none 0 0] 34)) #[yv, ym] hS7.size
    have hN := (Below.refl v7.heap.size v7).alloc (Nat.le_refl _) (.cells #[.slice none 0 0, .slice none 0 0] 34)
    have hN2 := below_rowR hN #[yv, ym] (Nat.le_refl _)
    have bD : boxN v7 p [B] (bk24 A (1 + T) d) := boxN.below ⟨_, _, rD, x1, x2⟩ hb7
    have hd8 := bD.below hN2
    change Code.wp _ _ _ _ ((v7.alloc (.cells #[.slice none 0 0, .slice none 0 0] 34)).setRow v7.heap.size #[yv, ym])
    generalize (v7.alloc (.cells #[.slice none 0 0, .slice none 0 0] 34)).setRow v7.heap.size #[yv, ym] = v8 at *
    clear nQ hN hN2 bD rD x1 x2 hb7 hS hS7 o1 o2 kC lD
    have kC := rowB_below k0 hS8 (rowB_lt k0)
    obtain ⟨xv, xm, rD, x1, x2⟩ := hd8
    go_upto_region 9 with (first
      | (refine wpList_loadR rfl 24 _ rfl (w.heap.size + 1) rfl 24 #[.string ⟨#[97]⟩, .int .i64 2, .int .i64 0, .int .i64 9, .slice (some ⟨w.heap.size, 0, none⟩) 24 24] ?_ agCh ?_; with_reducible exact kC)
      | (refine wpList_loadR rfl 34 _ rfl p rfl 34 #[xv, xm] ?_ agDv ?_; with_reducible exact rD)
      | (go_at_call 15; refine (bkBank_any xv xm A B (1 + T) d hB3 _ x1 x2).mono ?_; rintro e v9 ⟨yv, ym, rfl, o1, o2, hb9⟩; have nQ := rowB_new v9 34 #[.slice none 0 0, .slice none 0 0])
      | (refine wpList_storeR rfl 34 _ _ rfl v9.heap.size rfl #[yv, ym] rfl (two_one o1 o2) 34 #[.slice none 0 0, .slice none 0 0] rfl ?_ agDv ?_; with_reducible exact nQ))
    have hS9 := hS8.trans (hb9.mono hS8.size)
    have hS := below_rowR (hS9.alloc hS9.size (.cells #[.slice none 0 0, .slice none 0 0] 34)) #[yv, ym] hS9.size
    change Code.wp _ _ _ _ ((v9.alloc (.cells #[.slice none 0 0, .slice none 0 0] 34)).setRow v9.heap.size #[yv, ym])
    generalize (v9.alloc (.cells #[.slice none 0 0, .slice none 0 0] 34)).setRow v9.heap.size #[yv, ym] = va at *
    clear nQ rD x1 x2 hb9 hS8 hS9 o1 o2 kC
    have kC := rowB_below k0 hS (rowB_lt k0)
    have bZ := bW.trans (hS.mono bW.size)
    by_cases hAB : A = B
    · have hR2 : lo d 8 = R := by have := HR.out; rwa [if_pos hAB] at this
      simp only [hR2] at hlow
      have qAB : (A == B) = true := by simpa using hAB
      have HAB := Lib.hid hAB
      clear hAB hR2
      go_wp2_with (first
        | (go_at_call 16; refine (hlow _).mono ?_; rintro e w' ⟨rfl, rfl⟩)
        | (go_at_call 17; refine (chipsK_any _).mono ?_; rintro e vb ⟨rfl, hbb⟩; have kD := rowB_below kC hbb (rowB_lt kC); have bY := bZ.trans (hbb.mono bZ.size))
        | (refine wpList_loadRg rfl 24 _ rfl (w.heap.size + 1) rfl 24 #[.string ⟨#[97]⟩, .int .i64 2, .int .i64 0, .int .i64 9, .slice (some ⟨w.heap.size, 0, none⟩) 24 24] ?_ agCh ?_; with_reducible exact kD)
        | (go_at_call 9; refine (bkBanks_any _).mono ?_; rintro e vc ⟨rfl, hbc⟩; have bX := bY.trans (hbc.mono bY.size)))
      go_ret
      exact ⟨rfl, bX⟩
    · have hR2 : R = 0 := by have := HR.out; rw [if_neg hAB] at this; exact this.symm
      subst hR2
      have qAB : (A == B) = false := by simpa using hAB
      clear hAB
      go_wp2_with (first
        | (go_at_call 17; refine (chipsK_any _).mono ?_; rintro e vb ⟨rfl, hbb⟩; have kD := rowB_below kC hbb (rowB_lt kC); have bY := bZ.trans (hbb.mono bZ.size))
        | (refine wpList_loadRg rfl 24 _ rfl (w.heap.size + 1) rfl 24 #[.string ⟨#[97]⟩, .int .i64 2, .int .i64 0, .int .i64 9, .slice (some ⟨w.heap.size, 0, none⟩) 24 24] ?_ agCh ?_; with_reducible exact kD)
        | (go_at_call 9; refine (bkBanks_any _).mono ?_; rintro e vc ⟨rfl, hbc⟩; have bX := bY.trans (hbc.mono bY.size)))
      go_ret
      exact ⟨rfl, bX⟩

end Go.Proofs.Ytakaebjojgeehaa
