/- A part of the proof of ChipTicks: ChMem, DrvOwn. -/
import Derived.Test.YtakaebjojgeehaaGreatChipTicksK01
import Derived.Test.YtakaebjojgeehaaGreatChipTicksK02
import Derived.Test.YtakaebjojgeehaaGreatChipTicksK03
import Derived.Test.YtakaebjojgeehaaGreatChipTicksK04
import Derived.Test.YtakaebjojgeehaaGreatChipTicksK05
import Derived.Test.YtakaebjojgeehaaGreatChipTicksK06
import Derived.Test.YtakaebjojgeehaaGreatChipTicksK09
import Derived.Test.YtakaebjojgeehaaGreatChipTicksK12
import Derived.Test.YtakaebjojgeehaaGreatChipTicksK13
import Derived.Test.YtakaebjojgeehaaGreatChipTicksK14
import Derived.Test.YtakaebjojgeehaaGreatChipTicksK15
import Derived.Test.YtakaebjojgeehaaGreatChipTicksK16
import Derived.Test.YtakaebjojgeehaaGreatChipTicksK17
import Derived.Test.YtakaebjojgeehaaGreatChipTicksK18
import Derived.Below
import Derived.BigQuiet
import Derived.ChangeMaps5
import Derived.Deep.AppendSrc
import Derived.Deep.DeepAppendWide
import Derived.Deep.DeepCutAuto
import Derived.Deep.Draws
import Derived.Deep.MidRow
import Derived.Deep.OwnRows
import Derived.Deep.QuietTactic
import Derived.Deep.RegionHeld3
import Derived.Deep.RegionWith
import Derived.Deep.Slices
import Derived.Deep.WholeRow
import Derived.Laws.CopyOwn
import Derived.Laws.OwnMore
import Derived.Lib.Hide
import Derived.Lib.SmallJoins
import Derived.Maps.AppendAt
import Derived.OpenShut
import Derived.OrdersHeld
import Derived.OwnWalk
import Derived.RowKit3
import Derived.StillTactics
import Derived.StillTail
import Derived.StillTailTactics
import Derived.Test.YtakaebjojgeehaaGreatChecked
import Derived.WalkKit
namespace Go.Proofs.YtakaebjojgeehaaGreat
open Go.RowKit
set_option maxRecDepth 100000
theorem mbank_max (n : Nat) (W : Int) (hW : 1 ≤ W) : max 1 (((n : Int) + W - 1) / W) = mbank n W := by
  unfold mbank
  split
  · rename_i h
    subst h
    have : (((0 : Nat) : Int) + W - 1) / W = 0 := Int.ediv_eq_zero_of_lt (by omega) (by omega)
    rw [this]; rfl
  · have : 1 ≤ ((n : Int) + W - 1) / W := Int.le_ediv_of_mul_le (by omega) (by omega)
    omega
set_option maxHeartbeats 1000000 in
theorem chWindow_any (nm : ByteArray) (k b z : Int) (dat : Value) (w : World) (hz : -9223372036854775808 ≤ z ∧ z ≤ 9223372036854775807) :
    Calls Tryz.prog 152 #[.agg (chip5 nm k b z dat)] w fun e w' => e = .returned (.int .i64 (mwin z)) ∧ Below w.heap.size w w' := by
  dsimp only [chip5]
  obtain ⟨k0, bW, sW⟩ := boxes1 w (.cells #[.string nm, .int .i64 k, .int .i64 b, .int .i64 z, dat] 24)
  obtain ⟨M, hM⟩ : ∃ M, max z 2 = M := ⟨_, rfl⟩
  have wm : wrap64 (M - 1) = M - 1 := IntWalk.wrap64_in _ (by omega)
  have hW : min (M - 1) 4096 = mwin z := by unfold mwin near; omega
  have HW := Lib.hid hW
  clear hW
  go_enter Tryz.func152, Tryz.ntmps152
  go_wp2_with (first
    | (refine wpList_max2 rfl _ _ _ rfl .i64 z 2 rfl rfl ?_; rw [hM])
    | (refine wpList_min2 rfl _ _ _ rfl .i64 (M - 1) 4096 rfl rfl ?_; rw [HW.out]))
  go_ret
  exact ⟨rfl, bW⟩
set_option maxHeartbeats 1000000 in
theorem chBanks_any (nm : ByteArray) (k b z : Int) (da : Option Addr) (nd dc : Nat) (w : World) (hd : nd ≤ 140737488351232) (hz : -9223372036854775808 ≤ z ∧ z ≤ 9223372036854775807) :
    Calls Tryz.prog 151 #[.agg (chip5 nm k b z (.slice da nd dc))] w fun e w' => e = .returned (.int .i64 (mbank nd (mwin z))) ∧ Below w.heap.size w w' := by
  have hwin := fun w => chWindow_any nm k b z (.slice da nd dc) w hz
  have hwb := mwin_bd z
  obtain ⟨W, hW⟩ : ∃ W, mwin z = W := ⟨_, rfl⟩
  simp only [hW] at hwin hwb
  rw [hW]
  have hq : max 1 (((nd : Int) + W - 1) / W) = mbank nd W := mbank_max nd W hwb.1
  clear hW
  dsimp only [chip5] at *
  obtain ⟨k0, bW, sW⟩ := boxes1 w (.cells #[.string nm, .int .i64 k, .int .i64 b, .int .i64 z, .slice da nd dc] 24)
  have k0 : rowB _ _ _ _ := k0
  have HQ := Lib.hid hq
  clear hq
  have w1 : wrap64 ((nd : Int) + W) = (nd : Int) + W := IntWalk.wrap64_in _ (by omega)
  have w2 : wrap64 ((nd : Int) + W - 1) = (nd : Int) + W - 1 := IntWalk.wrap64_in _ (by omega)
  have h0 : (0 : Int) ≤ (nd : Int) + W - 1 := by omega
  have q0 : (W == 0) = false := beq_eq_false_iff_ne.2 (by omega)
  obtain ⟨P, hP⟩ : ∃ P, ((nd : Int) + W - 1) / W = P := ⟨_, rfl⟩
  have hPd : Int.tdiv ((nd : Int) + W - 1) W = P := by rw [Int.tdiv_eq_ediv_of_nonneg h0, hP]
  have hPb : 0 ≤ P ∧ P ≤ nd + W := by
    rw [← hP]
    exact ⟨Int.ediv_nonneg h0 (by omega), Int.le_trans (Int.ediv_le_self _ h0) (by omega)⟩
  rw [hP] at HQ
  have wP : wrap64 P = P := IntWalk.wrap64_in _ (by omega)
  go_enter Tryz.func151, Tryz.ntmps151
  go_upto_region 2 with (first
    | (refine wpList_loadR rfl 24 _ rfl w.heap.size rfl 24 #[.string nm, .int .i64 k, .int .i64 b, .int .i64 z, .slice da nd dc] ?_ agCh ?_; with_reducible exact k0)
    | (go_at_call 152; refine (hwin _).mono ?_; rintro e w3 ⟨rfl, hb⟩; have k1 := rowB_below k0 hb (rowB_lt k0); have bX := bW.trans (hb.mono bW.size); clear hb))
  obtain ⟨c0, c1, c2, c3, c4⟩ := ccells k1
  clear k0 k1 hwin bW sW
  go_wp2_with (refine wpList_max2 rfl _ _ _ rfl .i64 1 P rfl rfl ?_; rw [HQ.out])
  go_ret
  exact ⟨rfl, bX⟩
/-- How many bytes a memory has. -/
def memSize (k z : Int) (nd : Nat) : Nat := if k = 2 then (mbank nd (mwin z) * mwin z).toNat else (near z 0 65536).toNat
theorem memSize_bank (z : Int) (nd : Nat) : ((memSize 2 z nd : Nat) : Int) = mbank nd (mwin z) * mwin z := by
  unfold memSize
  rw [if_pos rfl]
  have h := mbank_bd nd (mwin z) (mwin_bd z).1
  exact Int.toNat_of_nonneg (Int.mul_nonneg (by omega) (by have := (mwin_bd z).1; omega))
theorem memSize_plain {k z : Int} (hk : k ≠ 2) (nd : Nat) : ((memSize k z nd : Nat) : Int) = near z 0 65536 := by
  unfold memSize
  rw [if_neg hk]
  exact Int.toNat_of_nonneg (by unfold near; omega)
theorem memSize_bd (k z : Int) (nd : Nat) : memSize k z nd ≤ nd + 65536 := by
  by_cases h : k = 2
  · subst h
    have h1 := memSize_bank z nd
    have h2 := mbank_bd nd (mwin z) (mwin_bd z).1
    have := (mwin_bd z).2
    omega
  · have h1 := memSize_plain (z := z) h nd
    unfold near at h1
    omega
set_option maxHeartbeats 1000000 in
theorem chLength_any (nm : ByteArray) (k b z : Int) (da : Option Addr) (nd dc : Nat) (w : World) (hd : nd ≤ 140737488351232) (hz : -9223372036854775808 ≤ z ∧ z ≤ 9223372036854775807) :
    Calls Tryz.prog 108 #[.agg (chip5 nm k b z (.slice da nd dc))] w fun e w' => e = .returned (.int .i64 (memSize k z nd)) ∧ Below w.heap.size w w' := by
  by_cases hk : k = 2
  · subst hk
    have hwin := fun w => chWindow_any nm 2 b z (.slice da nd dc) w hz
    have hbk := fun w => chBanks_any nm 2 b z da nd dc w hd hz
    have hsz := memSize_bank z nd
    have hbd := memSize_bd 2 z nd
    obtain ⟨L, hL⟩ : ∃ L, memSize 2 z nd = L := ⟨_, rfl⟩
    rw [hL] at hsz hbd
    rw [hL]
    clear hL
    obtain ⟨W, hW⟩ : ∃ W, mwin z = W := ⟨_, rfl⟩
    simp only [hW] at hwin hsz hbk
    obtain ⟨K, hK⟩ : ∃ K, mbank nd W = K := ⟨_, rfl⟩
    simp only [hK] at hbk hsz
    clear hK hW
    have wm : IntKind.i64.wrap (K * W) = L := by rw [← hsz]; exact IntWalk.i64_in _ (by omega)
    clear hsz
    dsimp only [chip5] at *
    obtain ⟨k0, bW, sW⟩ := boxes1 w (.cells #[.string nm, .int .i64 2, .int .i64 b, .int .i64 z, .slice da nd dc] 24)
    have k0 : rowB _ _ _ _ := k0
    obtain ⟨c0, c1, c2, c3, c4⟩ := ccells k0
    go_enter Tryz.func108, Tryz.ntmps108
    go_upto_region 2 with (fail)
    change Code.wp _ _ _ _ (w.alloc (.cells #[.string nm, .int .i64 2, .int .i64 b, .int .i64 z, .slice da nd dc] 24))
    generalize w.alloc (.cells #[.string nm, .int .i64 2, .int .i64 b, .int .i64 z, .slice da nd dc] 24) = w1 at *
    clear c0 c1 c2 c3 c4 sW
    have hS := (Below.refl w1.heap.size w1).drew
    refine wp_region_mix (fun w' => Below w1.heap.size w1 w') [(0, 1), (2, 1), (1, 3), (3, 2), (4, 0), (5, 0)] (by kernel_rfl) (by kernel_rfl) (fun _ _ _ _ _ h => h) ?_
    simp only [List.map_cons, List.map_nil, opOf, List.getD_cons_zero, List.getD_cons_succ]
    change wpMix _ _ _ _ _ _ w1.drew
    refine wpMix_held (.agg #[.string nm, .int .i64 2, .int .i64 b, .int .i64 z, .slice da nd dc]) rfl hS (fun w' hw' => exec_rowR 24 _ rfl w.heap.size rfl 24 #[.string nm, .int .i64 2, .int .i64 b, .int .i64 z, .slice da nd dc] (rowB_below k0 hw' (rowB_lt k0)) agCh) ?_
    simp only [Act.put, List.setIfInBounds_toArray, List.set_cons_zero, List.set_cons_succ]
    refine wpMix_held (.agg #[.string nm, .int .i64 2, .int .i64 b, .int .i64 z, .slice da nd dc]) rfl hS (fun w' hw' => exec_rowR 24 _ rfl w.heap.size rfl 24 #[.string nm, .int .i64 2, .int .i64 b, .int .i64 z, .slice da nd dc] (rowB_below k0 hw' (rowB_lt k0)) agCh) ?_
    simp only [Act.put, List.setIfInBounds_toArray, List.set_cons_zero, List.set_cons_succ]
    refine wpMix_call ?_
    go_wp2_with (go_at_call 151; refine (hbk _).mono ?_; rintro e w3 ⟨rfl, hb⟩; replace hS := hS.trans (hb.mono hS.size); clear hb)
    first | refine ⟨fun _ => hS, ?_⟩ | refine ⟨hS, ?_⟩ | refine And.intro (fun _ => hS) ?_
    refine wpMix_call ?_
    go_wp2_with (go_at_call 152; refine (hwin _).mono ?_; rintro e w4 ⟨rfl, hb⟩; replace hS := hS.trans (hb.mono hS.size); clear hb)
    try refine ⟨fun h => (by cases h), ?_⟩
    (refine wpMix_still (fun K hK => ?_); go_simp; refine hK _ ?_; clear hK K)
    (refine wpMix_still (fun K hK => ?_); go_simp; refine hK _ ?_; clear hK K)
    refine wpMix_nil ?_
    go_wp2_with fail
    go_ret
    exact ⟨rfl, bW.trans (hS.mono bW.size)⟩
  · have q2 : (k == 2) = false := beq_eq_false_iff_ne.2 hk
    have hsz := memSize_plain (z := z) hk nd
    rw [hsz]
    obtain ⟨X, hX⟩ : ∃ X, max z 0 = X := ⟨_, rfl⟩
    have hY : min X 65536 = near z 0 65536 := by unfold near; omega
    have HX := Lib.hid hX
    have HY := Lib.hid hY
    clear hX hY hsz
    dsimp only [chip5] at *
    obtain ⟨k0, bW, sW⟩ := boxes1 w (.cells #[.string nm, .int .i64 k, .int .i64 b, .int .i64 z, .slice da nd dc] 24)
    go_enter Tryz.func108, Tryz.ntmps108
    go_wp2_with (first
      | (refine wpList_max2 rfl _ _ _ rfl .i64 z 0 rfl rfl ?_; rw [HX.out])
      | (refine wpList_min2 rfl _ _ _ rfl .i64 X 65536 rfl rfl ?_; rw [HY.out]))
    go_ret
    exact ⟨rfl, bW⟩
end Go.Proofs.YtakaebjojgeehaaGreat
namespace Go.Proofs.YtakaebjojgeehaaGreat
open Go.RowKit
set_option maxRecDepth 100000
/-- The slice v of bytes belongs to the call (its block has a number from B on) and holds the list. -/
def own8 (B : Nat) (w : World) (v : Value) (l : List Int) : Prop := w.ownsRow B 5 1 v l.length (l.map (Value.int .u8))
/-- A byte as an element of a slice. -/
def isU8 (cs : List Value) (x : Int) : Prop := cs = [.int .u8 x]
theorem own8_of {B : Nat} {w : World} {v : Value} {l : List Int} (h : ownArr 1 isU8 B 5 w v l) : own8 B w v l := by
  obtain ⟨f, hf, ho, hR⟩ := h
  have e : flat f l.length = l.map (Value.int .u8) := by
    refine List.ext_getElem? fun i => ?_
    by_cases hi : i < l.length
    · have := flat_get (k := 1) hf hi (show 0 < 1 by decide)
      rw [Nat.mul_one, Nat.add_zero] at this
      rw [this, hR i l[i] (List.getElem?_eq_getElem hi), List.getElem?_map, List.getElem?_eq_getElem hi]
      rfl
    · rw [List.getElem?_eq_none (by rw [flat_length hf]; omega), List.getElem?_eq_none (by rw [List.length_map]; omega)]
  unfold own8
  rw [← e]
  exact ho
theorem byt_arr {w : World} {v : Value} {l : List Int} (h : isByt w v l) : isArr 1 (fun _ => isU8) w v l := by
  rcases h with h | ⟨b, off, cap, rfl, h1, h2, h3, h4⟩
  · exact .inl h
  · refine .inr ⟨b, off, cap, rfl, h1, h2, h3, fun i x hx => ⟨[.int .u8 x], rfl, fun j hj => ?_, rfl⟩⟩
    obtain rfl : j = 0 := by omega
    have hi := (List.getElem?_eq_some_iff.1 hx).1
    rw [Nat.mul_one, Nat.add_zero, h4 i hi, List.getD_eq_getElem?_getD, hx]
    rfl
theorem own8_mono {B B' : Nat} {w : World} {v : Value} {l : List Int} (h : own8 B w v l) (hB : B' ≤ B) : own8 B' w v l := by
  have h2 := h.2
  refine ⟨h.1, ?_⟩
  rcases h2 with hn | ⟨g, cap, cur, hv, hB2, r⟩
  · exact .inl hn
  · exact .inr ⟨g, cap, cur, hv, Nat.le_trans hB hB2, r⟩
theorem own8_byt {B : Nat} {w : World} {v : Value} {l : List Int} (h : own8 B w v l) : isByt w v l := by
  rcases h.2 with ⟨rfl, h2⟩ | ⟨g, cap, cur, rfl, hb, hg, hn, hc, hs, ht⟩
  · exact .inl ⟨_, _, rfl, List.eq_nil_of_length_eq_zero h2⟩
  · refine .inr ⟨g, 0, cap, rfl, (Array.getElem?_eq_some_iff.1 hg).1, hn, by simpa [maxLen] using hc, fun j hj => ?_⟩
    have e : (l.map (Value.int .u8))[j]? = some (.int .u8 (l.getD j 0)) := by
      rw [List.getElem?_map, List.getD_eq_getElem?_getD, List.getElem?_eq_getElem hj]; rfl
    have := World.ownsRow.cells (g := g) h rfl j _ e
    have ha : (⟨g, 0, none⟩ : Addr).add j = ⟨g, 0 + j, none⟩ := by unfold Addr.add; split <;> simp_all
    rw [← ha]; exact this
theorem own8_lt {B : Nat} {w : World} {v : Value} {l : List Int} (h : own8 B w v l) : ∀ k, v.ownBlock = some k → B ≤ k ∧ k < w.heap.size := World.ownsRow.lt h
theorem own8_below {B C : Nat} {w w' : World} {v : Value} {l : List Int} (h : own8 B w v l) (hb : Below C w w') (hC : w.heap.size ≤ C) : own8 B w' v l := by
  have h2 := h.2
  refine ⟨h.1, ?_⟩
  rcases h2 with hn | ⟨g, cap, cur, hv, hB, hg, r⟩
  · exact .inl hn
  · refine .inr ⟨g, cap, cur, hv, hB, ?_, r⟩
    rw [hb.block g (Nat.lt_of_lt_of_le (Array.getElem?_eq_some_iff.1 hg).1 hC)]; exact hg
theorem own8_set {B : Nat} {w : World} {v : Value} {l : List Int} (h : own8 B w v l) (i : Nat) (hi : i < l.length) :
    ∃ g cap, v = .slice (some ⟨g, 0, none⟩) l.length cap ∧ B ≤ g ∧ g < w.heap.size ∧ w.cell? ⟨g, i, none⟩ = some (.int .u8 (l.getD i 0)) ∧ w.frozen? ⟨g, i, none⟩ = false ∧
      ∀ x : Int, own8 B (w.setCell ⟨g, i, none⟩ (.int .u8 x)) v (l.set i x) := by
  have h0 := h
  rcases h.2 with ⟨rfl, h2⟩ | ⟨g, cap, cur, rfl, hb, hg, hn, hc, hs, ht⟩
  · omega
  · unfold own8 at h0
    refine ⟨g, cap, rfl, hb, (Array.getElem?_eq_some_iff.1 hg).1, ?_, World.ownsRow.frozenAt h0 _, fun x => ?_⟩
    · rw [World.ownsRow.cellAt h0 i (by omega), List.getElem?_map, List.getD_eq_getElem?_getD, List.getElem?_eq_getElem hi]; rfl
    · obtain ⟨h1, h2⟩ := World.ownsRow.stored h0 i (.int .u8 x)
      unfold own8
      rw [List.length_set, List.map_set]
      exact h1
theorem setCell_grown (w : World) (a : Addr) (v : Value) : w.grownBy (w.setCell a v) (some a.block) :=
  ⟨rfl, rfl, rfl, by simp, fun k _ hk => heap_setCell_other w a k v (fun e => hk (by simp [e]))⟩
/-- The cells of a state. -/
def Dr.cs (s : Dr) (u : Value) : Array Value := #[.int .i64 s.k, .int .i64 s.t, .int .i64 s.c, .int .i64 s.e, .int .i64 s.n, .int .i64 s.l, .int .i64 s.d, .int .i64 s.r, .int .i64 s.o, .int .i64 s.b, u]
theorem agDr : isAg Tryz.prog 101 11 := ⟨⟨_, Tryz.underlying101, rfl⟩, by kernel_rfl⟩
theorem Dr.cs_one {s : Dr} {u : Value} (h : u.oneCell' = true) : (s.cs u).all (·.oneCell') = true := by
  cases u <;> simp_all [Dr.cs, Value.oneCell']
theorem Dr.one {k t c e n l d r o b : Int} {u : Value} (h : u.oneCell' = true) : (#[.int .i64 k, .int .i64 t, .int .i64 c, .int .i64 e, .int .i64 n, .int .i64 l, .int .i64 d, .int .i64 r, .int .i64 o, .int .i64 b, u] : Array Value).all (·.oneCell') = true := by
  have := Dr.cs_one (s := ⟨k, t, c, e, n, l, d, r, o, b, []⟩) h
  exact this
theorem elCells {w : World} {y : Nat} {ty : TypeId} {k t c e n l d r o b m : Value} (h : rowB w y ty #[k, t, c, e, n, l, d, r, o, b, m]) :
    (w.cell? ⟨y, 0, none⟩ = some k ∧ w.cell? ⟨y, 1, none⟩ = some t ∧ w.cell? ⟨y, 2, none⟩ = some c ∧ w.cell? ⟨y, 3, none⟩ = some e ∧ w.cell? ⟨y, 4, none⟩ = some n ∧ w.cell? ⟨y, 5, none⟩ = some l ∧ w.cell? ⟨y, 6, none⟩ = some d ∧ w.cell? ⟨y, 7, none⟩ = some r ∧ w.cell? ⟨y, 8, none⟩ = some o ∧ w.cell? ⟨y, 9, none⟩ = some b ∧ w.cell? ⟨y, 10, none⟩ = some m) ∧
    (w.frozen? ⟨y, 0, none⟩ = false ∧ w.frozen? ⟨y, 1, none⟩ = false ∧ w.frozen? ⟨y, 2, none⟩ = false ∧ w.frozen? ⟨y, 3, none⟩ = false ∧ w.frozen? ⟨y, 4, none⟩ = false ∧ w.frozen? ⟨y, 5, none⟩ = false ∧ w.frozen? ⟨y, 6, none⟩ = false ∧ w.frozen? ⟨y, 7, none⟩ = false ∧ w.frozen? ⟨y, 8, none⟩ = false ∧ w.frozen? ⟨y, 9, none⟩ = false ∧ w.frozen? ⟨y, 10, none⟩ = false) :=
  ⟨⟨rowB_cell h 0 rfl, rowB_cell h 1 rfl, rowB_cell h 2 rfl, rowB_cell h 3 rfl, rowB_cell h 4 rfl, rowB_cell h 5 rfl, rowB_cell h 6 rfl, rowB_cell h 7 rfl, rowB_cell h 8 rfl, rowB_cell h 9 rfl, rowB_cell h 10 rfl⟩,
    ⟨rowB_free h 0, rowB_free h 1, rowB_free h 2, rowB_free h 3, rowB_free h 4, rowB_free h 5, rowB_free h 6, rowB_free h 7, rowB_free h 8, rowB_free h 9, rowB_free h 10⟩⟩
/-- The state s stands in the box y; its bytes belong to the call. -/
structure stD (lo : Nat) (w : World) (y : Nat) (s : Dr) (u : Value) : Prop where
  row : rowB w y 101 (s.cs u)
  own : own8 lo w u s.m
  ne : ∀ g, u.ownBlock = some g → g ≠ y
  lo : lo ≤ y
theorem stD.lt {lo : Nat} {w : World} {y : Nat} {s : Dr} {u : Value} (h : stD lo w y s u) : y < w.heap.size := rowB_lt h.row
theorem stD.put {lo : Nat} {w : World} {y : Nat} {s t : Dr} {u : Value} (h : stD lo w y s u) (i : Nat) (v : Value) (ht : (s.cs u).setIfInBounds i v = t.cs u) (hm : t.m = s.m) : stD lo (w.setCell ⟨y, i, none⟩ v) y t u := by
  refine ⟨?_, ?_, h.ne, h.lo⟩
  · have := rowB_set h.row i v
    rw [ht] at this
    exact this
  · rw [hm]
    refine World.ownsRow.kept h.own (setCell_grown w _ v) ?_
    cases e : u.ownBlock with
    | none => exact .inl rfl
    | some g => exact .inr (fun he => h.ne g e (by cases he; rfl))
theorem stD.below {lo : Nat} {w w' : World} {y : Nat} {s : Dr} {u : Value} (h : stD lo w y s u) (hb : Below w.heap.size w w') : stD lo w' y s u :=
  ⟨rowB_below h.row hb h.lt, own8_below h.own hb (Nat.le_refl _), h.ne, h.lo⟩
theorem stD.alloc {lo : Nat} {w : World} {y : Nat} {s : Dr} {u : Value} (h : stD lo w y s u) (o : Obj) : stD lo (w.alloc o) y s u :=
  ⟨rowB_alloc h.row o, World.ownsRow.alloc h.own o, h.ne, h.lo⟩
theorem stD.drew {lo : Nat} {w : World} {y : Nat} {s : Dr} {u : Value} (h : stD lo w y s u) : stD lo w.drew y s u := ⟨h.row, h.own, h.ne, h.lo⟩
theorem stD.byte {lo : Nat} {w : World} {y : Nat} {s : Dr} {u : Value} (h : stD lo w y s u) (i : Nat) (hi : i < s.m.length) :
    ∃ g cap, u = .slice (some ⟨g, 0, none⟩) s.m.length cap ∧ lo ≤ g ∧ w.cell? ⟨g, i, none⟩ = some (.int .u8 (s.m.getD i 0)) ∧ w.frozen? ⟨g, i, none⟩ = false ∧
      ∀ x : Int, stD lo (w.setCell ⟨g, i, none⟩ (.int .u8 x)) y { s with m := s.m.set i x } u := by
  obtain ⟨g, cap, hu, h1, h2, h3, h4, h5⟩ := own8_set h.own i hi
  exact ⟨g, cap, hu, h1, h3, h4, fun x => ⟨rowB_other h.row ⟨g, i, none⟩ _ (h.ne g (by rw [hu]; rfl)), h5 x, h.ne, h.lo⟩⟩
theorem stD.slice {lo : Nat} {w : World} {y : Nat} {s : Dr} {u : Value} (h : stD lo w y s u) : ∃ a cap, u = .slice a s.m.length cap := by
  obtain ⟨a, cap, e, _⟩ := isByt_form (own8_byt h.own)
  exact ⟨a, cap, e⟩
end Go.Proofs.YtakaebjojgeehaaGreat
