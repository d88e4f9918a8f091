/- A part of the proof of ChipBanks: DrvCa. -/
import Derived.Test.YtakaebjojgeehaaChipBanksK01
import Derived.Test.YtakaebjojgeehaaChipBanksK02
import Derived.Test.YtakaebjojgeehaaChipBanksK03
import Derived.Test.YtakaebjojgeehaaChipBanksK04
import Derived.Test.YtakaebjojgeehaaChipBanksK05
import Derived.Test.YtakaebjojgeehaaChipBanksK06
import Derived.Test.YtakaebjojgeehaaChipBanksK07
import Derived.Test.YtakaebjojgeehaaChipBanksK08
import Derived.Test.YtakaebjojgeehaaChipBanksK09
import Derived.Test.YtakaebjojgeehaaChipBanksK15
import Derived.Test.YtakaebjojgeehaaChipBanksK17
import Derived.Test.YtakaebjojgeehaaChipBanksK19
import Derived.Test.YtakaebjojgeehaaChipBanksK20
import Derived.Test.YtakaebjojgeehaaChipBanksK21
import Derived.Test.YtakaebjojgeehaaChipBanksK22
import Derived.Test.YtakaebjojgeehaaChipBanksK23
import Derived.Test.YtakaebjojgeehaaChipBanksK24
import Derived.Test.YtakaebjojgeehaaChipBanksK37
import Derived.Test.YtakaebjojgeehaaChipBanksK38
import Derived.Below
import Derived.BigQuiet
import Derived.ChangeMaps5
import Derived.Deep.AppendSrc
import Derived.Deep.DeepAppendWide
import Derived.Deep.DeepCutAuto
import Derived.Deep.Draws
import Derived.Deep.MidRow
import Derived.Deep.OwnRows
import Derived.Deep.QuietTactic
import Derived.Deep.RegionHeld3
import Derived.Deep.RegionWith
import Derived.Deep.Slices
import Derived.Deep.WholeRow
import Derived.Laws.CopyOwn
import Derived.Laws.OwnMore
import Derived.Lib.Hide
import Derived.Lib.SmallJoins
import Derived.Maps.AppendAt
import Derived.OpenShut
import Derived.OrdersHeld
import Derived.OwnWalk
import Derived.RowKit3
import Derived.StillTactics
import Derived.StillTail
import Derived.StillTailTactics
import Derived.Test.YtakaebjojgeehaaChecked
import Derived.WalkKit
namespace Go.Proofs.Ytakaebjojgeehaa
open Go.RowKit
set_option maxRecDepth 100000
theorem isByt_take {w : World} {b off cap : Nat} {l : List Int} (k : Nat) (h1 : b < w.heap.size) (h2 : l.length ≤ cap) (h3 : cap ≤ 9223372036854775807)
    (h4 : ∀ j, j < l.length → w.cell? ⟨b, off + j, none⟩ = some (.int .u8 (l.getD j 0))) (h : k ≤ l.length) : isByt w (.slice (some ⟨b, off, none⟩) k cap) (l.take k) := by
  have hl : (l.take k).length = k := by rw [List.length_take]; omega
  refine .inr ⟨b, off, cap, by rw [hl], h1, by omega, h3, fun j hj => ?_⟩
  have e : (l.take k).getD j 0 = l.getD j 0 := by
    simp only [List.getD_eq_getElem?_getD]
    rw [List.getElem?_take_of_lt (by omega)]
  rw [e]
  exact h4 j (by omega)
theorem drvWhole_any (v : Value) (lb : List Int) (w : World) (h : isByt w v lb) (hL : lb.length ≤ 140737488351232) :
    Calls Try.prog 91 #[v] w fun e w' => ∃ a cap, e = .returned (.slice a (drM lb).length cap) ∧ isByt w (.slice a (drM lb).length cap) (drM lb) ∧ w = w' := by
  have hk : ((drM lb).length : Int) = lb.length - lb.length % 256 := by rw [drM_len]; omega
  rcases h with ⟨a, cap, rfl, rfl⟩ | ⟨b, off, cap, rfl, h1, h2, h3, h4⟩
  · go_enter Try.func91, Try.ntmps91
    go_wp2_with fail
    go_ret
    exact ⟨a, cap, rfl, .inl ⟨a, cap, rfl, rfl⟩, rfl⟩
  · have t1 : ((lb.length : Int)).tmod 256 = (lb.length : Int) % 256 := Int.tmod_eq_emod_of_nonneg (by omega)
    have w1 : wrap64 ((lb.length : Int) % 256) = (lb.length : Int) % 256 := IntWalk.wrap64_in _ (by omega)
    have w2 : wrap64 ((lb.length : Int) - (lb.length : Int) % 256) = ((drM lb).length : Int) := (IntWalk.wrap64_in _ (by omega)).trans hk.symm
    go_enter Try.func91, Try.ntmps91
    go_wp2_with fail
    go_ret
    have hd : (drM lb).length = lb.length - lb.length % 256 := by omega
    rw [hd]
    refine ⟨_, _, rfl, ?_, rfl⟩
    have := isByt_take (lb.length - lb.length % 256) h1 h2 h3 h4 (Nat.sub_le _ _)
    have e : lb.take (lb.length - lb.length % 256) = drM lb := by unfold drM; congr 1; omega
    rw [e] at this
    exact this
/-- A row without bytes may be written anew: bytes that are read elsewhere stay. -/
theorem isByt_apart {w : World} {B : Nat} {t : TypeId} {cs : Array Value} {b off : Nat} {v : Int} (hB : rowB w B t cs) (hc : ∀ x ∈ cs.toList, ∀ n, x ≠ .int .u8 n) (h : w.cell? ⟨b, off, none⟩ = some (.int .u8 v)) : b ≠ B := by
  intro e
  subst e
  rw [cell_of_row w b _ _ t (0, 0) hB] at h
  exact hc _ (Array.mem_toList_iff.2 (Array.mem_of_getElem? h)) v rfl
theorem isByt_box0 {w : World} {B : Nat} {t : TypeId} {cs : Array Value} {v : Value} {m : List Int} (hB : rowB w B t cs) (hc : ∀ x ∈ cs.toList, ∀ n, x ≠ .int .u8 n) (h : isByt w v m) (c : Array Value) : isByt (w.setRow B c) v m := by
  rcases h with h | ⟨b, off, cap, rfl, h1, h2, h3, h4⟩
  · exact .inl h
  · refine .inr ⟨b, off, cap, rfl, by rw [size_row]; exact h1, h2, h3, fun j hj => ?_⟩
    have hne := isByt_apart hB hc (h4 j hj)
    rw [cell_setRow_other w B c ⟨b, off + j, none⟩ hne]
    exact h4 j hj
theorem isByt_set0 {w : World} {B : Nat} {t : TypeId} {cs : Array Value} {v : Value} {m : List Int} (hB : rowB w B t cs) (hc : ∀ x ∈ cs.toList, ∀ n, x ≠ .int .u8 n) (h : isByt w v m) (i : Nat) (u : Value) : isByt (w.setCell ⟨B, i, none⟩ u) v m := by
  rcases h with h | ⟨b, off, cap, rfl, h1, h2, h3, h4⟩
  · exact .inl h
  · refine .inr ⟨b, off, cap, rfl, by simpa using h1, h2, h3, fun j hj => ?_⟩
    have hne := isByt_apart hB hc (h4 j hj)
    rw [← h4 j hj]
    show World.cell? _ _ = World.cell? _ _
    unfold World.cell?
    dsimp only
    rw [heap_setCell_other w ⟨B, i, none⟩ b u (by exact hne)]
theorem noU8 {k t c e n l d r o b : Int} {a : Option Addr} {q cap : Nat} : ∀ x ∈ (#[.int .i64 k, .int .i64 t, .int .i64 c, .int .i64 e, .int .i64 n, .int .i64 l, .int .i64 d, .int .i64 r, .int .i64 o, .int .i64 b, .slice a q cap] : Array Value).toList, ∀ n, x ≠ .int .u8 n := by
  intro x hx n
  simp only [List.mem_cons, List.not_mem_nil, or_false] at hx
  rcases hx with rfl | rfl | rfl | rfl | rfl | rfl | rfl | rfl | rfl | rfl | rfl <;> (intro h; cases h)
set_option maxHeartbeats 4000000 in
theorem drvLook_any (v vm : Value) (l lb : List Int) (w : World) (h : isArg w v l) (hm : isByt w vm lb) (hL : lb.length ≤ 140737488351232) :
    Calls Try.prog 85 #[.agg #[v, vm]] w fun e w' => ∃ u, e = .returned (.agg ((Dr.of l lb).cs u)) ∧ isByt w' u (drM lb) ∧ Below w.heap.size w w' := by
  obtain ⟨x0, hx0⟩ : ∃ x, lo (l.getD 0 0) 8 = x := ⟨_, rfl⟩
  obtain ⟨x1, hx1⟩ : ∃ x, lo (l.getD 1 0) 2 = x := ⟨_, rfl⟩
  obtain ⟨x2, hx2⟩ : ∃ x, lo (l.getD 2 0) 3 = x := ⟨_, rfl⟩
  obtain ⟨x3, hx3⟩ : ∃ x, lo (l.getD 3 0) 2 = x := ⟨_, rfl⟩
  obtain ⟨x4, hx4⟩ : ∃ x, lo (l.getD 4 0) 4 = x := ⟨_, rfl⟩
  obtain ⟨x5, hx5⟩ : ∃ x, lo (l.getD 5 0) 6 = x := ⟨_, rfl⟩
  obtain ⟨x6, hx6⟩ : ∃ x, lo (l.getD 6 0) 8 = x := ⟨_, rfl⟩
  obtain ⟨x7, hx7⟩ : ∃ x, lo (l.getD 7 0) 1 = x := ⟨_, rfl⟩
  obtain ⟨x8, hx8⟩ : ∃ x, lo (l.getD 8 0) 1 = x := ⟨_, rfl⟩
  obtain ⟨x9, hx9⟩ : ∃ x, lo (l.getD 9 0) 1 = x := ⟨_, rfl⟩
  obtain ⟨K, hK⟩ : ∃ K, (if ((drM lb).length : Int) / 256 < x0 then 0 else x0) = K := ⟨_, rfl⟩
  obtain ⟨C, hC⟩ : ∃ C, (if 4 < x2 then 0 else x2) = C := ⟨_, rfl⟩
  have hof : Dr.of l lb = ⟨K, x1, C, x3, x4, x5, x6, x7, x8, x9, drM lb⟩ := by
    have e0 : l.getD 0 0 % 256 = x0 := hx0
    have e1 : l.getD 1 0 % 4 = x1 := hx1
    have e2 : l.getD 2 0 % 8 = x2 := hx2
    have e3 : l.getD 3 0 % 4 = x3 := hx3
    have e4 : l.getD 4 0 % 16 = x4 := hx4
    have e5 : l.getD 5 0 % 64 = x5 := hx5
    have e6 : l.getD 6 0 % 256 = x6 := hx6
    have e7 : l.getD 7 0 % 2 = x7 := hx7
    have e8 : l.getD 8 0 % 2 = x8 := hx8
    have e9 : l.getD 9 0 % 2 = x9 := hx9
    unfold Dr.of
    rw [e0, e1, e2, e3, e4, e5, e6, e7, e8, e9, ← hK, ← hC]
    congr 1
    split <;> split <;> omega
  have hx2b : 0 ≤ x2 ∧ x2 < 8 := by
    have e2 : l.getD 2 0 % 8 = x2 := hx2
    omega
  rw [hof]
  clear hof
  obtain ⟨k0, k1, bW, sW⟩ := boxes2 w (.cells #[v, vm] 34) (.cells #[.int .i64 0, .int .i64 0, .int .i64 0, .int .i64 0, .int .i64 0, .int .i64 0, .int .i64 0, .int .i64 0, .int .i64 0, .int .i64 0, .slice none 0 0] 75)
  have k0 : rowB _ _ _ _ := k0
  have k1 : rowB _ _ _ _ := k1
  have h1 := isArg_below h bW (Nat.le_refl _)
  have hm1 := isByt_below hm bW (Nat.le_refl _)
  have HK := Lib.hid hK
  have HC := Lib.hid hC
  have HXB := Lib.hid hx2b
  have hdl : (drM lb).length ≤ 140737488351232 := by rw [drM_len]; omega
  have HDL := Lib.hid hdl
  clear h hm hK hC hx2b hdl
  go_enter Try.func85, Try.ntmps85
  go_upto_region 1 with (fail)
  generalize (w.alloc (.cells #[v, vm] 34)).alloc (.cells #[.int .i64 0, .int .i64 0, .int .i64 0, .int .i64 0, .int .i64 0, .int .i64 0, .int .i64 0, .int .i64 0, .int .i64 0, .int .i64 0, .slice none 0 0] 75) = w1 at *
  go_cut [3] (fun s wx => ∃ y a cap, s = .pointer (some ⟨y, 0, none⟩) ∧ w1.heap.size ≤ y ∧ rowB wx y 75 #[.int .i64 x0, .int .i64 x1, .int .i64 x2, .int .i64 x3, .int .i64 x4, .int .i64 x5, .int .i64 x6, .int .i64 x7, .int .i64 x8, .int .i64 x9, .slice a (drM lb).length cap] ∧ isByt wx (.slice a (drM lb).length cap) (drM lb) ∧ Below w1.heap.size w1 wx)
  case first =>
    refine wp_region_float (fun w' => Below w1.heap.size w1 w') [(0, 1), (2, 1), (4, 1), (6, 1), (8, 1), (10, 1), (12, 1), (14, 1), (16, 1), (18, 1), (20, 1), (21, 1), (1, 3), (3, 3), (5, 3), (7, 3), (9, 3), (11, 3), (13, 3), (15, 3), (17, 3), (19, 3), (22, 2), (23, 2)] 24 [(25, 2)] (by kernel_rfl) (by kernel_rfl) (fun _ _ _ _ _ h => h) ?_
    simp only [List.map_cons, List.map_nil, opOf, List.getD_cons_zero, List.getD_cons_succ]
    change wpFloat _ _ _ _ _ _ _ _ w1.drew
    have hS := (Below.refl w1.heap.size w1).drew
    generalize w1.drew = w2 at *
    refine wpFloat_held (.agg #[v, vm]) rfl hS (fun w' hw' => exec_rowR 34 _ rfl w.heap.size rfl 34 #[v, vm] (rowB_below k0 hw' (rowB_lt k0)) agDv) ?_
    simp only [Act.put, List.setIfInBounds_toArray, List.set_cons_zero, List.set_cons_succ]
    refine wpFloat_held (.agg #[v, vm]) rfl hS (fun w' hw' => exec_rowR 34 _ rfl w.heap.size rfl 34 #[v, vm] (rowB_below k0 hw' (rowB_lt k0)) agDv) ?_
    simp only [Act.put, List.setIfInBounds_toArray, List.set_cons_zero, List.set_cons_succ]
    refine wpFloat_held (.agg #[v, vm]) rfl hS (fun w' hw' => exec_rowR 34 _ rfl w.heap.size rfl 34 #[v, vm] (rowB_below k0 hw' (rowB_lt k0)) agDv) ?_
    simp only [Act.put, List.setIfInBounds_toArray, List.set_cons_zero, List.set_cons_succ]
    refine wpFloat_held (.agg #[v, vm]) rfl hS (fun w' hw' => exec_rowR 34 _ rfl w.heap.size rfl 34 #[v, vm] (rowB_below k0 hw' (rowB_lt k0)) agDv) ?_
    simp only [Act.put, List.setIfInBounds_toArray, List.set_cons_zero, List.set_cons_succ]
    refine wpFloat_held (.agg #[v, vm]) rfl hS (fun w' hw' => exec_rowR 34 _ rfl w.heap.size rfl 34 #[v, vm] (rowB_below k0 hw' (rowB_lt k0)) agDv) ?_
    simp only [Act.put, List.setIfInBounds_toArray, List.set_cons_zero, List.set_cons_succ]
    refine wpFloat_held (.agg #[v, vm]) rfl hS (fun w' hw' => exec_rowR 34 _ rfl w.heap.size rfl 34 #[v, vm] (rowB_below k0 hw' (rowB_lt k0)) agDv) ?_
    simp only [Act.put, List.setIfInBounds_toArray, List.set_cons_zero, List.set_cons_succ]
    refine wpFloat_held (.agg #[v, vm]) rfl hS (fun w' hw' => exec_rowR 34 _ rfl w.heap.size rfl 34 #[v, vm] (rowB_below k0 hw' (rowB_lt k0)) agDv) ?_
    simp only [Act.put, List.setIfInBounds_toArray, List.set_cons_zero, List.set_cons_succ]
    refine wpFloat_held (.agg #[v, vm]) rfl hS (fun w' hw' => exec_rowR 34 _ rfl w.heap.size rfl 34 #[v, vm] (rowB_below k0 hw' (rowB_lt k0)) agDv) ?_
    simp only [Act.put, List.setIfInBounds_toArray, List.set_cons_zero, List.set_cons_succ]
    refine wpFloat_held (.agg #[v, vm]) rfl hS (fun w' hw' => exec_rowR 34 _ rfl w.heap.size rfl 34 #[v, vm] (rowB_below k0 hw' (rowB_lt k0)) agDv) ?_
    simp only [Act.put, List.setIfInBounds_toArray, List.set_cons_zero, List.set_cons_succ]
    refine wpFloat_held (.agg #[v, vm]) rfl hS (fun w' hw' => exec_rowR 34 _ rfl w.heap.size rfl 34 #[v, vm] (rowB_below k0 hw' (rowB_lt k0)) agDv) ?_
    simp only [Act.put, List.setIfInBounds_toArray, List.set_cons_zero, List.set_cons_succ]
    refine wpFloat_held (.pointer (some ⟨w.heap.size, 1, none⟩)) rfl hS (fun w' hw' => by go_simp) ?_
    simp only [Act.put, List.setIfInBounds_toArray, List.set_cons_zero, List.set_cons_succ]
    refine wpFloat_held vm rfl hS (fun w' hw' => by have c := rowB_cell (rowB_below k0 hw' (rowB_lt k0)) 1 (v := vm) rfl; go_simp) ?_
    simp only [Act.put, List.setIfInBounds_toArray, List.set_cons_zero, List.set_cons_succ]
    refine wpFloat_call ?_ ?_
    rotate_left
    · go_wp2_with fail
      have hz := rowB_new w2 75 #[.int .i64 0, .int .i64 0, .int .i64 0, .int .i64 0, .int .i64 0, .int .i64 0, .int .i64 0, .int .i64 0, .int .i64 0, .int .i64 0, .slice none 0 0]
      have lz := hS.size
      replace hS := hS.alloc lz (.cells #[.int .i64 0, .int .i64 0, .int .i64 0, .int .i64 0, .int .i64 0, .int .i64 0, .int .i64 0, .int .i64 0, .int .i64 0, .int .i64 0, .slice none 0 0] 75)
      generalize w2.alloc (.cells #[.int .i64 0, .int .i64 0, .int .i64 0, .int .i64 0, .int .i64 0, .int .i64 0, .int .i64 0, .int .i64 0, .int .i64 0, .int .i64 0, .slice none 0 0] 75) = u3 at *
      generalize w2.heap.size = z3 at *
      refine ⟨hS, ?_⟩
      refine wpMix_call ?_
      go_wp2_with (go_at_call 84; refine (devNumber_any _ _ l 0 8 _ (isArg_below h1 hS (Nat.le_refl _))).mono ?_; rintro e u4 ⟨rfl, hb⟩; rw [show wd 8 = 8 from rfl, hx0]; replace hz := rowB_below hz hb (rowB_lt hz); replace hS := hS.trans (hb.mono hS.size); clear hb)
      first | refine ⟨fun _ => hS, ?_⟩ | refine ⟨hS, ?_⟩
      refine wpMix_call ?_
      go_wp2_with (go_at_call 84; refine (devNumber_any _ _ l 1 2 _ (isArg_below h1 hS (Nat.le_refl _))).mono ?_; rintro e u5 ⟨rfl, hb⟩; rw [show wd 2 = 2 from rfl, hx1]; replace hz := rowB_below hz hb (rowB_lt hz); replace hS := hS.trans (hb.mono hS.size); clear hb)
      first | refine ⟨fun _ => hS, ?_⟩ | refine ⟨hS, ?_⟩
      refine wpMix_call ?_
      go_wp2_with (go_at_call 84; refine (devNumber_any _ _ l 2 3 _ (isArg_below h1 hS (Nat.le_refl _))).mono ?_; rintro e u6 ⟨rfl, hb⟩; rw [show wd 3 = 3 from rfl, hx2]; replace hz := rowB_below hz hb (rowB_lt hz); replace hS := hS.trans (hb.mono hS.size); clear hb)
      first | refine ⟨fun _ => hS, ?_⟩ | refine ⟨hS, ?_⟩
      refine wpMix_call ?_
      go_wp2_with (go_at_call 84; refine (devNumber_any _ _ l 3 2 _ (isArg_below h1 hS (Nat.le_refl _))).mono ?_; rintro e u7 ⟨rfl, hb⟩; rw [show wd 2 = 2 from rfl, hx3]; replace hz := rowB_below hz hb (rowB_lt hz); replace hS := hS.trans (hb.mono hS.size); clear hb)
      first | refine ⟨fun _ => hS, ?_⟩ | refine ⟨hS, ?_⟩
      refine wpMix_call ?_
      go_wp2_with (go_at_call 84; refine (devNumber_any _ _ l 4 4 _ (isArg_below h1 hS (Nat.le_refl _))).mono ?_; rintro e u8 ⟨rfl, hb⟩; rw [show wd 4 = 4 from rfl, hx4]; replace hz := rowB_below hz hb (rowB_lt hz); replace hS := hS.trans (hb.mono hS.size); clear hb)
      first | refine ⟨fun _ => hS, ?_⟩ | refine ⟨hS, ?_⟩
      refine wpMix_call ?_
      go_wp2_with (go_at_call 84; refine (devNumber_any _ _ l 5 6 _ (isArg_below h1 hS (Nat.le_refl _))).mono ?_; rintro e u9 ⟨rfl, hb⟩; rw [show wd 6 = 6 from rfl, hx5]; replace hz := rowB_below hz hb (rowB_lt hz); replace hS := hS.trans (hb.mono hS.size); clear hb)
      first | refine ⟨fun _ => hS, ?_⟩ | refine ⟨hS, ?_⟩
      refine wpMix_call ?_
      go_wp2_with (go_at_call 84; refine (devNumber_any _ _ l 6 8 _ (isArg_below h1 hS (Nat.le_refl _))).mono ?_; rintro e u10 ⟨rfl, hb⟩; rw [show wd 8 = 8 from rfl, hx6]; replace hz := rowB_below hz hb (rowB_lt hz); replace hS := hS.trans (hb.mono hS.size); clear hb)
      first | refine ⟨fun _ => hS, ?_⟩ | refine ⟨hS, ?_⟩
      refine wpMix_call ?_
      go_wp2_with (go_at_call 84; refine (devNumber_any _ _ l 7 1 _ (isArg_below h1 hS (Nat.le_refl _))).mono ?_; rintro e u11 ⟨rfl, hb⟩; rw [show wd 1 = 1 from rfl, hx7]; replace hz := rowB_below hz hb (rowB_lt hz); replace hS := hS.trans (hb.mono hS.size); clear hb)
      first | refine ⟨fun _ => hS, ?_⟩ | refine ⟨hS, ?_⟩
      refine wpMix_call ?_
      go_wp2_with (go_at_call 84; refine (devNumber_any _ _ l 8 1 _ (isArg_below h1 hS (Nat.le_refl _))).mono ?_; rintro e u12 ⟨rfl, hb⟩; rw [show wd 1 = 1 from rfl, hx8]; replace hz := rowB_below hz hb (rowB_lt hz); replace hS := hS.trans (hb.mono hS.size); clear hb)
      first | refine ⟨fun _ => hS, ?_⟩ | refine ⟨hS, ?_⟩
      refine wpMix_call ?_
      go_wp2_with (go_at_call 84; refine (devNumber_any _ _ l 9 1 _ (isArg_below h1 hS (Nat.le_refl _))).mono ?_; rintro e u13 ⟨rfl, hb⟩; rw [show wd 1 = 1 from rfl, hx9]; replace hz := rowB_below hz hb (rowB_lt hz); replace hS := hS.trans (hb.mono hS.size); clear hb)
      first | refine ⟨fun _ => hS, ?_⟩ | refine ⟨hS, ?_⟩
      refine wpMix_call ?_
      go_wp2_with (go_at_call 91; refine (drvWhole_any _ lb _ (isByt_below hm1 hS (Nat.le_refl _)) hL).mono ?_; rintro e u14 ⟨a, cap, rfl, hu, rfl⟩)
      try refine ⟨fun h => (by cases h), ?_⟩
      refine wpMix_call ?_
      go_wp2_with fail
      try refine ⟨fun h => (by cases h), ?_⟩
      refine wpMix_call ?_
      go_wp2_with (refine wpList_storeR rfl 75 _ _ rfl z3 rfl #[.int .i64 x0, .int .i64 x1, .int .i64 x2, .int .i64 x3, .int .i64 x4, .int .i64 x5, .int .i64 x6, .int .i64 x7, .int .i64 x8, .int .i64 x9, .slice a (drM lb).length cap] rfl (Dr.one rfl) 75 #[.int .i64 0, .int .i64 0, .int .i64 0, .int .i64 0, .int .i64 0, .int .i64 0, .int .i64 0, .int .i64 0, .int .i64 0, .int .i64 0, .slice none 0 0] rfl ?_ agDr ?_; with_reducible exact hz)
      try refine ⟨fun h => (by cases h), ?_⟩
      refine wpMix_nil ?_
      have HFIN := Lib.hid (show ∃ y a cap, Value.pointer (some ⟨z3, 0, none⟩) = .pointer (some ⟨y, 0, none⟩) ∧ w1.heap.size ≤ y ∧ rowB _ y 75 #[.int .i64 x0, .int .i64 x1, .int .i64 x2, .int .i64 x3, .int .i64 x4, .int .i64 x5, .int .i64 x6, .int .i64 x7, .int .i64 x8, .int .i64 x9, .slice a (drM lb).length cap] ∧ isByt _ (.slice a (drM lb).length cap) (drM lb) ∧ Below w1.heap.size w1 _ from ⟨_, a, cap, rfl, lz, rowB_row hz _, isByt_box0 hz noU8 hu #[.int .i64 x0, .int .i64 x1, .int .i64 x2, .int .i64 x3, .int .i64 x4, .int .i64 x5, .int .i64 x6, .int .i64 x7, .int .i64 x8, .int .i64 x9, .slice a (drM lb).length cap], below_rowR hS #[.int .i64 x0, .int .i64 x1, .int .i64 x2, .int .i64 x3, .int .i64 x4, .int .i64 x5, .int .i64 x6, .int .i64 x7, .int .i64 x8, .int .i64 x9, .slice a (drM lb).length cap] lz⟩)
      go_wp2_with fail
      go_meet
      case rel => exact HFIN.out
    go_wp2_with (go_at_call 84; refine (devNumber_any _ _ l 0 8 _ (isArg_below h1 hS (Nat.le_refl _))).mono ?_; rintro e u17 ⟨rfl, hb⟩; rw [show wd 8 = 8 from rfl, hx0]; replace hS := hS.trans (hb.mono hS.size); clear hb)
    first | refine ⟨fun _ => hS, ?_⟩ | refine ⟨hS, ?_⟩
    refine wpFloat_call ?_ ?_
    rotate_left
    · go_wp2_with fail
      have hz := rowB_new u17 75 #[.int .i64 0, .int .i64 0, .int .i64 0, .int .i64 0, .int .i64 0, .int .i64 0, .int .i64 0, .int .i64 0, .int .i64 0, .int .i64 0, .slice none 0 0]
      have lz := hS.size
      replace hS := hS.alloc lz (.cells #[.int .i64 0, .int .i64 0, .int .i64 0, .int .i64 0, .int .i64 0, .int .i64 0, .int .i64 0, .int .i64 0, .int .i64 0, .int .i64 0, .slice none 0 0] 75)
      generalize u17.alloc (.cells #[.int .i64 0, .int .i64 0, .int .i64 0, .int .i64 0, .int .i64 0, .int .i64 0, .int .i64 0, .int .i64 0, .int .i64 0, .int .i64 0, .slice none 0 0] 75) = u18 at *
      generalize u17.heap.size = z18 at *
      refine ⟨hS, ?_⟩
      refine wpMix_call ?_
      go_wp2_with (go_at_call 84; refine (devNumber_any _ _ l 1 2 _ (isArg_below h1 hS (Nat.le_refl _))).mono ?_; rintro e u19 ⟨rfl, hb⟩; rw [show wd 2 = 2 from rfl, hx1]; replace hz := rowB_below hz hb (rowB_lt hz); replace hS := hS.trans (hb.mono hS.size); clear hb)
      first | refine ⟨fun _ => hS, ?_⟩ | refine ⟨hS, ?_⟩
      refine wpMix_call ?_
      go_wp2_with (go_at_call 84; refine (devNumber_any _ _ l 2 3 _ (isArg_below h1 hS (Nat.le_refl _))).mono ?_; rintro e u20 ⟨rfl, hb⟩; rw [show wd 3 = 3 from rfl, hx2]; replace hz := rowB_below hz hb (rowB_lt hz); replace hS := hS.trans (hb.mono hS.size); clear hb)
      first | refine ⟨fun _ => hS, ?_⟩ | refine ⟨hS, ?_⟩
      refine wpMix_call ?_
      go_wp2_with (go_at_call 84; refine (devNumber_any _ _ l 3 2 _ (isArg_below h1 hS (Nat.le_refl _))).mono ?_; rintro e u21 ⟨rfl, hb⟩; rw [show wd 2 = 2 from rfl, hx3]; replace hz := rowB_below hz hb (rowB_lt hz); replace hS := hS.trans (hb.mono hS.size); clear hb)
      first | refine ⟨fun _ => hS, ?_⟩ | refine ⟨hS, ?_⟩
      refine wpMix_call ?_
      go_wp2_with (go_at_call 84; refine (devNumber_any _ _ l 4 4 _ (isArg_below h1 hS (Nat.le_refl _))).mono ?_; rintro e u22 ⟨rfl, hb⟩; rw [show wd 4 = 4 from rfl, hx4]; replace hz := rowB_below hz hb (rowB_lt hz); replace hS := hS.trans (hb.mono hS.size); clear hb)
      first | refine ⟨fun _ => hS, ?_⟩ | refine ⟨hS, ?_⟩
      refine wpMix_call ?_
      go_wp2_with (go_at_call 84; refine (devNumber_any _ _ l 5 6 _ (isArg_below h1 hS (Nat.le_refl _))).mono ?_; rintro e u23 ⟨rfl, hb⟩; rw [show wd 6 = 6 from rfl, hx5]; replace hz := rowB_below hz hb (rowB_lt hz); replace hS := hS.trans (hb.mono hS.size); clear hb)
      first | refine ⟨fun _ => hS, ?_⟩ | refine ⟨hS, ?_⟩
      refine wpMix_call ?_
      go_wp2_with (go_at_call 84; refine (devNumber_any _ _ l 6 8 _ (isArg_below h1 hS (Nat.le_refl _))).mono ?_; rintro e u24 ⟨rfl, hb⟩; rw [show wd 8 = 8 from rfl, hx6]; replace hz := rowB_below hz hb (rowB_lt hz); replace hS := hS.trans (hb.mono hS.size); clear hb)
      first | refine ⟨fun _ => hS, ?_⟩ | refine ⟨hS, ?_⟩
      refine wpMix_call ?_
      go_wp2_with (go_at_call 84; refine (devNumber_any _ _ l 7 1 _ (isArg_below h1 hS (Nat.le_refl _))).mono ?_; rintro e u25 ⟨rfl, hb⟩; rw [show wd 1 = 1 from rfl, hx7]; replace hz := rowB_below hz hb (rowB_lt hz); replace hS := hS.trans (hb.mono hS.size); clear hb)
      first | refine ⟨fun _ => hS, ?_⟩ | refine ⟨hS, ?_⟩
      refine wpMix_call ?_
      go_wp2_with (go_at_call 84; refine (devNumber_any _ _ l 8 1 _ (isArg_below h1 hS (Nat.le_refl _))).mono ?_; rintro e u26 ⟨rfl, hb⟩; rw [show wd 1 = 1 from rfl, hx8]; replace hz := rowB_below hz hb (rowB_lt hz); replace hS := hS.trans (hb.mono hS.size); clear hb)
      first | refine ⟨fun _ => hS, ?_⟩ | refine ⟨hS, ?_⟩
      refine wpMix_call ?_
      go_wp2_with (go_at_call 84; refine (devNumber_any _ _ l 9 1 _ (isArg_below h1 hS (Nat.le_refl _))).mono ?_; rintro e u27 ⟨rfl, hb⟩; rw [show wd 1 = 1 from rfl, hx9]; replace hz := rowB_below hz hb (rowB_lt hz); replace hS := hS.trans (hb.mono hS.size); clear hb)
      first | refine ⟨fun _ => hS, ?_⟩ | refine ⟨hS, ?_⟩
      refine wpMix_call ?_
      go_wp2_with (go_at_call 91; refine (drvWhole_any _ lb _ (isByt_below hm1 hS (Nat.le_refl _)) hL).mono ?_; rintro e u28 ⟨a, cap, rfl, hu, rfl⟩)
      try refine ⟨fun h => (by cases h), ?_⟩
      refine wpMix_call ?_
      go_wp2_with fail
      try refine ⟨fun h => (by cases h), ?_⟩
      refine wpMix_call ?_
      go_wp2_with (refine wpList_storeR rfl 75 _ _ rfl z18 rfl #[.int .i64 x0, .int .i64 x1, .int .i64 x2, .int .i64 x3, .int .i64 x4, .int .i64 x5, .int .i64 x6, .int .i64 x7, .int .i64 x8, .int .i64 x9, .slice a (drM lb).length cap] rfl (Dr.one rfl) 75 #[.int .i64 0, .int .i64 0, .int .i64 0, .int .i64 0, .int .i64 0, .int .i64 0, .int .i64 0, .int .i64 0, .int .i64 0, .int .i64 0, .slice none 0 0] rfl ?_ agDr ?_; with_reducible exact hz)
      try refine ⟨fun h => (by cases h), ?_⟩
      refine wpMix_nil ?_
      have HFIN := Lib.hid (show ∃ y a cap, Value.pointer (some ⟨z18, 0, none⟩) = .pointer (some ⟨y, 0, none⟩) ∧ w1.heap.size ≤ y ∧ rowB _ y 75 #[.int .i64 x0, .int .i64 x1, .int .i64 x2, .int .i64 x3, .int .i64 x4, .int .i64 x5, .int .i64 x6, .int .i64 x7, .int .i64 x8, .int .i64 x9, .slice a (drM lb).length cap] ∧ isByt _ (.slice a (drM lb).length cap) (drM lb) ∧ Below w1.heap.size w1 _ from ⟨_, a, cap, rfl, lz, rowB_row hz _, isByt_box0 hz noU8 hu #[.int .i64 x0, .int .i64 x1, .int .i64 x2, .int .i64 x3, .int .i64 x4, .int .i64 x5, .int .i64 x6, .int .i64 x7, .int .i64 x8, .int .i64 x9, .slice a (drM lb).length cap], below_rowR hS #[.int .i64 x0, .int .i64 x1, .int .i64 x2, .int .i64 x3, .int .i64 x4, .int .i64 x5, .int .i64 x6, .int .i64 x7, .int .i64 x8, .int .i64 x9, .slice a (drM lb).length cap] lz⟩)
      go_wp2_with fail
      go_meet
      case rel => exact HFIN.out
    go_wp2_with (go_at_call 84; refine (devNumber_any _ _ l 1 2 _ (isArg_below h1 hS (Nat.le_refl _))).mono ?_; rintro e u31 ⟨rfl, hb⟩; rw [show wd 2 = 2 from rfl, hx1]; replace hS := hS.trans (hb.mono hS.size); clear hb)
    first | refine ⟨fun _ => hS, ?_⟩ | refine ⟨hS, ?_⟩
    refine wpFloat_call ?_ ?_
    rotate_left
    · go_wp2_with fail
      have hz := rowB_new u31 75 #[.int .i64 0, .int .i64 0, .int .i64 0, .int .i64 0, .int .i64 0, .int .i64 0, .int .i64 0, .int .i64 0, .int .i64 0, .int .i64 0, .slice none 0 0]
      have lz := hS.size
      replace hS := hS.alloc lz (.cells #[.int .i64 0, .int .i64 0, .int .i64 0, .int .i64 0, .int .i64 0, .int .i64 0, .int .i64 0, .int .i64 0, .int .i64 0, .int .i64 0, .slice none 0 0] 75)
      generalize u31.alloc (.cells #[.int .i64 0, .int .i64 0, .int .i64 0, .int .i64 0, .int .i64 0, .int .i64 0, .int .i64 0, .int .i64 0, .int .i64 0, .int .i64 0, .slice none 0 0] 75) = u32 at *
      generalize u31.heap.size = z32 at *
      refine ⟨hS, ?_⟩
      refine wpMix_call ?_
      go_wp2_with (go_at_call 84; refine (devNumber_any _ _ l 2 3 _ (isArg_below h1 hS (Nat.le_refl _))).mono ?_; rintro e u33 ⟨rfl, hb⟩; rw [show wd 3 = 3 from rfl, hx2]; replace hz := rowB_below hz hb (rowB_lt hz); replace hS := hS.trans (hb.mono hS.size); clear hb)
      first | refine ⟨fun _ => hS, ?_⟩ | refine ⟨hS, ?_⟩
      refine wpMix_call ?_
      go_wp2_with (go_at_call 84; refine (devNumber_any _ _ l 3 2 _ (isArg_below h1 hS (Nat.le_refl _))).mono ?_; rintro e u34 ⟨rfl, hb⟩; rw [show wd 2 = 2 from rfl, hx3]; replace hz := rowB_below hz hb (rowB_lt hz); replace hS := hS.trans (hb.mono hS.size); clear hb)
      first | refine ⟨fun _ => hS, ?_⟩ | refine ⟨hS, ?_⟩
      refine wpMix_call ?_
      go_wp2_with (go_at_call 84; refine (devNumber_any _ _ l 4 4 _ (isArg_below h1 hS (Nat.le_refl _))).mono ?_; rintro e u35 ⟨rfl, hb⟩; rw [show wd 4 = 4 from rfl, hx4]; replace hz := rowB_below hz hb (rowB_lt hz); replace hS := hS.trans (hb.mono hS.size); clear hb)
      first | refine ⟨fun _ => hS, ?_⟩ | refine ⟨hS, ?_⟩
      refine wpMix_call ?_
      go_wp2_with (go_at_call 84; refine (devNumber_any _ _ l 5 6 _ (isArg_below h1 hS (Nat.le_refl _))).mono ?_; rintro e u36 ⟨rfl, hb⟩; rw [show wd 6 = 6 from rfl, hx5]; replace hz := rowB_below hz hb (rowB_lt hz); replace hS := hS.trans (hb.mono hS.size); clear hb)
      first | refine ⟨fun _ => hS, ?_⟩ | refine ⟨hS, ?_⟩
      refine wpMix_call ?_
      go_wp2_with (go_at_call 84; refine (devNumber_any _ _ l 6 8 _ (isArg_below h1 hS (Nat.le_refl _))).mono ?_; rintro e u37 ⟨rfl, hb⟩; rw [show wd 8 = 8 from rfl, hx6]; replace hz := rowB_below hz hb (rowB_lt hz); replace hS := hS.trans (hb.mono hS.size); clear hb)
      first | refine ⟨fun _ => hS, ?_⟩ | refine ⟨hS, ?_⟩
      refine wpMix_call ?_
      go_wp2_with (go_at_call 84; refine (devNumber_any _ _ l 7 1 _ (isArg_below h1 hS (Nat.le_refl _))).mono ?_; rintro e u38 ⟨rfl, hb⟩; rw [show wd 1 = 1 from rfl, hx7]; replace hz := rowB_below hz hb (rowB_lt hz); replace hS := hS.trans (hb.mono hS.size); clear hb)
      first | refine ⟨fun _ => hS, ?_⟩ | refine ⟨hS, ?_⟩
      refine wpMix_call ?_
      go_wp2_with (go_at_call 84; refine (devNumber_any _ _ l 8 1 _ (isArg_below h1 hS (Nat.le_refl _))).mono ?_; rintro e u39 ⟨rfl, hb⟩; rw [show wd 1 = 1 from rfl, hx8]; replace hz := rowB_below hz hb (rowB_lt hz); replace hS := hS.trans (hb.mono hS.size); clear hb)
      first | refine ⟨fun _ => hS, ?_⟩ | refine ⟨hS, ?_⟩
      refine wpMix_call ?_
      go_wp2_with (go_at_call 84; refine (devNumber_any _ _ l 9 1 _ (isArg_below h1 hS (Nat.le_refl _))).mono ?_; rintro e u40 ⟨rfl, hb⟩; rw [show wd 1 = 1 from rfl, hx9]; replace hz := rowB_below hz hb (rowB_lt hz); replace hS := hS.trans (hb.mono hS.size); clear hb)
      first | refine ⟨fun _ => hS, ?_⟩ | refine ⟨hS, ?_⟩
      refine wpMix_call ?_
      go_wp2_with (go_at_call 91; refine (drvWhole_any _ lb _ (isByt_below hm1 hS (Nat.le_refl _)) hL).mono ?_; rintro e u41 ⟨a, cap, rfl, hu, rfl⟩)
      try refine ⟨fun h => (by cases h), ?_⟩
      refine wpMix_call ?_
      go_wp2_with fail
      try refine ⟨fun h => (by cases h), ?_⟩
      refine wpMix_call ?_
      go_wp2_with (refine wpList_storeR rfl 75 _ _ rfl z32 rfl #[.int .i64 x0, .int .i64 x1, .int .i64 x2, .int .i64 x3, .int .i64 x4, .int .i64 x5, .int .i64 x6, .int .i64 x7, .int .i64 x8, .int .i64 x9, .slice a (drM lb).length cap] rfl (Dr.one rfl) 75 #[.int .i64 0, .int .i64 0, .int .i64 0, .int .i64 0, .int .i64 0, .int .i64 0, .int .i64 0, .int .i64 0, .int .i64 0, .int .i64 0, .slice none 0 0] rfl ?_ agDr ?_; with_reducible exact hz)
      try refine ⟨fun h => (by cases h), ?_⟩
      refine wpMix_nil ?_
      have HFIN := Lib.hid (show ∃ y a cap, Value.pointer (some ⟨z32, 0, none⟩) = .pointer (some ⟨y, 0, none⟩) ∧ w1.heap.size ≤ y ∧ rowB _ y 75 #[.int .i64 x0, .int .i64 x1, .int .i64 x2, .int .i64 x3, .int .i64 x4, .int .i64 x5, .int .i64 x6, .int .i64 x7, .int .i64 x8, .int .i64 x9, .slice a (drM lb).length cap] ∧ isByt _ (.slice a (drM lb).length cap) (drM lb) ∧ Below w1.heap.size w1 _ from ⟨_, a, cap, rfl, lz, rowB_row hz _, isByt_box0 hz noU8 hu #[.int .i64 x0, .int .i64 x1, .int .i64 x2, .int .i64 x3, .int .i64 x4, .int .i64 x5, .int .i64 x6, .int .i64 x7, .int .i64 x8, .int .i64 x9, .slice a (drM lb).length cap], below_rowR hS #[.int .i64 x0, .int .i64 x1, .int .i64 x2, .int .i64 x3, .int .i64 x4, .int .i64 x5, .int .i64 x6, .int .i64 x7, .int .i64 x8, .int .i64 x9, .slice a (drM lb).length cap] lz⟩)
      go_wp2_with fail
      go_meet
      case rel => exact HFIN.out
    go_wp2_with (go_at_call 84; refine (devNumber_any _ _ l 2 3 _ (isArg_below h1 hS (Nat.le_refl _))).mono ?_; rintro e u44 ⟨rfl, hb⟩; rw [show wd 3 = 3 from rfl, hx2]; replace hS := hS.trans (hb.mono hS.size); clear hb)
    first | refine ⟨fun _ => hS, ?_⟩ | refine ⟨hS, ?_⟩
    refine wpFloat_call ?_ ?_
    rotate_left
    · go_wp2_with fail
      have hz := rowB_new u44 75 #[.int .i64 0, .int .i64 0, .int .i64 0, .int .i64 0, .int .i64 0, .int .i64 0, .int .i64 0, .int .i64 0, .int .i64 0, .int .i64 0, .slice none 0 0]
      have lz := hS.size
      replace hS := hS.alloc lz (.cells #[.int .i64 0, .int .i64 0, .int .i64 0, .int .i64 0, .int .i64 0, .int .i64 0, .int .i64 0, .int .i64 0, .int .i64 0, .int .i64 0, .slice none 0 0] 75)
      generalize u44.alloc (.cells #[.int .i64 0, .int .i64 0, .int .i64 0, .int .i64 0, .int .i64 0, .int .i64 0, .int .i64 0, .int .i64 0, .int .i64 0, .int .i64 0, .slice none 0 0] 75) = u45 at *
      generalize u44.heap.size = z45 at *
      refine ⟨hS, ?_⟩
      refine wpMix_call ?_
      go_wp2_with (go_at_call 84; refine (devNumber_any _ _ l 3 2 _ (isArg_below h1 hS (Nat.le_refl _))).mono ?_; rintro e u46 ⟨rfl, hb⟩; rw [show wd 2 = 2 from rfl, hx3]; replace hz := rowB_below hz hb (rowB_lt hz); replace hS := hS.trans (hb.mono hS.size); clear hb)
      first | refine ⟨fun _ => hS, ?_⟩ | refine ⟨hS, ?_⟩
      refine wpMix_call ?_
      go_wp2_with (go_at_call 84; refine (devNumber_any _ _ l 4 4 _ (isArg_below h1 hS (Nat.le_refl _))).mono ?_; rintro e u47 ⟨rfl, hb⟩; rw [show wd 4 = 4 from rfl, hx4]; replace hz := rowB_below hz hb (rowB_lt hz); replace hS := hS.trans (hb.mono hS.size); clear hb)
      first | refine ⟨fun _ => hS, ?_⟩ | refine ⟨hS, ?_⟩
      refine wpMix_call ?_
      go_wp2_with (go_at_call 84; refine (devNumber_any _ _ l 5 6 _ (isArg_below h1 hS (Nat.le_refl _))).mono ?_; rintro e u48 ⟨rfl, hb⟩; rw [show wd 6 = 6 from rfl, hx5]; replace hz := rowB_below hz hb (rowB_lt hz); replace hS := hS.trans (hb.mono hS.size); clear hb)
      first | refine ⟨fun _ => hS, ?_⟩ | refine ⟨hS, ?_⟩
      refine wpMix_call ?_
      go_wp2_with (go_at_call 84; refine (devNumber_any _ _ l 6 8 _ (isArg_below h1 hS (Nat.le_refl _))).mono ?_; rintro e u49 ⟨rfl, hb⟩; rw [show wd 8 = 8 from rfl, hx6]; replace hz := rowB_below hz hb (rowB_lt hz); replace hS := hS.trans (hb.mono hS.size); clear hb)
      first | refine ⟨fun _ => hS, ?_⟩ | refine ⟨hS, ?_⟩
      refine wpMix_call ?_
      go_wp2_with (go_at_call 84; refine (devNumber_any _ _ l 7 1 _ (isArg_below h1 hS (Nat.le_refl _))).mono ?_; rintro e u50 ⟨rfl, hb⟩; rw [show wd 1 = 1 from rfl, hx7]; replace hz := rowB_below hz hb (rowB_lt hz); replace hS := hS.trans (hb.mono hS.size); clear hb)
      first | refine ⟨fun _ => hS, ?_⟩ | refine ⟨hS, ?_⟩
      refine wpMix_call ?_
      go_wp2_with (go_at_call 84; refine (devNumber_any _ _ l 8 1 _ (isArg_below h1 hS (Nat.le_refl _))).mono ?_; rintro e u51 ⟨rfl, hb⟩; rw [show wd 1 = 1 from rfl, hx8]; replace hz := rowB_below hz hb (rowB_lt hz); replace hS := hS.trans (hb.mono hS.size); clear hb)
      first | refine ⟨fun _ => hS, ?_⟩ | refine ⟨hS, ?_⟩
      refine wpMix_call ?_
      go_wp2_with (go_at_call 84; refine (devNumber_any _ _ l 9 1 _ (isArg_below h1 hS (Nat.le_refl _))).mono ?_; rintro e u52 ⟨rfl, hb⟩; rw [show wd 1 = 1 from rfl, hx9]; replace hz := rowB_below hz hb (rowB_lt hz); replace hS := hS.trans (hb.mono hS.size); clear hb)
      first | refine ⟨fun _ => hS, ?_⟩ | refine ⟨hS, ?_⟩
      refine wpMix_call ?_
      go_wp2_with (go_at_call 91; refine (drvWhole_any _ lb _ (isByt_below hm1 hS (Nat.le_refl _)) hL).mono ?_; rintro e u53 ⟨a, cap, rfl, hu, rfl⟩)
      try refine ⟨fun h => (by cases h), ?_⟩
      refine wpMix_call ?_
      go_wp2_with fail
      try refine ⟨fun h => (by cases h), ?_⟩
      refine wpMix_call ?_
      go_wp2_with (refine wpList_storeR rfl 75 _ _ rfl z45 rfl #[.int .i64 x0, .int .i64 x1, .int .i64 x2, .int .i64 x3, .int .i64 x4, .int .i64 x5, .int .i64 x6, .int .i64 x7, .int .i64 x8, .int .i64 x9, .slice a (drM lb).length cap] rfl (Dr.one rfl) 75 #[.int .i64 0, .int .i64 0, .int .i64 0, .int .i64 0, .int .i64 0, .int .i64 0, .int .i64 0, .int .i64 0, .int .i64 0, .int .i64 0, .slice none 0 0] rfl ?_ agDr ?_; with_reducible exact hz)
      try refine ⟨fun h => (by cases h), ?_⟩
      refine wpMix_nil ?_
      have HFIN := Lib.hid (show ∃ y a cap, Value.pointer (some ⟨z45, 0, none⟩) = .pointer (some ⟨y, 0, none⟩) ∧ w1.heap.size ≤ y ∧ rowB _ y 75 #[.int .i64 x0, .int .i64 x1, .int .i64 x2, .int .i64 x3, .int .i64 x4, .int .i64 x5, .int .i64 x6, .int .i64 x7, .int .i64 x8, .int .i64 x9, .slice a (drM lb).length cap] ∧ isByt _ (.slice a (drM lb).length cap) (drM lb) ∧ Below w1.heap.size w1 _ from ⟨_, a, cap, rfl, lz, rowB_row hz _, isByt_box0 hz noU8 hu #[.int .i64 x0, .int .i64 x1, .int .i64 x2, .int .i64 x3, .int .i64 x4, .int .i64 x5, .int .i64 x6, .int .i64 x7, .int .i64 x8, .int .i64 x9, .slice a (drM lb).length cap], below_rowR hS #[.int .i64 x0, .int .i64 x1, .int .i64 x2, .int .i64 x3, .int .i64 x4, .int .i64 x5, .int .i64 x6, .int .i64 x7, .int .i64 x8, .int .i64 x9, .slice a (drM lb).length cap] lz⟩)
      go_wp2_with fail
      go_meet
      case rel => exact HFIN.out
    go_wp2_with (go_at_call 84; refine (devNumber_any _ _ l 3 2 _ (isArg_below h1 hS (Nat.le_refl _))).mono ?_; rintro e u56 ⟨rfl, hb⟩; rw [show wd 2 = 2 from rfl, hx3]; replace hS := hS.trans (hb.mono hS.size); clear hb)
    first | refine ⟨fun _ => hS, ?_⟩ | refine ⟨hS, ?_⟩
    refine wpFloat_call ?_ ?_
    rotate_left
    · go_wp2_with fail
      have hz := rowB_new u56 75 #[.int .i64 0, .int .i64 0, .int .i64 0, .int .i64 0, .int .i64 0, .int .i64 0, .int .i64 0, .int .i64 0, .int .i64 0, .int .i64 0, .slice none 0 0]
      have lz := hS.size
      replace hS := hS.alloc lz (.cells #[.int .i64 0, .int .i64 0, .int .i64 0, .int .i64 0, .int .i64 0, .int .i64 0, .int .i64 0, .int .i64 0, .int .i64 0, .int .i64 0, .slice none 0 0] 75)
      generalize u56.alloc (.cells #[.int .i64 0, .int .i64 0, .int .i64 0, .int .i64 0, .int .i64 0, .int .i64 0, .int .i64 0, .int .i64 0, .int .i64 0, .int .i64 0, .slice none 0 0] 75) = u57 at *
      generalize u56.heap.size = z57 at *
      refine ⟨hS, ?_⟩
      refine wpMix_call ?_
      go_wp2_with (go_at_call 84; refine (devNumber_any _ _ l 4 4 _ (isArg_below h1 hS (Nat.le_refl _))).mono ?_; rintro e u58 ⟨rfl, hb⟩; rw [show wd 4 = 4 from rfl, hx4]; replace hz := rowB_below hz hb (rowB_lt hz); replace hS := hS.trans (hb.mono hS.size); clear hb)
      first | refine ⟨fun _ => hS, ?_⟩ | refine ⟨hS, ?_⟩
      refine wpMix_call ?_
      go_wp2_with (go_at_call 84; refine (devNumber_any _ _ l 5 6 _ (isArg_below h1 hS (Nat.le_refl _))).mono ?_; rintro e u59 ⟨rfl, hb⟩; rw [show wd 6 = 6 from rfl, hx5]; replace hz := rowB_below hz hb (rowB_lt hz); replace hS := hS.trans (hb.mono hS.size); clear hb)
      first | refine ⟨fun _ => hS, ?_⟩ | refine ⟨hS, ?_⟩
      refine wpMix_call ?_
      go_wp2_with (go_at_call 84; refine (devNumber_any _ _ l 6 8 _ (isArg_below h1 hS (Nat.le_refl _))).mono ?_; rintro e u60 ⟨rfl, hb⟩; rw [show wd 8 = 8 from rfl, hx6]; replace hz := rowB_below hz hb (rowB_lt hz); replace hS := hS.trans (hb.mono hS.size); clear hb)
      first | refine ⟨fun _ => hS, ?_⟩ | refine ⟨hS, ?_⟩
      refine wpMix_call ?_
      go_wp2_with (go_at_call 84; refine (devNumber_any _ _ l 7 1 _ (isArg_below h1 hS (Nat.le_refl _))).mono ?_; rintro e u61 ⟨rfl, hb⟩; rw [show wd 1 = 1 from rfl, hx7]; replace hz := rowB_below hz hb (rowB_lt hz); replace hS := hS.trans (hb.mono hS.size); clear hb)
      first | refine ⟨fun _ => hS, ?_⟩ | refine ⟨hS, ?_⟩
      refine wpMix_call ?_
      go_wp2_with (go_at_call 84; refine (devNumber_any _ _ l 8 1 _ (isArg_below h1 hS (Nat.le_refl _))).mono ?_; rintro e u62 ⟨rfl, hb⟩; rw [show wd 1 = 1 from rfl, hx8]; replace hz := rowB_below hz hb (rowB_lt hz); replace hS := hS.trans (hb.mono hS.size); clear hb)
      first | refine ⟨fun _ => hS, ?_⟩ | refine ⟨hS, ?_⟩
      refine wpMix_call ?_
      go_wp2_with (go_at_call 84; refine (devNumber_any _ _ l 9 1 _ (isArg_below h1 hS (Nat.le_refl _))).mono ?_; rintro e u63 ⟨rfl, hb⟩; rw [show wd 1 = 1 from rfl, hx9]; replace hz := rowB_below hz hb (rowB_lt hz); replace hS := hS.trans (hb.mono hS.size); clear hb)
      first | refine ⟨fun _ => hS, ?_⟩ | refine ⟨hS, ?_⟩
      refine wpMix_call ?_
      go_wp2_with (go_at_call 91; refine (drvWhole_any _ lb _ (isByt_below hm1 hS (Nat.le_refl _)) hL).mono ?_; rintro e u64 ⟨a, cap, rfl, hu, rfl⟩)
      try refine ⟨fun h => (by cases h), ?_⟩
      refine wpMix_call ?_
      go_wp2_with fail
      try refine ⟨fun h => (by cases h), ?_⟩
      refine wpMix_call ?_
      go_wp2_with (refine wpList_storeR rfl 75 _ _ rfl z57 rfl #[.int .i64 x0, .int .i64 x1, .int .i64 x2, .int .i64 x3, .int .i64 x4, .int .i64 x5, .int .i64 x6, .int .i64 x7, .int .i64 x8, .int .i64 x9, .slice a (drM lb).length cap] rfl (Dr.one rfl) 75 #[.int .i64 0, .int .i64 0, .int .i64 0, .int .i64 0, .int .i64 0, .int .i64 0, .int .i64 0, .int .i64 0, .int .i64 0, .int .i64 0, .slice none 0 0] rfl ?_ agDr ?_; with_reducible exact hz)
      try refine ⟨fun h => (by cases h), ?_⟩
      refine wpMix_nil ?_
      have HFIN := Lib.hid (show ∃ y a cap, Value.pointer (some ⟨z57, 0, none⟩) = .pointer (some ⟨y, 0, none⟩) ∧ w1.heap.size ≤ y ∧ rowB _ y 75 #[.int .i64 x0, .int .i64 x1, .int .i64 x2, .int .i64 x3, .int .i64 x4, .int .i64 x5, .int .i64 x6, .int .i64 x7, .int .i64 x8, .int .i64 x9, .slice a (drM lb).length cap] ∧ isByt _ (.slice a (drM lb).length cap) (drM lb) ∧ Below w1.heap.size w1 _ from ⟨_, a, cap, rfl, lz, rowB_row hz _, isByt_box0 hz noU8 hu #[.int .i64 x0, .int .i64 x1, .int .i64 x2, .int .i64 x3, .int .i64 x4, .int .i64 x5, .int .i64 x6, .int .i64 x7, .int .i64 x8, .int .i64 x9, .slice a (drM lb).length cap], below_rowR hS #[.int .i64 x0, .int .i64 x1, .int .i64 x2, .int .i64 x3, .int .i64 x4, .int .i64 x5, .int .i64 x6, .int .i64 x7, .int .i64 x8, .int .i64 x9, .slice a (drM lb).length cap] lz⟩)
      go_wp2_with fail
      go_meet
      case rel => exact HFIN.out
    go_wp2_with (go_at_call 84; refine (devNumber_any _ _ l 4 4 _ (isArg_below h1 hS (Nat.le_refl _))).mono ?_; rintro e u67 ⟨rfl, hb⟩; rw [show wd 4 = 4 from rfl, hx4]; replace hS := hS.trans (hb.mono hS.size); clear hb)
    first | refine ⟨fun _ => hS, ?_⟩ | refine ⟨hS, ?_⟩
    refine wpFloat_call ?_ ?_
    rotate_left
    · go_wp2_with fail
      have hz := rowB_new u67 75 #[.int .i64 0, .int .i64 0, .int .i64 0, .int .i64 0, .int .i64 0, .int .i64 0, .int .i64 0, .int .i64 0, .int .i64 0, .int .i64 0, .slice none 0 0]
      have lz := hS.size
      replace hS := hS.alloc lz (.cells #[.int .i64 0, .int .i64 0, .int .i64 0, .int .i64 0, .int .i64 0, .int .i64 0, .int .i64 0, .int .i64 0, .int .i64 0, .int .i64 0, .slice none 0 0] 75)
      generalize u67.alloc (.cells #[.int .i64 0, .int .i64 0, .int .i64 0, .int .i64 0, .int .i64 0, .int .i64 0, .int .i64 0, .int .i64 0, .int .i64 0, .int .i64 0, .slice none 0 0] 75) = u68 at *
      generalize u67.heap.size = z68 at *
      refine ⟨hS, ?_⟩
      refine wpMix_call ?_
      go_wp2_with (go_at_call 84; refine (devNumber_any _ _ l 5 6 _ (isArg_below h1 hS (Nat.le_refl _))).mono ?_; rintro e u69 ⟨rfl, hb⟩; rw [show wd 6 = 6 from rfl, hx5]; replace hz := rowB_below hz hb (rowB_lt hz); replace hS := hS.trans (hb.mono hS.size); clear hb)
      first | refine ⟨fun _ => hS, ?_⟩ | refine ⟨hS, ?_⟩
      refine wpMix_call ?_
      go_wp2_with (go_at_call 84; refine (devNumber_any _ _ l 6 8 _ (isArg_below h1 hS (Nat.le_refl _))).mono ?_; rintro e u70 ⟨rfl, hb⟩; rw [show wd 8 = 8 from rfl, hx6]; replace hz := rowB_below hz hb (rowB_lt hz); replace hS := hS.trans (hb.mono hS.size); clear hb)
      first | refine ⟨fun _ => hS, ?_⟩ | refine ⟨hS, ?_⟩
      refine wpMix_call ?_
      go_wp2_with (go_at_call 84; refine (devNumber_any _ _ l 7 1 _ (isArg_below h1 hS (Nat.le_refl _))).mono ?_; rintro e u71 ⟨rfl, hb⟩; rw [show wd 1 = 1 from rfl, hx7]; replace hz := rowB_below hz hb (rowB_lt hz); replace hS := hS.trans (hb.mono hS.size); clear hb)
      first | refine ⟨fun _ => hS, ?_⟩ | refine ⟨hS, ?_⟩
      refine wpMix_call ?_
      go_wp2_with (go_at_call 84; refine (devNumber_any _ _ l 8 1 _ (isArg_below h1 hS (Nat.le_refl _))).mono ?_; rintro e u72 ⟨rfl, hb⟩; rw [show wd 1 = 1 from rfl, hx8]; replace hz := rowB_below hz hb (rowB_lt hz); replace hS := hS.trans (hb.mono hS.size); clear hb)
      first | refine ⟨fun _ => hS, ?_⟩ | refine ⟨hS, ?_⟩
      refine wpMix_call ?_
      go_wp2_with (go_at_call 84; refine (devNumber_any _ _ l 9 1 _ (isArg_below h1 hS (Nat.le_refl _))).mono ?_; rintro e u73 ⟨rfl, hb⟩; rw [show wd 1 = 1 from rfl, hx9]; replace hz := rowB_below hz hb (rowB_lt hz); replace hS := hS.trans (hb.mono hS.size); clear hb)
      first | refine ⟨fun _ => hS, ?_⟩ | refine ⟨hS, ?_⟩
      refine wpMix_call ?_
      go_wp2_with (go_at_call 91; refine (drvWhole_any _ lb _ (isByt_below hm1 hS (Nat.le_refl _)) hL).mono ?_; rintro e u74 ⟨a, cap, rfl, hu, rfl⟩)
      try refine ⟨fun h => (by cases h), ?_⟩
      refine wpMix_call ?_
      go_wp2_with fail
      try refine ⟨fun h => (by cases h), ?_⟩
      refine wpMix_call ?_
      go_wp2_with (refine wpList_storeR rfl 75 _ _ rfl z68 rfl #[.int .i64 x0, .int .i64 x1, .int .i64 x2, .int .i64 x3, .int .i64 x4, .int .i64 x5, .int .i64 x6, .int .i64 x7, .int .i64 x8, .int .i64 x9, .slice a (drM lb).length cap] rfl (Dr.one rfl) 75 #[.int .i64 0, .int .i64 0, .int .i64 0, .int .i64 0, .int .i64 0, .int .i64 0, .int .i64 0, .int .i64 0, .int .i64 0, .int .i64 0, .slice none 0 0] rfl ?_ agDr ?_; with_reducible exact hz)
      try refine ⟨fun h => (by cases h), ?_⟩
      refine wpMix_nil ?_
      have HFIN := Lib.hid (show ∃ y a cap, Value.pointer (some ⟨z68, 0, none⟩) = .pointer (some ⟨y, 0, none⟩) ∧ w1.heap.size ≤ y ∧ rowB _ y 75 #[.int .i64 x0, .int .i64 x1, .int .i64 x2, .int .i64 x3, .int .i64 x4, .int .i64 x5, .int .i64 x6, .int .i64 x7, .int .i64 x8, .int .i64 x9, .slice a (drM lb).length cap] ∧ isByt _ (.slice a (drM lb).length cap) (drM lb) ∧ Below w1.heap.size w1 _ from ⟨_, a, cap, rfl, lz, rowB_row hz _, isByt_box0 hz noU8 hu #[.int .i64 x0, .int .i64 x1, .int .i64 x2, .int .i64 x3, .int .i64 x4, .int .i64 x5, .int .i64 x6, .int .i64 x7, .int .i64 x8, .int .i64 x9, .slice a (drM lb).length cap], below_rowR hS #[.int .i64 x0, .int .i64 x1, .int .i64 x2, .int .i64 x3, .int .i64 x4, .int .i64 x5, .int .i64 x6, .int .i64 x7, .int .i64 x8, .int .i64 x9, .slice a (drM lb).length cap] lz⟩)
      go_wp2_with fail
      go_meet
      case rel => exact HFIN.out
    go_wp2_with (go_at_call 84; refine (devNumber_any _ _ l 5 6 _ (isArg_below h1 hS (Nat.le_refl _))).mono ?_; rintro e u77 ⟨rfl, hb⟩; rw [show wd 6 = 6 from rfl, hx5]; replace hS := hS.trans (hb.mono hS.size); clear hb)
    first | refine ⟨fun _ => hS, ?_⟩ | refine ⟨hS, ?_⟩
    refine wpFloat_call ?_ ?_
    rotate_left
    · go_wp2_with fail
      have hz := rowB_new u77 75 #[.int .i64 0, .int .i64 0, .int .i64 0, .int .i64 0, .int .i64 0, .int .i64 0, .int .i64 0, .int .i64 0, .int .i64 0, .int .i64 0, .slice none 0 0]
      have lz := hS.size
      replace hS := hS.alloc lz (.cells #[.int .i64 0, .int .i64 0, .int .i64 0, .int .i64 0, .int .i64 0, .int .i64 0, .int .i64 0, .int .i64 0, .int .i64 0, .int .i64 0, .slice none 0 0] 75)
      generalize u77.alloc (.cells #[.int .i64 0, .int .i64 0, .int .i64 0, .int .i64 0, .int .i64 0, .int .i64 0, .int .i64 0, .int .i64 0, .int .i64 0, .int .i64 0, .slice none 0 0] 75) = u78 at *
      generalize u77.heap.size = z78 at *
      refine ⟨hS, ?_⟩
      refine wpMix_call ?_
      go_wp2_with (go_at_call 84; refine (devNumber_any _ _ l 6 8 _ (isArg_below h1 hS (Nat.le_refl _))).mono ?_; rintro e u79 ⟨rfl, hb⟩; rw [show wd 8 = 8 from rfl, hx6]; replace hz := rowB_below hz hb (rowB_lt hz); replace hS := hS.trans (hb.mono hS.size); clear hb)
      first | refine ⟨fun _ => hS, ?_⟩ | refine ⟨hS, ?_⟩
      refine wpMix_call ?_
      go_wp2_with (go_at_call 84; refine (devNumber_any _ _ l 7 1 _ (isArg_below h1 hS (Nat.le_refl _))).mono ?_; rintro e u80 ⟨rfl, hb⟩; rw [show wd 1 = 1 from rfl, hx7]; replace hz := rowB_below hz hb (rowB_lt hz); replace hS := hS.trans (hb.mono hS.size); clear hb)
      first | refine ⟨fun _ => hS, ?_⟩ | refine ⟨hS, ?_⟩
      refine wpMix_call ?_
      go_wp2_with (go_at_call 84; refine (devNumber_any _ _ l 8 1 _ (isArg_below h1 hS (Nat.le_refl _))).mono ?_; rintro e u81 ⟨rfl, hb⟩; rw [show wd 1 = 1 from rfl, hx8]; replace hz := rowB_below hz hb (rowB_lt hz); replace hS := hS.trans (hb.mono hS.size); clear hb)
      first | refine ⟨fun _ => hS, ?_⟩ | refine ⟨hS, ?_⟩
      refine wpMix_call ?_
      go_wp2_with (go_at_call 84; refine (devNumber_any _ _ l 9 1 _ (isArg_below h1 hS (Nat.le_refl _))).mono ?_; rintro e u82 ⟨rfl, hb⟩; rw [show wd 1 = 1 from rfl, hx9]; replace hz := rowB_below hz hb (rowB_lt hz); replace hS := hS.trans (hb.mono hS.size); clear hb)
      first | refine ⟨fun _ => hS, ?_⟩ | refine ⟨hS, ?_⟩
      refine wpMix_call ?_
      go_wp2_with (go_at_call 91; refine (drvWhole_any _ lb _ (isByt_below hm1 hS (Nat.le_refl _)) hL).mono ?_; rintro e u83 ⟨a, cap, rfl, hu, rfl⟩)
      try refine ⟨fun h => (by cases h), ?_⟩
      refine wpMix_call ?_
      go_wp2_with fail
      try refine ⟨fun h => (by cases h), ?_⟩
      refine wpMix_call ?_
      go_wp2_with (refine wpList_storeR rfl 75 _ _ rfl z78 rfl #[.int .i64 x0, .int .i64 x1, .int .i64 x2, .int .i64 x3, .int .i64 x4, .int .i64 x5, .int .i64 x6, .int .i64 x7, .int .i64 x8, .int .i64 x9, .slice a (drM lb).length cap] rfl (Dr.one rfl) 75 #[.int .i64 0, .int .i64 0, .int .i64 0, .int .i64 0, .int .i64 0, .int .i64 0, .int .i64 0, .int .i64 0, .int .i64 0, .int .i64 0, .slice none 0 0] rfl ?_ agDr ?_; with_reducible exact hz)
      try refine ⟨fun h => (by cases h), ?_⟩
      refine wpMix_nil ?_
      have HFIN := Lib.hid (show ∃ y a cap, Value.pointer (some ⟨z78, 0, none⟩) = .pointer (some ⟨y, 0, none⟩) ∧ w1.heap.size ≤ y ∧ rowB _ y 75 #[.int .i64 x0, .int .i64 x1, .int .i64 x2, .int .i64 x3, .int .i64 x4, .int .i64 x5, .int .i64 x6, .int .i64 x7, .int .i64 x8, .int .i64 x9, .slice a (drM lb).length cap] ∧ isByt _ (.slice a (drM lb).length cap) (drM lb) ∧ Below w1.heap.size w1 _ from ⟨_, a, cap, rfl, lz, rowB_row hz _, isByt_box0 hz noU8 hu #[.int .i64 x0, .int .i64 x1, .int .i64 x2, .int .i64 x3, .int .i64 x4, .int .i64 x5, .int .i64 x6, .int .i64 x7, .int .i64 x8, .int .i64 x9, .slice a (drM lb).length cap], below_rowR hS #[.int .i64 x0, .int .i64 x1, .int .i64 x2, .int .i64 x3, .int .i64 x4, .int .i64 x5, .int .i64 x6, .int .i64 x7, .int .i64 x8, .int .i64 x9, .slice a (drM lb).length cap] lz⟩)
      go_wp2_with fail
      go_meet
      case rel => exact HFIN.out
    go_wp2_with (go_at_call 84; refine (devNumber_any _ _ l 6 8 _ (isArg_below h1 hS (Nat.le_refl _))).mono ?_; rintro e u86 ⟨rfl, hb⟩; rw [show wd 8 = 8 from rfl, hx6]; replace hS := hS.trans (hb.mono hS.size); clear hb)
    first | refine ⟨fun _ => hS, ?_⟩ | refine ⟨hS, ?_⟩
    refine wpFloat_call ?_ ?_
    rotate_left
    · go_wp2_with fail
      have hz := rowB_new u86 75 #[.int .i64 0, .int .i64 0, .int .i64 0, .int .i64 0, .int .i64 0, .int .i64 0, .int .i64 0, .int .i64 0, .int .i64 0, .int .i64 0, .slice none 0 0]
      have lz := hS.size
      replace hS := hS.alloc lz (.cells #[.int .i64 0, .int .i64 0, .int .i64 0, .int .i64 0, .int .i64 0, .int .i64 0, .int .i64 0, .int .i64 0, .int .i64 0, .int .i64 0, .slice none 0 0] 75)
      generalize u86.alloc (.cells #[.int .i64 0, .int .i64 0, .int .i64 0, .int .i64 0, .int .i64 0, .int .i64 0, .int .i64 0, .int .i64 0, .int .i64 0, .int .i64 0, .slice none 0 0] 75) = u87 at *
      generalize u86.heap.size = z87 at *
      refine ⟨hS, ?_⟩
      refine wpMix_call ?_
      go_wp2_with (go_at_call 84; refine (devNumber_any _ _ l 7 1 _ (isArg_below h1 hS (Nat.le_refl _))).mono ?_; rintro e u88 ⟨rfl, hb⟩; rw [show wd 1 = 1 from rfl, hx7]; replace hz := rowB_below hz hb (rowB_lt hz); replace hS := hS.trans (hb.mono hS.size); clear hb)
      first | refine ⟨fun _ => hS, ?_⟩ | refine ⟨hS, ?_⟩
      refine wpMix_call ?_
      go_wp2_with (go_at_call 84; refine (devNumber_any _ _ l 8 1 _ (isArg_below h1 hS (Nat.le_refl _))).mono ?_; rintro e u89 ⟨rfl, hb⟩; rw [show wd 1 = 1 from rfl, hx8]; replace hz := rowB_below hz hb (rowB_lt hz); replace hS := hS.trans (hb.mono hS.size); clear hb)
      first | refine ⟨fun _ => hS, ?_⟩ | refine ⟨hS, ?_⟩
      refine wpMix_call ?_
      go_wp2_with (go_at_call 84; refine (devNumber_any _ _ l 9 1 _ (isArg_below h1 hS (Nat.le_refl _))).mono ?_; rintro e u90 ⟨rfl, hb⟩; rw [show wd 1 = 1 from rfl, hx9]; replace hz := rowB_below hz hb (rowB_lt hz); replace hS := hS.trans (hb.mono hS.size); clear hb)
      first | refine ⟨fun _ => hS, ?_⟩ | refine ⟨hS, ?_⟩
      refine wpMix_call ?_
      go_wp2_with (go_at_call 91; refine (drvWhole_any _ lb _ (isByt_below hm1 hS (Nat.le_refl _)) hL).mono ?_; rintro e u91 ⟨a, cap, rfl, hu, rfl⟩)
      try refine ⟨fun h => (by cases h), ?_⟩
      refine wpMix_call ?_
      go_wp2_with fail
      try refine ⟨fun h => (by cases h), ?_⟩
      refine wpMix_call ?_
      go_wp2_with (refine wpList_storeR rfl 75 _ _ rfl z87 rfl #[.int .i64 x0, .int .i64 x1, .int .i64 x2, .int .i64 x3, .int .i64 x4, .int .i64 x5, .int .i64 x6, .int .i64 x7, .int .i64 x8, .int .i64 x9, .slice a (drM lb).length cap] rfl (Dr.one rfl) 75 #[.int .i64 0, .int .i64 0, .int .i64 0, .int .i64 0, .int .i64 0, .int .i64 0, .int .i64 0, .int .i64 0, .int .i64 0, .int .i64 0, .slice none 0 0] rfl ?_ agDr ?_; with_reducible exact hz)
      try refine ⟨fun h => (by cases h), ?_⟩
      refine wpMix_nil ?_
      have HFIN := Lib.hid (show ∃ y a cap, Value.pointer (some ⟨z87, 0, none⟩) = .pointer (some ⟨y, 0, none⟩) ∧ w1.heap.size ≤ y ∧ rowB _ y 75 #[.int .i64 x0, .int .i64 x1, .int .i64 x2, .int .i64 x3, .int .i64 x4, .int .i64 x5, .int .i64 x6, .int .i64 x7, .int .i64 x8, .int .i64 x9, .slice a (drM lb).length cap] ∧ isByt _ (.slice a (drM lb).length cap) (drM lb) ∧ Below w1.heap.size w1 _ from ⟨_, a, cap, rfl, lz, rowB_row hz _, isByt_box0 hz noU8 hu #[.int .i64 x0, .int .i64 x1, .int .i64 x2, .int .i64 x3, .int .i64 x4, .int .i64 x5, .int .i64 x6, .int .i64 x7, .int .i64 x8, .int .i64 x9, .slice a (drM lb).length cap], below_rowR hS #[.int .i64 x0, .int .i64 x1, .int .i64 x2, .int .i64 x3, .int .i64 x4, .int .i64 x5, .int .i64 x6, .int .i64 x7, .int .i64 x8, .int .i64 x9, .slice a (drM lb).length cap] lz⟩)
      go_wp2_with fail
      go_meet
      case rel => exact HFIN.out
    go_wp2_with (go_at_call 84; refine (devNumber_any _ _ l 7 1 _ (isArg_below h1 hS (Nat.le_refl _))).mono ?_; rintro e u94 ⟨rfl, hb⟩; rw [show wd 1 = 1 from rfl, hx7]; replace hS := hS.trans (hb.mono hS.size); clear hb)
    first | refine ⟨fun _ => hS, ?_⟩ | refine ⟨hS, ?_⟩
    refine wpFloat_call ?_ ?_
    rotate_left
    · go_wp2_with fail
      have hz := rowB_new u94 75 #[.int .i64 0, .int .i64 0, .int .i64 0, .int .i64 0, .int .i64 0, .int .i64 0, .int .i64 0, .int .i64 0, .int .i64 0, .int .i64 0, .slice none 0 0]
      have lz := hS.size
      replace hS := hS.alloc lz (.cells #[.int .i64 0, .int .i64 0, .int .i64 0, .int .i64 0, .int .i64 0, .int .i64 0, .int .i64 0, .int .i64 0, .int .i64 0, .int .i64 0, .slice none 0 0] 75)
      generalize u94.alloc (.cells #[.int .i64 0, .int .i64 0, .int .i64 0, .int .i64 0, .int .i64 0, .int .i64 0, .int .i64 0, .int .i64 0, .int .i64 0, .int .i64 0, .slice none 0 0] 75) = u95 at *
      generalize u94.heap.size = z95 at *
      refine ⟨hS, ?_⟩
      refine wpMix_call ?_
      go_wp2_with (go_at_call 84; refine (devNumber_any _ _ l 8 1 _ (isArg_below h1 hS (Nat.le_refl _))).mono ?_; rintro e u96 ⟨rfl, hb⟩; rw [show wd 1 = 1 from rfl, hx8]; replace hz := rowB_below hz hb (rowB_lt hz); replace hS := hS.trans (hb.mono hS.size); clear hb)
      first | refine ⟨fun _ => hS, ?_⟩ | refine ⟨hS, ?_⟩
      refine wpMix_call ?_
      go_wp2_with (go_at_call 84; refine (devNumber_any _ _ l 9 1 _ (isArg_below h1 hS (Nat.le_refl _))).mono ?_; rintro e u97 ⟨rfl, hb⟩; rw [show wd 1 = 1 from rfl, hx9]; replace hz := rowB_below hz hb (rowB_lt hz); replace hS := hS.trans (hb.mono hS.size); clear hb)
      first | refine ⟨fun _ => hS, ?_⟩ | refine ⟨hS, ?_⟩
      refine wpMix_call ?_
      go_wp2_with (go_at_call 91; refine (drvWhole_any _ lb _ (isByt_below hm1 hS (Nat.le_refl _)) hL).mono ?_; rintro e u98 ⟨a, cap, rfl, hu, rfl⟩)
      try refine ⟨fun h => (by cases h), ?_⟩
      refine wpMix_call ?_
      go_wp2_with fail
      try refine ⟨fun h => (by cases h), ?_⟩
      refine wpMix_call ?_
      go_wp2_with (refine wpList_storeR rfl 75 _ _ rfl z95 rfl #[.int .i64 x0, .int .i64 x1, .int .i64 x2, .int .i64 x3, .int .i64 x4, .int .i64 x5, .int .i64 x6, .int .i64 x7, .int .i64 x8, .int .i64 x9, .slice a (drM lb).length cap] rfl (Dr.one rfl) 75 #[.int .i64 0, .int .i64 0, .int .i64 0, .int .i64 0, .int .i64 0, .int .i64 0, .int .i64 0, .int .i64 0, .int .i64 0, .int .i64 0, .slice none 0 0] rfl ?_ agDr ?_; with_reducible exact hz)
      try refine ⟨fun h => (by cases h), ?_⟩
      refine wpMix_nil ?_
      have HFIN := Lib.hid (show ∃ y a cap, Value.pointer (some ⟨z95, 0, none⟩) = .pointer (some ⟨y, 0, none⟩) ∧ w1.heap.size ≤ y ∧ rowB _ y 75 #[.int .i64 x0, .int .i64 x1, .int .i64 x2, .int .i64 x3, .int .i64 x4, .int .i64 x5, .int .i64 x6, .int .i64 x7, .int .i64 x8, .int .i64 x9, .slice a (drM lb).length cap] ∧ isByt _ (.slice a (drM lb).length cap) (drM lb) ∧ Below w1.heap.size w1 _ from ⟨_, a, cap, rfl, lz, rowB_row hz _, isByt_box0 hz noU8 hu #[.int .i64 x0, .int .i64 x1, .int .i64 x2, .int .i64 x3, .int .i64 x4, .int .i64 x5, .int .i64 x6, .int .i64 x7, .int .i64 x8, .int .i64 x9, .slice a (drM lb).length cap], below_rowR hS #[.int .i64 x0, .int .i64 x1, .int .i64 x2, .int .i64 x3, .int .i64 x4, .int .i64 x5, .int .i64 x6, .int .i64 x7, .int .i64 x8, .int .i64 x9, .slice a (drM lb).length cap] lz⟩)
      go_wp2_with fail
      go_meet
      case rel => exact HFIN.out
    go_wp2_with (go_at_call 84; refine (devNumber_any _ _ l 8 1 _ (isArg_below h1 hS (Nat.le_refl _))).mono ?_; rintro e u101 ⟨rfl, hb⟩; rw [show wd 1 = 1 from rfl, hx8]; replace hS := hS.trans (hb.mono hS.size); clear hb)
    first | refine ⟨fun _ => hS, ?_⟩ | refine ⟨hS, ?_⟩
    refine wpFloat_call ?_ ?_
    rotate_left
    · go_wp2_with fail
      have hz := rowB_new u101 75 #[.int .i64 0, .int .i64 0, .int .i64 0, .int .i64 0, .int .i64 0, .int .i64 0, .int .i64 0, .int .i64 0, .int .i64 0, .int .i64 0, .slice none 0 0]
      have lz := hS.size
      replace hS := hS.alloc lz (.cells #[.int .i64 0, .int .i64 0, .int .i64 0, .int .i64 0, .int .i64 0, .int .i64 0, .int .i64 0, .int .i64 0, .int .i64 0, .int .i64 0, .slice none 0 0] 75)
      generalize u101.alloc (.cells #[.int .i64 0, .int .i64 0, .int .i64 0, .int .i64 0, .int .i64 0, .int .i64 0, .int .i64 0, .int .i64 0, .int .i64 0, .int .i64 0, .slice none 0 0] 75) = u102 at *
      generalize u101.heap.size = z102 at *
      refine ⟨hS, ?_⟩
      refine wpMix_call ?_
      go_wp2_with (go_at_call 84; refine (devNumber_any _ _ l 9 1 _ (isArg_below h1 hS (Nat.le_refl _))).mono ?_; rintro e u103 ⟨rfl, hb⟩; rw [show wd 1 = 1 from rfl, hx9]; replace hz := rowB_below hz hb (rowB_lt hz); replace hS := hS.trans (hb.mono hS.size); clear hb)
      first | refine ⟨fun _ => hS, ?_⟩ | refine ⟨hS, ?_⟩
      refine wpMix_call ?_
      go_wp2_with (go_at_call 91; refine (drvWhole_any _ lb _ (isByt_below hm1 hS (Nat.le_refl _)) hL).mono ?_; rintro e u104 ⟨a, cap, rfl, hu, rfl⟩)
      try refine ⟨fun h => (by cases h), ?_⟩
      refine wpMix_call ?_
      go_wp2_with fail
      try refine ⟨fun h => (by cases h), ?_⟩
      refine wpMix_call ?_
      go_wp2_with (refine wpList_storeR rfl 75 _ _ rfl z102 rfl #[.int .i64 x0, .int .i64 x1, .int .i64 x2, .int .i64 x3, .int .i64 x4, .int .i64 x5, .int .i64 x6, .int .i64 x7, .int .i64 x8, .int .i64 x9, .slice a (drM lb).length cap] rfl (Dr.one rfl) 75 #[.int .i64 0, .int .i64 0, .int .i64 0, .int .i64 0, .int .i64 0, .int .i64 0, .int .i64 0, .int .i64 0, .int .i64 0, .int .i64 0, .slice none 0 0] rfl ?_ agDr ?_; with_reducible exact hz)
      try refine ⟨fun h => (by cases h), ?_⟩
      refine wpMix_nil ?_
      have HFIN := Lib.hid (show ∃ y a cap, Value.pointer (some ⟨z102, 0, none⟩) = .pointer (some ⟨y, 0, none⟩) ∧ w1.heap.size ≤ y ∧ rowB _ y 75 #[.int .i64 x0, .int .i64 x1, .int .i64 x2, .int .i64 x3, .int .i64 x4, .int .i64 x5, .int .i64 x6, .int .i64 x7, .int .i64 x8, .int .i64 x9, .slice a (drM lb).length cap] ∧ isByt _ (.slice a (drM lb).length cap) (drM lb) ∧ Below w1.heap.size w1 _ from ⟨_, a, cap, rfl, lz, rowB_row hz _, isByt_box0 hz noU8 hu #[.int .i64 x0, .int .i64 x1, .int .i64 x2, .int .i64 x3, .int .i64 x4, .int .i64 x5, .int .i64 x6, .int .i64 x7, .int .i64 x8, .int .i64 x9, .slice a (drM lb).length cap], below_rowR hS #[.int .i64 x0, .int .i64 x1, .int .i64 x2, .int .i64 x3, .int .i64 x4, .int .i64 x5, .int .i64 x6, .int .i64 x7, .int .i64 x8, .int .i64 x9, .slice a (drM lb).length cap] lz⟩)
      go_wp2_with fail
      go_meet
      case rel => exact HFIN.out
    go_wp2_with (go_at_call 84; refine (devNumber_any _ _ l 9 1 _ (isArg_below h1 hS (Nat.le_refl _))).mono ?_; rintro e u107 ⟨rfl, hb⟩; rw [show wd 1 = 1 from rfl, hx9]; replace hS := hS.trans (hb.mono hS.size); clear hb)
    first | refine ⟨fun _ => hS, ?_⟩ | refine ⟨hS, ?_⟩
    refine wpFloat_call ?_ ?_
    rotate_left
    · go_wp2_with fail
      have hz := rowB_new u107 75 #[.int .i64 0, .int .i64 0, .int .i64 0, .int .i64 0, .int .i64 0, .int .i64 0, .int .i64 0, .int .i64 0, .int .i64 0, .int .i64 0, .slice none 0 0]
      have lz := hS.size
      replace hS := hS.alloc lz (.cells #[.int .i64 0, .int .i64 0, .int .i64 0, .int .i64 0, .int .i64 0, .int .i64 0, .int .i64 0, .int .i64 0, .int .i64 0, .int .i64 0, .slice none 0 0] 75)
      generalize u107.alloc (.cells #[.int .i64 0, .int .i64 0, .int .i64 0, .int .i64 0, .int .i64 0, .int .i64 0, .int .i64 0, .int .i64 0, .int .i64 0, .int .i64 0, .slice none 0 0] 75) = u108 at *
      generalize u107.heap.size = z108 at *
      refine ⟨hS, ?_⟩
      refine wpMix_call ?_
      go_wp2_with (go_at_call 91; refine (drvWhole_any _ lb _ (isByt_below hm1 hS (Nat.le_refl _)) hL).mono ?_; rintro e u109 ⟨a, cap, rfl, hu, rfl⟩)
      try refine ⟨fun h => (by cases h), ?_⟩
      refine wpMix_call ?_
      go_wp2_with fail
      try refine ⟨fun h => (by cases h), ?_⟩
      refine wpMix_call ?_
      go_wp2_with (refine wpList_storeR rfl 75 _ _ rfl z108 rfl #[.int .i64 x0, .int .i64 x1, .int .i64 x2, .int .i64 x3, .int .i64 x4, .int .i64 x5, .int .i64 x6, .int .i64 x7, .int .i64 x8, .int .i64 x9, .slice a (drM lb).length cap] rfl (Dr.one rfl) 75 #[.int .i64 0, .int .i64 0, .int .i64 0, .int .i64 0, .int .i64 0, .int .i64 0, .int .i64 0, .int .i64 0, .int .i64 0, .int .i64 0, .slice none 0 0] rfl ?_ agDr ?_; with_reducible exact hz)
      try refine ⟨fun h => (by cases h), ?_⟩
      refine wpMix_nil ?_
      have HFIN := Lib.hid (show ∃ y a cap, Value.pointer (some ⟨z108, 0, none⟩) = .pointer (some ⟨y, 0, none⟩) ∧ w1.heap.size ≤ y ∧ rowB _ y 75 #[.int .i64 x0, .int .i64 x1, .int .i64 x2, .int .i64 x3, .int .i64 x4, .int .i64 x5, .int .i64 x6, .int .i64 x7, .int .i64 x8, .int .i64 x9, .slice a (drM lb).length cap] ∧ isByt _ (.slice a (drM lb).length cap) (drM lb) ∧ Below w1.heap.size w1 _ from ⟨_, a, cap, rfl, lz, rowB_row hz _, isByt_box0 hz noU8 hu #[.int .i64 x0, .int .i64 x1, .int .i64 x2, .int .i64 x3, .int .i64 x4, .int .i64 x5, .int .i64 x6, .int .i64 x7, .int .i64 x8, .int .i64 x9, .slice a (drM lb).length cap], below_rowR hS #[.int .i64 x0, .int .i64 x1, .int .i64 x2, .int .i64 x3, .int .i64 x4, .int .i64 x5, .int .i64 x6, .int .i64 x7, .int .i64 x8, .int .i64 x9, .slice a (drM lb).length cap] lz⟩)
      go_wp2_with fail
      go_meet
      case rel => exact HFIN.out
    go_wp2_with (go_at_call 91; refine (drvWhole_any _ lb _ (isByt_below hm1 hS (Nat.le_refl _)) hL).mono ?_; rintro e u112 ⟨a, cap, rfl, hu, rfl⟩)
    try refine ⟨fun h => (by cases h), ?_⟩
    refine wpFloat_call ?_ ?_
    rotate_left
    · go_wp2_with fail
      have hz := rowB_new u107 75 #[.int .i64 0, .int .i64 0, .int .i64 0, .int .i64 0, .int .i64 0, .int .i64 0, .int .i64 0, .int .i64 0, .int .i64 0, .int .i64 0, .slice none 0 0]
      have lz := hS.size
      replace hu := isByt_below hu ((Below.refl u107.heap.size u107).alloc (Nat.le_refl _) (.cells #[.int .i64 0, .int .i64 0, .int .i64 0, .int .i64 0, .int .i64 0, .int .i64 0, .int .i64 0, .int .i64 0, .int .i64 0, .int .i64 0, .slice none 0 0] 75)) (Nat.le_refl _)
      replace hS := hS.alloc lz (.cells #[.int .i64 0, .int .i64 0, .int .i64 0, .int .i64 0, .int .i64 0, .int .i64 0, .int .i64 0, .int .i64 0, .int .i64 0, .int .i64 0, .slice none 0 0] 75)
      generalize u107.alloc (.cells #[.int .i64 0, .int .i64 0, .int .i64 0, .int .i64 0, .int .i64 0, .int .i64 0, .int .i64 0, .int .i64 0, .int .i64 0, .int .i64 0, .slice none 0 0] 75) = u113 at *
      generalize u107.heap.size = z113 at *
      refine ⟨hS, ?_⟩
      refine wpMix_call ?_
      go_wp2_with fail
      try refine ⟨fun h => (by cases h), ?_⟩
      refine wpMix_call ?_
      go_wp2_with (refine wpList_storeR rfl 75 _ _ rfl z113 rfl #[.int .i64 x0, .int .i64 x1, .int .i64 x2, .int .i64 x3, .int .i64 x4, .int .i64 x5, .int .i64 x6, .int .i64 x7, .int .i64 x8, .int .i64 x9, .slice a (drM lb).length cap] rfl (Dr.one rfl) 75 #[.int .i64 0, .int .i64 0, .int .i64 0, .int .i64 0, .int .i64 0, .int .i64 0, .int .i64 0, .int .i64 0, .int .i64 0, .int .i64 0, .slice none 0 0] rfl ?_ agDr ?_; with_reducible exact hz)
      try refine ⟨fun h => (by cases h), ?_⟩
      refine wpMix_nil ?_
      have HFIN := Lib.hid (show ∃ y a cap, Value.pointer (some ⟨z113, 0, none⟩) = .pointer (some ⟨y, 0, none⟩) ∧ w1.heap.size ≤ y ∧ rowB _ y 75 #[.int .i64 x0, .int .i64 x1, .int .i64 x2, .int .i64 x3, .int .i64 x4, .int .i64 x5, .int .i64 x6, .int .i64 x7, .int .i64 x8, .int .i64 x9, .slice a (drM lb).length cap] ∧ isByt _ (.slice a (drM lb).length cap) (drM lb) ∧ Below w1.heap.size w1 _ from ⟨_, a, cap, rfl, lz, rowB_row hz _, isByt_box0 hz noU8 hu #[.int .i64 x0, .int .i64 x1, .int .i64 x2, .int .i64 x3, .int .i64 x4, .int .i64 x5, .int .i64 x6, .int .i64 x7, .int .i64 x8, .int .i64 x9, .slice a (drM lb).length cap], below_rowR hS #[.int .i64 x0, .int .i64 x1, .int .i64 x2, .int .i64 x3, .int .i64 x4, .int .i64 x5, .int .i64 x6, .int .i64 x7, .int .i64 x8, .int .i64 x9, .slice a (drM lb).length cap] lz⟩)
      go_wp2_with fail
      go_meet
      case rel => exact HFIN.out
    go_wp2_with fail
    try refine ⟨fun h => (by cases h), ?_⟩
    refine wpFloat_nil ?_
    go_wp2_with fail
    have hz := rowB_new u107 75 #[.int .i64 0, .int .i64 0, .int .i64 0, .int .i64 0, .int .i64 0, .int .i64 0, .int .i64 0, .int .i64 0, .int .i64 0, .int .i64 0, .slice none 0 0]
    have lz := hS.size
    replace hu := isByt_below hu ((Below.refl u107.heap.size u107).alloc (Nat.le_refl _) (.cells #[.int .i64 0, .int .i64 0, .int .i64 0, .int .i64 0, .int .i64 0, .int .i64 0, .int .i64 0, .int .i64 0, .int .i64 0, .int .i64 0, .slice none 0 0] 75)) (Nat.le_refl _)
    replace hS := hS.alloc lz (.cells #[.int .i64 0, .int .i64 0, .int .i64 0, .int .i64 0, .int .i64 0, .int .i64 0, .int .i64 0, .int .i64 0, .int .i64 0, .int .i64 0, .slice none 0 0] 75)
    generalize u107.alloc (.cells #[.int .i64 0, .int .i64 0, .int .i64 0, .int .i64 0, .int .i64 0, .int .i64 0, .int .i64 0, .int .i64 0, .int .i64 0, .int .i64 0, .slice none 0 0] 75) = u117 at *
    generalize u107.heap.size = z117 at *
    refine ⟨hS, ?_⟩
    refine wpMix_call ?_
    go_wp2_with (refine wpList_storeR rfl 75 _ _ rfl z117 rfl #[.int .i64 x0, .int .i64 x1, .int .i64 x2, .int .i64 x3, .int .i64 x4, .int .i64 x5, .int .i64 x6, .int .i64 x7, .int .i64 x8, .int .i64 x9, .slice a (drM lb).length cap] rfl (Dr.one rfl) 75 #[.int .i64 0, .int .i64 0, .int .i64 0, .int .i64 0, .int .i64 0, .int .i64 0, .int .i64 0, .int .i64 0, .int .i64 0, .int .i64 0, .slice none 0 0] rfl ?_ agDr ?_; with_reducible exact hz)
    try refine ⟨fun h => (by cases h), ?_⟩
    refine wpMix_nil ?_
    have HFIN := Lib.hid (show ∃ y a cap, Value.pointer (some ⟨z117, 0, none⟩) = .pointer (some ⟨y, 0, none⟩) ∧ w1.heap.size ≤ y ∧ rowB _ y 75 #[.int .i64 x0, .int .i64 x1, .int .i64 x2, .int .i64 x3, .int .i64 x4, .int .i64 x5, .int .i64 x6, .int .i64 x7, .int .i64 x8, .int .i64 x9, .slice a (drM lb).length cap] ∧ isByt _ (.slice a (drM lb).length cap) (drM lb) ∧ Below w1.heap.size w1 _ from ⟨_, a, cap, rfl, lz, rowB_row hz _, isByt_box0 hz noU8 hu #[.int .i64 x0, .int .i64 x1, .int .i64 x2, .int .i64 x3, .int .i64 x4, .int .i64 x5, .int .i64 x6, .int .i64 x7, .int .i64 x8, .int .i64 x9, .slice a (drM lb).length cap], below_rowR hS #[.int .i64 x0, .int .i64 x1, .int .i64 x2, .int .i64 x3, .int .i64 x4, .int .i64 x5, .int .i64 x6, .int .i64 x7, .int .i64 x8, .int .i64 x9, .slice a (drM lb).length cap] lz⟩)
    go_wp2_with fail
    go_meet
    case rel => exact HFIN.out
  case rest =>
    obtain ⟨y, a, cap, rfl, hy, hr, hu, hS⟩ := hcut
    clear h1 hm1 hx0 hx1 hx2 hx3 hx4 hx5 hx6 hx7 hx8 hx9
    replace k1 := rowB_below k1 hS (rowB_lt k1)
    have bX := bW.trans (hS.mono bW.size)
    have hyw : w.heap.size + 2 ≤ y := by omega
    have hdl := HDL.out
    have hxb := HXB.out
    clear hS bW k0 hy sW HDL HXB
    obtain ⟨⟨e0, e1, e2, e3, e4, e5, e6, e7, e8, e9, e10⟩, ⟨z0, z1, z2, z3, z4, z5, z6, z7, z8, z9, z10⟩⟩ := elCells hr
    by_cases hi : 0 < x2 ∧ x2 ≤ 4
    · have hC : x2 = C := by rw [← HC.out]; split <;> omega
      subst hC
      have hd : decide (0 < x2 ∧ x2 ≤ 4) = true := decide_eq_true hi
      clear hi HC hxb
      go_upto_region 5 with (first
            | (go_at_call 92; refine (drvSuch_any y a _ cap x0 _ e10 hdl).mono ?_; rintro e2 w2 ⟨rfl, rfl⟩; rw [HK.out])
            | (go_at_call 88; refine (drvIsCmd_any _ _).mono ?_; rintro e2 w2 ⟨rfl, rfl⟩; rw [hd])
      )
      have hu2 := (isByt_set0 hr noU8 hu 0 (.int .i64 K))
      have nP := (show rowB _ y 75 #[.int .i64 K, .int .i64 x1, .int .i64 x2, .int .i64 x3, .int .i64 x4, .int .i64 x5, .int .i64 x6, .int .i64 x7, .int .i64 x8, .int .i64 x9, .slice a (drM lb).length cap] from rowB_set hr 0 (.int .i64 K))
      replace k1 := (rowB_other k1 ⟨y, 0, none⟩ (.int .i64 K) (show y ≠ _ by omega))
      replace bX := (Below.setCell bX (p := ⟨y, 0, none⟩) (show w.heap.size ≤ y by omega) (.int .i64 K))
      go_wp2_with (first
            | (refine wpList_loadR rfl 75 _ rfl y rfl 75 #[.int .i64 K, .int .i64 x1, .int .i64 x2, .int .i64 x3, .int .i64 x4, .int .i64 x5, .int .i64 x6, .int .i64 x7, .int .i64 x8, .int .i64 x9, .slice a (drM lb).length cap] ?_ agDr ?_; with_reducible exact nP)
            | (refine wpList_storeR rfl 75 _ _ rfl (w.heap.size + 1) rfl #[.int .i64 K, .int .i64 x1, .int .i64 x2, .int .i64 x3, .int .i64 x4, .int .i64 x5, .int .i64 x6, .int .i64 x7, .int .i64 x8, .int .i64 x9, .slice a (drM lb).length cap] rfl (Dr.one rfl) 75 #[.int .i64 0, .int .i64 0, .int .i64 0, .int .i64 0, .int .i64 0, .int .i64 0, .int .i64 0, .int .i64 0, .int .i64 0, .int .i64 0, .slice none 0 0] rfl ?_ agDr ?_; with_reducible exact k1)
      )
      refine bodyPost_ret (resultsR rfl (w.heap.size + 1) _ rfl (rowB_row k1 _) agDr) rfl ?_
      exact ⟨_, rfl, isByt_box0 k1 noU8 hu2 _, below_rowR bX _ (by omega)⟩
    · have hC : 0 = C := by rw [← HC.out]; split <;> omega
      subst hC
      have hd : decide (0 < x2 ∧ x2 ≤ 4) = false := decide_eq_false hi
      clear hi HC hxb
      go_upto_region 5 with (first
            | (go_at_call 92; refine (drvSuch_any y a _ cap x0 _ e10 hdl).mono ?_; rintro e2 w2 ⟨rfl, rfl⟩; rw [HK.out])
            | (go_at_call 88; refine (drvIsCmd_any _ _).mono ?_; rintro e2 w2 ⟨rfl, rfl⟩; rw [hd])
      )
      have hu2 := (isByt_set0 (show rowB _ y 75 #[.int .i64 K, .int .i64 x1, .int .i64 x2, .int .i64 x3, .int .i64 x4, .int .i64 x5, .int .i64 x6, .int .i64 x7, .int .i64 x8, .int .i64 x9, .slice a (drM lb).length cap] from rowB_set hr 0 (.int .i64 K)) noU8 (isByt_set0 hr noU8 hu 0 (.int .i64 K)) 2 (.int .i64 0))
      have nP := (show rowB _ y 75 #[.int .i64 K, .int .i64 x1, .int .i64 0, .int .i64 x3, .int .i64 x4, .int .i64 x5, .int .i64 x6, .int .i64 x7, .int .i64 x8, .int .i64 x9, .slice a (drM lb).length cap] from rowB_set (show rowB _ y 75 #[.int .i64 K, .int .i64 x1, .int .i64 x2, .int .i64 x3, .int .i64 x4, .int .i64 x5, .int .i64 x6, .int .i64 x7, .int .i64 x8, .int .i64 x9, .slice a (drM lb).length cap] from rowB_set hr 0 (.int .i64 K)) 2 (.int .i64 0))
      replace k1 := (rowB_other (rowB_other k1 ⟨y, 0, none⟩ (.int .i64 K) (show y ≠ _ by omega)) ⟨y, 2, none⟩ (.int .i64 0) (show y ≠ _ by omega))
      replace bX := (Below.setCell (Below.setCell bX (p := ⟨y, 0, none⟩) (show w.heap.size ≤ y by omega) (.int .i64 K)) (p := ⟨y, 2, none⟩) (show w.heap.size ≤ y by omega) (.int .i64 0))
      go_wp2_with (first
            | (refine wpList_loadR rfl 75 _ rfl y rfl 75 #[.int .i64 K, .int .i64 x1, .int .i64 0, .int .i64 x3, .int .i64 x4, .int .i64 x5, .int .i64 x6, .int .i64 x7, .int .i64 x8, .int .i64 x9, .slice a (drM lb).length cap] ?_ agDr ?_; with_reducible exact nP)
            | (refine wpList_storeR rfl 75 _ _ rfl (w.heap.size + 1) rfl #[.int .i64 K, .int .i64 x1, .int .i64 0, .int .i64 x3, .int .i64 x4, .int .i64 x5, .int .i64 x6, .int .i64 x7, .int .i64 x8, .int .i64 x9, .slice a (drM lb).length cap] rfl (Dr.one rfl) 75 #[.int .i64 0, .int .i64 0, .int .i64 0, .int .i64 0, .int .i64 0, .int .i64 0, .int .i64 0, .int .i64 0, .int .i64 0, .int .i64 0, .slice none 0 0] rfl ?_ agDr ?_; with_reducible exact k1)
      )
      refine bodyPost_ret (resultsR rfl (w.heap.size + 1) _ rfl (rowB_row k1 _) agDr) rfl ?_
      exact ⟨_, rfl, isByt_box0 k1 noU8 hu2 _, below_rowR bX _ (by omega)⟩
end Go.Proofs.Ytakaebjojgeehaa
