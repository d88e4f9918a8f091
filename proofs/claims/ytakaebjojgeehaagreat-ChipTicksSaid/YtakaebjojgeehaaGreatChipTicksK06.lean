/- A part of the proof of ChipTicks: DevR, DevForm. -/
import Derived.Test.YtakaebjojgeehaaGreatChipTicksK01
import Derived.Test.YtakaebjojgeehaaGreatChipTicksK02
import Derived.Test.YtakaebjojgeehaaGreatChipTicksK04
import Derived.Test.YtakaebjojgeehaaGreatChipTicksK05
import Derived.Below
import Derived.BigQuiet
import Derived.ChangeMaps5
import Derived.Deep.DeepCutAuto
import Derived.Deep.Draws
import Derived.Deep.MidRow
import Derived.Deep.OwnRows
import Derived.Deep.QuietTactic
import Derived.Deep.RegionHeld3
import Derived.Deep.RegionWith
import Derived.Deep.Slices
import Derived.Deep.WholeRow
import Derived.Lib.Hide
import Derived.Lib.SmallJoins
import Derived.OpenShut
import Derived.OrdersHeld
import Derived.OwnWalk
import Derived.RowKit3
import Derived.StillTactics
import Derived.StillTail
import Derived.StillTailTactics
import Derived.Test.YtakaebjojgeehaaGreatChecked
import Derived.WalkKit
namespace Go.Proofs.YtakaebjojgeehaaGreat
open Go.RowKit
set_option maxRecDepth 100000
theorem tmod_form (n m : Int) (h : 0 < m) : (Int.tmod n m + m).tmod m = n % m := by
  have h1 := Int.lt_tmod_of_pos n h
  have h2 := Int.tmod_add_mul_tdiv n m
  rw [Int.tmod_eq_emod_of_nonneg (by omega), Int.add_emod_right]
  generalize n.tmod m = x at *
  generalize n.tdiv m = y at *
  rw [← h2, Int.add_mul_emod_self_left]
theorem modR_any (n m : Int) (h : 0 < m) (hm : m ≤ 4611686018427387904) (w : World) :
    Calls Tryz.prog 51 #[.int .i64 n, .int .i64 m] w fun e w' => e = .returned (.int .i64 (n % m)) ∧ w = w' := by
  have e1 := tmod_form n m h
  have h1 := Int.lt_tmod_of_pos n h
  have h2 := Int.tmod_lt_of_pos n h
  have hz : ¬ (m = 0) := by omega
  have hw : IntKind.i64.wrap (n.tmod m + m) = n.tmod m + m := IntWalk.i64_in _ (by omega)
  go_enter Tryz.func51, Tryz.ntmps51
  go_wp2
  go_ret
  exact ⟨ret_int (by first | exact e1 | rfl), rfl⟩
/-- The numbers in their form. -/
def fmN (l ms : List Int) (k : Nat) : List Int := (List.range ms.length).map fun i => if i < k then l.getD i 0 % ms.getD i 1 else 0
theorem fmN_len (l ms : List Int) (k : Nat) : (fmN l ms k).length = ms.length := by simp [fmN]
theorem fmN_get? (l ms : List Int) (k i : Nat) (hi : i < ms.length) : (fmN l ms k)[i]? = some (if i < k then l.getD i 0 % ms.getD i 1 else 0) := by
  unfold fmN
  rw [List.getElem?_map, List.getElem?_range hi]
  rfl
theorem fmN_zero (l ms : List Int) : fmN l ms 0 = List.replicate ms.length 0 := by
  refine List.ext_getElem? fun i => ?_
  by_cases hi : i < ms.length
  · rw [fmN_get? _ _ _ _ hi, List.getElem?_replicate, if_pos hi, if_neg (Nat.not_lt_zero _)]
  · rw [List.getElem?_eq_none (by rw [fmN_len]; omega), List.getElem?_eq_none (by simp; omega)]
theorem fmN_set (l ms : List Int) (k : Nat) (hk : k < ms.length) : (fmN l ms k).set k (l.getD k 0 % ms.getD k 1) = fmN l ms (k + 1) := by
  refine List.ext_getElem? fun i => ?_
  rw [List.getElem?_set]
  by_cases hi : i < ms.length
  · rw [fmN_get? _ _ _ _ hi, fmN_get? _ _ _ _ hi]
    by_cases e : k = i
    · subst e
      rw [if_pos rfl, if_pos (by rw [fmN_len]; exact hk), if_pos (by omega)]
    · rw [if_neg e]
      by_cases h : i < k
      · rw [if_pos h, if_pos (by omega)]
      · rw [if_neg h, if_neg (by omega)]
  · rw [List.getElem?_eq_none (l := fmN l ms (k + 1)) (by rw [fmN_len]; omega), if_neg (by omega), List.getElem?_eq_none (by rw [fmN_len]; omega)]
theorem fmN_skip (l ms : List Int) (k : Nat) (hk : ¬ k < l.length) : fmN l ms (k + 1) = fmN l ms k := by
  refine List.ext_getElem? fun i => ?_
  by_cases hi : i < ms.length
  · rw [fmN_get? _ _ _ _ hi, fmN_get? _ _ _ _ hi]
    by_cases e : i = k
    · subst e
      rw [if_pos (by omega), if_neg (by omega), List.getD_eq_getElem?_getD, List.getElem?_eq_none (by omega)]
      simp
    · by_cases h : i < k
      · rw [if_pos h, if_pos (by omega)]
      · rw [if_neg h, if_neg (by omega)]
  · rw [List.getElem?_eq_none (by rw [fmN_len]; omega), List.getElem?_eq_none (by rw [fmN_len]; omega)]
/-- A row of numbers. -/
def nums (l : List Int) : Array Value := (l.map (Value.int .i64)).toArray
theorem nums_get (l : List Int) (k : Nat) : (nums l)[k]? = (l[k]?).map (Value.int .i64) := by simp [nums]
theorem nums_set (l : List Int) (k : Nat) (x : Int) : (nums l).setIfInBounds k (.int .i64 x) = nums (l.set k x) := by simp [nums]
theorem made_nums (n : Nat) : madeCells #[.int .i64 0] n = nums (List.replicate n 0) := by
  refine Array.ext_getElem? fun i => ?_
  rw [nums_get]
  unfold madeCells
  by_cases h : i < n
  · rw [Array.getElem?_map, Array.getElem?_range, if_pos h, List.getElem?_replicate, if_pos h]
    simp [Nat.mod_one]
  · rw [Array.getElem?_eq_none (by simp; omega), List.getElem?_eq_none (by simp; omega)]
    rfl
theorem infoNm : ∃ i, Tryz.prog.info? 3 = some i ∧ i.zero = some (.int .i64 0) ∧ i.size = 1 ∧ i.bytes = 8 := by
  have h : (Tryz.prog.info? 3).map (fun i => (i.zero, i.size, i.bytes)) = some (some (.int .i64 0), 1, 8) := by kernel_rfl
  cases hh : Tryz.prog.info? 3 with
  | none => rw [hh] at h; cases h
  | some i => rw [hh] at h; simp only [Option.map_some, Option.some.injEq, Prod.mk.injEq] at h; exact ⟨i, rfl, h⟩
theorem form_any (v vm u : Value) (l ms : List Int) (w : World) (h : isArg w v l) (hu : isArg w u ms) (hms : ∀ m ∈ ms, 1 ≤ m ∧ m ≤ 4611686018427387904) (hml : ms.length ≤ 1000) :
    Calls Tryz.prog 21 #[.agg #[v, vm], u] w fun e w' => ∃ g, e = .returned (.slice (some ⟨g, 0, none⟩) ms.length ms.length) ∧ w.heap.size ≤ g ∧ rowB w' g 3 ((fmN l ms ms.length).map (Value.int .i64)).toArray ∧ Below w.heap.size w w' := by
  obtain ⟨a, cap, rfl, hf⟩ := isArg_form h
  obtain ⟨b, cap', rfl, hg⟩ := isArg_form hu
  obtain ⟨ii, i1, i2, i3, i4⟩ := infoNm
  have k0 := rowB_new w 27 #[.slice a l.length cap, vm]
  have b0 := (boxes1 w (.cells #[.slice a l.length cap, vm] 27)).2.1
  go_enter Tryz.func21, Tryz.ntmps21
  go_upto_region 2 with (at_make; refine wpList_make_row _ rfl _ _ _ rfl 3 ii (.int .i64 0) Tryz.underlying25 i1 i2 i3 rfl _ _ ms.length rfl rfl (by rw [i4]; omega) (by omega) ?_)
  rw [made_nums]
  have s1 : (w.alloc (.cells #[.slice a l.length cap, vm] 27)).heap.size = w.heap.size + 1 := by simp
  generalize w.alloc (.cells #[.slice a l.length cap, vm] 27) = w1 at *
  have k1 : rowB (w1.alloc (.cells (nums (List.replicate ms.length 0)) 3)) w1.heap.size 3 (nums (List.replicate ms.length 0)) := rowB_new w1 _ _
  have bB := (boxes1 w1 (.cells (nums (List.replicate ms.length 0)) 3)).2.1
  generalize w1.alloc (.cells (nums (List.replicate ms.length 0)) 3) = w2 at *
  rw [← fmN_zero l ms, s1] at k1
  rw [s1] at bB
  go_wp2_with fail
  go_loopw [13] (fun i wr => ∃ k : Nat, k ≤ ms.length ∧ i = .int .i64 k ∧ rowB wr (w.heap.size + 1) 3 (nums (fmN l ms k)) ∧ Below (w.heap.size + 1) w1 wr) (fun i _ => ms.length - (intOf i).toNat)
  case atStart => exact ⟨0, Nat.zero_le _, rfl, k1, bB⟩
  case round =>
    obtain ⟨k, hk, rfl, hr, hb⟩ := hrel
    have hs := hb.size
    by_cases hlt : k < ms.length
    · obtain ⟨b', off, rfl, hbb, hc1, hc2, hmc⟩ := hg k hlt
      have hmb := hms (ms.getD k 0) (by rw [List.getD_eq_getElem?_getD, List.getElem?_eq_getElem hlt]; exact List.getElem_mem hlt)
      have hm1 : wr.cell? ⟨b', off + k, none⟩ = some (.int .i64 (ms.getD k 0)) := by
        rw [hb.cell (p := ⟨b', off + k, none⟩) (by show b' < _; omega), b0.cell (p := ⟨b', off + k, none⟩) hbb]
        exact hmc
      have hbox := rowB_below k0 hb (by omega)
      obtain ⟨d0, d1, y0, y1⟩ := dcells2 hbox
      have e0 : wr.cell? ⟨(w.heap.size + 1), k, none⟩ = some (.int .i64 0) := rowB_cell hr k (by rw [nums_get, fmN_get? _ _ _ _ hlt, if_neg (Nat.lt_irrefl _)]; rfl)
      have z0 := rowB_free hr k
      have hset := rowB_set hr k (.int .i64 (l.getD k 0 % ms.getD k 1))
      rw [nums_set, fmN_set l ms k hlt] at hset
      have hbel := hb.setCell (p := ⟨(w.heap.size + 1), k, none⟩) (Nat.le_refl _) (.int .i64 (l.getD k 0 % ms.getD k 1))
      have e1 : ms.getD k 1 = ms.getD k 0 := by simp only [List.getD_eq_getElem?_getD, List.getElem?_eq_getElem hlt, Option.getD_some]
      rw [e1] at hset hbel
      have hMod := fun n w => modR_any n (ms.getD k 0) (by omega) hmb.2 w
      generalize ms.getD k 0 = m at *
      by_cases hkl : k < l.length
      · obtain ⟨b2, off2, rfl, hb2, hc3, hc4, hlc⟩ := hf k hkl
        have hl1 : wr.cell? ⟨b2, off2 + k, none⟩ = some (.int .i64 (l.getD k 0)) := by
          rw [hb.cell (p := ⟨b2, off2 + k, none⟩) (by show b2 < _; omega), b0.cell (p := ⟨b2, off2 + k, none⟩) hb2]
          exact hlc
        have hd : decide ((k : Int) < (l.length : Int)) = true := decide_eq_true (by omega)
        generalize l.getD k 0 = x at *
        clear hg hf hms h hu k1 bB hmc hlc e1 hb
        go_wp2_with (go_at_call 51; refine (hMod _ _).mono ?_; rintro e w' ⟨rfl, rfl⟩)
        go_roundw
        case rel => exact ⟨k + 1, by omega, by go_num, hset, hbel⟩
        case measure => simp [intOf]; omega
      · have hsk := fmN_skip l ms k hkl
        have hd : decide ((k : Int) < (l.length : Int)) = false := decide_eq_false (by omega)
        clear hg hf hms h hu k1 bB hmc e1 hset hbel
        go_wp2_with fail
        go_roundw
        case rel => exact ⟨k + 1, by omega, by go_num, by rw [hsk]; exact hr, hb⟩
        case measure => simp [intOf]; omega
    · obtain rfl : k = ms.length := by omega
      clear hg hf hms h hu k1 bB
      go_wp2_with fail
      go_ret
      exact ⟨_, rfl, by omega, hr, b0.trans (hb.mono (by omega))⟩
end Go.Proofs.YtakaebjojgeehaaGreat
namespace Go.Proofs.YtakaebjojgeehaaGreat
open Go.RowKit
set_option maxRecDepth 100000
theorem boxes5 (w : World) (o p q r s : Obj) : (((((w.alloc o).alloc p).alloc q).alloc r).alloc s).heap[w.heap.size]? = some o ∧ (((((w.alloc o).alloc p).alloc q).alloc r).alloc s).heap[w.heap.size + 1]? = some p ∧ (((((w.alloc o).alloc p).alloc q).alloc r).alloc s).heap[w.heap.size + 2]? = some q ∧ (((((w.alloc o).alloc p).alloc q).alloc r).alloc s).heap[w.heap.size + 3]? = some r ∧ (((((w.alloc o).alloc p).alloc q).alloc r).alloc s).heap[w.heap.size + 4]? = some s ∧ Below w.heap.size w (((((w.alloc o).alloc p).alloc q).alloc r).alloc s) ∧ (((((w.alloc o).alloc p).alloc q).alloc r).alloc s).heap.size = w.heap.size + 5 := by
  obtain ⟨h1, h2, h3, h4, h5, h6⟩ := boxes4 w o p q r
  obtain ⟨k1, k2, k3⟩ := boxes1 ((((w.alloc o).alloc p).alloc q).alloc r) s
  rw [h6] at k1 k3
  exact ⟨keepO h1 s, keepO h2 s, keepO h3 s, keepO h4 s, k1, h5.alloc (by omega) s, k3⟩
/-- A chip's description, by value. -/
def chip5 (nm : ByteArray) (k b z : Int) (dat : Value) : Array Value := #[.string nm, .int .i64 k, .int .i64 b, .int .i64 z, dat]

def msTim : List Int := [65536, 65536, 8, 2]
theorem formedTim_any (nm : ByteArray) (b z : Int) (dat v vm : Value) (l : List Int) (w : World) (h : isArg w v l) :
    Calls Tryz.prog 6 #[.agg (chip5 nm 3 b z dat), .agg #[v, vm]] w fun e w' => ∃ u, e = .returned u ∧ devO w.heap.size w' u (fmN l msTim 4) ∧ Below w.heap.size w w' := by
  dsimp only [chip5]
  obtain ⟨k0, k1, k2, k3, k4, bW, sW⟩ := boxes5 w (.cells #[.string nm, .int .i64 3, .int .i64 b, .int .i64 z, dat] 24) (.cells #[v, vm] 27) (.cells #[.slice none 0 0, .slice none 0 0] 27) (.cells #[.slice none 0 0, .slice none 0 0] 27) (.cells #[.int .i64 65536, .int .i64 65536, .int .i64 8, .int .i64 2] 3)
  have k2 : rowB _ _ _ _ := k2
  have k3 : rowB _ _ _ _ := k3
  have hu := numB_arg (l := [65536, 65536, 8, 2]) (show rowB _ _ _ _ from k4) (by decide)
  have h2 := isArg_below h bW (Nat.le_refl _)
  have hF := form_any v vm _ l [65536, 65536, 8, 2] _ h2 hu (by decide) (by decide)
  clear k0 k1 k4 hu h2
  go_enter Tryz.func6, Tryz.ntmps6
  go_wp2_with (first
    | (go_at_call 21; refine hF.mono ?_; rintro e w2 ⟨g, rfl, hg, hr, hb⟩; have q2 := rowB_below k2 hb (rowB_lt k2); have q3 := rowB_set (rowB_below k3 hb (rowB_lt k3)) 0 (.slice (some ⟨g, 0, none⟩) 4 4); obtain ⟨d0, d1, y0, y1⟩ := dcells2 (rowB_below k3 hb (rowB_lt k3)); rw [sW] at hg; have bX := bW.trans (hb.mono bW.size); have p2 := rowB_other q2 ⟨w.heap.size + 3, 0, none⟩ (.slice (some ⟨g, 0, none⟩) 4 4) (by simp))
    | (refine wpList_storeR rfl 27 _ _ rfl (w.heap.size + 2) rfl #[.slice (some ⟨g, 0, none⟩) 4 4, .slice none 0 0] rfl (dev2_one _ _ _ _ _ _) 27 #[.slice none 0 0, .slice none 0 0] rfl ?_ agDv ?_; with_reducible exact p2))
  refine bodyPost_ret (resultsR rfl (w.heap.size + 2) _ rfl (rowB_row p2 _) agDv) rfl ?_
  exact ⟨_, rfl, ⟨g, rfl, by omega, rowB_row_other (rowB_other hr _ _ (by show w.heap.size + 3 ≠ g; omega)) _ (by omega)⟩, below_rowR (bX.setCell (p := ⟨w.heap.size + 3, 0, none⟩) (by simp) _) _ (by omega)⟩

def msPort : List Int := [256, 256, 256]
theorem formedPort_any (nm : ByteArray) (b z : Int) (dat v vm : Value) (l : List Int) (w : World) (h : isArg w v l) :
    Calls Tryz.prog 6 #[.agg (chip5 nm 4 b z dat), .agg #[v, vm]] w fun e w' => ∃ u, e = .returned u ∧ devO w.heap.size w' u (fmN l msPort 3) ∧ Below w.heap.size w w' := by
  dsimp only [chip5]
  obtain ⟨k0, k1, k2, k3, k4, bW, sW⟩ := boxes5 w (.cells #[.string nm, .int .i64 4, .int .i64 b, .int .i64 z, dat] 24) (.cells #[v, vm] 27) (.cells #[.slice none 0 0, .slice none 0 0] 27) (.cells #[.slice none 0 0, .slice none 0 0] 27) (.cells #[.int .i64 256, .int .i64 256, .int .i64 256] 3)
  have k2 : rowB _ _ _ _ := k2
  have k3 : rowB _ _ _ _ := k3
  have hu := numB_arg (l := [256, 256, 256]) (show rowB _ _ _ _ from k4) (by decide)
  have h2 := isArg_below h bW (Nat.le_refl _)
  have hF := form_any v vm _ l [256, 256, 256] _ h2 hu (by decide) (by decide)
  clear k0 k1 k4 hu h2
  go_enter Tryz.func6, Tryz.ntmps6
  go_wp2_with (first
    | (go_at_call 21; refine hF.mono ?_; rintro e w2 ⟨g, rfl, hg, hr, hb⟩; have q2 := rowB_below k2 hb (rowB_lt k2); have q3 := rowB_set (rowB_below k3 hb (rowB_lt k3)) 0 (.slice (some ⟨g, 0, none⟩) 3 3); obtain ⟨d0, d1, y0, y1⟩ := dcells2 (rowB_below k3 hb (rowB_lt k3)); rw [sW] at hg; have bX := bW.trans (hb.mono bW.size); have p2 := rowB_other q2 ⟨w.heap.size + 3, 0, none⟩ (.slice (some ⟨g, 0, none⟩) 3 3) (by simp))
    | (refine wpList_storeR rfl 27 _ _ rfl (w.heap.size + 2) rfl #[.slice (some ⟨g, 0, none⟩) 3 3, .slice none 0 0] rfl (dev2_one _ _ _ _ _ _) 27 #[.slice none 0 0, .slice none 0 0] rfl ?_ agDv ?_; with_reducible exact p2))
  refine bodyPost_ret (resultsR rfl (w.heap.size + 2) _ rfl (rowB_row p2 _) agDv) rfl ?_
  exact ⟨_, rfl, ⟨g, rfl, by omega, rowB_row_other (rowB_other hr _ _ (by show w.heap.size + 3 ≠ g; omega)) _ (by omega)⟩, below_rowR (bX.setCell (p := ⟨w.heap.size + 3, 0, none⟩) (by simp) _) _ (by omega)⟩

def msSer : List Int := [256, 64, 256, 2, 2, 4, 1048576, 256]
theorem formedSer_any (nm : ByteArray) (b z : Int) (dat v vm : Value) (l : List Int) (w : World) (h : isArg w v l) :
    Calls Tryz.prog 6 #[.agg (chip5 nm 5 b z dat), .agg #[v, vm]] w fun e w' => ∃ u, e = .returned u ∧ devO w.heap.size w' u (fmN l msSer 8) ∧ Below w.heap.size w w' := by
  dsimp only [chip5]
  obtain ⟨k0, k1, k2, k3, k4, bW, sW⟩ := boxes5 w (.cells #[.string nm, .int .i64 5, .int .i64 b, .int .i64 z, dat] 24) (.cells #[v, vm] 27) (.cells #[.slice none 0 0, .slice none 0 0] 27) (.cells #[.slice none 0 0, .slice none 0 0] 27) (.cells #[.int .i64 256, .int .i64 64, .int .i64 256, .int .i64 2, .int .i64 2, .int .i64 4, .int .i64 1048576, .int .i64 256] 3)
  have k2 : rowB _ _ _ _ := k2
  have k3 : rowB _ _ _ _ := k3
  have hu := numB_arg (l := [256, 64, 256, 2, 2, 4, 1048576, 256]) (show rowB _ _ _ _ from k4) (by decide)
  have h2 := isArg_below h bW (Nat.le_refl _)
  have hF := form_any v vm _ l [256, 64, 256, 2, 2, 4, 1048576, 256] _ h2 hu (by decide) (by decide)
  clear k0 k1 k4 hu h2
  go_enter Tryz.func6, Tryz.ntmps6
  go_wp2_with (first
    | (go_at_call 21; refine hF.mono ?_; rintro e w2 ⟨g, rfl, hg, hr, hb⟩; have q2 := rowB_below k2 hb (rowB_lt k2); have q3 := rowB_set (rowB_below k3 hb (rowB_lt k3)) 0 (.slice (some ⟨g, 0, none⟩) 8 8); obtain ⟨d0, d1, y0, y1⟩ := dcells2 (rowB_below k3 hb (rowB_lt k3)); rw [sW] at hg; have bX := bW.trans (hb.mono bW.size); have p2 := rowB_other q2 ⟨w.heap.size + 3, 0, none⟩ (.slice (some ⟨g, 0, none⟩) 8 8) (by simp))
    | (refine wpList_storeR rfl 27 _ _ rfl (w.heap.size + 2) rfl #[.slice (some ⟨g, 0, none⟩) 8 8, .slice none 0 0] rfl (dev2_one _ _ _ _ _ _) 27 #[.slice none 0 0, .slice none 0 0] rfl ?_ agDv ?_; with_reducible exact p2))
  refine bodyPost_ret (resultsR rfl (w.heap.size + 2) _ rfl (rowB_row p2 _) agDv) rfl ?_
  exact ⟨_, rfl, ⟨g, rfl, by omega, rowB_row_other (rowB_other hr _ _ (by show w.heap.size + 3 ≠ g; omega)) _ (by omega)⟩, below_rowR (bX.setCell (p := ⟨w.heap.size + 3, 0, none⟩) (by simp) _) _ (by omega)⟩
end Go.Proofs.YtakaebjojgeehaaGreat
