/- The reference's form of a chip's numbers: Mod for all moduli, form. -/
import Derived.Test.YtmjddoboogccoaaChecked
import Derived.Test.YtmjddoboogccoaaDev
import Derived.Test.YtmjddoboogccoaaQuiet
import Derived.Below
import Derived.BigQuiet
import Derived.ChangeMaps5
import Derived.Deep.DeepCutAuto
import Derived.Deep.Draws
import Derived.Deep.MidRow
import Derived.Deep.OwnRows
import Derived.Deep.QuietTactic
import Derived.Deep.RegionHeld3
import Derived.Deep.RegionWith
import Derived.Deep.Slices
import Derived.Deep.WholeRow
import Derived.Lib.Hide
import Derived.Lib.SmallJoins
import Derived.OpenShut
import Derived.OrdersHeld
import Derived.OwnWalk
import Derived.RowKit3
import Derived.StillTactics
import Derived.StillTail
import Derived.StillTailTactics
import Derived.WalkKit
namespace Go.Proofs.Ytmjddoboogccoaa
open Go.RowKit
set_option maxRecDepth 100000

theorem tmod_form (n m : Int) (h : 0 < m) : (Int.tmod n m + m).tmod m = n % m := by
  have h1 := Int.lt_tmod_of_pos n h
  have h2 := Int.tmod_add_mul_tdiv n m
  rw [Int.tmod_eq_emod_of_nonneg (by omega), Int.add_emod_right]
  generalize n.tmod m = x at *
  generalize n.tdiv m = y at *
  rw [← h2, Int.add_mul_emod_self_left]
theorem modR_any (n m : Int) (h : 0 < m) (hm : m ≤ 4611686018427387904) (w : World) :
    Calls Try.prog 44 #[.int .i64 n, .int .i64 m] w fun e w' => e = .returned (.int .i64 (n % m)) ∧ w = w' := by
  have e1 := tmod_form n m h
  have h1 := Int.lt_tmod_of_pos n h
  have h2 := Int.tmod_lt_of_pos n h
  have hz : ¬ (m = 0) := by omega
  have hw : IntKind.i64.wrap (n.tmod m + m) = n.tmod m + m := IntWalk.i64_in _ (by omega)
  go_enter Try.func44, Try.ntmps44
  go_wp2
  go_ret
  exact ⟨ret_int (by first | exact e1 | rfl), rfl⟩
/-- The numbers in their form. -/
def fmN (l ms : List Int) (k : Nat) : List Int := (List.range ms.length).map fun i => if i < k then l.getD i 0 % ms.getD i 1 else 0
theorem fmN_len (l ms : List Int) (k : Nat) : (fmN l ms k).length = ms.length := by simp [fmN]
theorem fmN_get? (l ms : List Int) (k i : Nat) (hi : i < ms.length) : (fmN l ms k)[i]? = some (if i < k then l.getD i 0 % ms.getD i 1 else 0) := by
  unfold fmN
  rw [List.getElem?_map, List.getElem?_range hi]
  rfl
theorem fmN_zero (l ms : List Int) : fmN l ms 0 = List.replicate ms.length 0 := by
  refine List.ext_getElem? fun i => ?_
  by_cases hi : i < ms.length
  · rw [fmN_get? _ _ _ _ hi, List.getElem?_replicate, if_pos hi, if_neg (Nat.not_lt_zero _)]
  · rw [List.getElem?_eq_none (by rw [fmN_len]; omega), List.getElem?_eq_none (by simp; omega)]
theorem fmN_set (l ms : List Int) (k : Nat) (hk : k < ms.length) : (fmN l ms k).set k (l.getD k 0 % ms.getD k 1) = fmN l ms (k + 1) := by
  refine List.ext_getElem? fun i => ?_
  rw [List.getElem?_set]
  by_cases hi : i < ms.length
  · rw [fmN_get? _ _ _ _ hi, fmN_get? _ _ _ _ hi]
    by_cases e : k = i
    · subst e
      rw [if_pos rfl, if_pos (by rw [fmN_len]; exact hk), if_pos (by omega)]
    · rw [if_neg e]
      by_cases h : i < k
      · rw [if_pos h, if_pos (by omega)]
      · rw [if_neg h, if_neg (by omega)]
  · rw [List.getElem?_eq_none (l := fmN l ms (k + 1)) (by rw [fmN_len]; omega), if_neg (by omega), List.getElem?_eq_none (by rw [fmN_len]; omega)]
theorem fmN_skip (l ms : List Int) (k : Nat) (hk : ¬ k < l.length) : fmN l ms (k + 1) = fmN l ms k := by
  refine List.ext_getElem? fun i => ?_
  by_cases hi : i < ms.length
  · rw [fmN_get? _ _ _ _ hi, fmN_get? _ _ _ _ hi]
    by_cases e : i = k
    · subst e
      rw [if_pos (by omega), if_neg (by omega), List.getD_eq_getElem?_getD, List.getElem?_eq_none (by omega)]
      simp
    · by_cases h : i < k
      · rw [if_pos h, if_pos (by omega)]
      · rw [if_neg h, if_neg (by omega)]
  · rw [List.getElem?_eq_none (by rw [fmN_len]; omega), List.getElem?_eq_none (by rw [fmN_len]; omega)]
/-- A row of numbers. -/
def nums (l : List Int) : Array Value := (l.map (Value.int .i64)).toArray
theorem nums_get (l : List Int) (k : Nat) : (nums l)[k]? = (l[k]?).map (Value.int .i64) := by simp [nums]
theorem nums_set (l : List Int) (k : Nat) (x : Int) : (nums l).setIfInBounds k (.int .i64 x) = nums (l.set k x) := by simp [nums]
theorem made_nums (n : Nat) : madeCells #[.int .i64 0] n = nums (List.replicate n 0) := by
  refine Array.ext_getElem? fun i => ?_
  rw [nums_get]
  unfold madeCells
  by_cases h : i < n
  · rw [Array.getElem?_map, Array.getElem?_range, if_pos h, List.getElem?_replicate, if_pos h]
    simp [Nat.mod_one]
  · rw [Array.getElem?_eq_none (by simp; omega), List.getElem?_eq_none (by simp; omega)]
    rfl
theorem infoNm : ∃ i, Try.prog.info? 3 = some i ∧ i.zero = some (.int .i64 0) ∧ i.size = 1 ∧ i.bytes = 8 := by
  have h : (Try.prog.info? 3).map (fun i => (i.zero, i.size, i.bytes)) = some (some (.int .i64 0), 1, 8) := by kernel_rfl
  cases hh : Try.prog.info? 3 with
  | none => rw [hh] at h; cases h
  | some i => rw [hh] at h; simp only [Option.map_some, Option.some.injEq, Prod.mk.injEq] at h; exact ⟨i, rfl, h⟩
theorem form_any (v vm u : Value) (l ms : List Int) (w : World) (h : isArg w v l) (hu : isArg w u ms) (hms : ∀ m ∈ ms, 1 ≤ m ∧ m ≤ 4611686018427387904) (hml : ms.length ≤ 1000) :
    Calls Try.prog 50 #[.agg #[v, vm], u] w fun e w' => ∃ g, e = .returned (.slice (some ⟨g, 0, none⟩) ms.length ms.length) ∧ w.heap.size ≤ g ∧ rowB w' g 3 ((fmN l ms ms.length).map (Value.int .i64)).toArray ∧ Below w.heap.size w w' := by
  obtain ⟨a, cap, rfl, hf⟩ := isArg_form h
  obtain ⟨b, cap', rfl, hg⟩ := isArg_form hu
  obtain ⟨ii, i1, i2, i3, i4⟩ := infoNm
  have k0 := rowB_new w 25 #[.slice a l.length cap, vm]
  have b0 := (boxes1 w (.cells #[.slice a l.length cap, vm] 25)).2.1
  go_enter Try.func50, Try.ntmps50
  go_upto_region 2 with (at_make; refine wpList_make_row _ rfl _ _ _ rfl 3 ii (.int .i64 0) Try.underlying22 i1 i2 i3 rfl _ _ ms.length rfl rfl (by rw [i4]; omega) (by omega) ?_)
  rw [made_nums]
  have s1 : (w.alloc (.cells #[.slice a l.length cap, vm] 25)).heap.size = w.heap.size + 1 := by simp
  generalize w.alloc (.cells #[.slice a l.length cap, vm] 25) = w1 at *
  have k1 : rowB (w1.alloc (.cells (nums (List.replicate ms.length 0)) 3)) w1.heap.size 3 (nums (List.replicate ms.length 0)) := rowB_new w1 _ _
  have bB := (boxes1 w1 (.cells (nums (List.replicate ms.length 0)) 3)).2.1
  generalize w1.alloc (.cells (nums (List.replicate ms.length 0)) 3) = w2 at *
  rw [← fmN_zero l ms, s1] at k1
  rw [s1] at bB
  go_wp2_with fail
  go_loopw [13] (fun i wr => ∃ k : Nat, k ≤ ms.length ∧ i = .int .i64 k ∧ rowB wr (w.heap.size + 1) 3 (nums (fmN l ms k)) ∧ Below (w.heap.size + 1) w1 wr) (fun i _ => ms.length - (intOf i).toNat)
  case atStart => exact ⟨0, Nat.zero_le _, rfl, k1, bB⟩
  case round =>
    obtain ⟨k, hk, rfl, hr, hb⟩ := hrel
    have hs := hb.size
    by_cases hlt : k < ms.length
    · obtain ⟨b', off, rfl, hbb, hc1, hc2, hmc⟩ := hg k hlt
      have hmb := hms (ms.getD k 0) (by rw [List.getD_eq_getElem?_getD, List.getElem?_eq_getElem hlt]; exact List.getElem_mem hlt)
      have hm1 : wr.cell? ⟨b', off + k, none⟩ = some (.int .i64 (ms.getD k 0)) := by
        rw [hb.cell (p := ⟨b', off + k, none⟩) (by show b' < _; omega), b0.cell (p := ⟨b', off + k, none⟩) hbb]
        exact hmc
      have hbox := rowB_below k0 hb (by omega)
      obtain ⟨d0, d1, y0, y1⟩ := dcells2 hbox
      have e0 : wr.cell? ⟨(w.heap.size + 1), k, none⟩ = some (.int .i64 0) := rowB_cell hr k (by rw [nums_get, fmN_get? _ _ _ _ hlt, if_neg (Nat.lt_irrefl _)]; rfl)
      have z0 := rowB_free hr k
      have hset := rowB_set hr k (.int .i64 (l.getD k 0 % ms.getD k 1))
      rw [nums_set, fmN_set l ms k hlt] at hset
      have hbel := hb.setCell (p := ⟨(w.heap.size + 1), k, none⟩) (Nat.le_refl _) (.int .i64 (l.getD k 0 % ms.getD k 1))
      have e1 : ms.getD k 1 = ms.getD k 0 := by simp only [List.getD_eq_getElem?_getD, List.getElem?_eq_getElem hlt, Option.getD_some]
      rw [e1] at hset hbel
      have hMod := fun n w => modR_any n (ms.getD k 0) (by omega) hmb.2 w
      generalize ms.getD k 0 = m at *
      by_cases hkl : k < l.length
      · obtain ⟨b2, off2, rfl, hb2, hc3, hc4, hlc⟩ := hf k hkl
        have hl1 : wr.cell? ⟨b2, off2 + k, none⟩ = some (.int .i64 (l.getD k 0)) := by
          rw [hb.cell (p := ⟨b2, off2 + k, none⟩) (by show b2 < _; omega), b0.cell (p := ⟨b2, off2 + k, none⟩) hb2]
          exact hlc
        have hd : decide ((k : Int) < (l.length : Int)) = true := decide_eq_true (by omega)
        generalize l.getD k 0 = x at *
        clear hg hf hms h hu k1 bB hmc hlc e1 hb
        go_wp2_with (go_at_call 44; refine (hMod _ _).mono ?_; rintro e w' ⟨rfl, rfl⟩)
        go_roundw
        case rel => exact ⟨k + 1, by omega, by go_num, hset, hbel⟩
        case measure => simp [intOf]; omega
      · have hsk := fmN_skip l ms k hkl
        have hd : decide ((k : Int) < (l.length : Int)) = false := decide_eq_false (by omega)
        clear hg hf hms h hu k1 bB hmc e1 hset hbel
        go_wp2_with fail
        go_roundw
        case rel => exact ⟨k + 1, by omega, by go_num, by rw [hsk]; exact hr, hb⟩
        case measure => simp [intOf]; omega
    · obtain rfl : k = ms.length := by omega
      clear hg hf hms h hu k1 bB
      go_wp2_with fail
      go_ret
      exact ⟨_, rfl, by omega, hr, b0.trans (hb.mono (by omega))⟩
end Go.Proofs.Ytmjddoboogccoaa
