/- Contracts of the reference's functions on registers: Mod, wide, Fitted, flags, turned. -/
import Derived.Test.YthhihmggaddlmaaAluShift
import Derived.Test.YthhihmggaddlmaaChecked
import Derived.Below
import Derived.BigQuiet
import Derived.Deep.CutBlock
import Derived.Deep.DeepCutAuto
import Derived.Deep.Draws
import Derived.Deep.MidRow
import Derived.Deep.OwnRows
import Derived.Deep.QuietTactic
import Derived.Deep.RegionHeld3
import Derived.Deep.RegionLaw
import Derived.Deep.RegionWith
import Derived.Deep.WholeRow
import Derived.Lib.Hide
import Derived.OrdersHeld
import Derived.OwnWalk
import Derived.RowKit3
import Derived.StillTactics
import Derived.StillTail
import Derived.StillTailTactics
import Derived.WalkKit
namespace Go.Proofs.Ythhihmggaddlmaa
set_option maxRecDepth 100000
open Go.RowKit

theorem wideRef_any (n : Int) (w : World) :
    Calls Try.prog 54 #[.int .i64 n] w fun e w' => e = .returned (.bool (wideB n)) ∧ w = w' := by
  go_enter Try.func54, Try.ntmps54
  go_wp2
  all_goals
    go_ret
    refine ⟨?_, rfl⟩
    unfold wideB
    simp_all
theorem tmod_twice (n m : Int) (h : m = 256 ∨ m = 65536) : (Int.tmod n m + m).tmod m = n % m := by
  have h0 := Int.tmod_add_mul_tdiv n m
  have h1 := Int.lt_tmod_of_pos n (by omega : 0 < m)
  have h2 := Int.tmod_lt_of_pos n (by omega : 0 < m)
  rw [Int.tmod_eq_emod_of_nonneg (by omega)]
  generalize n.tmod m = x at *
  generalize n.tdiv m = y at *
  rcases h with rfl | rfl <;> omega
theorem modRef_any (n m : Int) (h : m = 256 ∨ m = 65536) (w : World) :
    Calls Try.prog 14 #[.int .i64 n, .int .i64 m] w fun e w' => e = .returned (.int .i64 (n % m)) ∧ w = w' := by
  have e1 := tmod_twice n m h
  have h1 := Int.lt_tmod_of_pos n (by omega : 0 < m)
  have h2 := Int.tmod_lt_of_pos n (by omega : 0 < m)
  rcases h with rfl | rfl
  all_goals
    go_enter Try.func14, Try.ntmps14
    go_wp2
    go_ret
    refine ⟨ret_int ?_, rfl⟩
    rfl
theorem or0 {x : Int} (h : 0 ≤ x ∧ x < 256) : bits .or .i64 x 0 = x := by
  obtain ⟨k, rfl⟩ := byte_fin h
  exact (by decide +kernel : ∀ k : Fin 256, bits .or .i64 (k.val : Int) 0 = (k.val : Int)) k
/-- The flags register that the reference computes. -/
def refFlags (p n c : Int) : Int := if c < 0 then flg p n else car (flg p n) c
theorem flagsRef_any (p n c : Int) (hp : 0 ≤ p ∧ p < 256) (hn : 0 ≤ n ∧ n < 256) (hc : c = -1 ∨ c = 0 ∨ c = 1) (w : World) :
    Calls Try.prog 84 #[.int .i64 p, .int .i64 n, .int .i64 c] w fun e w' => e = .returned (.int .i64 (refFlags p n c)) ∧ w = w' := by
  have e1 := not130 hp
  have e2 := or2 hp
  have e3 := or128 hp
  have e4 := and128 hn
  have hq := flg_bd p n hp
  have e5 := not1 hq
  have e6 := fun c (hc : c = 0 ∨ c = 1) => orc hq (c := c) hc
  have e : n % 256 = n := Int.emod_eq_of_lt hn.1 hn.2
  have hF : flg p n = p - p / 2 % 2 * 2 - p / 128 % 2 * 128 + (if n = 0 then 2 else 0) + (if 128 ≤ n then 128 else 0) := by unfold flg; rw [e]
  obtain ⟨q, hQ⟩ : ∃ q, q = p - p / 2 % 2 * 2 - p / 128 % 2 * 128 := ⟨_, rfl⟩
  rw [← hQ] at e1 e2 e3 hF
  unfold refFlags
  clear e
  generalize flg p n = F at *
  have o := or0 hq
  by_cases hz : n = 0
  · subst hz
    rw [if_pos rfl, if_neg (by decide), Int.add_zero] at hF
    rw [if_neg (by decide)] at e4
    rw [← hF] at e2
    clear e3 hQ hF hp hn hq
    rcases hc with rfl | rfl | rfl
    · go_enter Try.func84, Try.ntmps84
      go_wp2
      go_ret
      refine ⟨ret_int ?_, rfl⟩
      first | rfl | (show _ = car F _; unfold car; omega)
    · have e7 := e6 0 (by simp)
      clear e6
      go_enter Try.func84, Try.ntmps84
      go_wp2
      go_ret
      refine ⟨ret_int ?_, rfl⟩
      first | rfl | (show _ = car F _; unfold car; omega)
    · have e7 := e6 1 (by simp)
      clear e6
      go_enter Try.func84, Try.ntmps84
      go_wp2
      go_ret
      refine ⟨ret_int ?_, rfl⟩
      first | rfl | (show _ = car F _; unfold car; omega)
  · rw [if_neg hz, Int.add_zero] at hF
    by_cases h8 : 128 ≤ n
    · rw [if_pos h8] at hF e4
      rw [← hF] at e3
      clear e2 hQ hF hp hn hq
      rcases hc with rfl | rfl | rfl
      · go_enter Try.func84, Try.ntmps84
        go_wp2
        go_ret
        refine ⟨ret_int ?_, rfl⟩
        first | rfl | (show _ = car F _; unfold car; omega)
      · have e7 := e6 0 (by simp)
        clear e6
        go_enter Try.func84, Try.ntmps84
        go_wp2
        go_ret
        refine ⟨ret_int ?_, rfl⟩
        first | rfl | (show _ = car F _; unfold car; omega)
      · have e7 := e6 1 (by simp)
        clear e6
        go_enter Try.func84, Try.ntmps84
        go_wp2
        go_ret
        refine ⟨ret_int ?_, rfl⟩
        first | rfl | (show _ = car F _; unfold car; omega)
    · rw [if_neg h8, Int.add_zero] at hF
      rw [if_neg h8] at e4
      rw [← hF] at e1
      clear e2 e3 hQ hF hp hn hq
      rcases hc with rfl | rfl | rfl
      · go_enter Try.func84, Try.ntmps84
        go_wp2
        go_ret
        refine ⟨ret_int ?_, rfl⟩
        first | rfl | (show _ = car F _; unfold car; omega)
      · have e7 := e6 0 (by simp)
        clear e6
        go_enter Try.func84, Try.ntmps84
        go_wp2
        go_ret
        refine ⟨ret_int ?_, rfl⟩
        first | rfl | (show _ = car F _; unfold car; omega)
      · have e7 := e6 1 (by simp)
        clear e6
        go_enter Try.func84, Try.ntmps84
        go_wp2
        go_ret
        refine ⟨ret_int ?_, rfl⟩
        first | rfl | (show _ = car F _; unfold car; omega)

/-- What a shift gives by the reference. -/
theorem turnedRef_any (d a c : Int) (hd : d = 12 ∨ d = 13 ∨ d = 14 ∨ d = 15) (ha : 0 ≤ a ∧ a < 256) (hc : c = 0 ∨ c = 1) (w : World) :
    Calls Try.prog 86 #[.int .i64 d, .int .i64 a, .int .i64 c] w fun e w' => e = .returned (.tuple #[.int .i64 (shiftN d a c), .int .i64 (shiftC d a c)]) ∧ w = w' := by
  rcases hd with rfl | rfl | rfl | rfl
  · have e1 : shiftN 12 a c = a * 2 % 256 := by show lo (rolS a 0 8) 8 = _; unfold rolS; simp only [lo8_eq]; omega
    have e2 : shiftC 12 a c = a / 128 := by show rolS a 0 8 / 256 = _; unfold rolS; simp only [lo8_eq]; omega
    rw [e1, e2]
    go_enter Try.func86, Try.ntmps86
    go_wp2
    go_ret2
    exact ⟨rfl, rfl⟩
  · have e1 : shiftN 13 a c = a / 2 := by show rorS a 0 8 / 2 = _; unfold rorS; simp only [lo8_eq]; omega
    have e2 : shiftC 13 a c = a % 2 := by show rorS a 0 8 % 2 = _; unfold rorS; simp only [lo8_eq]; omega
    rw [e1, e2]
    go_enter Try.func86, Try.ntmps86
    go_wp2
    go_ret2
    exact ⟨rfl, rfl⟩
  · have e1 : shiftN 14 a c = a * 2 % 256 + c := by show lo (rolS a c 8) 8 = _; unfold rolS; simp only [lo8_eq]; omega
    have e2 : shiftC 14 a c = a / 128 := by show rolS a c 8 / 256 = _; unfold rolS; simp only [lo8_eq]; omega
    rw [e1, e2]
    go_enter Try.func86, Try.ntmps86
    go_wp2
    go_ret2
    exact ⟨rfl, rfl⟩
  · have e8 : (2 : Int) ^ 8 = 256 := by decide
    have e1 : shiftN 15 a c = a / 2 + 128 * c := by show rorS a c 8 / 2 = _; unfold rorS; rw [e8]; simp only [lo8_eq]; omega
    have e2 : shiftC 15 a c = a % 2 := by show rorS a c 8 % 2 = _; unfold rorS; rw [e8]; simp only [lo8_eq]; omega
    rw [e1, e2]
    go_enter Try.func86, Try.ntmps86
    go_wp2
    go_ret2
    exact ⟨rfl, rfl⟩

theorem lo_wide (x : Int) (k : Nat) (h : k = 7 ∨ k = 8) : lo x (bitsN k) = x % 65536 := by unfold bitsN; rw [if_pos h]; rfl
theorem lo_byte (x : Int) (k : Nat) (h : ¬ (k = 7 ∨ k = 8)) : lo x (bitsN k) = x % 256 := by unfold bitsN; rw [if_neg h]; rfl
set_option maxHeartbeats 1000000 in
theorem fittedRef_any (f : Nat → Int) (w : World) :
    Calls Try.prog 51 #[.agg (arr9 f)] w fun e w' => e = .returned (.agg (arr9 (fitR f))) ∧ Below w.heap.size w w' := by
  go_enter Try.func51, Try.ntmps51
  go_wp2
  go_loopw [5] (fun i wr => ∃ k : Nat, k ≤ 9 ∧ i = .int .i64 k ∧ regB wr w.heap.size 27 (fitTo f k) ∧ regB wr (w.heap.size + 1) 27 (fun _ => 0) ∧ Below w.heap.size w wr) (fun i _ => 9 - (intOf i).toNat)
  case atStart =>
    refine ⟨0, by decide, rfl, ?_, ?_, ((Below.refl _ _).alloc (Nat.le_refl _) _).alloc (by simp) _⟩
    · exact regB_alloc (regB_eq (regB_new w 27 f) (fun j _ => by unfold fitTo; rw [if_neg (by omega)])) _
    · have := regB_new (w.alloc (.cells (arr9 f) 27)) 27 (fun _ => 0)
      simp only [World.size_alloc] at this
      exact this
  case round =>
    obtain ⟨k, hk, rfl, hb0, hb1, hbel⟩ := hrel
    by_cases hlt : k < 9
    · have hc := regB_cell hb0 k hlt
      have hf := regB_free hb0 k
      have hs := Lib.hid (fitTo_set f k)
      rw [fitTo_at] at hc
      by_cases h7 : k = 7 ∨ k = 8
      · have hW : wideB (k : Int) = true := by unfold wideB; rcases h7 with rfl | rfl <;> rfl
        rw [lo_wide _ _ h7] at hs
        go_wp2_with (first | (go_at_call 54; refine (wideRef_any _ _).mono ?_; rintro e w' ⟨rfl, rfl⟩) | (go_at_call 14; refine (modRef_any _ 65536 (.inr rfl) _).mono ?_; rintro e w' ⟨rfl, rfl⟩))
        go_roundw
        case measure => simp [intOf]; omega
        case rel =>
          refine ⟨k + 1, by omega, by go_num, ?_, ?_, ?_⟩
          · rw [← hs.out]; exact regB_set hb0 k _ hlt
          · exact regB_other hb1 ⟨w.heap.size, k, none⟩ _ (by simp)
          · exact hbel.setCell (p := ⟨w.heap.size, k, none⟩) (by simp) _
      · have hW : wideB (k : Int) = false := by unfold wideB; simp; omega
        rw [lo_byte _ _ h7] at hs
        go_wp2_with (first | (go_at_call 54; refine (wideRef_any _ _).mono ?_; rintro e w' ⟨rfl, rfl⟩) | (go_at_call 14; refine (modRef_any _ 256 (.inl rfl) _).mono ?_; rintro e w' ⟨rfl, rfl⟩))
        go_roundw
        case measure => simp [intOf]; omega
        case rel =>
          refine ⟨k + 1, by omega, by go_num, ?_, ?_, ?_⟩
          · rw [← hs.out]; exact regB_set hb0 k _ hlt
          · exact regB_other hb1 ⟨w.heap.size, k, none⟩ _ (by simp)
          · exact hbel.setCell (p := ⟨w.heap.size, k, none⟩) (by simp) _
    · obtain rfl : k = 9 := by omega
      have hb := regB_eq (f' := fitR f) hb0 (fun j hj => by unfold fitTo; rw [if_pos hj])
      clear hb0
      go_wp2_with (first
        | (refine wpList_load9 rfl 27 _ rfl w.heap.size rfl 27 (fitR f) ?_ is9R ?_; with_reducible exact hb)
        | (refine wpList_store9 rfl 27 _ _ rfl (w.heap.size + 1) rfl (fitR f) rfl 27 _ hb1 is9R ?_))
      exact bodyPost_ret (results9 rfl is9R (w.heap.size + 1) _ rfl (regB_row hb1 (fitR f))) rfl ⟨rfl, below_rowR hbel _ (by omega)⟩

/-! What the reference reckons, as the program does. -/
theorem flg_mod (p n : Int) : flg p (n % 256) = flg p n := by unfold flg; rw [Int.emod_emod_of_dvd n (by decide : (256 : Int) ∣ 256)]
theorem flg_car {p c n : Int} (hc : c = 0 ∨ c = 1) : car (flg p n) c = flg (car p c) n := by
  unfold car flg
  split <;> split <;> omega
theorem lo_mod (n : Int) : lo (n % 256) 8 = lo n 8 := by rw [lo8_eq, lo8_eq]; omega
theorem sumN_mod (d a b c : Int) : sumN d (a % 256) (b % 256) c = sumN d a b c := by unfold sumN addS subS; simp only [lo_mod]
theorem sumC_mod (d a b c : Int) : sumC d (a % 256) (b % 256) c = sumC d a b c := by unfold sumC subC addS subS; simp only [lo_mod]
theorem shiftN_mod (d a c : Int) : shiftN d (a % 256) c = shiftN d a c := by unfold shiftN rolS rorS; simp only [lo_mod]
theorem shiftC_mod (d a c : Int) : shiftC d (a % 256) c = shiftC d a c := by unfold shiftC rolS rorS; simp only [lo_mod]
theorem fit_congr {f g : Nat → Int} (h : ∀ k, lo (f k) (bitsN k) = lo (g k) (bitsN k)) : fitR f = fitR g := funext h
theorem fit_set_lo (f : Nat → Int) (k : Nat) (x : Int) : fitR (setR f k (lo x (bitsN k))) = fitR (setR f k x) := fit_congr fun j => by
  unfold setR
  by_cases h : j = k
  · rw [if_pos h, if_pos h, h, lo_lo]
  · rw [if_neg h, if_neg h]
theorem moved22 {n a b : Int} (ha : 0 ≤ a ∧ a < 65536) : movedV 22 n a b = a + b % 256 := by
  show wrap64 (a + lo b 8) = _
  rw [lo8_eq]
  exact IntWalk.wrap64_in _ (by omega)
theorem sg8_eq (b : Int) : sg b 8 = b % 256 - b % 256 / 128 * 256 := by
  have e : (2 : Int) ^ 8 = 256 := by decide
  unfold sg
  rw [lo8_eq, e]
  split <;> omega
theorem moved23 {n a b : Int} (ha : 0 ≤ a ∧ a < 65536) : movedV 23 n a b = a + (b % 256 - b % 256 / 128 * 256) := by
  show wrap64 (a + sg b 8) = _
  rw [sg8_eq]
  exact IntWalk.wrap64_in _ (by omega)
theorem put_low {a b : Int} (ha : 0 ≤ a ∧ a < 65536) : putN a 0 8 b = a - a % 256 + b % 256 := by
  have e : (2 : Int) ^ (0 + 8) = 256 := by decide
  have e0 : (2 : Int) ^ 0 = 1 := by decide
  have e2 : lo a 62 = a := lo_of ha.1 (by have : (2 : Int) ^ 62 = 4611686018427387904 := by decide
                                          omega)
  have e3 : lo a 0 = 0 := by unfold lo; rw [e0]; omega
  unfold putN
  rw [e, e0, e2, e3, lo8_eq]
  omega
theorem put_high {a b : Int} (ha : 0 ≤ a ∧ a < 65536) : putN a 8 8 b = a - a / 256 % 256 * 256 + b % 256 * 256 := by
  have e : (2 : Int) ^ (8 + 8) = 65536 := by decide
  have e0 : (2 : Int) ^ 8 = 256 := by decide
  have e2 : lo a 62 = a := lo_of ha.1 (by have : (2 : Int) ^ 62 = 4611686018427387904 := by decide
                                          omega)
  unfold putN
  rw [e, e0, e2, lo8_eq, lo8_eq]
  omega
end Go.Proofs.Ythhihmggaddlmaa
