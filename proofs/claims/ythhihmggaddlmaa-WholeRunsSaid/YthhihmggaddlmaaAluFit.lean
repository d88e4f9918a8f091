/- Contracts of package alu's Fit and of small functions of package alu. -/
import Derived.Test.YthhihmggaddlmaaBitWalks
import Derived.Test.YthhihmggaddlmaaChecked
import Derived.Test.YthhihmggaddlmaaRegs
import Derived.Below
import Derived.BigQuiet
import Derived.Deep.DeepCutAuto
import Derived.Deep.Draws
import Derived.Deep.OwnRows
import Derived.Deep.QuietTactic
import Derived.Deep.RegionHeld3
import Derived.Deep.RegionWith
import Derived.Deep.WholeRow
import Derived.Lib.Hide
import Derived.OwnWalk
import Derived.RowKit3
import Derived.WalkKit
namespace Go.Proofs.Ythhihmggaddlmaa
set_option maxRecDepth 100000
open Go.RowKit

theorem is9R : is9 Try.prog 27 := ⟨⟨_, Try.underlying27⟩, by kernel_rfl⟩
def wideB (n : Int) : Bool := n == 7 || n == 8
theorem wideTab_any (n : Int) (w : World) :
    Calls Try.prog 105 #[.int .i64 n] w fun e w' => e = .returned (.bool (wideB n)) ∧ w = w' := by
  go_enter Try.func105, Try.ntmps105
  go_wp2
  all_goals
    go_ret
    refine ⟨?_, rfl⟩
    unfold wideB
    simp_all
theorem bits_reg (k : Nat) (w : World) :
    Calls Try.prog 101 #[.int .i64 (k : Int)] w fun e w' => e = .returned (.int .i64 (bitsN k : Nat)) ∧ w = w' := by
  go_enter Try.func101, Try.ntmps101
  go_wp2_with (go_at_call 105; refine (wideTab_any _ _).mono ?_; rintro e w' ⟨rfl, rfl⟩)
  all_goals
    go_ret
    refine ⟨ret_int ?_, rfl⟩
    unfold bitsN
    simp [wideB] at *
    first | (rw [if_pos (by omega)]; rfl) | (rw [if_neg (by omega)]; rfl)
theorem near8_any (n : Int) (w : World) :
    Calls Try.prog 106 #[.int .i64 n] w fun e w' => e = .returned (.int .i64 (near n 0 8)) ∧ w = w' := by
  go_enter Try.func106, Try.ntmps106
  go_wp2
  all_goals
    go_ret
    refine ⟨ret_int ?_, rfl⟩
    unfold near
    omega
theorem low8_any (n : Int) (w : World) :
    Calls Try.prog 111 #[.int .i64 n] w fun e w' => e = .returned (.int .i64 (lo n 8)) ∧ w = w' := by
  go_enter Try.func111, Try.ntmps111
  go_wp2_with (go_at_call 61; refine (low_any _ _ _).mono ?_; rintro e w' ⟨rfl, rfl⟩)
  go_ret
  exact ⟨rfl, rfl⟩
theorem second_any (n : Int) (w : World) :
    Calls Try.prog 114 #[.int .i64 n] w fun e w' => e = .returned (.int .i64 (lo (n / 256) 8)) ∧ w = w' := by
  go_enter Try.func114, Try.ntmps114
  go_wp2_with (go_at_call 48; refine (get_any _ _ _ _).mono ?_; rintro e w' ⟨rfl, rfl⟩)
  go_ret
  exact ⟨rfl, rfl⟩

/-- The first k registers are cut to their sizes. -/
def fitTo (f : Nat → Int) (k : Nat) (j : Nat) : Int := if j < k then fitR f j else f j
theorem fitTo_set (f : Nat → Int) (k : Nat) : setR (fitTo f k) k (lo (f k) (bitsN k)) = fitTo f (k + 1) := by
  funext j
  unfold setR fitTo
  by_cases h : j = k
  · subst h; rw [if_pos rfl, if_pos (by omega)]; rfl
  · rw [if_neg h]
    by_cases h2 : j < k
    · rw [if_pos h2, if_pos (by omega)]
    · rw [if_neg h2, if_neg (by omega)]
theorem fitTo_at (f : Nat → Int) (k : Nat) : fitTo f k k = f k := by unfold fitTo; rw [if_neg (by omega)]
theorem bitsN_le (k : Nat) : bitsN k ≤ 62 := by unfold bitsN; split <;> omega

theorem fit_any (f : Nat → Int) (w : World) :
    Calls Try.prog 87 #[.agg (arr9 f)] w fun e w' => e = .returned (.agg (arr9 (fitR f))) ∧ Below w.heap.size w w' := by
  go_enter Try.func87, Try.ntmps87
  go_wp2
  go_loopw [4] (fun i wr => ∃ k : Nat, k ≤ 9 ∧ i = .int .i64 k ∧ regB wr w.heap.size 27 (fitTo f k) ∧ regB wr (w.heap.size + 1) 27 (fun _ => 0) ∧ Below w.heap.size w wr) (fun i _ => 9 - (intOf i).toNat)
  case atStart =>
    refine ⟨0, by decide, rfl, ?_, ?_, ((Below.refl _ _).alloc (Nat.le_refl _) _).alloc (by simp) _⟩
    · exact regB_alloc (regB_eq (regB_new w 27 f) (fun j _ => by unfold fitTo; rw [if_neg (by omega)])) _
    · have := regB_new (w.alloc (.cells (arr9 f) 27)) 27 (fun _ => 0)
      simp only [World.size_alloc] at this
      exact this
  case round =>
    obtain ⟨k, hk, rfl, hb0, hb1, hbel⟩ := hrel
    by_cases hlt : k < 9
    · have hc := regB_cell hb0 k hlt
      have hf := regB_free hb0 k
      have hs := Lib.hid (fitTo_set f k)
      rw [fitTo_at] at hc
      have hw := wd_of (bitsN k) (bitsN_le k)
      go_wp2
      go_region_with (first | (go_at_call 101; refine (bits_reg _ _).mono ?_; rintro e w' ⟨rfl, rfl⟩) | (go_at_call 61; refine (low_any _ _ _).mono ?_; rintro e w' ⟨rfl, rfl⟩))
      all_goals
        go_wp2
        go_roundw
        case measure => simp [intOf]; omega
        case rel =>
          refine ⟨k + 1, by omega, by go_num, ?_, ?_, ?_⟩
          · rw [← hs.out]; exact regB_set hb0 k _ hlt
          · exact regB_other hb1 ⟨w.heap.size, k, none⟩ _ (by simp)
          · exact Below.drew (hbel.setCell (p := ⟨w.heap.size, k, none⟩) (by simp) _)
    · obtain rfl : k = 9 := by omega
      have hb := regB_eq (f' := fitR f) hb0 (fun j hj => by unfold fitTo; rw [if_pos hj])
      clear hb0
      go_wp2_with (first
        | (refine wpList_load9 rfl 27 _ rfl w.heap.size rfl 27 (fitR f) hb is9R ?_)
        | (refine wpList_store9 rfl 27 _ _ rfl (w.heap.size + 1) rfl (fitR f) rfl 27 _ hb1 is9R ?_))
      exact bodyPost_ret (results9 rfl is9R (w.heap.size + 1) _ rfl (regB_row hb1 (fitR f))) rfl ⟨rfl, below_rowR hbel _ (by omega)⟩
end Go.Proofs.Ythhihmggaddlmaa
