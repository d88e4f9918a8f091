/- Contracts of package alu's functions on flags: flagged, carried, subtract, joined, moved. -/
import Derived.Test.YthhihmggaddlmaaAluFit
import Derived.Test.YthhihmggaddlmaaChecked
import Derived.Below
import Derived.BigQuiet
import Derived.Deep.DeepCutAuto
import Derived.Deep.Draws
import Derived.Deep.OwnRows
import Derived.Deep.QuietTactic
import Derived.Deep.RegionHeld3
import Derived.Deep.RegionWith
import Derived.Deep.WholeRow
import Derived.Lib.Hide
import Derived.OwnWalk
import Derived.RowKit3
import Derived.WalkKit
namespace Go.Proofs.Ythhihmggaddlmaa
set_option maxRecDepth 100000
open Go.RowKit

/-- A function's result, built on a block of registers through stores at known and other places. -/
theorem regB_start (w : World) (t : TypeId) (f : Nat → Int) (o : Obj) : regB ((w.alloc (.cells (arr9 f) t)).alloc o) w.heap.size t f := regB_alloc (regB_new w t f) o
theorem regB_start2 (w : World) (t : TypeId) (f : Nat → Int) (o : Obj) : regB ((w.alloc o).alloc (.cells (arr9 f) t)) (w.heap.size + 1) t f := by
  have := regB_new (w.alloc o) t f
  rw [World.size_alloc] at this
  exact this
theorem zero9 : (#[.int .i64 0, .int .i64 0, .int .i64 0, .int .i64 0, .int .i64 0, .int .i64 0, .int .i64 0, .int .i64 0, .int .i64 0] : Array Value) = arr9 (fun _ => 0) := rfl

set_option maxHeartbeats 1000000 in
theorem flagged_any (f : Nat → Int) (n : Int) (h : 0 ≤ f 4 ∧ f 4 < 256) (w : World) :
    Calls Try.prog 107 #[.agg (arr9 f), .int .i64 n] w fun e w' => e = .returned (.agg (arr9 (setR f 4 (flg (f 4) n)))) ∧ Below w.heap.size w w' := by
  have hbel : Below w.heap.size w ((w.alloc (.cells (arr9 f) 27)).alloc (.cells (arr9 fun _ => 0) 27)) := ((Below.refl _ _).alloc (Nat.le_refl _) _).alloc (by simp) _
  have h0 := regB_start w 27 f (.cells (arr9 fun _ => 0) 27)
  have h1 := regB_start2 w 27 (fun _ => 0) (.cells (arr9 f) 27)
  have e1 := not130 h
  have e2 := or2 h
  have e3 := or128 h
  obtain ⟨q, hq⟩ : ∃ q, q = f 4 - f 4 / 2 % 2 * 2 - f 4 / 128 % 2 * 128 := ⟨_, rfl⟩
  rw [← hq] at e1 e2 e3
  have hfl : flg (f 4) n = q + (if lo n 8 = 0 then 2 else 0) + (if 128 ≤ lo n 8 then 128 else 0) := by rw [hq]; rfl
  have hl := lo8_bd n
  rw [hfl]
  clear hfl hq
  go_enter Try.func107, Try.ntmps107
  go_upto_region 1 with (fail)
  rw [zero9]
  generalize (w.alloc (.cells (arr9 f) 27)).alloc (.cells (arr9 fun _ => 0) 27) = w0 at *
  have c4 := regB_cell h0 4 (by decide)
  have f4 := regB_free h0 4
  by_cases hz : lo n 8 = 0
  · have k0 := regB_set (regB_set h0 4 q (by decide)) 4 (q + 2) (by decide)
    have k1 := regB_other (regB_other h1 ⟨w.heap.size, 4, none⟩ (.int .i64 q) (by simp)) ⟨w.heap.size, 4, none⟩ (.int .i64 (q + 2)) (by simp)
    go_wp2_with (first | (go_at_call 111; refine (low8_any _ _).mono ?_; rintro e w' ⟨rfl, rfl⟩) | (refine wpList_load9 rfl 27 _ rfl w.heap.size rfl 27 (setR (setR f 4 q) 4 (q + 2)) ?_ is9R ?_; with_reducible exact k0) | (refine wpList_store9 rfl 27 _ _ rfl (w.heap.size + 1) rfl (setR (setR f 4 q) 4 (q + 2)) rfl 27 (fun _ => 0) ?_ is9R ?_; with_reducible exact k1))
    refine bodyPost_ret (results9 rfl is9R (w.heap.size + 1) _ rfl (regB_row k1 _)) rfl ⟨?_, below_rowR ((hbel.setCell (Nat.le_refl _) _).setCell (Nat.le_refl _) _) _ (by omega)⟩
    rw [setR_setR]
  · by_cases hn : 128 ≤ lo n 8
    · have k0 := regB_set (regB_set h0 4 q (by decide)) 4 (q + 128) (by decide)
      have k1 := regB_other (regB_other h1 ⟨w.heap.size, 4, none⟩ (.int .i64 q) (by simp)) ⟨w.heap.size, 4, none⟩ (.int .i64 (q + 128)) (by simp)
      go_wp2_with (first | (go_at_call 111; refine (low8_any _ _).mono ?_; rintro e w' ⟨rfl, rfl⟩) | (refine wpList_load9 rfl 27 _ rfl w.heap.size rfl 27 (setR (setR f 4 q) 4 (q + 128)) ?_ is9R ?_; with_reducible exact k0) | (refine wpList_store9 rfl 27 _ _ rfl (w.heap.size + 1) rfl (setR (setR f 4 q) 4 (q + 128)) rfl 27 (fun _ => 0) ?_ is9R ?_; with_reducible exact k1))
      refine bodyPost_ret (results9 rfl is9R (w.heap.size + 1) _ rfl (regB_row k1 _)) rfl ⟨?_, below_rowR ((hbel.setCell (Nat.le_refl _) _).setCell (Nat.le_refl _) _) _ (by omega)⟩
      rw [setR_setR]
    · have k0 := regB_set h0 4 q (by decide)
      have k1 := regB_other h1 ⟨w.heap.size, 4, none⟩ (.int .i64 q) (by simp)
      go_wp2_with (first | (go_at_call 111; refine (low8_any _ _).mono ?_; rintro e w' ⟨rfl, rfl⟩) | (refine wpList_load9 rfl 27 _ rfl w.heap.size rfl 27 (setR f 4 q) ?_ is9R ?_; with_reducible exact k0) | (refine wpList_store9 rfl 27 _ _ rfl (w.heap.size + 1) rfl (setR f 4 q) rfl 27 (fun _ => 0) ?_ is9R ?_; with_reducible exact k1))
      exact bodyPost_ret (results9 rfl is9R (w.heap.size + 1) _ rfl (regB_row k1 _)) rfl ⟨rfl, below_rowR (hbel.setCell (Nat.le_refl _) _) _ (by omega)⟩

theorem carried_any (f : Nat → Int) (c : Int) (h : 0 ≤ f 4 ∧ f 4 < 256) (hc : c = 0 ∨ c = 1) (w : World) :
    Calls Try.prog 118 #[.agg (arr9 f), .int .i64 c] w fun e w' => e = .returned (.agg (arr9 (setR f 4 (car (f 4) c)))) ∧ Below w.heap.size w w' := by
  have hbel : Below w.heap.size w ((w.alloc (.cells (arr9 f) 27)).alloc (.cells (arr9 fun _ => 0) 27)) := ((Below.refl _ _).alloc (Nat.le_refl _) _).alloc (by simp) _
  have h0 := regB_start w 27 f (.cells (arr9 fun _ => 0) 27)
  have h1 := regB_start2 w 27 (fun _ => 0) (.cells (arr9 f) 27)
  have e1 := not1 h
  have e2 := orc h hc
  have e3 : wrap64 c = c := by rcases hc with rfl | rfl <;> simp [wrap64]
  have e4 : f 4 - f 4 % 2 + c = car (f 4) c := rfl
  rw [e4] at e2
  obtain ⟨z, hz⟩ : ∃ z, z = car (f 4) c := ⟨_, rfl⟩
  rw [← hz] at e2
  rw [← hz]
  go_enter Try.func118, Try.ntmps118
  go_upto_region 1 with (fail)
  rw [zero9]
  generalize (w.alloc (.cells (arr9 f) 27)).alloc (.cells (arr9 fun _ => 0) 27) = w0 at *
  have c4 := regB_cell h0 4 (by decide)
  have f4 := regB_free h0 4
  have k0 := regB_set h0 4 z (by decide)
  have k1 := regB_other h1 ⟨w.heap.size, 4, none⟩ (.int .i64 z) (by simp)
  clear e4 hc hz
  go_wp2_with (first | (refine wpList_load9 rfl 27 _ rfl w.heap.size rfl 27 (setR f 4 z) ?_ is9R ?_; with_reducible exact k0) | (refine wpList_store9 rfl 27 _ _ rfl (w.heap.size + 1) rfl (setR f 4 z) rfl 27 (fun _ => 0) ?_ is9R ?_; with_reducible exact k1))
  exact bodyPost_ret (results9 rfl is9R (w.heap.size + 1) _ rfl (regB_row k1 _)) rfl ⟨rfl, below_rowR (hbel.setCell (Nat.le_refl _) _) _ (by omega)⟩

theorem subtract_any (a b c : Int) (w : World) :
    Calls Try.prog 117 #[.int .i64 a, .int .i64 b, .int .i64 c] w fun e w' => e = .returned (.tuple #[.int .i64 (lo (subS a b c 8) 8), .int .i64 (1 - subC a b c 8)]) ∧ w = w' := by
  have h : subC a b c 8 = 0 ∨ subC a b c 8 = 1 := by unfold subC; split <;> simp
  have hw : wd 8 = 8 := rfl
  have hs := sub_any a b c 8
  rw [hw] at hs
  go_enter Try.func117, Try.ntmps117
  go_wp2_with (go_at_call 121; refine (hs _).mono ?_; rintro e w' ⟨rfl, rfl⟩)
  go_ret2
  exact ⟨rfl, rfl⟩

def joinB (d a b : Int) : Int := if d = 7 then bits .and .i64 a b else if d = 8 then bits .or .i64 a b else bits .xor .i64 a b
theorem joined_any (d a b : Int) (w : World) :
    Calls Try.prog 110 #[.int .i64 d, .int .i64 a, .int .i64 b] w fun e w' => e = .returned (.int .i64 (joinB d a b)) ∧ w = w' := by
  go_enter Try.func110, Try.ntmps110
  go_wp2
  all_goals
    go_ret
    refine ⟨ret_int ?_, rfl⟩
    unfold joinB
    simp_all
end Go.Proofs.Ythhihmggaddlmaa
