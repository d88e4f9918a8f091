/- The fact that a step adds, and the registers that the laws draw. -/
import Derived.Test.YtdiajkgebicnnaaAluDo
import Derived.Test.YtdiajkgebicnnaaChecked
import Derived.Test.YtdiajkgebicnnaaMakeNext
import Derived.Below
import Derived.BigQuiet
import Derived.Deep.CutBlock
import Derived.Deep.DeepCutAuto
import Derived.Deep.Draws
import Derived.Deep.MidRow
import Derived.Deep.OwnRows
import Derived.Deep.QuietTactic
import Derived.Deep.RegionHeld3
import Derived.Deep.RegionLaw
import Derived.Deep.RegionWith
import Derived.Deep.WholeRow
import Derived.Lib.Hide
import Derived.OpenShut
import Derived.OrdersHeld
import Derived.OwnWalk
import Derived.RangeFuncBox
import Derived.RowKit3
import Derived.StillTactics
import Derived.StillTail
import Derived.StillTailTactics
import Derived.WalkKit
namespace Go.Proofs.Ytdiajkgebicnnaa
set_option maxRecDepth 100000
open Go.RowKit

def from200 (k : Nat) : Int := if k = 0 then 200 else if k = 1 then 100 else 0
def into44 (k : Nat) : Int := if k = 0 then 44 else if k = 1 then 100 else if k = 4 then 1 else 0
theorem does_val : arr9 (doF 4 (reg 0) (reg 1) 0 (fitR from200)) = arr9 into44 := by kernel_rfl
theorem does_any (w : World) : Calls Try.prog 154 #[.agg #[.int .i64 4, .int .i64 0, .int .i64 1, .int .i64 0], .agg #[.int .i64 200, .int .i64 100, .int .i64 0, .int .i64 0, .int .i64 0, .int .i64 0, .int .i64 0, .int .i64 0, .int .i64 0]] w fun e w' =>
    e = .returned (.tuple #[.agg (arr9 into44), .bool false]) ∧ Below w.heap.size w w' := by
  have h := do_any 4 0 1 0 from200 w
  have he : endB 4 (reg 1) 0 (fitR from200) = false := rfl
  rw [does_val, he] at h
  exact h

theorem regB_grown {w w' : World} {g : Nat} {r : Option Nat} {t : TypeId} {f : Nat → Int} (h : regB w g t f) (hg : w.grownBy w' r) (hr : some g ≠ r) : regB w' g t f := by
  unfold regB at *; rw [hg.block g (regB_lt h) hr]; exact h
theorem fits_setW {f : Nat → Int} (h : fits f) (k : Nat) (x : Int) (hk : k = 7 ∨ k = 8) (h0 : 0 ≤ x) (h1 : x < 65536) : fits (setR f k x) := fun j => by
  have := h j
  unfold setR
  by_cases e : j = k
  · rw [if_pos e]; omega
  · rw [if_neg e]; exact this
theorem fits_zero : fits (fun _ => 0) := fun k => by simp
theorem streamR_alloc {w0 w : World} {g : Nat} {l : List Int} (h : stream w0 w g l) (o : Obj) : stream w0 (w.alloc o) g l := by
  obtain ⟨h1, h2, h3, v, h4, h5⟩ := h
  exact ⟨h1, h2.alloc h2.size o, h3, v, h4.alloc o, h5⟩
theorem streamR_set {w0 w : World} {g : Nat} {l : List Int} (h : stream w0 w g l) {k i : Nat} (hk : g < k) (u : Value) : stream w0 (w.setCell ⟨k, i, none⟩ u) g l := by
  obtain ⟨h1, h2, h3, v, h4, h5⟩ := h
  refine ⟨h1, h2.setCell (by show w0.heap.size ≤ k; omega) u, h3, v, ?_, h5⟩
  show (w.setCell ⟨k, i, none⟩ u).heap[g]? = _
  rw [Below.heap_setCell w ⟨k, i, none⟩ u g (by show g ≠ k; omega)]
  exact h4

theorem ne_two (n : Nat) : (some (n + 1 + 1) : Option Nat) ≠ some (n + 1) := fun h => by injection h; omega
theorem ne_one (n : Nat) : (some n : Option Nat) ≠ some (n + 1) := fun h => by injection h; omega
theorem ne_far (n : Nat) : n + 1 + 1 ≠ n := by omega
set_option maxHeartbeats 1000000 in
theorem registers_any (v : Value) (l : List Int) (w : World) (h : isArg w v l) (hwf : ∀ x ∈ l, (Lit.int .i64 x).wf = true) :
    Calls Try.prog 68 #[v] w fun e w' => ∃ f, e = .returned (.agg (arr9 f)) ∧ fits f ∧ Below w.heap.size w w' := by
  have b0 := below_one w (.cells (arr9 fun _ => 0) 55)
  have S0 : stream w ((w.alloc (.cells (arr9 fun _ => 0) 55)).alloc (.cells #[v] 51)) (w.heap.size + 1) l := by
    refine ⟨by omega, b0.alloc b0.size _, hwf, v, ?_, h⟩
    have := Boxed.new (w.alloc (.cells (arr9 fun _ => 0) 55)) 51 v
    rw [World.size_alloc] at this
    exact this
  have hz0 : regB ((w.alloc (.cells (arr9 fun _ => 0) 55)).alloc (.cells #[v] 51)) w.heap.size 55 (fun _ => 0) := regB_start w _ _ _
  have hz1 : ((w.alloc (.cells (arr9 fun _ => 0) 55)).alloc (.cells #[v] 51)).heap.size = w.heap.size + 1 + 1 := by simp
  have S1 := streamR_alloc S0 (.cells (arr9 fun _ => 0) 55)
  have hz := regB_alloc hz0 (.cells (arr9 fun _ => 0) 55)
  have hr := regB_new ((w.alloc (.cells (arr9 fun _ => 0) 55)).alloc (.cells #[v] 51)) 55 (fun _ => 0)
  rw [hz1] at hr
  clear hz0 S0 b0 hz1
  obtain ⟨sa, sl, scap, rfl⟩ : ∃ a n c, v = .slice a n c := by
    rcases h with ⟨a, cap, rfl, _⟩ | ⟨b, off, cap, rfl, _⟩ <;> exact ⟨_, _, _, rfl⟩
  clear h
  go_enter Try.func68, Try.ntmps68
  go_wp2_with fail
  rw [zero9]
  generalize ((w.alloc (.cells (arr9 fun _ => 0) 55)).alloc (.cells #[.slice sa sl scap] 51)).alloc (.cells (arr9 fun _ => 0) 55) = w1 at *
  go_loopw [9] (fun i wr => ∃ (k : Nat) (f : Nat → Int) (ls : List Int), k ≤ 9 ∧ i = .int .i64 k ∧ fits f ∧ regB wr (w.heap.size + 1 + 1) 55 f ∧ regB wr w.heap.size 55 (fun _ => 0) ∧ stream w wr (w.heap.size + 1) ls) (fun i _ => 9 - (intOf i).toNat)
  case atStart => exact ⟨0, _, l, by decide, rfl, fits_zero, hr, hz, S1⟩
  case round =>
    obtain ⟨k, f, ls, hk, rfl, hf, hb2, hb0, hS⟩ := hrel
    by_cases hlt : k < 9
    · have fr := regB_free hb2 k
      have ct := regB_cell hb2 k hlt
      by_cases h7 : k = 7 ∨ k = 8
      · have hW : wideB (k : Int) = true := by unfold wideB; rcases h7 with rfl | rfl <;> rfl
        go_wp2_with (first
          | (go_at_call_of 29 (Value.int .i64 256); refine (next_any w (w.heap.size + 1) ls 256 (by decide) _ hS).mono ?_; rintro e w2 ⟨r, rfl, r0, r1, G1, hz1, l1, S1⟩; have hb2' := regB_grown hb2 G1 (ne_two _); have hb0' := regB_grown hb0 G1 (ne_one _); have fr' := regB_free hb2' k; have ct' := regB_cell hb2' k hlt)
          | (go_at_call 104; refine (wideTab_any _ _).mono ?_; rintro e w' ⟨rfl, rfl⟩)
          | (go_at_call_of 29 (Value.int .i64 65536); refine (next_any w (w.heap.size + 1) l1 65536 (by decide) _ (streamR_set S1 (by omega) _)).mono ?_; rintro e w3 ⟨q, rfl, q0, q1, G3, hz3, l3, S3⟩; have hb3 := regB_grown (regB_set hb2' k r hlt) G3 (ne_two _); have hb03 := regB_grown (regB_other hb0' ⟨w.heap.size + 1 + 1, k, none⟩ (.int .i64 r) (ne_far _)) G3 (ne_one _); have fr3 := regB_free hb3 k; have ct3 := regB_cell hb3 k hlt))
        go_roundw
        case measure => simp [intOf]; omega
        case rel => exact ⟨k + 1, _, l3, by omega, by go_num, fits_setW (fits_setW hf k r h7 r0 (by omega)) k q h7 q0 (by omega), regB_set hb3 k q hlt, regB_other hb03 _ _ (ne_far _), streamR_set S3 (by omega) _⟩
      · have hW : wideB (k : Int) = false := by unfold wideB; simp; omega
        go_wp2_with (first
          | (go_at_call_of 29 (Value.int .i64 256); refine (next_any w (w.heap.size + 1) ls 256 (by decide) _ hS).mono ?_; rintro e w2 ⟨r, rfl, r0, r1, G1, hz1, l1, S1⟩; have hb2' := regB_grown hb2 G1 (ne_two _); have hb0' := regB_grown hb0 G1 (ne_one _); have fr' := regB_free hb2' k; have ct' := regB_cell hb2' k hlt)
          | (go_at_call 104; refine (wideTab_any _ _).mono ?_; rintro e w' ⟨rfl, rfl⟩))
        go_roundw
        case measure => simp [intOf]; omega
        case rel => exact ⟨k + 1, _, l1, by omega, by go_num, fits_set hf k r r0 (by omega), regB_set hb2' k r hlt, regB_other hb0' _ _ (ne_far _), streamR_set S1 (by omega) _⟩
    · obtain rfl : k = 9 := by omega
      have hbel := hS.2.1
      go_wp2_with (first
        | (refine wpList_load9 rfl 55 _ rfl (w.heap.size + 1 + 1) rfl 55 f ?_ is9R ?_; with_reducible exact hb2)
        | (refine wpList_store9 rfl 55 _ _ rfl w.heap.size rfl f rfl 55 (fun _ => 0) ?_ is9R ?_; with_reducible exact hb0))
      exact bodyPost_ret (results9 rfl is9R w.heap.size _ rfl (regB_row hb0 f)) rfl ⟨f, rfl, hf, below_rowR hbel _ (by omega)⟩
end Go.Proofs.Ytdiajkgebicnnaa
