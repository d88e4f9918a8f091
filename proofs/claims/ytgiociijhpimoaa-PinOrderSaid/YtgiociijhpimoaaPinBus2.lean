/- The contract of Bus: the byte, the lines that float and those that clash, as the numbers that lists of bits tell. -/
import Derived.Test.YtgiociijhpimoaaPinBus
namespace Go.Proofs.Ytgiociijhpimoaa
open Go.RowKit

def bitsL (g : Nat → Int) (k : Nat) : List Int := (List.range k).map g
theorem bitsL_succ (g : Nat → Int) (k : Nat) : bitsL g (k + 1) = bitsL g k ++ [g k] := by simp [bitsL, List.range_succ]
theorem bitsL_len (g : Nat → Int) (k : Nat) : (bitsL g k).length = k := by simp [bitsL]
theorem bitsL_bits {g : Nat → Int} (h : ∀ j, isBit (g j)) (k : Nat) : areBits (bitsL g k) := by
  intro x hx
  unfold bitsL at hx
  obtain ⟨j, _, rfl⟩ := List.mem_map.1 hx
  exact h j
theorem bitsL_congr {f g : Nat → Int} {k : Nat} (h : ∀ j, j < k → f j = g j) : bitsL f k = bitsL g k := by
  unfold bitsL
  exact List.map_congr_left fun j hj => h j (List.mem_range.1 hj)
/-- The number that the first k bits tell. -/
def tell (g : Nat → Int) (k : Nat) : Int := of2 (bitsL g k)
theorem tell_succ (g : Nat → Int) (k : Nat) : tell g (k + 1) = tell g k + g k * 2 ^ k := by
  unfold tell
  rw [bitsL_succ, of2_snoc, bitsL_len]
theorem tell_bd {g : Nat → Int} (h : ∀ j, isBit (g j)) (k : Nat) : 0 ≤ tell g k ∧ tell g k < 2 ^ k := by
  have := of2_bd (bitsL_bits h k)
  rw [bitsL_len] at this
  exact this

def dOf (J : Nat → Int) (j : Nat) : Int := if J j = 0 then 0 else 1
def fOf (J : Nat → Int) (j : Nat) : Int := if J j = 2 then 1 else 0
def cOf (J : Nat → Int) (j : Nat) : Int := if J j = 3 then 1 else 0
theorem dOf_bit (J : Nat → Int) (j : Nat) : isBit (dOf J j) := by unfold dOf isBit; split <;> decide
theorem fOf_bit (J : Nat → Int) (j : Nat) : isBit (fOf J j) := by unfold fOf isBit; split <;> decide
theorem cOf_bit (J : Nat → Int) (j : Nat) : isBit (cOf J j) := by unfold cOf isBit; split <;> decide

theorem at_place (k : Nat) (h : k < 8) : wd (k : Int) = k ∧ fz (k : Int) 1 = 1 := by
  have e1 : wd (k : Int) = k := wd_of k (by omega)
  exact ⟨e1, by unfold fz; omega⟩
theorem put_set (x : Int) (k : Nat) (h : k < 8) (h0 : 0 ≤ x) (h1 : x < 2 ^ k) : putN x (wd (k : Int)) (fz (k : Int) 1) 1 = x + 2 ^ k := by
  rw [(at_place k h).1, (at_place k h).2]
  unfold putN lo
  rcases (by omega : k = 0 ∨ k = 1 ∨ k = 2 ∨ k = 3 ∨ k = 4 ∨ k = 5 ∨ k = 6 ∨ k = 7) with rfl | rfl | rfl | rfl | rfl | rfl | rfl | rfl <;> simp at h1 ⊢ <;> omega
theorem put_clear (x : Int) (k : Nat) (h : k < 8) (h0 : 0 ≤ x) (h1 : x < 2 ^ k) : putN (x + (256 - 2 ^ k)) (wd (k : Int)) (fz (k : Int) 1) 0 = x + (256 - 2 ^ (k + 1)) := by
  rw [(at_place k h).1, (at_place k h).2]
  unfold putN lo
  rcases (by omega : k = 0 ∨ k = 1 ∨ k = 2 ∨ k = 3 ∨ k = 4 ∨ k = 5 ∨ k = 6 ∨ k = 7) with rfl | rfl | rfl | rfl | rfl | rfl | rfl | rfl <;> simp at h1 ⊢ <;> omega

theorem bus_any (v : Value) (n : Nat) (F : Nat → Nat → Int) (w : World) (h : isGrid w v n F) :
    Calls Try.prog 16 #[v] w fun e w' => e = .returned (.tuple #[.int .i64 (tell (dOf (joined F n)) 8), .int .i64 (tell (fOf (joined F n)) 8), .int .i64 (tell (cOf (joined F n)) 8)]) ∧ Below w.heap.size w w' := by
  go_enter Try.func16, Try.ntmps16
  go_wp2_with (go_at_call 31; refine (lines_any _ n F _ h).mono ?_; rintro e w1 ⟨rfl, hb1⟩)
  have hJ := fun j => joined_bd F n j
  go_loop [5, 6, 7, 12] (fun d f c i => ∃ k : Nat, ∃ D E G : Int, k ≤ 8 ∧ i = .int .i64 k ∧ d = .int .i64 D ∧ f = .int .i64 E ∧ c = .int .i64 G ∧ D = tell (dOf (joined F n)) k + (256 - 2 ^ k) ∧ E = tell (fOf (joined F n)) k ∧ G = tell (cOf (joined F n)) k) (fun _ _ _ i => 8 - (intOf i).toNat)
  case atStart => exact ⟨0, _, _, _, Nat.zero_le _, rfl, rfl, rfl, rfl, rfl, rfl, rfl⟩
  case round =>
    obtain ⟨k, D, E, G, hk, rfl, rfl, rfl, rfl, hD, hE, hG⟩ := hrel
    have HD := Lib.hid hD
    have HE := Lib.hid hE
    have HG := Lib.hid hG
    clear hD hE hG
    by_cases hlt : k < 8
    · have hi := run_index8 (P := Try.prog) 33 3 (joined F n) k Try.underlying33 Try.sizeOf3 Try.isAgg3 hlt
      have hD := HD.out
      have hE := HE.out
      have hG := HG.out
      have bd := tell_bd (dOf_bit (joined F n)) k
      have bf := tell_bd (fOf_bit (joined F n)) k
      have bc := tell_bd (cOf_bit (joined F n)) k
      have p2 := p2_succ k
      have hy := hJ k
      have step : ∀ g : Nat → Int, (g k = 0 → tell g (k + 1) = tell g k) ∧ (g k = 1 → tell g (k + 1) = tell g k + 2 ^ k) := fun g => by
        rw [tell_succ]
        exact ⟨fun h => by rw [h]; omega, fun h => by rw [h]; omega⟩
      rcases (by omega : (joined F n) k = 0 ∨ (joined F n) k = 1 ∨ (joined F n) k = 2 ∨ (joined F n) k = 3) with h | h | h | h
      · have nd := Lib.hid (show putN D (wd (k : Int)) (fz (k : Int) 1) 0 = tell (dOf (joined F n)) (k + 1) + (256 - 2 ^ (k + 1)) by
          rw [hD, (step (dOf (joined F n))).1 (by unfold dOf; rw [h]; rfl)]; exact put_clear _ k hlt bd.1 bd.2)
        have ne := Lib.hid (show E = tell (fOf (joined F n)) (k + 1) by rw [hE, (step (fOf (joined F n))).1 (by unfold fOf; rw [h]; rfl)])
        have nc := Lib.hid (show G = tell (cOf (joined F n)) (k + 1) by rw [hG, (step (cOf (joined F n))).1 (by unfold cOf; rw [h]; rfl)])
        rw [h] at hi
        clear hD hE hG bd bf bc p2 hy step h hJ
        go_wp2_with (go_at_call 32; refine (put_any _ _ _ _ _).mono ?_; rintro e w' ⟨rfl, rfl⟩)
        go_round
        case measure => simp [intOf]; omega
        case rel => exact ⟨k + 1, _, _, _, by omega, by go_num, rfl, rfl, rfl, nd.out, ne.out, nc.out⟩
      · have nd := Lib.hid (show D = tell (dOf (joined F n)) (k + 1) + (256 - 2 ^ (k + 1)) by
          rw [hD, (step (dOf (joined F n))).2 (by unfold dOf; rw [h]; rfl)]; omega)
        have ne := Lib.hid (show E = tell (fOf (joined F n)) (k + 1) by rw [hE, (step (fOf (joined F n))).1 (by unfold fOf; rw [h]; rfl)])
        have nc := Lib.hid (show G = tell (cOf (joined F n)) (k + 1) by rw [hG, (step (cOf (joined F n))).1 (by unfold cOf; rw [h]; rfl)])
        rw [h] at hi
        clear hD hE hG bd bf bc p2 hy step h hJ
        go_wp2
        go_round
        case measure => simp [intOf]; omega
        case rel => exact ⟨k + 1, _, _, _, by omega, by go_num, rfl, rfl, rfl, nd.out, ne.out, nc.out⟩
      · have nd := Lib.hid (show D = tell (dOf (joined F n)) (k + 1) + (256 - 2 ^ (k + 1)) by
          rw [hD, (step (dOf (joined F n))).2 (by unfold dOf; rw [h]; rfl)]; omega)
        have ne := Lib.hid (show putN E (wd (k : Int)) (fz (k : Int) 1) 1 = tell (fOf (joined F n)) (k + 1) by
          rw [hE, (step (fOf (joined F n))).2 (by unfold fOf; rw [h]; rfl)]; exact put_set _ k hlt bf.1 bf.2)
        have nc := Lib.hid (show G = tell (cOf (joined F n)) (k + 1) by rw [hG, (step (cOf (joined F n))).1 (by unfold cOf; rw [h]; rfl)])
        rw [h] at hi
        clear hD hE hG bd bf bc p2 hy step h hJ
        go_wp2_with (go_at_call 32; refine (put_any _ _ _ _ _).mono ?_; rintro e w' ⟨rfl, rfl⟩)
        go_round
        case measure => simp [intOf]; omega
        case rel => exact ⟨k + 1, _, _, _, by omega, by go_num, rfl, rfl, rfl, nd.out, ne.out, nc.out⟩
      · have nd := Lib.hid (show D = tell (dOf (joined F n)) (k + 1) + (256 - 2 ^ (k + 1)) by
          rw [hD, (step (dOf (joined F n))).2 (by unfold dOf; rw [h]; rfl)]; omega)
        have ne := Lib.hid (show E = tell (fOf (joined F n)) (k + 1) by rw [hE, (step (fOf (joined F n))).1 (by unfold fOf; rw [h]; rfl)])
        have nc := Lib.hid (show putN G (wd (k : Int)) (fz (k : Int) 1) 1 = tell (cOf (joined F n)) (k + 1) by
          rw [hG, (step (cOf (joined F n))).2 (by unfold cOf; rw [h]; rfl)]; exact put_set _ k hlt bc.1 bc.2)
        rw [h] at hi
        clear hD hE hG bd bf bc p2 hy step h hJ
        go_wp2_with (go_at_call 32; refine (put_any _ _ _ _ _).mono ?_; rintro e w' ⟨rfl, rfl⟩)
        go_round
        case measure => simp [intOf]; omega
        case rel => exact ⟨k + 1, _, _, _, by omega, by go_num, rfl, rfl, rfl, nd.out, ne.out, nc.out⟩
    · obtain rfl : k = 8 := by omega
      go_wp2
      go_ret3
      have e : D = tell (dOf (joined F n)) 8 := by have := HD.out; omega
      exact ⟨by rw [← e, ← HE.out, ← HG.out]; rfl, hb1⟩
end Go.Proofs.Ytgiociijhpimoaa
