/- Contracts of package pin's functions on eight lines. -/
import Derived.Test.YtgiociijhpimoaaArr8
import Derived.Test.YtgiociijhpimoaaPinWalks
import Derived.Test.YtgiociijhpimoaaBitWalks
namespace Go.Proofs.Ytgiociijhpimoaa
open Go.RowKit

theorem info8 : (Try.prog.info? 33).map (·.size) = some 8 := by kernel_rfl
theorem get1 (d : Int) (k : Nat) (h : k < 8) : lo (d / 2 ^ wd (k : Int)) (fz (k : Int) 1) = bitOf d k := by
  have e1 : wd (k : Int) = k := wd_of k (by omega)
  have e2 : fz (k : Int) 1 = 1 := by unfold fz; omega
  rw [e1, e2]
  rfl
def upTo (f : Nat → Int) (k : Nat) (j : Nat) : Int := if j < k then f j else 0
theorem upTo_set (f : Nat → Int) (k : Nat) : (fun j => if j = k then f k else upTo f k j) = upTo f (k + 1) := by
  funext j
  unfold upTo
  by_cases h : j = k
  · subst h; rw [if_pos rfl, if_pos (by omega)]
  · rw [if_neg h]
    by_cases h2 : j < k
    · rw [if_pos h2, if_pos (by omega)]
    · rw [if_neg h2, if_neg (by omega)]

theorem drives_any (d : Int) (w : World) :
    Calls Try.prog 17 #[.int .i64 d] w fun e w' => e = .returned (.agg (arr8 (bitOf d))) ∧ Below w.heap.size w w' := by
  go_enter Try.func17, Try.ntmps17
  go_wp2
  go_loopw [5] (fun i wr => ∃ k : Nat, k ≤ 8 ∧ i = .int .i64 k ∧ blk8 wr (w.heap.size + 1) 33 (upTo (bitOf d) k) ∧ blk8 wr w.heap.size 33 (fun _ => 0) ∧ Below w.heap.size w wr) (fun i _ => 8 - (intOf i).toNat)
  case atStart =>
    refine ⟨0, by decide, rfl, ?_, ?_, ((Below.refl _ _).alloc (Nat.le_refl _) _).alloc (by simp) _⟩
    · have := blk8_new (w.alloc (.cells (arr8 fun _ => 0) 33)) 33 (upTo (bitOf d) 0)
      simp only [World.size_alloc] at this
      exact this
    · exact blk8_alloc (blk8_new w 33 fun _ => 0) _
  case round =>
    obtain ⟨k, hk, rfl, hb1, hb0, hbel⟩ := hrel
    by_cases hlt : k < 8
    · have hc := blk8_cell hb1 k hlt
      have hf := blk8_free hb1 k
      have hg := get1 d k hlt
      have hb := bitOf_bit d k
      have hs := Lib.hid (upTo_set (bitOf d) k)
      unfold isBit at hb
      generalize bitOf d k = x at *
      go_wp2_with (go_at_call 33; refine (get_any _ _ _ _).mono ?_; rintro e w' ⟨rfl, rfl⟩)
      · go_roundw
        case measure => simp [intOf]; omega
        case rel =>
          refine ⟨k + 1, by omega, by go_num, ?_, ?_, ?_⟩
          · rw [← hs.out]
            exact blk8_eq (blk8_set (blk8_set hb1 k 0 hlt) k 1 hlt) (fun j _ => by by_cases h : j = k <;> simp_all)
          · exact blk8_other (blk8_other hb0 ⟨w.heap.size + 1, k, none⟩ _ (by simp)) ⟨w.heap.size + 1, k, none⟩ _ (by simp)
          · exact (hbel.setCell (p := ⟨w.heap.size + 1, k, none⟩) (by simp) _).setCell (p := ⟨w.heap.size + 1, k, none⟩) (by simp) _
      · go_roundw
        case measure => simp [intOf]; omega
        case rel =>
          refine ⟨k + 1, by omega, by go_num, ?_, ?_, ?_⟩
          · rw [← hs.out]
            have hx : x = 0 := by simp at *; omega
            exact blk8_eq (blk8_set hb1 k 0 hlt) (fun j _ => by by_cases h : j = k <;> simp_all)
          · exact blk8_other hb0 ⟨w.heap.size + 1, k, none⟩ _ (by simp)
          · exact hbel.setCell (p := ⟨w.heap.size + 1, k, none⟩) (by simp) _
    · obtain rfl : k = 8 := by omega
      have hb1 := blk8_eq hb1 (f' := bitOf d) (fun j hj => by unfold upTo; rw [if_pos hj])
      obtain ⟨c0, c1, c2, c3, c4, c5, c6, c7⟩ := blk8_cells hb1
      obtain ⟨d0, d1, d2, d3, d4, d5, d6, d7⟩ := blk8_cells hb0
      obtain ⟨f0, f1, f2, f3, f4, f5, f6, f7⟩ := blk8_frees hb0
      clear hb1
      go_wp2
      exact bodyPost_ret (results8 rfl Try.underlying33 info8 w.heap.size _ rfl (blk8_put hb0 (bitOf d))) rfl ⟨rfl, below_put hbel (Nat.le_refl _) (bitOf d)⟩

/-- The eight lines behind the first k that drive; then behind the first m lines of one more. -/
def joined (F : Nat → Nat → Int) (k : Nat) (j : Nat) : Int := allL (col F k j)
def half (F : Nat → Nat → Int) (k m : Nat) (j : Nat) : Int := if j < m then joined F (k + 1) j else joined F k j
theorem joined_succ (F : Nat → Nat → Int) (k j : Nat) : joined F (k + 1) j = jn (joined F k j) (F k j) := by unfold joined; rw [col_succ, all_snoc]
theorem half_set (F : Nat → Nat → Int) (k m : Nat) : (fun j => if j = m then jn (joined F k m) (F k m) else half F k m j) = half F k (m + 1) := by
  funext j
  unfold half
  by_cases h : j = m
  · subst h; rw [if_pos rfl, if_pos (by omega), joined_succ]
  · rw [if_neg h]
    by_cases h2 : j < m
    · rw [if_pos h2, if_pos (by omega)]
    · rw [if_neg h2, if_neg (by omega)]
theorem half_at (F : Nat → Nat → Int) (k m : Nat) : half F k m m = joined F k m := by unfold half; rw [if_neg (by omega)]
theorem joined_bd (F : Nat → Nat → Int) (k j : Nat) : 0 ≤ joined F k j ∧ joined F k j ≤ 3 := all_bd _

theorem lines_any (v : Value) (n : Nat) (F : Nat → Nat → Int) (w : World) (h : isGrid w v n F) :
    Calls Try.prog 31 #[v] w fun e w' => e = .returned (.agg (arr8 (joined F n))) ∧ Below w.heap.size w w' := by
  rcases h with ⟨a0, cap0, rfl, rfl⟩ | ⟨b, off, cap, rfl, h1, h2, h3, hc⟩
  · go_enter Try.func31, Try.ntmps31
    go_wp2
    refine wp_loop_rounds 1 ?_
    rw [rounds_succ]
    go_wp2
    have hb0 : blk8 (w.alloc (.cells (arr8 fun _ => 2) 33)) w.heap.size 33 (joined F 0) := blk8_eq (blk8_new w _ _) (fun _ _ => rfl)
    exact bodyPost_ret (results8 rfl Try.underlying33 info8 w.heap.size _ rfl (blk8_alloc hb0 _)) rfl ⟨rfl, ((Below.refl _ _).alloc (Nat.le_refl _) _).alloc (by simp) _⟩
  · go_enter Try.func31, Try.ntmps31
    go_wp2
    go_loopw [11] (fun i wr => ∃ k : Nat, k ≤ n ∧ i = .int .i64 k ∧ blk8 wr (w.heap.size + 1) 33 (joined F k) ∧ blk8 wr w.heap.size 33 (fun _ => 0) ∧ Below w.heap.size w wr) (fun i _ => n - (intOf i).toNat)
    case atStart =>
      refine ⟨0, Nat.zero_le _, rfl, ?_, ?_, ((Below.refl _ _).alloc (Nat.le_refl _) _).alloc (by simp) _⟩
      · have := blk8_eq (f' := joined F 0) (blk8_new (w.alloc (.cells (arr8 fun _ => 0) 33)) 33 fun _ => 2) (fun _ _ => rfl)
        simp only [World.size_alloc] at this
        exact this
      · exact blk8_alloc (blk8_new w 33 fun _ => 0) _
    case round =>
      obtain ⟨k, hk, rfl, hb1, hb0, hbel⟩ := hrel
      by_cases hlt : k < n
      · have hcs : ∀ j, j < 8 → wr.cell? ⟨b, off + k * 8 + j, none⟩ = some (.int .i64 (F k j)) := fun j hj => by
          rw [hbel.cell (p := ⟨b, off + k * 8 + j, none⟩) h1]; exact hc k hlt j hj
        have c0 : wr.cell? ⟨b, off + k * 8, none⟩ = some (.int .i64 (F k 0)) := hcs 0 (by decide)
        have c1 := hcs 1 (by decide)
        have c2 := hcs 2 (by decide)
        have c3 := hcs 3 (by decide)
        have c4 := hcs 4 (by decide)
        have c5 := hcs 5 (by decide)
        have c6 := hcs 6 (by decide)
        have c7 := hcs 7 (by decide)
        have hsz := hbel.size
        clear hc hcs
        go_wp2
        clear c0 c1 c2 c3 c4 c5 c6 c7
        go_loopw [16] (fun i w2 => ∃ m : Nat, m ≤ 8 ∧ i = .int .i64 m ∧ blk8 w2 (w.heap.size + 1) 33 (half F k m) ∧ blk8 w2 w.heap.size 33 (fun _ => 0) ∧ Below w.heap.size w w2) (fun i _ => 8 - (intOf i).toNat)
        case atStart =>
          exact ⟨0, Nat.zero_le _, rfl, blk8_alloc (blk8_eq hb1 (fun j _ => by unfold half; rw [if_neg (by omega)])) _, blk8_alloc hb0 _, hbel.alloc hsz _⟩
        case round =>
          clear hb1 hb0 hbel
          obtain ⟨m, hm, rfl, hb1, hb0, hbel⟩ := hrel
          by_cases hm8 : m < 8
          · have hc1 := blk8_cell hb1 m hm8
            have hf := blk8_free hb1 m
            rw [half_at] at hc1
            have hi := run_index8 (P := Try.prog) 33 3 (F k) m Try.underlying33 Try.sizeOf3 Try.isAgg3 hm8
            unfold arr8 at hi
            have hs := Lib.hid (half_set F k m)
            have hbd := joined_bd F k m
            generalize joined F k m = y at *
            go_wp2_with (go_at_call 12; refine (join_any _ _ _).mono ?_; rintro e w' ⟨rfl, rfl⟩)
            go_roundw
            case measure => simp [intOf]; omega
            case rel =>
              refine ⟨m + 1, by omega, by go_num, ?_, ?_, ?_⟩
              · rw [← hs.out]; exact blk8_set hb1 m _ hm8
              · exact blk8_other hb0 ⟨w.heap.size + 1, m, none⟩ _ (by simp)
              · exact hbel.setCell (p := ⟨w.heap.size + 1, m, none⟩) (by simp) _
          · obtain rfl : m = 8 := by omega
            have hb1 := blk8_eq (f' := joined F (k + 1)) hb1 (fun j hj => by unfold half; rw [if_pos hj])
            go_wp2
            go_roundw
            case measure => simp [intOf]; omega
            case rel => exact ⟨k + 1, by omega, by go_num, hb1, hb0, hbel⟩
      · obtain rfl : k = n := by omega
        obtain ⟨c0, c1, c2, c3, c4, c5, c6, c7⟩ := blk8_cells hb1
        obtain ⟨d0, d1, d2, d3, d4, d5, d6, d7⟩ := blk8_cells hb0
        obtain ⟨f0, f1, f2, f3, f4, f5, f6, f7⟩ := blk8_frees hb0
        clear hb1 hc
        go_wp2
        exact bodyPost_ret (results8 rfl Try.underlying33 info8 w.heap.size _ rfl (blk8_put hb0 (joined F k))) rfl ⟨rfl, below_put hbel (Nat.le_refl _) (joined F k)⟩
end Go.Proofs.Ytgiociijhpimoaa
