/- The walk of the statement PinJoins, and the library's search by a function that it hands over. -/
import Derived.Test.YtgiociijhpimoaaPinWalks
import Derived.Test.YtgiociijhpimoaaRefAppend
import Derived.Test.YtgiociijhpimoaaShelf
namespace Go.Proofs.Ytgiociijhpimoaa
open Go.RowKit

theorem clash_any (x : Int) (w : World) :
    Calls Try.prog 10 #[.int .i64 x] w fun e w' => e = .returned (.bool (decide (ln x = 3))) ∧ Below w.heap.size w w' := by
  have e1 := one_ref x
  go_enter Try.func10, Try.ntmps10
  go_wp2_with (go_at_call 8; refine (lineOf_any _ [x] _ (isArg_row (row_one w x))).mono ?_; rintro e w' ⟨rfl, rfl⟩)
  go_ret
  exact ⟨rfl, (Below.refl _ _).alloc (Nat.le_refl _) _⟩

theorem indexFunc_any (v : Value) (l : List Int) (w : World) (h : isArg w v l) :
    Calls Try.prog 28 #[v, .func (.func 10) #[] #[]] w fun e w' => (∃ r : Int, e = .returned (.int .i64 r) ∧ decide (0 ≤ r) = clashes l) ∧ Below w.heap.size w w' := by
  rcases h with ⟨a0, cap0, rfl, rfl⟩ | ⟨b, off, cap, rfl, h1, h2, h3, hc⟩
  · go_enter Try.func28, Try.ntmps28
    go_wp2
    refine wp_loop_rounds 1 ?_
    rw [rounds_succ]
    go_wp2
    go_ret
    exact ⟨⟨_, rfl, rfl⟩, Below.refl _ _⟩
  · go_enter Try.func28, Try.ntmps28
    go_wp2
    go_loopw [8] (fun i wr => ∃ k : Nat, k ≤ l.length ∧ i = .int .i64 k ∧ clashes (l.take k) = false ∧ Below w.heap.size w wr) (fun i _ => l.length - (intOf i).toNat)
    case atStart => exact ⟨0, Nat.zero_le _, rfl, rfl, Below.refl _ _⟩
    case round =>
      obtain ⟨k, hk, rfl, hz, hbel⟩ := hrel
      have Hz := Lib.hid hz
      clear hz
      by_cases hlt : k < l.length
      · have hcell : wr.cell? ⟨b, off + k, none⟩ = some (.int .i64 (l.getD k 0)) := by
          rw [hbel.cell (p := ⟨b, off + k, none⟩) h1]; exact hc k hlt
        have Hs := Lib.hid (take_snoc l k hlt)
        have Hc := Lib.hid (clashes_snoc (l.take k) (l.getD k 0))
        have Hm : ln (l.getD k 0) = 3 → clashes l = true := fun h => by
          unfold clashes
          rw [List.any_eq_true]
          exact ⟨l.getD k 0, by rw [List.getD_eq_getElem?_getD, List.getElem?_eq_getElem hlt]; exact List.getElem_mem hlt, by rw [h]; rfl⟩
        have Hm := Lib.hid Hm
        generalize l.getD k 0 = x at *
        have hsz := hbel.size
        clear hc
        by_cases h3x : ln x = 3
        · have Hres := Lib.hid (Hm.out h3x)
          go_wp2_with (go_at_call 10; refine (clash_any _ _).mono ?_; rintro e w1 ⟨rfl, hb1⟩)
          go_ret
          exact ⟨⟨_, rfl, by rw [Hres.out]; simp⟩, hbel.trans (hb1.mono hsz)⟩
        · have H3 := Lib.hid h3x
          go_wp2_with (go_at_call 10; refine (clash_any _ _).mono ?_; rintro e w1 ⟨rfl, hb1⟩)
          go_roundw
          case rel => exact ⟨k + 1, by omega, by go_num, by rw [Hs.out, Hc.out, Hz.out]; simpa using H3.out, hbel.trans (hb1.mono hsz)⟩
          case measure => simp [intOf]; omega
      · have e : k = l.length := by omega
        subst e
        have Hr := Lib.hid (show clashes l = false by have := Hz.out; rw [List.take_length] at this; exact this)
        clear hc Hz
        go_wp2
        go_ret
        exact ⟨⟨_, rfl, by rw [Hr.out]; rfl⟩, hbel⟩

theorem containsFunc_any (v : Value) (l : List Int) (w : World) (h : isArg w v l) :
    Calls Try.prog 9 #[v, .func (.func 10) #[] #[]] w fun e w' => e = .returned (.bool (clashes l)) ∧ Below w.heap.size w w' := by
  go_enter Try.func9, Try.ntmps9
  go_wp2_with (go_at_call 28; refine (indexFunc_any _ l _ h).mono ?_; rintro e w' ⟨⟨r, rfl, hr⟩, hb⟩)
  go_ret
  exact ⟨rfl, hb⟩

theorem contains_any (v : Value) (l : List Int) (x : Int) (w : World) (h : isArg w v l) (r : Bool) (hr : l.contains x = r) :
    Calls Try.prog 11 #[v, .int .i64 x] w fun e w' => e = .returned (.bool r) ∧ w = w' := by
  subst hr
  rcases h with ⟨a0, cap0, rfl, rfl⟩ | ⟨b, off, cap, rfl, h1, h2, h3, hc⟩
  · exact (Try.slices_Contains_int_empty a0 cap0 x w).mono fun e w' ⟨he, hw⟩ => ⟨he, hw.symm⟩
  · refine (Try.slices_Contains_int b off l.length cap l x w (Nat.le_refl _) (by omega) hc).mono fun e w' ⟨he, hw⟩ => ⟨?_, hw.symm⟩
    rw [he, List.take_length]

theorem lines_law (w : World) :
    Calls Try.prog 7 #[] w fun e w' => e = .returned (.bool true) ∧ w = w' := by
  have e1 : jn 0 1 = 3 := by decide
  have e2 : jn 2 1 = 1 := by decide
  go_enter Try.func7, Try.ntmps7
  go_wp2_with (go_at_call 12; refine (join_any _ _ _).mono ?_; rintro e w' ⟨rfl, rfl⟩)
  go_ret
  exact ⟨rfl, rfl⟩

theorem row_two (w : World) (x y : Int) : isRow (w.alloc (.cells #[.int .i64 x, .int .i64 y] 3)) (.slice (some ⟨w.heap.size, 0, none⟩) 2 2) [x, y] := by
  refine .inr ⟨w.heap.size, 0, 2, rfl, by simp, Nat.le_refl _, by decide, fun j hj => ?_⟩
  match j, hj with
  | 0, _ => rw [World.cell?_alloc_at _ _ _ _ rfl]; rfl
  | 1, _ => rw [World.cell?_alloc_at _ _ _ _ rfl]; rfl

theorem lineOf_one (x : Int) (w : World) (g : Nat) (hg : w.heap.size = g) :
    Calls Try.prog 8 #[.slice (some ⟨g, 0, none⟩) 1 1] (w.alloc (.cells #[.int .i64 x] 3)) fun e w' => e = .returned (.int .i64 (refL [x])) ∧ w.alloc (.cells #[.int .i64 x] 3) = w' := by
  subst hg; exact lineOf_any _ [x] _ (isArg_row (row_one w x))
theorem lineOf_two (x y : Int) (w : World) (g : Nat) (hg : w.heap.size = g) :
    Calls Try.prog 8 #[.slice (some ⟨g, 0, none⟩) 2 2] (w.alloc (.cells #[.int .i64 x, .int .i64 y] 3)) fun e w' => e = .returned (.int .i64 (refL [x, y])) ∧ w.alloc (.cells #[.int .i64 x, .int .i64 y] 3) = w' := by
  subst hg; exact lineOf_any _ [x, y] _ (isArg_row (row_two w x y))

set_option maxHeartbeats 1000000 in
theorem pinJoins_walk (v : Value) (l : List Int) (a b : Int) (w : World) (h : isArg w v l) :
    Calls Try.prog 3 #[v, .int .i64 a, .int .i64 b] w fun e w' => e = .returned (.bool true) ∧ Below w.heap.size w w' := by
  have e1 := (join_ref a b).symm
  have e2 := (all_ref l).symm
  have e3 := one_ref a
  have e4 := one_ref b
  have e5 : pl a b = if a = 2 then ln b else ln a := rfl
  have e6 : wir l b = if l.contains 0 then 0 else if clashes l then 3 else ln b := rfl
  by_cases ha : a = 2
  · subst ha
    rw [if_pos rfl] at e5
    cases hc : clashes l <;> cases hz : l.contains 0 <;> rw [hz, hc] at e6 <;> simp only [Bool.false_eq_true, if_false, if_true] at e6
    all_goals
      go_enter Try.func3, Try.ntmps3
      go_wp2_with (first
        | (go_at_call 7; refine (lines_law _).mono ?_; rintro e w' ⟨rfl, rfl⟩)
        | (go_at_call 9; refine (containsFunc_any _ l _ (isArg_alloc h _)).mono ?_; rintro e w1 ⟨rfl, hb1⟩; have h1 := isArg_below (isArg_alloc h _) hb1 (Nat.le_refl _))
        | (go_at_call 11; refine (contains_any _ l _ _ h1 _ hz).mono ?_; rintro e w' ⟨rfl, rfl⟩)
        | (go_at_call 12; refine (join_any _ _ _).mono ?_; rintro e w' ⟨rfl, rfl⟩)
        | (go_at_call 14; refine (pull_any _ _ _).mono ?_; rintro e w' ⟨rfl, rfl⟩)
        | (go_at_call_of 13 v; refine (all_any _ l _ (by repeat (first | exact h1 | apply isArg_alloc))).mono ?_; rintro e w' ⟨rfl, rfl⟩)
        | (go_at_call_of 15 v; refine (wired_any _ l _ _ (by repeat (first | exact h1 | apply isArg_alloc))).mono ?_; rintro e w' ⟨rfl, rfl⟩)
        | (go_at_call_of 8 v; refine (lineOf_any _ l _ (by repeat (first | exact h1 | apply isArg_alloc))).mono ?_; rintro e w' ⟨rfl, rfl⟩)
        | (go_at_call 8; with_reducible refine (lineOf_one _ _ _ (by simp)).mono ?_; rintro e w' ⟨rfl, rfl⟩)
        | (go_at_call 8; with_reducible refine (lineOf_two _ _ _ _ (by simp)).mono ?_; rintro e w' ⟨rfl, rfl⟩))
      go_ret
      refine ⟨rfl, ?_⟩
      exact ((Below.refl _ _).alloc (Nat.le_refl _) _ |>.trans (hb1.mono (by simp))) |> fun hB => by repeat (first | exact hB | refine Below.alloc ?_ (by first | exact hB.size | (simp; have := hB.size; omega)) _)
  · rw [if_neg ha] at e5
    cases hc : clashes l <;> cases hz : l.contains 0 <;> rw [hz, hc] at e6 <;> simp only [Bool.false_eq_true, if_false, if_true] at e6
    all_goals
      go_enter Try.func3, Try.ntmps3
      go_wp2_with (first
        | (go_at_call 7; refine (lines_law _).mono ?_; rintro e w' ⟨rfl, rfl⟩)
        | (go_at_call 9; refine (containsFunc_any _ l _ (isArg_alloc h _)).mono ?_; rintro e w1 ⟨rfl, hb1⟩; have h1 := isArg_below (isArg_alloc h _) hb1 (Nat.le_refl _))
        | (go_at_call 11; refine (contains_any _ l _ _ h1 _ hz).mono ?_; rintro e w' ⟨rfl, rfl⟩)
        | (go_at_call 12; refine (join_any _ _ _).mono ?_; rintro e w' ⟨rfl, rfl⟩)
        | (go_at_call 14; refine (pull_any _ _ _).mono ?_; rintro e w' ⟨rfl, rfl⟩)
        | (go_at_call_of 13 v; refine (all_any _ l _ (by repeat (first | exact h1 | apply isArg_alloc))).mono ?_; rintro e w' ⟨rfl, rfl⟩)
        | (go_at_call_of 15 v; refine (wired_any _ l _ _ (by repeat (first | exact h1 | apply isArg_alloc))).mono ?_; rintro e w' ⟨rfl, rfl⟩)
        | (go_at_call_of 8 v; refine (lineOf_any _ l _ (by repeat (first | exact h1 | apply isArg_alloc))).mono ?_; rintro e w' ⟨rfl, rfl⟩)
        | (go_at_call 8; with_reducible refine (lineOf_one _ _ _ (by simp)).mono ?_; rintro e w' ⟨rfl, rfl⟩)
        | (go_at_call 8; with_reducible refine (lineOf_two _ _ _ _ (by simp)).mono ?_; rintro e w' ⟨rfl, rfl⟩))
      go_ret
      refine ⟨rfl, ?_⟩
      exact ((Below.refl _ _).alloc (Nat.le_refl _) _ |>.trans (hb1.mono (by simp))) |> fun hB => by repeat (first | exact hB | refine Below.alloc ?_ (by first | exact hB.size | (simp; have := hB.size; omega)) _)
end Go.Proofs.Ytgiociijhpimoaa
