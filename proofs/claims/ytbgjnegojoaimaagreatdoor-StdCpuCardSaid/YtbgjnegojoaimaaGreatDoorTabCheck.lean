/- Contracts of package table's checks of cycles. -/
import Derived.Test.YtbgjnegojoaimaaGreatDoorTabFirst
namespace Go.Proofs.YtbgjnegojoaimaaGreatDoor
open Go.RowKit

def atE {α : Type} (f : α → Int) (l : List α) (i : Nat) : Int := match l[i]? with | some x => f x | none => 0
theorem atE_some {α : Type} {f : α → Int} {l : List α} {i : Nat} {x : α} (h : l[i]? = some x) : atE f l i = f x := by unfold atE; rw [h]
theorem firstE_from {α : Type} (f : α → Int) (F : List α → Int) (h0 : F [] = 0) (h1 : ∀ x l, F (x :: l) = if f x = 0 then F l else f x) (l : List α) :
    ∀ m k, k + m = l.length → firstE (atE f l) k m = F (l.drop k)
  | 0, k, h => by
    have : l.drop k = [] := List.drop_eq_nil_of_le (by omega)
    rw [this, h0]; rfl
  | m + 1, k, h => by
    obtain ⟨x, hx, hd⟩ := drop_at (l := l) (k := k) (by omega)
    show (if atE f l k = 0 then firstE (atE f l) (k + 1) m else atE f l k) = _
    rw [atE_some hx, hd, h1, firstE_from f F h0 h1 l m (k + 1) (by omega)]
theorem firstE_list {α : Type} (f : α → Int) (F : List α → Int) (h0 : F [] = 0) (h1 : ∀ x l, F (x :: l) = if f x = 0 then F l else f x) (l : List α) : firstE (atE f l) 0 l.length = F l :=
  firstE_from f F h0 h1 l l.length 0 (by omega)
theorem firstE_steps (l : List St) : firstE (atE stepE l) 0 l.length = stepsE l := firstE_list _ _ rfl (fun _ _ => rfl) l
theorem firstE_cycles (l : List Cy) : firstE (atE cycleE l) 0 l.length = cyclesF l := firstE_list _ _ rfl (fun _ _ => rfl) l

theorem mkFunc (fn : Fn) (first cap : Array Value) (w : World) : (Instr.makeFunc fn first cap).run Tryz.prog w = .ok (.func fn first cap) w := rfl

/-- The check of a cycle's step, called by its place. -/
theorem stepAt_any (g : Nat) (bus place reg : Int) (v : Value) (l : List St) (i : Nat) (w : World) (hi : i < l.length) (hb : w.heap[g]? = some (.cells #[.int .i64 bus, .int .i64 place, .int .i64 reg, v] 56 (0, 0))) (h : isArr 4 stepR w v l) :
    Calls Tryz.prog 89 #[.int .i64 i, .pointer (some ⟨g, 0, none⟩)] w fun e w' => e = .returned (.int .i64 (atE stepE l i)) ∧ Below w.heap.size w w' := by
  obtain ⟨d0, d1, d2, d3⟩ := cells4 hb
  obtain ⟨a, cap, rfl, _, hform⟩ := isArr_form h
  obtain ⟨x, hx, _⟩ := drop_at hi
  rw [atE_some hx]
  obtain ⟨b, off, rfl, _, hcap, hcap2, cs, _, hcs, rfl⟩ := hform i x hx
  obtain ⟨c0, c1, c2, c3⟩ := four_cells hcs
  clear hcs hform hx hb h
  go_enter Tryz.func89, Tryz.ntmps89
  go_wp2_with (go_at_call 90; refine (checkStep_any x _).mono ?_; rintro e w1 ⟨rfl, hb1⟩)
  go_ret
  exact ⟨rfl, hb1⟩

set_option maxHeartbeats 2000000 in
theorem checkCycle_any (c : Cy) (v : Value) (w : World) (h : isArr 4 stepR w v c.steps) :
    Calls Tryz.prog 70 #[.agg #[.int .i64 c.bus, .int .i64 c.place, .int .i64 c.reg, v]] w fun e w' => e = .returned (.int .i64 (cycleE c)) ∧ Below w.heap.size w w' := by
  obtain ⟨bus, place, reg, l⟩ := c
  dsimp only at h ⊢
  obtain ⟨a, cap, rfl, hlen, _⟩ := isArr_form h
  have hbA : Below w.heap.size w (w.alloc (.cells #[.int .i64 bus, .int .i64 place, .int .i64 reg, .slice a l.length cap] 56)) := (Below.refl _ w).alloc (Nat.le_refl _) _
  have hk := heap_alloc_new w (.cells #[.int .i64 bus, .int .i64 place, .int .i64 reg, .slice a l.length cap] 56)
  have HC := Lib.hid (fun (i : Nat) (hi : i < l.length) (w' : World) (hb : Below (w.alloc (.cells #[.int .i64 bus, .int .i64 place, .int .i64 reg, .slice a l.length cap] 56)).heap.size (w.alloc (.cells #[.int .i64 bus, .int .i64 place, .int .i64 reg, .slice a l.length cap] 56)) w') =>
    stepAt_any w.heap.size bus place reg (.slice a l.length cap) l i w' hi (keep_below hk hb (Nat.le_refl _)) (isArr_below step_keeps (isArr_below step_keeps h hbA (Nat.le_refl _)) hb (Nat.le_refl _)))
  have hE := enters_of Tryz.func89 (by kernel_rfl) rfl
  have hmf := mkFunc
  clear h hk
  cases e1 : (decide (0 ≤ bus) && decide (bus ≤ 2))
  · have e : cycleE ⟨bus, place, reg, l⟩ = 8 := by
      unfold cycleE; rw [if_pos (by rw [Bool.eq_false_iff] at e1; simp at e1 ⊢; omega)]
    rw [e]
    go_enter Tryz.func70, Tryz.ntmps70
    go_wp2_with (go_at_call 65; refine (within_any _ _ _ _).mono ?_; rintro e w' ⟨rfl, rfl⟩; rw [e1])
    go_ret
    exact ⟨rfl, hbA⟩
  have t1 : ¬ (bus ≠ 0 ∧ bus ≠ 1 ∧ bus ≠ 2) := by simp at e1; omega
  by_cases g2 : bus = 0 ∧ (place ≠ 0 ∨ reg ≠ 0)
  · have e : cycleE ⟨bus, place, reg, l⟩ = 3 := by unfold cycleE; rw [if_neg t1, if_pos g2]
    rw [e]
    obtain ⟨rfl, g3⟩ := g2
    cases t3 : (place != 0)
    · have t4 : (reg != 0) = true := by simp at t3 ⊢; omega
      go_enter Tryz.func70, Tryz.ntmps70
      go_wp2_with (go_at_call 65; refine (within_any _ _ _ _).mono ?_; rintro e w' ⟨rfl, rfl⟩; rw [e1])
      go_ret
      exact ⟨rfl, hbA⟩
    · go_enter Tryz.func70, Tryz.ntmps70
      go_wp2_with (go_at_call 65; refine (within_any _ _ _ _).mono ?_; rintro e w' ⟨rfl, rfl⟩; rw [e1])
      go_ret
      exact ⟨rfl, hbA⟩
  have hbus : (bus = 0 ∧ place = 0 ∧ reg = 0) ∨ bus = 1 ∨ bus = 2 := by omega
  cases e2 : (decide (0 ≤ place) && decide (place ≤ 11))
  · have e : cycleE ⟨bus, place, reg, l⟩ = 1 := by
      unfold cycleE; rw [if_neg t1, if_neg g2, if_pos (show place < 0 ∨ 11 < place ∨ nar reg = false by rw [Bool.eq_false_iff] at e2; simp at e2; omega)]
    rw [e]
    clear g2 t1 HC
    rcases hbus with ⟨rfl, rfl, rfl⟩ | rfl | rfl
    · cases e2
    all_goals
      go_enter Tryz.func70, Tryz.ntmps70
      go_wp2_with (first
        | (go_at_call_of 65 (Value.int .i64 2); refine (within_any _ _ _ _).mono ?_; rintro e w' ⟨rfl, rfl⟩; rw [e1])
        | (go_at_call 65; refine (within_any _ _ _ _).mono ?_; rintro e w' ⟨rfl, rfl⟩; rw [e2]))
      go_ret
      exact ⟨rfl, hbA⟩
  cases e3 : nar reg
  · have e : cycleE ⟨bus, place, reg, l⟩ = 1 := by
      unfold cycleE; rw [if_neg t1, if_neg g2, if_pos (.inr (.inr e3))]
    rw [e]
    clear g2 t1 HC
    rcases hbus with ⟨rfl, rfl, rfl⟩ | rfl | rfl
    · cases e3
    all_goals
      go_enter Tryz.func70, Tryz.ntmps70
      go_wp2_with (first
        | (go_at_call_of 65 (Value.int .i64 2); refine (within_any _ _ _ _).mono ?_; rintro e w' ⟨rfl, rfl⟩; rw [e1])
        | (go_at_call 65; refine (within_any _ _ _ _).mono ?_; rintro e w' ⟨rfl, rfl⟩; rw [e2])
        | (go_at_call 88; refine (narrowT_any _ _).mono ?_; rintro e w' ⟨rfl, rfl⟩; rw [e3]))
      go_ret
      exact ⟨rfl, hbA⟩
  have hcE : cycleE ⟨bus, place, reg, l⟩ = if 6 < l.length then 2 else stepsE l := by
    unfold cycleE; rw [if_neg t1, if_neg g2, if_neg (show ¬ (place < 0 ∨ 11 < place ∨ nar reg = false) by rw [e3]; simp at e2 ⊢; omega)]
  rw [hcE]
  clear hcE g2 t1
  by_cases h6 : 6 < l.length
  · rw [if_pos h6]
    clear HC
    rcases hbus with ⟨rfl, rfl, rfl⟩ | rfl | rfl
    all_goals
      go_enter Tryz.func70, Tryz.ntmps70
      go_wp2_with (first
        | (go_at_call_of 65 (Value.int .i64 2); refine (within_any _ _ _ _).mono ?_; rintro e w' ⟨rfl, rfl⟩; rw [e1])
        | (go_at_call 65; refine (within_any _ _ _ _).mono ?_; rintro e w' ⟨rfl, rfl⟩; rw [e2])
        | (go_at_call 88; refine (narrowT_any _ _).mono ?_; rintro e w' ⟨rfl, rfl⟩; rw [e3]))
      go_ret
      exact ⟨rfl, hbA⟩
  · rw [if_neg h6, ← firstE_steps]
    obtain ⟨R, hR⟩ : ∃ R, firstE (atE stepE l) 0 l.length = R := ⟨_, rfl⟩
    rw [hR]
    have HR := Lib.hid hR
    clear hR
    rcases hbus with ⟨rfl, rfl, rfl⟩ | rfl | rfl
    all_goals
      go_enter Tryz.func70, Tryz.ntmps70
      go_wp2_with (first
        | (go_at_call_of 65 (Value.int .i64 2); refine (within_any _ _ _ _).mono ?_; rintro e w' ⟨rfl, rfl⟩; rw [e1])
        | (go_at_call 65; refine (within_any _ _ _ _).mono ?_; rintro e w' ⟨rfl, rfl⟩; rw [e2])
        | (go_at_call 88; refine (narrowT_any _ _).mono ?_; rintro e w' ⟨rfl, rfl⟩; rw [e3])
        | (go_at_call 31; refine (first_at 89 _ l.length (atE stepE l) _ (by omega) hE HC.out).mono ?_; rintro e w1 ⟨rfl, hb1⟩; rw [HR.out]))
      go_ret
      exact ⟨rfl, hbA.trans (hb1.mono hbA.size)⟩

/-- The check of one of several cycles, called by its place. -/
theorem cycleAt_any (g : Nat) (v : Value) (l : List Cy) (i : Nat) (w : World) (hi : i < l.length) (hb : w.heap[g]? = some (.cells #[v] 23 (0, 0))) (h : isArr 4 cycleR w v l) :
    Calls Tryz.prog 69 #[.int .i64 i, .pointer (some ⟨g, 0, none⟩)] w fun e w' => e = .returned (.int .i64 (atE cycleE l i)) ∧ Below w.heap.size w w' := by
  have d0 : w.cell? ⟨g, 0, none⟩ = some v := cell_of_row w g 0 _ _ (0, 0) hb
  obtain ⟨a, cap, rfl, _, hform⟩ := isArr_form h
  obtain ⟨x, hx, _⟩ := drop_at hi
  rw [atE_some hx]
  obtain ⟨b, off, rfl, _, hcap, hcap2, cs, _, hcs, u, rfl, hs⟩ := hform i x hx
  obtain ⟨c0, c1, c2, c3⟩ := four_cells hcs
  obtain ⟨sa, scap, rfl, _, _⟩ := isArr_form hs
  clear hcs hform hx hb h
  go_enter Tryz.func69, Tryz.ntmps69
  go_wp2_with (go_at_call 70; refine (checkCycle_any x _ _ hs).mono ?_; rintro e w1 ⟨rfl, hb1⟩)
  go_ret
  exact ⟨rfl, hb1⟩

theorem checkCycles_any (v : Value) (l : List Cy) (w : World) (h : isArr 4 cycleR w v l) :
    Calls Tryz.prog 35 #[v] w fun e w' => e = .returned (.int .i64 (cyclesE l)) ∧ Below w.heap.size w w' := by
  obtain ⟨a, cap, rfl, hlen, _⟩ := isArr_form h
  have hbA : Below w.heap.size w (w.alloc (.cells #[.slice a l.length cap] 23)) := (Below.refl _ w).alloc (Nat.le_refl _) _
  have hk := heap_alloc_new w (.cells #[.slice a l.length cap] 23)
  have HC := Lib.hid (fun (i : Nat) (hi : i < l.length) (w' : World) (hb : Below (w.alloc (.cells #[.slice a l.length cap] 23)).heap.size (w.alloc (.cells #[.slice a l.length cap] 23)) w') =>
    cycleAt_any w.heap.size (.slice a l.length cap) l i w' hi (keep_below hk hb (Nat.le_refl _)) (isArr_below cycle_keeps (isArr_below cycle_keeps h hbA (Nat.le_refl _)) hb (Nat.le_refl _)))
  have hE := enters_of Tryz.func69 (by kernel_rfl) rfl
  have hmf := mkFunc
  clear h hk
  by_cases h8 : 8 < l.length
  · have e : cyclesE l = 2 := by unfold cyclesE; rw [if_pos h8]
    rw [e]
    clear HC
    go_enter Tryz.func35, Tryz.ntmps35
    go_wp2_with fail
    go_ret
    exact ⟨rfl, hbA⟩
  · have e : cyclesE l = firstE (atE cycleE l) 0 l.length := by unfold cyclesE; rw [if_neg h8, firstE_cycles]
    rw [e]
    obtain ⟨R, hR⟩ : ∃ R, firstE (atE cycleE l) 0 l.length = R := ⟨_, rfl⟩
    rw [hR]
    have HR := Lib.hid hR
    clear hR e
    go_enter Tryz.func35, Tryz.ntmps35
    go_wp2_with (go_at_call 31; refine (first_at 69 _ l.length (atE cycleE l) _ (by omega) hE HC.out).mono ?_; rintro e w1 ⟨rfl, hb1⟩; rw [HR.out])
    go_ret
    exact ⟨rfl, hbA.trans (hb1.mono hbA.size)⟩

set_option maxHeartbeats 1000000 in
theorem operandT_any (v : Value) (l : List Cy) (w : World) (h : isArr 4 cycleR w v l) :
    Calls Tryz.prog 68 #[v] w fun e w' => e = .returned (.int .i64 (reads l)) ∧ Below w.heap.size w w' := by
  obtain ⟨a, cap, rfl, hlen, hform⟩ := isArr_form h
  go_enter Tryz.func68, Tryz.ntmps68
  go_wp2_with fail
  go_loopw [3, 8] (fun q i wr => ∃ k : Nat, k ≤ l.length ∧ i = .int .i64 k ∧ q = .int .i64 (reads (l.take k)) ∧ Below w.heap.size w wr) (fun _ i _ => l.length - (intOf i).toNat)
  case atStart => exact ⟨0, Nat.zero_le _, rfl, rfl, Below.refl _ _⟩
  case round =>
    obtain ⟨k, hk, rfl, rfl, hbel⟩ := hrel
    obtain ⟨wo, rfl⟩ : ∃ wo, wo = wr := ⟨_, rfl⟩
    have hsz := hbel.size
    by_cases hlt : k < l.length
    · obtain ⟨c, hx, _⟩ := drop_at hlt
      obtain ⟨b, off, rfl, hb, hcap, hcap2, cs, _, hcs, vs, rfl, hs⟩ := hform k c hx
      obtain ⟨c0, c1, c2, c3⟩ := four_cells hcs
      rw [← hbel.cell (p := ⟨b, off + k * 4, none⟩) hb] at c0
      rw [← hbel.cell (p := ⟨b, off + k * 4 + 1, none⟩) hb] at c1
      rw [← hbel.cell (p := ⟨b, off + k * 4 + 2, none⟩) hb] at c2
      rw [← hbel.cell (p := ⟨b, off + k * 4 + 3, none⟩) hb] at c3
      have hN := reads_next l k c hx
      have hB := reads_bd l k
      obtain ⟨bus, place, reg, steps⟩ := c
      dsimp only at c0 c1 c2 c3 hs hN
      obtain ⟨sa, scap, rfl, _, _⟩ := isArr_form hs
      have HN := Lib.hid hN
      clear hN hx hcs hform h hs
      generalize reads (l.take k) = r at *
      cases e1 : (bus == 1) <;> cases e2 : (place == 0)
      all_goals
        have HN2 := HN.out
        simp only [e1, e2, Bool.and_true, Bool.and_false, if_true, Bool.false_eq_true, if_false, Int.add_zero] at HN2
        have HM := Lib.hid HN2
        clear HN HN2
        go_wp2_with fail
        go_roundw
        case rel => exact ⟨k + 1, by omega, by go_num, by rw [HM.out], hbel.alloc hsz _⟩
        case measure => simp [intOf]; omega
    · obtain rfl : k = l.length := by omega
      rw [List.take_length]
      clear hform h
      go_wp2_with fail
      go_ret
      exact ⟨rfl, hbel⟩
end Go.Proofs.YtbgjnegojoaimaaGreatDoor
