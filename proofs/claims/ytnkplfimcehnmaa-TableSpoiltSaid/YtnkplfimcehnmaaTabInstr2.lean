/- The contract of package table's check of an instruction. -/
import Derived.Test.YtnkplfimcehnmaaTabInstr
import Derived.Test.YtnkplfimcehnmaaTabOpen
import Derived.Test.YtnkplfimcehnmaaTabSameT
import Derived.Deep.RegionHeld3
namespace Go.Proofs.Ytnkplfimcehnmaa
open Go.RowKit

theorem three_boxes {w : World} {n : Nat} {o p q : Obj} {w' : World} (hb : Below ((((w.alloc o).drewN n).alloc p).alloc q).heap.size ((((w.alloc o).drewN n).alloc p).alloc q) w') :
    w'.heap[w.heap.size]? = some o ∧ w'.heap[w.heap.size + 1]? = some p ∧ w'.heap[w.heap.size + 2]? = some q ∧ Below w.heap.size w w' := by
  have e1 : ((w.alloc o).drewN n).heap.size = w.heap.size + 1 := by rw [World.heap_drewN, World.size_alloc]
  have e2 : (((w.alloc o).drewN n).alloc p).heap.size = w.heap.size + 2 := by rw [World.size_alloc, e1]
  have k0 : ((w.alloc o).drewN n).heap[w.heap.size]? = some o := by rw [World.heap_drewN]; exact heap_alloc_new w o
  have k1 := heap_alloc_new ((w.alloc o).drewN n) p
  rw [e1] at k1
  have k2 := heap_alloc_new (((w.alloc o).drewN n).alloc p) q
  rw [e2] at k2
  have hA : Below w.heap.size w ((((w.alloc o).drewN n).alloc p).alloc q) :=
    ((((Below.refl _ w).alloc (Nat.le_refl _) o).trans (below_drewN _ n _)).alloc (by rw [e1]; omega) p).alloc (by rw [e2]; omega) q
  exact ⟨keep_below (box_alloc (box_alloc k0)) hb (Nat.le_refl _), keep_below (box_alloc k1) hb (Nat.le_refl _), keep_below k2 hb (Nat.le_refl _), hA.trans (hb.mono hA.size)⟩

theorem contains_here (op : Int) (xn : ByteArray) (xm : Int) (cyc : List Cy) (done : List In) (v : Value) (w : World) (o : Obj) (n : Nat) (hd : isArr 4 insR w v done) :
    Calls Try.prog 29 #[v, .func (.func 65) #[] #[.pointer (some ⟨w.heap.size + 2, 0, none⟩), .pointer (some ⟨w.heap.size + 1, 0, none⟩)]]
      ((((w.alloc o).drewN n).alloc (.cells #[.string xn] 9)).alloc (.cells #[.int .i64 xm] 3)) fun e w' => e = .returned (.bool (done.any (sameKey ⟨op, xn, xm, cyc⟩))) ∧ w'.heap[w.heap.size]? = some o ∧ Below w.heap.size w w' := by
  have hA := (three_boxes (w := w) (n := n) (o := o) (p := .cells #[.string xn] 9) (q := .cells #[.int .i64 xm] 3) (Below.refl _ _)).2.2.2
  refine (containsFunc_at 65 #[.pointer (some ⟨w.heap.size + 2, 0, none⟩), .pointer (some ⟨w.heap.size + 1, 0, none⟩)] (sameKey ⟨op, xn, xm, cyc⟩) v done _ (isArr_below ins_keeps hd hA (Nat.le_refl _))
    (enters_of Try.func65 (by kernel_rfl) rfl) (fun x cv w' hb hcy => ?_)).mono ?_
  · obtain ⟨_, k1, k2, _⟩ := three_boxes hb
    exact called_at (w.heap.size + 2) (w.heap.size + 1) xn xm x cv w' k2 k1 hcy
  · rintro e w' ⟨rfl, hb⟩
    obtain ⟨k0, _, _, hB⟩ := three_boxes hb
    exact ⟨rfl, k0, hB⟩

theorem instrE_rest {done : List In} {x : In} (h1 : ¬ (x.op < 0 ∨ 255 < x.op)) (h2 : ¬ (done ≠ [] ∧ x.op ≤ lastOp done)) :
    instrE done x = if nameB x.name = false then 15 else if operand x.mode < 0 then 8 else if done.any (sameKey x) = true then 5 else if cyclesE x.cycles ≠ 0 then cyclesE x.cycles else if reads x.cycles ≠ operand x.mode then 3 else 0 := by
  unfold instrE; rw [if_neg h1, if_neg h2]

theorem box4_keep {w0 w' : World} {g : Nat} {t : TypeId} {x0 x1 x2 x3 : Value} (h : w0.heap[g]? = some (.cells #[x0, x1, x2, x3] t (0, 0))) (hb : Below w0.heap.size w0 w') :
    w'.cell? ⟨g, 0, none⟩ = some x0 ∧ w'.cell? ⟨g, 1, none⟩ = some x1 ∧ w'.cell? ⟨g, 2, none⟩ = some x2 ∧ w'.cell? ⟨g, 3, none⟩ = some x3 ∧ Below w0.heap.size w0 w' := by
  obtain ⟨k0, k1, k2, k3⟩ := cells4 (keep_below h hb (Nat.le_refl _))
  exact ⟨k0, k1, k2, k3, hb⟩
theorem pick5 {a b c d : Prop} {w0 wp : World} (h : a ∧ b ∧ c ∧ d ∧ Below w0.heap.size w0 wp) : Below w0.heap.size w0 wp := h.2.2.2.2

/-- What stands before: nothing, or a last one. -/
def lastCell (w : World) (a : Option Addr) (done : List In) (m : Nat) : Prop :=
  (done = [] ∧ m = 0) ∨ ∃ b off, a = some ⟨b, off, none⟩ ∧ done ≠ [] ∧ done.length = m + 1 ∧ b < w.heap.size ∧ w.cell? ⟨b, off + m * 4, none⟩ = some (.int .i64 (lastOp done))
theorem lastCell_of {w : World} {a : Option Addr} {cap : Nat} {done : List In} (h : isArr 4 insR w (.slice a done.length cap) done) : ∃ m, lastCell w a done m := by
  rcases List.eq_nil_or_concat done with rfl | ⟨ini, y, rfl⟩
  · exact ⟨0, .inl ⟨rfl, rfl⟩⟩
  · rw [List.concat_eq_append] at *
    refine ⟨ini.length, .inr ?_⟩
    obtain ⟨a', cap', e, _, hform⟩ := isArr_form h
    obtain ⟨b, off, ha, hb, _, _, cs, _, hcs, cv, rfl, _⟩ := hform ini.length y (by simp)
    obtain ⟨c0, _, _, _⟩ := four_cells hcs
    cases e
    exact ⟨b, off, ha, by simp, by simp, hb, by rw [c0, lastOp_snoc]⟩

set_option maxRecDepth 100000 in
set_option maxHeartbeats 8000000 in
theorem checkInstr_any (done : List In) (x : In) (v cv : Value) (w : World) (hd : isArr 4 insR w v done) (hcy : isArr 4 cycleR w cv x.cycles) (hg : goodIn x) :
    Calls Try.prog 35 #[v, .agg #[.int .i64 x.op, .string x.name, .int .i64 x.mode, cv]] w fun e w' => e = .returned (.int .i64 (instrE done x)) ∧ Below w.heap.size w w' := by
  obtain ⟨op, xn, xm, cyc⟩ := x
  dsimp only at hcy ⊢
  obtain ⟨a, cap, rfl, hlen, _⟩ := isArr_form hd
  obtain ⟨ca, ccap, rfl, _, _⟩ := isArr_form hcy
  have hbA : ∀ o, Below w.heap.size w (w.alloc o) := fun o => (Below.refl _ w).alloc (Nat.le_refl _) o
  have hbD : ∀ o n, Below w.heap.size w ((w.alloc o).drewN n) := fun o n => (hbA o).trans (below_drewN _ n _)
  have HK := Lib.hid (contains_here op xn xm cyc done (.slice a done.length cap) w (.cells #[.int .i64 op, .string xn, .int .i64 xm, .slice ca cyc.length ccap] 34) · hd)
  have HC := Lib.hid hcy
  obtain ⟨R, hR⟩ : ∃ R, instrE done ⟨op, xn, xm, cyc⟩ = R := ⟨_, rfl⟩
  rw [hR]
  obtain ⟨m, hlast⟩ := lastCell_of hd
  clear hd hcy
  cases e1 : (decide (0 ≤ op) && decide (op ≤ 255))
  · have e : R = 1 := by
      rw [← hR]; unfold instrE; rw [if_pos (show op < 0 ∨ 255 < op by rw [Bool.eq_false_iff] at e1; simp at e1; omega)]
    subst e
    clear hR HK HC
    go_enter Try.func35, Try.ntmps35
    go_wp2_with (go_at_call 57; refine (within_any _ _ _ _).mono ?_; rintro e w' ⟨rfl, rfl⟩; rw [e1])
    go_ret
    exact ⟨rfl, hbA _⟩
  have t1 : ¬ (op < 0 ∨ 255 < op) := by simp at e1; omega
  by_cases q2 : done ≠ [] ∧ op ≤ lastOp done
  · have e : R = 9 := by rw [← hR]; unfold instrE; rw [if_neg t1, if_pos q2]
    subst e
    clear hR HK HC
    rcases hlast with ⟨rfl, _⟩ | ⟨b, off, rfl, _, hl, hb, c0⟩
    · exact absurd rfl q2.1
    obtain ⟨_, q3⟩ := q2
    generalize lastOp done = lst at *
    have hm : done.length ≤ 9223372036854775807 := hlen (by omega)
    rw [hl] at *
    clear hlen
    have hm2 : m ≤ 9223372036854775806 := by omega
    go_enter Try.func35, Try.ntmps35
    go_wp2_with (go_at_call 57; refine (within_any _ _ _ _).mono ?_; rintro e w' ⟨rfl, rfl⟩; rw [e1])
    go_quiet (fail)
    go_wp2_with fail
    go_ret
    exact ⟨rfl, hbD _ _⟩
  rw [instrE_rest t1 q2] at hR
  dsimp only at hR
  have HR := Lib.hid hR
  clear hR
  have hpar : (done = [] ∧ m = 0) ∨ ∃ b off, a = some ⟨b, off, none⟩ ∧ done.length = m + 1 ∧ m ≤ 9223372036854775806 ∧ b < w.heap.size ∧ ∃ lst : Int, lst < op ∧ w.cell? ⟨b, off + m * 4, none⟩ = some (.int .i64 lst) := by
    rcases hlast with h | ⟨b, off, ha, hn, hl, hb, c0⟩
    · exact .inl h
    · have := hlen (by omega)
      refine .inr ⟨b, off, ha, hl, by omega, hb, lastOp done, ?_, c0⟩
      rcases Int.lt_or_le (lastOp done) op with h | h
      · exact h
      · exact absurd ⟨hn, h⟩ q2
  clear hlast q2 hlen t1
  obtain ⟨A, hA⟩ : ∃ A, done.any (sameKey ⟨op, xn, xm, cyc⟩) = A := ⟨_, rfl⟩
  rw [hA] at HK HR
  clear hA
  rcases hpar with ⟨rfl, _⟩ | ⟨b, off, rfl, hl, hm, hb, lst, hlt, c0⟩
  all_goals (first | simp only [List.length_nil] at HK ⊢ | rw [hl] at HK ⊢)
  all_goals
    cases q3 : nameB xn
  case inl.false | inr.false =>
    have e := HR.out
    rw [q3, if_pos rfl] at e
    subst e
    clear HK HC HR
    go_enter Try.func35, Try.ntmps35
    go_wp2_with (go_at_call 57; refine (within_any _ _ _ _).mono ?_; rintro e w' ⟨rfl, rfl⟩; rw [e1])
    go_quiet (fail)
    go_wp2_with (go_at_call 16; refine (name_is _ _ hg.1).mono ?_; rintro e w' ⟨rfl, rfl⟩; rw [q3])
    go_ret
    exact ⟨rfl, hbD _ _⟩
  all_goals
    by_cases q4 : operand xm < 0
    · have e := HR.out
      rw [q3, if_neg (by decide), if_pos q4] at e
      subst e
      clear HK HC HR
      go_enter Try.func35, Try.ntmps35
      go_wp2_with (go_at_call 57; refine (within_any _ _ _ _).mono ?_; rintro e w' ⟨rfl, rfl⟩; rw [e1])
      go_quiet (fail)
      go_wp2_with (first
        | (go_at_call 16; refine (name_is _ _ hg.1).mono ?_; rintro e w' ⟨rfl, rfl⟩; rw [q3])
        | (go_at_call 14; refine (size_is _ _).mono ?_; rintro e w' ⟨rfl, rfl⟩))
      go_ret
      exact ⟨rfl, hbD _ _⟩
    have HR2 := Lib.hid (show (if A = true then 5 else if cyclesE cyc ≠ 0 then cyclesE cyc else if reads cyc ≠ operand xm then 3 else 0) = R by
      have e := HR.out
      rw [q3, if_neg (by decide), if_neg q4] at e
      exact e)
    clear HR
    cases A
    case true =>
      have e := HR2.out
      rw [if_pos rfl] at e
      subst e
      clear HR2
      go_enter Try.func35, Try.ntmps35
      go_wp2_with (go_at_call 57; refine (within_any _ _ _ _).mono ?_; rintro e w' ⟨rfl, rfl⟩; rw [e1])
      go_quiet (fail)
      go_wp2_with (first
        | (go_at_call 16; refine (name_is _ _ hg.1).mono ?_; rintro e w' ⟨rfl, rfl⟩; rw [q3])
        | (go_at_call 14; refine (size_is _ _).mono ?_; rintro e w' ⟨rfl, rfl⟩)
        | (go_at_call 47; refine (called_mk _ _ _).mono ?_; rintro e w' ⟨rfl, rfl⟩)
        | (go_at_call 29; refine (HK.out _).mono ?_; rintro e w3 ⟨rfl, k3, hb3⟩))
      go_ret
      exact ⟨rfl, hb3⟩
    have HR3 := Lib.hid (show (if cyclesE cyc ≠ 0 then cyclesE cyc else if reads cyc ≠ operand xm then 3 else 0) = R by
      have e := HR2.out
      rw [if_neg (by decide)] at e
      exact e)
    clear HR2
    by_cases q6 : cyclesE cyc = 0
    · rw [q6] at HR3
      have HR4 := Lib.hid (show (if reads cyc ≠ operand xm then 3 else 0) = R by
        have e := HR3.out
        rw [if_neg (by decide)] at e
        exact e)
      clear HR3
      go_enter Try.func35, Try.ntmps35
      go_wp2_with (go_at_call 57; refine (within_any _ _ _ _).mono ?_; rintro e w' ⟨rfl, rfl⟩; rw [e1])
      go_quiet (fail)
      go_wp2_with (first
        | (go_at_call 16; refine (name_is _ _ hg.1).mono ?_; rintro e w' ⟨rfl, rfl⟩; rw [q3])
        | (go_at_call 14; refine (size_is _ _).mono ?_; rintro e w' ⟨rfl, rfl⟩)
        | (go_at_call 47; refine (called_mk _ _ _).mono ?_; rintro e w' ⟨rfl, rfl⟩)
        | (go_at_call 29; refine (HK.out _).mono ?_; rintro e w3 ⟨rfl, k3, hb3⟩; obtain ⟨d0, d1, d2, d3⟩ := cells4 k3)
        | (go_at_call 37; refine (checkCycles_any _ cyc _ (isArr_below cycle_keeps HC.out hb3 (Nat.le_refl _))).mono ?_; rintro e w4 ⟨rfl, hb4⟩; rw [q6]))
      have LB := Lib.hid (keep_below k3 hb4 (Nat.le_refl _))
      have B4 := below_next hb3 hb4
      have HC4 := isArr_below cycle_keeps HC.out B4 (Nat.le_refl _)
      clear k3
      go_region_held3 (fun w' => w'.cell? ⟨w.heap.size, 0, none⟩ = some (.int .i64 op) ∧ w'.cell? ⟨w.heap.size, 1, none⟩ = some (.string xn) ∧ w'.cell? ⟨w.heap.size, 2, none⟩ = some (.int .i64 xm) ∧ w'.cell? ⟨w.heap.size, 3, none⟩ = some (.slice ca cyc.length ccap) ∧ Below w4.heap.size w4 w')
        (first | exact box4_keep LB.out (by assumption) | exact box4_keep LB.out (Below.refl _ _) | exact box4_keep LB.out (Below.drew (Below.refl _ _)) | exact box4_keep LB.out (Below.drew (by assumption)))
        (first
          | (go_at_call 58; have hP := pick5 (w0 := w4) (by assumption); refine (operandT_any _ cyc _ (isArr_below cycle_keeps HC4 hP (Nat.le_refl _))).mono ?_; rintro e w5 ⟨rfl, hb5⟩; have B5 : Below w4.heap.size w4 w5 := below_next hP hb5)
          | (go_at_call 14; refine (size_is _ _).mono ?_; rintro e w' ⟨rfl, rfl⟩))
      all_goals
        have hBz := pick5 (w0 := w4) (by assumption)
        by_cases q7 : reads cyc = operand xm
        · have t7 : (reads cyc != operand xm) = false := by simp [q7]
          have e := HR4.out
          rw [if_neg (by rw [q7]; simp)] at e
          subst e
          go_wp2_with fail
          go_ret
          exact ⟨rfl, B4.trans (hBz.mono B4.size)⟩
        · have t7 : (reads cyc != operand xm) = true := by simp [q7]
          have e := HR4.out
          rw [if_pos q7] at e
          subst e
          go_wp2_with fail
          go_ret
          exact ⟨rfl, B4.trans (hBz.mono B4.size)⟩
    · have e := HR3.out
      rw [if_pos q6] at e
      subst e
      clear HR3
      have t6 : (cyclesE cyc != 0) = true := by simpa using q6
      go_enter Try.func35, Try.ntmps35
      go_wp2_with (go_at_call 57; refine (within_any _ _ _ _).mono ?_; rintro e w' ⟨rfl, rfl⟩; rw [e1])
      go_quiet (fail)
      go_wp2_with (first
        | (go_at_call 16; refine (name_is _ _ hg.1).mono ?_; rintro e w' ⟨rfl, rfl⟩; rw [q3])
        | (go_at_call 14; refine (size_is _ _).mono ?_; rintro e w' ⟨rfl, rfl⟩)
        | (go_at_call 47; refine (called_mk _ _ _).mono ?_; rintro e w' ⟨rfl, rfl⟩)
        | (go_at_call 29; refine (HK.out _).mono ?_; rintro e w3 ⟨rfl, k3, hb3⟩; obtain ⟨d0, d1, d2, d3⟩ := cells4 k3)
        | (go_at_call 37; refine (checkCycles_any _ cyc _ (isArr_below cycle_keeps HC.out hb3 (Nat.le_refl _))).mono ?_; rintro e w4 ⟨rfl, hb4⟩))
      go_ret
      exact ⟨rfl, below_next hb3 hb4⟩
end Go.Proofs.Ytnkplfimcehnmaa
