/- The walk of the law TableChecks. -/
import Derived.Test.YtbgjnegojoaimaaGreatDoorTabCheck
import Derived.Test.YtbgjnegojoaimaaGreatDoorTabNameT
import Derived.Test.YtbgjnegojoaimaaGreatDoorTabSame2
import Derived.Test.YtbgjnegojoaimaaGreatDoorTabIdx
import Derived.Test.YtbgjnegojoaimaaGreatDoorTabOpen
import Derived.Test.YtbgjnegojoaimaaGreatDoorTabSameT
import Derived.Deep.RegionHeld3
namespace Go.Proofs.YtbgjnegojoaimaaGreatDoor
open Go.RowKit

theorem containsFunc_at (fn : Nat) (caps : Array Value) (p : In → Bool) (v : Value) (l : List In) (w : World) (h : isArr 4 insR w v l) (hE : Enters Tryz.prog fn)
    (hc : ∀ (x : In) (cv : Value) (w' : World), Below w.heap.size w w' → isArr 4 cycleR w' cv x.cycles → Calls Tryz.prog fn (#[.agg #[.int .i64 x.op, .string x.name, .int .i64 x.mode, cv]] ++ caps) w' fun e w'' => e = .returned (.bool (p x)) ∧ Below w'.heap.size w' w'') :
    Calls Tryz.prog 66 #[v, .func (.func fn) #[] caps] w fun e w' => e = .returned (.bool (l.any p)) ∧ Below w.heap.size w w' := by
  rw [← idxI_any]
  have HI := Lib.hid (indexFunc_at fn caps p v l w h hE hc)
  clear hc hE h
  go_enter Tryz.func66, Tryz.ntmps66
  go_wp2_with (go_at_call 86; refine HI.out.mono ?_; rintro e w1 ⟨rfl, hb1⟩)
  go_ret
  exact ⟨rfl, hb1⟩

/-- The function that tells the instructions with a name and a mode. -/
theorem called_at (gm gn : Nat) (name : ByteArray) (mode : Int) (x : In) (cv : Value) (w : World) (hm : w.heap[gm]? = some (.cells #[.int .i64 mode] 3 (0, 0))) (hn : w.heap[gn]? = some (.cells #[.string name] 9 (0, 0))) (hcy : isArr 4 cycleR w cv x.cycles) :
    Calls Tryz.prog 87 #[.agg #[.int .i64 x.op, .string x.name, .int .i64 x.mode, cv], .pointer (some ⟨gm, 0, none⟩), .pointer (some ⟨gn, 0, none⟩)] w fun e w' =>
      e = .returned (.bool (decide (name = x.name) && decide (mode = x.mode))) ∧ Below w.heap.size w w' := by
  obtain ⟨op, xn, xm, cyc⟩ := x
  dsimp only at hcy ⊢
  have km := cell_of_row w gm 0 _ _ (0, 0) hm
  have kn := cell_of_row w gn 0 _ _ (0, 0) hn
  have lm : gm < w.heap.size := (Array.getElem?_eq_some_iff.1 hm).1
  have ln : gn < w.heap.size := (Array.getElem?_eq_some_iff.1 hn).1
  obtain ⟨ca, ccap, rfl, _, _⟩ := isArr_form hcy
  clear hm hn hcy
  by_cases e1 : mode = xm
  · subst e1
    by_cases e2 : name = xn
    · subst e2
      rw [decide_eq_true rfl, decide_eq_true rfl]
      go_enter Tryz.func87, Tryz.ntmps87
      go_wp2_with fail
      go_ret
      exact ⟨rfl, (Below.refl _ _).alloc (Nat.le_refl _) _⟩
    · have t : (xn.toList == name.toList) = false := bytes_ne (fun h => e2 h.symm)
      rw [decide_eq_false e2, Bool.false_and]
      go_enter Tryz.func87, Tryz.ntmps87
      go_wp2_with fail
      go_ret
      exact ⟨rfl, (Below.refl _ _).alloc (Nat.le_refl _) _⟩
  · have t : (xm == mode) = false := by simp; exact fun h => e1 h.symm
    rw [decide_eq_false e1, Bool.and_false]
    go_enter Tryz.func87, Tryz.ntmps87
    go_wp2_with fail
    go_ret
    exact ⟨rfl, (Below.refl _ _).alloc (Nat.le_refl _) _⟩

theorem called_mk (name : ByteArray) (mode : Int) (w : World) :
    Calls Tryz.prog 67 #[.string name, .int .i64 mode] w fun e w' =>
      e = .returned (.func (.func 87) #[] #[.pointer (some ⟨w.heap.size + 1, 0, none⟩), .pointer (some ⟨w.heap.size, 0, none⟩)]) ∧
      (w.alloc (.cells #[.string name] 9)).alloc (.cells #[.int .i64 mode] 3) = w' := by
  have hmf := mkFunc
  go_enter Tryz.func67, Tryz.ntmps67
  go_wp2_with fail
  go_ret
  exact ⟨rfl, rfl⟩
end Go.Proofs.YtbgjnegojoaimaaGreatDoor
namespace Go.Proofs.YtbgjnegojoaimaaGreatDoor
open Go.RowKit

theorem three_boxes {w : World} {n : Nat} {o p q : Obj} {w' : World} (hb : Below ((((w.alloc o).drewN n).alloc p).alloc q).heap.size ((((w.alloc o).drewN n).alloc p).alloc q) w') :
    w'.heap[w.heap.size]? = some o ∧ w'.heap[w.heap.size + 1]? = some p ∧ w'.heap[w.heap.size + 2]? = some q ∧ Below w.heap.size w w' := by
  have e1 : ((w.alloc o).drewN n).heap.size = w.heap.size + 1 := by rw [World.heap_drewN, World.size_alloc]
  have e2 : (((w.alloc o).drewN n).alloc p).heap.size = w.heap.size + 2 := by rw [World.size_alloc, e1]
  have k0 : ((w.alloc o).drewN n).heap[w.heap.size]? = some o := by rw [World.heap_drewN]; exact heap_alloc_new w o
  have k1 := heap_alloc_new ((w.alloc o).drewN n) p
  rw [e1] at k1
  have k2 := heap_alloc_new (((w.alloc o).drewN n).alloc p) q
  rw [e2] at k2
  have hA : Below w.heap.size w ((((w.alloc o).drewN n).alloc p).alloc q) :=
    ((((Below.refl _ w).alloc (Nat.le_refl _) o).trans (below_drewN _ n _)).alloc (by rw [e1]; omega) p).alloc (by rw [e2]; omega) q
  exact ⟨keep_below (box_alloc (box_alloc k0)) hb (Nat.le_refl _), keep_below (box_alloc k1) hb (Nat.le_refl _), keep_below k2 hb (Nat.le_refl _), hA.trans (hb.mono hA.size)⟩

theorem contains_here (op : Int) (xn : ByteArray) (xm : Int) (cyc : List Cy) (done : List In) (v : Value) (w : World) (o : Obj) (n : Nat) (hd : isArr 4 insR w v done) :
    Calls Tryz.prog 66 #[v, .func (.func 87) #[] #[.pointer (some ⟨w.heap.size + 2, 0, none⟩), .pointer (some ⟨w.heap.size + 1, 0, none⟩)]]
      ((((w.alloc o).drewN n).alloc (.cells #[.string xn] 9)).alloc (.cells #[.int .i64 xm] 3)) fun e w' => e = .returned (.bool (done.any (sameKey ⟨op, xn, xm, cyc⟩))) ∧ w'.heap[w.heap.size]? = some o ∧ Below w.heap.size w w' := by
  have hA := (three_boxes (w := w) (n := n) (o := o) (p := .cells #[.string xn] 9) (q := .cells #[.int .i64 xm] 3) (Below.refl _ _)).2.2.2
  refine (containsFunc_at 87 #[.pointer (some ⟨w.heap.size + 2, 0, none⟩), .pointer (some ⟨w.heap.size + 1, 0, none⟩)] (sameKey ⟨op, xn, xm, cyc⟩) v done _ (isArr_below ins_keeps hd hA (Nat.le_refl _))
    (enters_of Tryz.func87 (by kernel_rfl) rfl) (fun x cv w' hb hcy => ?_)).mono ?_
  · obtain ⟨_, k1, k2, _⟩ := three_boxes hb
    exact called_at (w.heap.size + 2) (w.heap.size + 1) xn xm x cv w' k2 k1 hcy
  · rintro e w' ⟨rfl, hb⟩
    obtain ⟨k0, _, _, hB⟩ := three_boxes hb
    exact ⟨rfl, k0, hB⟩

theorem instrE_rest {done : List In} {x : In} (h1 : ¬ (x.op < 0 ∨ 255 < x.op)) (h2 : ¬ (done ≠ [] ∧ x.op ≤ lastOp done)) :
    instrE done x = if nameB x.name = false then 15 else if operand x.mode < 0 then 8 else if done.any (sameKey x) = true then 5 else if cyclesE x.cycles ≠ 0 then cyclesE x.cycles else if reads x.cycles ≠ operand x.mode then 3 else 0 := by
  unfold instrE; rw [if_neg h1, if_neg h2]

theorem box4_keep {w0 w' : World} {g : Nat} {t : TypeId} {x0 x1 x2 x3 : Value} (h : w0.heap[g]? = some (.cells #[x0, x1, x2, x3] t (0, 0))) (hb : Below w0.heap.size w0 w') :
    w'.cell? ⟨g, 0, none⟩ = some x0 ∧ w'.cell? ⟨g, 1, none⟩ = some x1 ∧ w'.cell? ⟨g, 2, none⟩ = some x2 ∧ w'.cell? ⟨g, 3, none⟩ = some x3 ∧ Below w0.heap.size w0 w' := by
  obtain ⟨k0, k1, k2, k3⟩ := cells4 (keep_below h hb (Nat.le_refl _))
  exact ⟨k0, k1, k2, k3, hb⟩
theorem pick5 {a b c d : Prop} {w0 wp : World} (h : a ∧ b ∧ c ∧ d ∧ Below w0.heap.size w0 wp) : Below w0.heap.size w0 wp := h.2.2.2.2

/-- What stands before: nothing, or a last one. -/
def lastCell (w : World) (a : Option Addr) (done : List In) (m : Nat) : Prop :=
  (done = [] ∧ m = 0) ∨ ∃ b off, a = some ⟨b, off, none⟩ ∧ done ≠ [] ∧ done.length = m + 1 ∧ b < w.heap.size ∧ w.cell? ⟨b, off + m * 4, none⟩ = some (.int .i64 (lastOp done))
theorem lastCell_of {w : World} {a : Option Addr} {cap : Nat} {done : List In} (h : isArr 4 insR w (.slice a done.length cap) done) : ∃ m, lastCell w a done m := by
  rcases List.eq_nil_or_concat done with rfl | ⟨ini, y, rfl⟩
  · exact ⟨0, .inl ⟨rfl, rfl⟩⟩
  · rw [List.concat_eq_append] at *
    refine ⟨ini.length, .inr ?_⟩
    obtain ⟨a', cap', e, _, hform⟩ := isArr_form h
    obtain ⟨b, off, ha, hb, _, _, cs, _, hcs, cv, rfl, _⟩ := hform ini.length y (by simp)
    obtain ⟨c0, _, _, _⟩ := four_cells hcs
    cases e
    exact ⟨b, off, ha, by simp, by simp, hb, by rw [c0, lastOp_snoc]⟩

set_option maxRecDepth 100000 in
set_option maxHeartbeats 8000000 in
theorem checkInstr_any (done : List In) (x : In) (v cv : Value) (w : World) (hd : isArr 4 insR w v done) (hcy : isArr 4 cycleR w cv x.cycles) (hg : goodIn x) :
    Calls Tryz.prog 33 #[v, .agg #[.int .i64 x.op, .string x.name, .int .i64 x.mode, cv]] w fun e w' => e = .returned (.int .i64 (instrE done x)) ∧ Below w.heap.size w w' := by
  obtain ⟨op, xn, xm, cyc⟩ := x
  dsimp only at hcy ⊢
  obtain ⟨a, cap, rfl, hlen, _⟩ := isArr_form hd
  obtain ⟨ca, ccap, rfl, _, _⟩ := isArr_form hcy
  have hbA : ∀ o, Below w.heap.size w (w.alloc o) := fun o => (Below.refl _ w).alloc (Nat.le_refl _) o
  have hbD : ∀ o n, Below w.heap.size w ((w.alloc o).drewN n) := fun o n => (hbA o).trans (below_drewN _ n _)
  have HK := Lib.hid (contains_here op xn xm cyc done (.slice a done.length cap) w (.cells #[.int .i64 op, .string xn, .int .i64 xm, .slice ca cyc.length ccap] 33) · hd)
  have HC := Lib.hid hcy
  obtain ⟨R, hR⟩ : ∃ R, instrE done ⟨op, xn, xm, cyc⟩ = R := ⟨_, rfl⟩
  rw [hR]
  obtain ⟨m, hlast⟩ := lastCell_of hd
  clear hd hcy
  cases e1 : (decide (0 ≤ op) && decide (op ≤ 255))
  · have e : R = 1 := by
      rw [← hR]; unfold instrE; rw [if_pos (show op < 0 ∨ 255 < op by rw [Bool.eq_false_iff] at e1; simp at e1; omega)]
    subst e
    clear hR HK HC
    go_enter Tryz.func33, Tryz.ntmps33
    go_wp2_with (go_at_call 65; refine (within_any _ _ _ _).mono ?_; rintro e w' ⟨rfl, rfl⟩; rw [e1])
    go_ret
    exact ⟨rfl, hbA _⟩
  have t1 : ¬ (op < 0 ∨ 255 < op) := by simp at e1; omega
  by_cases q2 : done ≠ [] ∧ op ≤ lastOp done
  · have e : R = 9 := by rw [← hR]; unfold instrE; rw [if_neg t1, if_pos q2]
    subst e
    clear hR HK HC
    rcases hlast with ⟨rfl, _⟩ | ⟨b, off, rfl, _, hl, hb, c0⟩
    · exact absurd rfl q2.1
    obtain ⟨_, q3⟩ := q2
    generalize lastOp done = lst at *
    have hm : done.length ≤ 9223372036854775807 := hlen (by omega)
    rw [hl] at *
    clear hlen
    have hm2 : m ≤ 9223372036854775806 := by omega
    go_enter Tryz.func33, Tryz.ntmps33
    go_wp2_with (go_at_call 65; refine (within_any _ _ _ _).mono ?_; rintro e w' ⟨rfl, rfl⟩; rw [e1])
    go_quiet (fail)
    go_wp2_with fail
    go_ret
    exact ⟨rfl, hbD _ _⟩
  rw [instrE_rest t1 q2] at hR
  dsimp only at hR
  have HR := Lib.hid hR
  clear hR
  have hpar : (done = [] ∧ m = 0) ∨ ∃ b off, a = some ⟨b, off, none⟩ ∧ done.length = m + 1 ∧ m ≤ 9223372036854775806 ∧ b < w.heap.size ∧ ∃ lst : Int, lst < op ∧ w.cell? ⟨b, off + m * 4, none⟩ = some (.int .i64 lst) := by
    rcases hlast with h | ⟨b, off, ha, hn, hl, hb, c0⟩
    · exact .inl h
    · have := hlen (by omega)
      refine .inr ⟨b, off, ha, hl, by omega, hb, lastOp done, ?_, c0⟩
      rcases Int.lt_or_le (lastOp done) op with h | h
      · exact h
      · exact absurd ⟨hn, h⟩ q2
  clear hlast q2 hlen t1
  obtain ⟨A, hA⟩ : ∃ A, done.any (sameKey ⟨op, xn, xm, cyc⟩) = A := ⟨_, rfl⟩
  rw [hA] at HK HR
  clear hA
  rcases hpar with ⟨rfl, _⟩ | ⟨b, off, rfl, hl, hm, hb, lst, hlt, c0⟩
  all_goals (first | simp only [List.length_nil] at HK ⊢ | rw [hl] at HK ⊢)
  all_goals
    cases q3 : nameB xn
  case inl.false | inr.false =>
    have e := HR.out
    rw [q3, if_pos rfl] at e
    subst e
    clear HK HC HR
    go_enter Tryz.func33, Tryz.ntmps33
    go_wp2_with (go_at_call 65; refine (within_any _ _ _ _).mono ?_; rintro e w' ⟨rfl, rfl⟩; rw [e1])
    go_quiet (fail)
    go_wp2_with (go_at_call 30; refine (name_is _ _ hg.1).mono ?_; rintro e w' ⟨rfl, rfl⟩; rw [q3])
    go_ret
    exact ⟨rfl, hbD _ _⟩
  all_goals
    by_cases q4 : operand xm < 0
    · have e := HR.out
      rw [q3, if_neg (by decide), if_pos q4] at e
      subst e
      clear HK HC HR
      go_enter Tryz.func33, Tryz.ntmps33
      go_wp2_with (go_at_call 65; refine (within_any _ _ _ _).mono ?_; rintro e w' ⟨rfl, rfl⟩; rw [e1])
      go_quiet (fail)
      go_wp2_with (first
        | (go_at_call 30; refine (name_is _ _ hg.1).mono ?_; rintro e w' ⟨rfl, rfl⟩; rw [q3])
        | (go_at_call 36; refine (size_is _ _).mono ?_; rintro e w' ⟨rfl, rfl⟩))
      go_ret
      exact ⟨rfl, hbD _ _⟩
    have HR2 := Lib.hid (show (if A = true then 5 else if cyclesE cyc ≠ 0 then cyclesE cyc else if reads cyc ≠ operand xm then 3 else 0) = R by
      have e := HR.out
      rw [q3, if_neg (by decide), if_neg q4] at e
      exact e)
    clear HR
    cases A
    case true =>
      have e := HR2.out
      rw [if_pos rfl] at e
      subst e
      clear HR2
      go_enter Tryz.func33, Tryz.ntmps33
      go_wp2_with (go_at_call 65; refine (within_any _ _ _ _).mono ?_; rintro e w' ⟨rfl, rfl⟩; rw [e1])
      go_quiet (fail)
      go_wp2_with (first
        | (go_at_call 30; refine (name_is _ _ hg.1).mono ?_; rintro e w' ⟨rfl, rfl⟩; rw [q3])
        | (go_at_call 36; refine (size_is _ _).mono ?_; rintro e w' ⟨rfl, rfl⟩)
        | (go_at_call 67; refine (called_mk _ _ _).mono ?_; rintro e w' ⟨rfl, rfl⟩)
        | (go_at_call 66; refine (HK.out _).mono ?_; rintro e w3 ⟨rfl, k3, hb3⟩))
      go_ret
      exact ⟨rfl, hb3⟩
    have HR3 := Lib.hid (show (if cyclesE cyc ≠ 0 then cyclesE cyc else if reads cyc ≠ operand xm then 3 else 0) = R by
      have e := HR2.out
      rw [if_neg (by decide)] at e
      exact e)
    clear HR2
    by_cases q6 : cyclesE cyc = 0
    · rw [q6] at HR3
      have HR4 := Lib.hid (show (if reads cyc ≠ operand xm then 3 else 0) = R by
        have e := HR3.out
        rw [if_neg (by decide)] at e
        exact e)
      clear HR3
      go_enter Tryz.func33, Tryz.ntmps33
      go_wp2_with (go_at_call 65; refine (within_any _ _ _ _).mono ?_; rintro e w' ⟨rfl, rfl⟩; rw [e1])
      go_quiet (fail)
      go_wp2_with (first
        | (go_at_call 30; refine (name_is _ _ hg.1).mono ?_; rintro e w' ⟨rfl, rfl⟩; rw [q3])
        | (go_at_call 36; refine (size_is _ _).mono ?_; rintro e w' ⟨rfl, rfl⟩)
        | (go_at_call 67; refine (called_mk _ _ _).mono ?_; rintro e w' ⟨rfl, rfl⟩)
        | (go_at_call 66; refine (HK.out _).mono ?_; rintro e w3 ⟨rfl, k3, hb3⟩; obtain ⟨d0, d1, d2, d3⟩ := cells4 k3)
        | (go_at_call 35; refine (checkCycles_any _ cyc _ (isArr_below cycle_keeps HC.out hb3 (Nat.le_refl _))).mono ?_; rintro e w4 ⟨rfl, hb4⟩; rw [q6]))
      have LB := Lib.hid (keep_below k3 hb4 (Nat.le_refl _))
      have B4 := below_next hb3 hb4
      have HC4 := isArr_below cycle_keeps HC.out B4 (Nat.le_refl _)
      clear k3
      go_region_held3 (fun w' => w'.cell? ⟨w.heap.size, 0, none⟩ = some (.int .i64 op) ∧ w'.cell? ⟨w.heap.size, 1, none⟩ = some (.string xn) ∧ w'.cell? ⟨w.heap.size, 2, none⟩ = some (.int .i64 xm) ∧ w'.cell? ⟨w.heap.size, 3, none⟩ = some (.slice ca cyc.length ccap) ∧ Below w4.heap.size w4 w')
        (first | exact box4_keep LB.out (by assumption) | exact box4_keep LB.out (Below.refl _ _) | exact box4_keep LB.out (Below.drew (Below.refl _ _)) | exact box4_keep LB.out (Below.drew (by assumption)))
        (first
          | (go_at_call 68; have hP := pick5 (w0 := w4) (by assumption); refine (operandT_any _ cyc _ (isArr_below cycle_keeps HC4 hP (Nat.le_refl _))).mono ?_; rintro e w5 ⟨rfl, hb5⟩; have B5 : Below w4.heap.size w4 w5 := below_next hP hb5)
          | (go_at_call 36; refine (size_is _ _).mono ?_; rintro e w' ⟨rfl, rfl⟩))
      all_goals
        have hBz := pick5 (w0 := w4) (by assumption)
        by_cases q7 : reads cyc = operand xm
        · have t7 : (reads cyc != operand xm) = false := by simp [q7]
          have e := HR4.out
          rw [if_neg (by rw [q7]; simp)] at e
          subst e
          go_wp2_with fail
          go_ret
          exact ⟨rfl, B4.trans (hBz.mono B4.size)⟩
        · have t7 : (reads cyc != operand xm) = true := by simp [q7]
          have e := HR4.out
          rw [if_pos q7] at e
          subst e
          go_wp2_with fail
          go_ret
          exact ⟨rfl, B4.trans (hBz.mono B4.size)⟩
    · have e := HR3.out
      rw [if_pos q6] at e
      subst e
      clear HR3
      have t6 : (cyclesE cyc != 0) = true := by simpa using q6
      go_enter Tryz.func33, Tryz.ntmps33
      go_wp2_with (go_at_call 65; refine (within_any _ _ _ _).mono ?_; rintro e w' ⟨rfl, rfl⟩; rw [e1])
      go_quiet (fail)
      go_wp2_with (first
        | (go_at_call 30; refine (name_is _ _ hg.1).mono ?_; rintro e w' ⟨rfl, rfl⟩; rw [q3])
        | (go_at_call 36; refine (size_is _ _).mono ?_; rintro e w' ⟨rfl, rfl⟩)
        | (go_at_call 67; refine (called_mk _ _ _).mono ?_; rintro e w' ⟨rfl, rfl⟩)
        | (go_at_call 66; refine (HK.out _).mono ?_; rintro e w3 ⟨rfl, k3, hb3⟩; obtain ⟨d0, d1, d2, d3⟩ := cells4 k3)
        | (go_at_call 35; refine (checkCycles_any _ cyc _ (isArr_below cycle_keeps HC.out hb3 (Nat.le_refl _))).mono ?_; rintro e w4 ⟨rfl, hb4⟩))
      go_ret
      exact ⟨rfl, below_next hb3 hb4⟩
end Go.Proofs.YtbgjnegojoaimaaGreatDoor
namespace Go.Proofs.YtbgjnegojoaimaaGreatDoor
open Go.RowKit

/-- The first elements of a slice. -/
theorem isArr_take {α : Type} {k : Nat} {R : World → List Value → α → Prop} {w : World} {a : Option Addr} {cap : Nat} {l : List α} (h : isArr k R w (.slice a l.length cap) l) (i : Nat) (hi : i ≤ l.length) : isArr k R w (.slice a i cap) (l.take i) := by
  rcases h with ⟨a', cap', e, rfl⟩ | ⟨b, off, cap', e, h1, h2, h3, h4⟩
  · have : i = 0 := by simpa using hi
    subst this
    exact .inl ⟨_, _, rfl, rfl⟩
  · cases e
    have hl : (l.take i).length = i := by rw [List.length_take]; omega
    refine .inr ⟨b, off, cap, by rw [hl], h1, by omega, h3, fun j x hx => ?_⟩
    have hj : j < i := by
      have := (List.getElem?_eq_some_iff.1 hx).1
      omega
    rw [List.getElem?_take_of_lt hj] at hx
    exact h4 j x hx

def insE (l : List In) (i : Nat) : Int := match l[i]? with | some x => instrE (l.take i) x | none => 0
theorem insE_some {l : List In} {i : Nat} {x : In} (h : l[i]? = some x) : insE l i = instrE (l.take i) x := by unfold insE; rw [h]
theorem firstE_ins (l : List In) : ∀ m k, k + m = l.length → firstE (insE l) k m = instrsF (l.take k) (l.drop k)
  | 0, k, h => by
    have : l.drop k = [] := List.drop_eq_nil_of_le (by omega)
    rw [this]; rfl
  | m + 1, k, h => by
    obtain ⟨x, hx, hd⟩ := drop_at (l := l) (k := k) (by omega)
    show (if insE l k = 0 then firstE (insE l) (k + 1) m else insE l k) = _
    rw [insE_some hx, hd, firstE_ins l m (k + 1) (by omega), take_next hx]
    rfl
theorem firstE_instrs (l : List In) : firstE (insE l) 0 l.length = instrsF [] l := firstE_ins l l.length 0 (by omega)

theorem five_keep {w w' : World} {p0 p1 p2 p3 p4 : Addr} {v0 v1 v2 v3 v4 : Value} (k0 : w.cell? p0 = some v0) (k1 : w.cell? p1 = some v1) (k2 : w.cell? p2 = some v2) (k3 : w.cell? p3 = some v3) (k4 : w.cell? p4 = some v4) (hb : Below w.heap.size w w') :
    w'.cell? p0 = some v0 ∧ w'.cell? p1 = some v1 ∧ w'.cell? p2 = some v2 ∧ w'.cell? p3 = some v3 ∧ w'.cell? p4 = some v4 ∧ Below w.heap.size w w' := by
  have f : ∀ {p : Addr} {v : Value}, w.cell? p = some v → w'.cell? p = some v := fun {p v} h => by
    rw [hb.cell (p := p) (cell_block h).1]; exact h
  exact ⟨f k0, f k1, f k2, f k3, f k4, hb⟩

set_option maxHeartbeats 1000000 in
/-- The check of one of several instructions, called by its place. -/
theorem instrAt_any (g : Nat) (name : ByteArray) (v v1 v2 v3 : Value) (l : List In) (i : Nat) (w : World) (hi : i < l.length) (hb : w.heap[g]? = some (.cells #[.string name, v, v1, v2, v3] 25 (0, 0))) (h : isArr 4 insR w v l) :
    Calls Tryz.prog 32 #[.int .i64 i, .pointer (some ⟨g, 0, none⟩)] w fun e w' => e = .returned (.int .i64 (insE l i)) ∧ Below w.heap.size w w' := by
  have d1 : w.cell? ⟨g, 1, none⟩ = some v := cell_of_row w g 1 _ _ (0, 0) hb
  obtain ⟨a, cap, rfl, hlen, hform⟩ := isArr_form h
  obtain ⟨x, hx, _⟩ := drop_at hi
  rw [insE_some hx]
  obtain ⟨b, off, rfl, _, hcap, hcap2, cs, _, hcs, u, rfl, hs, hg⟩ := hform i x hx
  obtain ⟨c0, c1, c2, c3⟩ := four_cells hcs
  have HT := Lib.hid (isArr_take h i (by omega))
  have HS := Lib.hid hs
  have K := Lib.hid (fun (w' : World) (hb : Below w.heap.size w w') => five_keep d1 c0 c1 c2 c3 hb)
  obtain ⟨sa, scap, rfl, _, _⟩ := isArr_form hs
  generalize hdone : l.take i = done at *
  have hil : i ≤ cap := by omega
  clear hcs hform hx hb h hs
  go_enter Tryz.func32, Tryz.ntmps32
  go_wp2_with fail
  go_region_held3 (fun w' => w'.cell? ⟨g, 1, none⟩ = some (.slice (some ⟨b, off, none⟩) l.length cap) ∧ w'.cell? ⟨b, off + i * 4, none⟩ = some (.int .i64 x.op) ∧ w'.cell? ⟨b, off + i * 4 + 1, none⟩ = some (.string x.name) ∧ w'.cell? ⟨b, off + i * 4 + 2, none⟩ = some (.int .i64 x.mode) ∧ w'.cell? ⟨b, off + i * 4 + 3, none⟩ = some (.slice sa x.cycles.length scap) ∧ Below w.heap.size w w')
    (first | exact K.out _ (by assumption) | exact K.out _ (Below.refl _ _) | exact K.out _ (Below.drew (Below.refl _ _)) | exact K.out _ (Below.drew (by assumption)))
    (first | (go_at_call 33; have hP := pick6 (w0 := w) (by assumption); refine (checkInstr_any done x _ _ _ (isArr_below ins_keeps HT.out hP (Nat.le_refl _)) (isArr_below cycle_keeps HS.out hP (Nat.le_refl _)) hg).mono ?_; rintro e w5 ⟨rfl, hb5⟩; have B5 : Below w.heap.size w w5 := below_next hP hb5))
  all_goals
    go_wp2_with fail
    go_ret
    exact ⟨rfl, B5⟩

/-- The check of one of the answers, called by its place. -/
theorem answerAt_any (g g3 : Nat) (v1 v2 v3 : Value) (c : Cp) (i : Nat) (w : World) (hi : i < 3) (hb : w.heap[g]? = some (.cells #[.slice (some ⟨g3, 0, none⟩) 3 3] 51 (0, 0)))
    (h3 : w.heap[g3]? = some (.cells #[v1, v2, v3] 23 (0, 0))) (k1 : isArr 4 cycleR w v1 c.res) (k2 : isArr 4 cycleR w v2 c.irq) (k3 : isArr 4 cycleR w v3 c.nmi) :
    Calls Tryz.prog 34 #[.int .i64 i, .pointer (some ⟨g, 0, none⟩)] w fun e w' => e = .returned (.int .i64 (if i = 0 then cyclesE c.res else if i = 1 then cyclesE c.irq else cyclesE c.nmi)) ∧ Below w.heap.size w w' := by
  have d0 := cell_of_row w g 0 _ _ (0, 0) hb
  have c0 : w.cell? ⟨g3, 0, none⟩ = some v1 := cell_of_row w g3 0 _ _ (0, 0) h3
  have c1 : w.cell? ⟨g3, 1, none⟩ = some v2 := cell_of_row w g3 1 _ _ (0, 0) h3
  have c2 : w.cell? ⟨g3, 2, none⟩ = some v3 := cell_of_row w g3 2 _ _ (0, 0) h3
  obtain ⟨a1, p1, rfl, _, _⟩ := isArr_form k1
  obtain ⟨a2, p2, rfl, _, _⟩ := isArr_form k2
  obtain ⟨a3, p3, rfl, _, _⟩ := isArr_form k3
  clear hb h3
  match i, hi with
  | 0, _ =>
    go_enter Tryz.func34, Tryz.ntmps34
    go_wp2_with (go_at_call 35; refine (checkCycles_any _ c.res _ k1).mono ?_; rintro e w1 ⟨rfl, hb1⟩)
    go_ret
    exact ⟨rfl, hb1⟩
  | 1, _ =>
    go_enter Tryz.func34, Tryz.ntmps34
    go_wp2_with (go_at_call 35; refine (checkCycles_any _ c.irq _ k2).mono ?_; rintro e w1 ⟨rfl, hb1⟩)
    go_ret
    exact ⟨rfl, hb1⟩
  | 2, _ =>
    go_enter Tryz.func34, Tryz.ntmps34
    go_wp2_with (go_at_call 35; refine (checkCycles_any _ c.nmi _ k3).mono ?_; rintro e w1 ⟨rfl, hb1⟩)
    go_ret
    exact ⟨rfl, hb1⟩

def ansE (c : Cp) (i : Nat) : Int := if i = 0 then cyclesE c.res else if i = 1 then cyclesE c.irq else cyclesE c.nmi
theorem firstE_ans (c : Cp) : firstE (ansE c) 0 3 = if cyclesE c.res ≠ 0 then cyclesE c.res else if cyclesE c.irq ≠ 0 then cyclesE c.irq else cyclesE c.nmi := by
  show (if cyclesE c.res = 0 then if cyclesE c.irq = 0 then if cyclesE c.nmi = 0 then 0 else cyclesE c.nmi else cyclesE c.irq else cyclesE c.res) = _
  by_cases h1 : cyclesE c.res = 0 <;> by_cases h2 : cyclesE c.irq = 0 <;> by_cases h3 : cyclesE c.nmi = 0 <;> simp [h1, h2, h3]

theorem answers_first (c : Cp) (v1 v2 v3 : Value) (w : World) (k1 : isArr 4 cycleR w v1 c.res) (k2 : isArr 4 cycleR w v2 c.irq) (k3 : isArr 4 cycleR w v3 c.nmi) (g : Nat) (hg : w.heap.size = g) :
    Calls Tryz.prog 31 #[.int .i64 3, .func (.func 34) #[] #[.pointer (some ⟨g + 1, 0, none⟩)]] ((w.alloc (.cells #[v1, v2, v3] 23)).alloc (.cells #[.slice (some ⟨g, 0, none⟩) 3 3] 51)) fun e w' =>
      e = .returned (.int .i64 (if cyclesE c.res ≠ 0 then cyclesE c.res else if cyclesE c.irq ≠ 0 then cyclesE c.irq else cyclesE c.nmi)) ∧ Below w.heap.size w w' := by
  subst hg
  rw [← firstE_ans]
  have hA : Below w.heap.size w ((w.alloc (.cells #[v1, v2, v3] 23)).alloc (.cells #[.slice (some ⟨w.heap.size, 0, none⟩) 3 3] 51)) := below_two _ _ _
  have h3 := box_alloc (p := .cells #[.slice (some ⟨w.heap.size, 0, none⟩) 3 3] 51) (heap_alloc_new w (.cells #[v1, v2, v3] 23))
  have hb := heap_alloc_new (w.alloc (.cells #[v1, v2, v3] 23)) (.cells #[.slice (some ⟨w.heap.size, 0, none⟩) 3 3] 51)
  rw [World.size_alloc] at hb
  refine (first_at 34 (.pointer (some ⟨w.heap.size + 1, 0, none⟩)) 3 (ansE c) _ (by decide) (enters_of Tryz.func34 (by kernel_rfl) rfl) (fun i hi w' hw => ?_)).mono ?_
  · have hB := hA.trans (hw.mono hA.size)
    exact answerAt_any (w.heap.size + 1) w.heap.size v1 v2 v3 c i w' hi (keep_below hb hw (Nat.le_refl _)) (keep_below h3 hw (Nat.le_refl _))
      (isArr_below cycle_keeps k1 hB (Nat.le_refl _)) (isArr_below cycle_keeps k2 hB (Nat.le_refl _)) (isArr_below cycle_keeps k3 hB (Nat.le_refl _))
  · rintro e w' ⟨rfl, hw⟩
    exact ⟨rfl, hA.trans (hw.mono hA.size)⟩

theorem instrs_first (c : Cp) (v0 v1 v2 v3 : Value) (w : World) (h0 : isArr 4 insR w v0 c.instrs) (hl : c.instrs.length ≤ 9223372036854775807) :
    Calls Tryz.prog 31 #[.int .i64 c.instrs.length, .func (.func 32) #[] #[.pointer (some ⟨w.heap.size, 0, none⟩)]] (w.alloc (.cells #[.string c.name, v0, v1, v2, v3] 25)) fun e w' =>
      e = .returned (.int .i64 (instrsF [] c.instrs)) ∧ w'.heap[w.heap.size]? = some (.cells #[.string c.name, v0, v1, v2, v3] 25 (0, 0)) ∧ Below w.heap.size w w' := by
  rw [← firstE_instrs]
  have hA : Below w.heap.size w (w.alloc (.cells #[.string c.name, v0, v1, v2, v3] 25)) := (Below.refl _ w).alloc (Nat.le_refl _) _
  have hb := heap_alloc_new w (.cells #[.string c.name, v0, v1, v2, v3] 25)
  refine (first_at 32 (.pointer (some ⟨w.heap.size, 0, none⟩)) c.instrs.length (insE c.instrs) _ hl (enters_of Tryz.func32 (by kernel_rfl) rfl) (fun i hi w' hw => ?_)).mono ?_
  · exact instrAt_any w.heap.size c.name v0 v1 v2 v3 c.instrs i w' hi (keep_below hb hw (Nat.le_refl _)) (isArr_below ins_keeps h0 (hA.trans (hw.mono hA.size)) (Nat.le_refl _))
  · rintro e w' ⟨rfl, hw⟩
    exact ⟨rfl, keep_below hb hw (Nat.le_refl _), hA.trans (hw.mono hA.size)⟩

set_option maxRecDepth 100000 in
set_option maxHeartbeats 2000000 in
theorem check_any (c : Cp) (v0 v1 v2 v3 : Value) (w : World) (h : cpuArg w v0 v1 v2 v3 c) :
    Calls Tryz.prog 6 #[.agg #[.string c.name, v0, v1, v2, v3]] w fun e w' => e = .returned (.int .i64 (cpuE c)) ∧ Below w.heap.size w w' := by
  have hmf := mkFunc
  obtain ⟨h0, h1, h2, h3, hn⟩ := h
  have h1' := h1
  have h2' := h2
  have h3' := h3
  have HI := Lib.hid (instrs_first c v0 v1 v2 v3 w h0)
  obtain ⟨a, cap, rfl, hlen, _⟩ := isArr_form h0
  obtain ⟨a1, cap1, rfl, _, _⟩ := isArr_form h1'
  obtain ⟨a2, cap2, rfl, _, _⟩ := isArr_form h2'
  obtain ⟨a3, cap3, rfl, _, _⟩ := isArr_form h3'
  clear h1' h2' h3' h0
  have hbA : ∀ o, Below w.heap.size w (w.alloc o) := fun o => (Below.refl _ w).alloc (Nat.le_refl _) o
  have hl : c.instrs.length ≤ 9223372036854775807 := by
    rcases Nat.eq_zero_or_pos c.instrs.length with h | h
    · omega
    · exact hlen h
  cases q1 : nameB c.name
  · have e : cpuE c = 15 := by unfold cpuE; rw [if_pos q1]
    rw [e]
    clear HI
    go_enter Tryz.func6, Tryz.ntmps6
    go_wp2_with (go_at_call 30; refine (name_is _ _ hn).mono ?_; rintro e w' ⟨rfl, rfl⟩; rw [q1])
    go_ret
    exact ⟨rfl, hbA _⟩
  by_cases q2 : 256 < c.instrs.length
  · have e : cpuE c = 2 := by unfold cpuE; rw [if_neg (by rw [q1]; decide), if_pos q2]
    rw [e]
    clear HI
    go_enter Tryz.func6, Tryz.ntmps6
    go_wp2_with (go_at_call 30; refine (name_is _ _ hn).mono ?_; rintro e w' ⟨rfl, rfl⟩; rw [q1])
    go_ret
    exact ⟨rfl, hbA _⟩
  have e : cpuE c = if instrsF [] c.instrs ≠ 0 then instrsF [] c.instrs else if cyclesE c.res ≠ 0 then cyclesE c.res else if cyclesE c.irq ≠ 0 then cyclesE c.irq else cyclesE c.nmi := by
    unfold cpuE; rw [if_neg (by rw [q1]; decide), if_neg q2]
  rw [e]
  clear e
  by_cases q3 : instrsF [] c.instrs = 0
  · rw [if_neg (by rw [q3]; decide)]
    rw [q3] at HI
    obtain ⟨R, hR⟩ : ∃ R, (if cyclesE c.res ≠ 0 then cyclesE c.res else if cyclesE c.irq ≠ 0 then cyclesE c.irq else cyclesE c.nmi) = R := ⟨_, rfl⟩
    rw [hR]
    have HR := Lib.hid hR
    have H1 := Lib.hid h1
    have H2 := Lib.hid h2
    have H3 := Lib.hid h3
    clear hR h1 h2 h3
    go_enter Tryz.func6, Tryz.ntmps6
    go_wp2_with (first
      | (go_at_call 30; refine (name_is _ _ hn).mono ?_; rintro e w' ⟨rfl, rfl⟩; rw [q1])
      | (go_at_call 31; with_reducible refine (HI.out hl).mono ?_; rintro e w1 ⟨rfl, k1, hb1⟩; have d2 := cell_of_row w1 w.heap.size 2 _ _ (0, 0) k1; have d3 := cell_of_row w1 w.heap.size 3 _ _ (0, 0) k1; have d4 := cell_of_row w1 w.heap.size 4 _ _ (0, 0) k1)
      | (go_at_call 31; refine (answers_first c _ _ _ w1 (isArr_below cycle_keeps H1.out hb1 (Nat.le_refl _)) (isArr_below cycle_keeps H2.out hb1 (Nat.le_refl _)) (isArr_below cycle_keeps H3.out hb1 (Nat.le_refl _)) _ rfl).mono ?_; rintro e w2 ⟨rfl, hb2⟩; rw [HR.out]))
    go_ret
    exact ⟨rfl, below_next hb1 hb2⟩
  · rw [if_pos q3]
    have t3 : (instrsF [] c.instrs != 0) = true := by simpa using q3
    go_enter Tryz.func6, Tryz.ntmps6
    go_wp2_with (first
      | (go_at_call 30; refine (name_is _ _ hn).mono ?_; rintro e w' ⟨rfl, rfl⟩; rw [q1])
      | (go_at_call 31; refine (HI.out hl).mono ?_; rintro e w1 ⟨rfl, k1, hb1⟩))
    go_ret
    exact ⟨rfl, hb1⟩
end Go.Proofs.YtbgjnegojoaimaaGreatDoor
namespace Go.Proofs.YtbgjnegojoaimaaGreatDoor
open Go.RowKit

theorem check_bare (s : ByteArray) (w : World) (h : s.size ≤ 9223372036854775807) :
    Calls Tryz.prog 6 #[.agg #[.string s, .slice none 0 0, .slice none 0 0, .slice none 0 0, .slice none 0 0]] w fun e w' => e = .returned (.int .i64 (cpuE ⟨s, [], [], [], []⟩)) ∧ Below w.heap.size w w' :=
  check_any ⟨s, [], [], [], []⟩ _ _ _ _ w (cpuArg_bare w s h)

theorem tables_law (w : World) :
    Calls Tryz.prog 7 #[] w fun e w' => e = .returned (.bool true) ∧ Below w.heap.size w w' := by
  have e1 : operand 4 = 2 := by decide
  have e2 : cpuE ⟨⟨#[]⟩, [], [], [], []⟩ = 15 := by decide +kernel
  have e3 : cpuE ⟨⟨#[97]⟩, [], [], [], []⟩ = 0 := by decide +kernel
  have z1 : (⟨#[]⟩ : ByteArray).size ≤ 9223372036854775807 := by decide
  have z2 : (⟨#[97]⟩ : ByteArray).size ≤ 9223372036854775807 := by decide
  go_enter Tryz.func7, Tryz.ntmps7
  go_wp2_with (first
    | (go_at_call 36; refine (size_any _ _).mono ?_; rintro e w1 ⟨rfl, hb1⟩; rw [e1])
    | (go_at_call 6; with_reducible refine (check_bare ⟨#[]⟩ _ z1).mono ?_; rintro e w2 ⟨rfl, hb2⟩; rw [e2])
    | (go_at_call 6; with_reducible refine (check_bare ⟨#[97]⟩ _ z2).mono ?_; rintro e w3 ⟨rfl, hb3⟩; rw [e3]))
  go_ret
  exact ⟨rfl, hb1.trans ((hb2.mono hb1.size).trans (hb3.mono (Nat.le_trans hb1.size hb2.size)))⟩

end Go.Proofs.YtbgjnegojoaimaaGreatDoor
