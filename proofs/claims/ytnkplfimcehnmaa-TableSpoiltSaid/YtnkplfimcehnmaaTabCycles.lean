/- The contract of the reference's CyclesErr. -/
import Derived.Test.YtnkplfimcehnmaaTabRefs
namespace Go.Proofs.Ytnkplfimcehnmaa
open Go.RowKit

set_option maxRecDepth 100000 in
set_option maxHeartbeats 4000000 in
theorem cyclesErr_any (v : Value) (l : List Cy) (w : World) (h : isArr 4 cycleR w v l) :
    Calls Try.prog 43 #[v] w fun e w' => e = .returned (.int .i64 (cyclesE l)) ∧ Below w.heap.size w w' := by
  obtain ⟨a, cap, rfl, _, hform⟩ := isArr_form h
  by_cases h8 : 8 < l.length
  · have e : cyclesE l = 2 := by unfold cyclesE; rw [if_pos h8]
    rw [e]
    go_enter Try.func43, Try.ntmps43
    go_wp2_with fail
    go_ret
    exact ⟨rfl, Below.refl _ _⟩
  · have e : cyclesE l = cyclesF l := by unfold cyclesE; rw [if_neg h8]
    rw [e]
    clear e
    go_enter Try.func43, Try.ntmps43
    go_wp2_with fail
    go_loopw [13] (fun i wr => ∃ k : Nat, k ≤ l.length ∧ i = .int .i64 k ∧ cyclesF l = cyclesF (l.drop k) ∧ Below w.heap.size w wr) (fun i _ => l.length - (intOf i).toNat)
    case atStart => exact ⟨0, Nat.zero_le _, rfl, rfl, Below.refl _ _⟩
    case round =>
      obtain ⟨k, hk, rfl, hF, hbel⟩ := hrel
      obtain ⟨wo, rfl⟩ : ∃ wo, wo = wr := ⟨_, rfl⟩
      have hsz := hbel.size
      by_cases hlt : k < l.length
      · obtain ⟨c, hx, hd⟩ := drop_at hlt
        obtain ⟨b, off, rfl, hb, hcap, hcap2, cs, _, hcs, vs, rfl, hs⟩ := hform k c hx
        obtain ⟨c0, c1, c2, c3⟩ := four_cells hcs
        rw [← hbel.cell (p := ⟨b, off + k * 4, none⟩) hb] at c0
        rw [← hbel.cell (p := ⟨b, off + k * 4 + 1, none⟩) hb] at c1
        rw [← hbel.cell (p := ⟨b, off + k * 4 + 2, none⟩) hb] at c2
        rw [← hbel.cell (p := ⟨b, off + k * 4 + 3, none⟩) hb] at c3
        rw [hd] at hF
        have HF := Lib.hid hF
        obtain ⟨bus, place, reg, steps⟩ := c
        dsimp only at c0 c1 c2 c3 hs
        obtain ⟨sa, scap, rfl, _, sform⟩ := isArr_form hs
        clear hF hd hx hcs hform h hs
        have hbus : ¬ (bus ≠ 0 ∧ bus ≠ 1 ∧ bus ≠ 2) → ¬ (bus = 0 ∧ (place ≠ 0 ∨ reg ≠ 0)) → (bus = 0 ∧ place = 0 ∧ reg = 0) ∨ bus = 1 ∨ bus = 2 := fun _ _ => by omega
        have hfin : ∀ o, Below w.heap.size w (wo.alloc o) := fun o => hbel.alloc hsz o
        by_cases g1 : bus ≠ 0 ∧ bus ≠ 1 ∧ bus ≠ 2
        · have HR := Lib.hid (show cyclesF l = 8 by
            rw [HF.out]; simp only [cyclesF, cycleE]; rw [if_pos g1]; rfl)
          have t0 : (bus != 0) = true := by simpa using g1.1
          have t1 : (bus != 1) = true := by simpa using g1.2.1
          have t2 : (bus != 2) = true := by simpa using g1.2.2
          clear HF
          go_wp2_with fail
          go_ret
          exact ⟨ret_int HR.out.symm, hfin _⟩
        by_cases g2 : bus = 0 ∧ (place ≠ 0 ∨ reg ≠ 0)
        · have HR := Lib.hid (show cyclesF l = 3 by
            rw [HF.out]; simp only [cyclesF, cycleE]; rw [if_neg g1, if_pos g2]; rfl)
          clear HF
          obtain ⟨rfl, g3⟩ := g2
          cases t3 : (place != 0)
          · have t4 : (reg != 0) = true := by simp at t3 ⊢; omega
            go_wp2_with fail
            go_ret
            exact ⟨ret_int HR.out.symm, hfin _⟩
          · go_wp2_with fail
            go_ret
            exact ⟨ret_int HR.out.symm, hfin _⟩
        have hbus := hbus g1 g2
        by_cases g3 : place < 0 ∨ 11 < place ∨ nar reg = false
        · have HR := Lib.hid (show cyclesF l = 1 by
            rw [HF.out]; simp only [cyclesF, cycleE]; rw [if_neg g1, if_neg g2, if_pos g3]; rfl)
          clear HF
          rcases hbus with ⟨rfl, rfl, rfl⟩ | rfl | rfl
          · rcases g3 with h | h | h
            · omega
            · omega
            · cases h
          all_goals
            rcases g3 with h | h | h
            all_goals
              go_wp2_with (go_at_call 63; refine (narrow_any _ _).mono ?_; rintro e w' ⟨rfl, rfl⟩)
              all_goals
                go_ret
                exact ⟨ret_int HR.out.symm, hfin _⟩
        have hE : cycleE ⟨bus, place, reg, steps⟩ = if 6 < steps.length then 2 else stepsE steps := by
          simp only [cycleE]; rw [if_neg g1, if_neg g2, if_neg g3]
        have p0 : 0 ≤ place := by omega
        have p1 : place ≤ 11 := by omega
        have p2 : nar reg = true := by cases e : nar reg; exact absurd (.inr (.inr e)) g3; rfl
        by_cases h6 : 6 < steps.length
        · have HR := Lib.hid (show cyclesF l = 2 by
            rw [HF.out]; simp only [cyclesF]; rw [hE, if_pos h6]; rfl)
          clear HF hE sform g1 g2 g3
          rcases hbus with ⟨rfl, rfl, rfl⟩ | rfl | rfl
          all_goals
            go_wp2_with (go_at_call 63; refine (narrow_any _ _).mono ?_; rintro e w' ⟨rfl, rfl⟩)
            go_ret
            exact ⟨ret_int HR.out.symm, hfin _⟩
        · rw [if_neg h6] at hE
          have HE := Lib.hid (show cyclesF l = if stepsE steps = 0 then cyclesF (l.drop (k + 1)) else stepsE steps by
            rw [HF.out]; simp only [cyclesF]; rw [hE])
          clear HF hE g1 g2 g3
          rcases hbus with ⟨rfl, rfl, rfl⟩ | rfl | rfl
          all_goals
            go_wp2_with (go_at_call 63; refine (narrow_any _ _).mono ?_; rintro e w' ⟨rfl, rfl⟩)
            go_loopw [68] (fun i w2 => ∃ m : Nat, m ≤ steps.length ∧ i = .int .i64 m ∧ stepsE steps = stepsE (steps.drop m) ∧ Below w.heap.size w w2) (fun i _ => steps.length - (intOf i).toNat)
            case atStart => exact ⟨0, Nat.zero_le _, rfl, rfl, hfin _⟩
            case round =>
              obtain ⟨m, hm, rfl, hS, hbel2⟩ := hrel
              have hsz2 := hbel2.size
              by_cases hmlt : m < steps.length
              · obtain ⟨q, hq, hdq⟩ := drop_at hmlt
                obtain ⟨b2, off2, rfl, hb2, hcp, hcp2, cs2, _, hcs2, rfl⟩ := sform m q hq
                obtain ⟨d0, d1, d2, d3⟩ := four_cells hcs2
                rw [← hbel2.cell (p := ⟨b2, off2 + m * 4, none⟩) hb2] at d0
                rw [← hbel2.cell (p := ⟨b2, off2 + m * 4 + 1, none⟩) hb2] at d1
                rw [← hbel2.cell (p := ⟨b2, off2 + m * 4 + 2, none⟩) hb2] at d2
                rw [← hbel2.cell (p := ⟨b2, off2 + m * 4 + 3, none⟩) hb2] at d3
                rw [hdq, stepsE_cons] at hS
                have HS := Lib.hid hS
                clear hS hdq hq hcs2 sform c0 c1 c2 c3
                by_cases hq0 : stepE q = 0
                · have HS2 := Lib.hid (show stepsE steps = stepsE (steps.drop (m + 1)) by rw [HS.out, if_pos hq0])
                  go_wp2_with (go_at_call 64; refine (stepErr_any q _).mono ?_; rintro e w3 ⟨rfl, hb3⟩)
                  go_roundw
                  case rel => exact ⟨m + 1, by omega, by go_num, HS2.out, (hbel2.alloc hsz2 _).trans (hb3.mono (by simp; omega))⟩
                  case measure => simp [intOf]; omega
                · have HR := Lib.hid (show cyclesF l = stepE q by rw [HE.out, HS.out, if_neg hq0, if_neg hq0])
                  have t5 : (stepE q != 0) = true := by simpa using hq0
                  go_wp2_with (go_at_call 64; refine (stepErr_any q _).mono ?_; rintro e w3 ⟨rfl, hb3⟩)
                  go_ret
                  exact ⟨ret_int HR.out.symm, (hbel2.alloc hsz2 _).trans (hb3.mono (by simp; omega))⟩
              · obtain rfl : m = steps.length := by omega
                rw [List.drop_length] at hS
                have HR := Lib.hid (show cyclesF l = cyclesF (l.drop (k + 1)) by rw [HE.out, hS]; rfl)
                clear hS HE sform
                go_wp2_with fail
                go_roundw
                case rel => exact ⟨k + 1, by omega, by go_num, HR.out, hbel2⟩
                case measure => simp [intOf]; omega
      · obtain rfl : k = l.length := by omega
        have HR := Lib.hid (show cyclesF l = 0 by rw [hF, List.drop_length]; rfl)
        clear hF hform h
        go_wp2_with fail
        go_ret
        exact ⟨ret_int HR.out.symm, hbel⟩
end Go.Proofs.Ytnkplfimcehnmaa
