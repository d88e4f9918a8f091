/- The maker of cycles: the first two loops. -/
import Derived.Test.YtnkplfimcehnmaaMakeSteps
import Derived.Deep.DeepCutAuto
namespace Go.Proofs.Ytnkplfimcehnmaa
open Go.RowKit

/-- What the first two loops make: valid cycles without steps, of which the first m read at PC. -/
def plainCy (m : Nat) (cs : List Cy) : Prop := (∀ c ∈ cs, cycleE c = 0 ∧ c.steps = []) ∧ reads cs = m
theorem reads_snoc (cs : List Cy) (c : Cy) : reads (cs ++ [c]) = reads cs + if (c.bus == 1 && c.place == 0) = true then 1 else 0 := by
  unfold reads
  rw [List.countP_append]
  simp [List.countP_cons]
  split <;> rfl
theorem plain_read {m : Nat} {cs : List Cy} (h : plainCy m cs) {r : Int} (h0 : 0 ≤ r) (h1 : r < 7 ∨ r = 0) : plainCy (m + 1) (cs ++ [⟨1, 0, r, []⟩]) := by
  refine ⟨fun c hc => ?_, ?_⟩
  · rcases List.mem_append.1 hc with hc | hc
    · exact h.1 c hc
    · simp only [List.mem_singleton] at hc
      subst hc
      refine ⟨?_, rfl⟩
      have hn : nar r = true := by unfold nar; simp; omega
      simp [cycleE, hn, stepsE]
  · rw [reads_snoc, h.2]
    simp
theorem plain_more {m : Nat} {cs : List Cy} (h : plainCy m cs) {b p r : Int} (hb : (b = 0 ∧ p = 0 ∧ r = 0) ∨ ((b = 1 ∨ b = 2) ∧ 1 ≤ p ∧ p ≤ 11 ∧ 0 ≤ r ∧ r ≤ 6)) : plainCy m (cs ++ [⟨b, p, r, []⟩]) := by
  refine ⟨fun c hc => ?_, ?_⟩
  · rcases List.mem_append.1 hc with hc | hc
    · exact h.1 c hc
    · simp only [List.mem_singleton] at hc
      subst hc
      refine ⟨?_, rfl⟩
      rcases hb with ⟨rfl, rfl, rfl⟩ | ⟨h1, h2, h3, h4, h5⟩
      · rfl
      · have hn : nar r = true := by unfold nar; simp; omega
        unfold cycleE
        rw [if_neg (by show ¬ (b ≠ 0 ∧ b ≠ 1 ∧ b ≠ 2); omega), if_neg (by show ¬ (b = 0 ∧ (p ≠ 0 ∨ r ≠ 0)); omega), if_neg (by show ¬ (p < 0 ∨ 11 < p ∨ nar r = false); rw [hn]; simp; omega), if_neg (by show ¬ 6 < 0; decide)]
        rfl
  · rw [reads_snoc, h.2, if_neg]
    · omega
    · simp
      omega

theorem one_cycle_at (wr : World) (b p r : Int) (s : Nat) (e : wr.heap.size = s) : isArr 4 (fun _ => R0) (wr.alloc (.cells #[.int .i64 b, .int .i64 p, .int .i64 r, .slice none 0 0] 74)) (.slice (some ⟨s, 0, none⟩) 1 1) [⟨b, p, r, []⟩] := by
  subst e; exact one_cycle wr b p r

set_option maxRecDepth 100000 in
set_option maxHeartbeats 4000000 in
theorem cycles_made (w0 : World) (g : Nat) (l : List Int) (n : Nat) (hn : n ≤ 2) (w : World) (h : stream w0 w g l) (hg : g < w.heap.size) :
    Calls Try.prog 32 #[.pointer (some ⟨g, 0, none⟩), .int .i64 n] w fun e w' =>
      ∃ u cs, e = .returned u ∧ freshArr w.heap.size w' u cs ∧ okCy n cs ∧ cs.length ≤ 5 ∧ w.grownBy w' (some g) ∧ ∃ l', stream w0 w' g l' := by
  obtain ⟨i, i1, i2, i3, i4⟩ := infoCs
  have M0 : making w0 w g w (.slice none 0 0) [] := ⟨ownArr_nil _ _ _ _ _, World.grownBy.refl _ _, l, h⟩
  go_enter Try.func32, Try.ntmps32
  go_wp2_with fail
  go_loopw [5, 9] (fun v i wr => ∃ (k : Nat) (cs : List Cy), k ≤ n ∧ i = .int .i64 k ∧ cs.length = k ∧ plainCy k cs ∧ making w0 w g wr v cs) (fun _ i _ => n - (intOf i).toNat)
  case atStart => exact ⟨0, [], Nat.zero_le _, rfl, rfl, ⟨(fun c hc => by cases hc), rfl⟩, M0⟩
  case round =>
    obtain ⟨k, cs, hk, rfl, hlen, hpl, hM⟩ := hrel
    by_cases hlt : k < n
    · have HP := Lib.hid (fun r h0 h1 => plain_read hpl (r := r) h0 h1)
      have hM' := hM
      clear hpl h
      go_wp2_with (first
        | (go_at_call 31; refine (next_making w0 w g hg 7 (by decide) _ _ _ hM).mono ?_; rintro e w1 ⟨r, rfl, r0, r1, M1, -, -⟩)
        | (at_builtin; refine wpList_append_arr2 rfl _ _ 24 rfl 74 4 48 i _ Try.underlying24 i1 i2 i3 i4 rfl (by decide) R0_one w.heap.size _ _ rfl rfl cs [⟨1, 0, r, []⟩] (making_alloc M1 _).1 (one_cycle w1 1 0 r) ?c1 ?c2 ?c3 ?_))
      case c1 => simp only [List.length_cons, List.length_nil, maxLen]; omega
      case c2 => simp only [List.length_cons, List.length_nil]; omega
      case c3 => exact Nat.le_trans M1.2.1.size (by simp)
      intro v' w2 hown2 hgr2
      have M2 := making_more (making_alloc M1 _) hg hown2 hgr2
      go_wp2_with fail
      go_roundw
      case rel => exact ⟨k + 1, cs ++ [⟨1, 0, r, []⟩], by omega, by go_num, by simp [hlen], HP.out r r0 r1, M2⟩
      case measure => simp [intOf]; omega
    · obtain rfl : k = n := by omega
      clear h
      go_wp2_with (go_at_call 31; refine (next_making w0 w g hg 4 (by decide) _ _ _ hM).mono ?_; rintro e w1 ⟨r, rfl, r0, r1, M1, -, -⟩)
      obtain ⟨R, rfl⟩ : ∃ R : Nat, r = (R : Int) := ⟨r.toNat, by omega⟩
      have hR : R ≤ 3 := by omega
      clear r0 r1 hM
      go_loopw [5, 20] (fun v i wr => ∃ (q : Nat) (ds : List Cy), q ≤ R ∧ i = .int .i64 q ∧ ds.length = k + q ∧ plainCy k ds ∧ making w0 w g wr v ds) (fun _ i _ => R - (intOf i).toNat)
      case atStart => exact ⟨0, cs, Nat.zero_le _, rfl, hlen, hpl, M1⟩
      case round =>
        clear M1 hlen hpl
        obtain ⟨q, ds, hq, rfl, hlen, hpl, hM⟩ := hrel
        by_cases hlt2 : q < R
        · have HP := Lib.hid (fun b p r h => plain_more hpl (b := b) (p := p) (r := r) h)
          clear hpl
          go_wp2_with (first
            | (go_at_call_of 31 (Value.int .i64 3); refine (next_making w0 w g hg 3 (by decide) _ _ _ hM).mono ?_; rintro e w1 ⟨b, rfl, b0, b1, M1, -, -⟩; have B1 := M1.2.1.size; have N1 := making_ne M1)
            | (go_at_call_of 31 (Value.int .i64 11); refine (next_making w0 w g hg 11 (by decide) _ _ _ (making_alloc M1 _)).mono ?_; rintro e w3 ⟨a, rfl, a0, a1, M3, G3, -⟩; have k3 := keep_grown (heap_alloc_new w1 _) G3 (by intro e; cases e; omega))
            | (go_at_call_of 31 (Value.int .i64 7); refine (next_making w0 w g hg 7 (by decide) _ _ _ M3).mono ?_; rintro e w4 ⟨rr, rfl, s0, s1, M4, G4, -⟩; have k4 := keep_grown k3 G4 (by intro e; cases e; omega); have z1 := frozenB k4 1; have z2 := frozenB k4 2; obtain ⟨y0, y1, y2, y3⟩ := cells4 k4)
            | (at_builtin; refine wpList_append_arr2 rfl _ _ 24 rfl 74 4 48 i _ Try.underlying24 i1 i2 i3 i4 rfl (by decide) R0_one w.heap.size _ _ rfl rfl ds [⟨b, 1 + a, rr, []⟩] (making_alloc (making_set (making_set M4 hg B1 N1 _ _) hg B1 N1 _ _) _).1 (one_cycle_at _ b (1 + a) rr _ (by simp)) (by simp only [List.length_cons, List.length_nil, maxLen]; omega) (by simp only [List.length_cons, List.length_nil]; omega) (by have := M4.2.1.size; simp; omega) ?_)
            | (at_builtin; refine wpList_append_arr2 rfl _ _ 24 rfl 74 4 48 i _ Try.underlying24 i1 i2 i3 i4 rfl (by decide) R0_one w.heap.size _ _ rfl rfl ds [⟨b, 0, 0, []⟩] (making_alloc (making_alloc M1 _) _).1 (one_cycle_at _ b 0 0 _ (by simp)) (by simp only [List.length_cons, List.length_nil, maxLen]; omega) (by simp only [List.length_cons, List.length_nil]; omega) (by simp; omega) ?_))
          all_goals intro v' w5 hown5 hgr5
          · have M5 := making_more (making_alloc (making_set (making_set M4 hg B1 N1 _ _) hg B1 N1 _ _) _) hg hown5 hgr5
            have hbn : b ≠ 0 := by first | assumption | (have h : (b != 0) = true := by assumption
                                                         simpa using h)
            have HQ := Lib.hid (HP.out b (1 + a) rr (.inr (by omega)))
            go_wp2_with fail
            go_roundw
            case rel => exact ⟨q + 1, _, by omega, by go_num, by simp [hlen]; omega, HQ.out, M5⟩
            case measure => simp [intOf]; omega
          · have M5 := making_more (making_alloc (making_alloc M1 _) _) hg hown5 hgr5
            have hbn : b = 0 := by first | assumption | (have h : (b != 0) = false := by assumption
                                                         simpa using h) | (have h : ¬ (b != 0) = true := by assumption
                                                                           simpa using h)
            have HQ := Lib.hid (HP.out b 0 0 (.inl (by omega)))
            go_wp2_with fail
            go_roundw
            case rel => exact ⟨q + 1, _, by omega, by go_num, by simp [hlen]; omega, HQ.out, M5⟩
            case measure => simp [intOf]; omega
        · obtain rfl : q = R := by omega
          have hok : okCy k ds := ⟨fun c hc => ⟨(hpl.1 c hc).1, by rw [(hpl.1 c hc).2]; decide⟩, hpl.2⟩
          have hlen5 : ds.length ≤ 5 := by omega
          have hG := hM.2.1
          have hS := hM.2.2
          rcases made_of hM with ⟨rfl, rfl⟩ | ⟨bu, cap, rfl, hcap, hcap2, hbu, hA⟩
          · clear hlen hpl M0 i1 i2 i3 i4
            go_wp2_with fail
            refine wp_loop_rounds 1 ?_
            rw [rounds_succ]
            go_wp2_with fail
            go_ret
            exact ⟨_, [], rfl, freshArr_nil _ _ _ _, hok, by decide, hG, hS⟩
          · clear hpl hM
            obtain ⟨N, hN⟩ : ∃ N, ds.length = N := ⟨_, rfl⟩
            rw [hN] at hcap hlen5 ⊢
            go_wp2_with fail
            go_loopw [42] (fun i wr => ∃ (j : Nat) (es : List Cy), j ≤ N ∧ i = .int .i64 j ∧ es.length = N ∧ okCy k es ∧ madeArr wr w.heap.size bu es j ∧ w.grownBy wr (some g) ∧ ∃ l, stream w0 wr g l) (fun i _ => N - (intOf i).toNat)
            case atStart => exact ⟨0, ds, Nat.zero_le _, rfl, hN, hok, hA, hG, hS⟩
            case round =>
              clear hA hG hS hok hN hlen
              obtain ⟨j, es, hj, rfl, hN, hok, hA, hG, hS⟩ := hrel
              by_cases hlt3 : j < N
              · obtain ⟨ls, hS⟩ := hS
                obtain ⟨c0, hc0, _⟩ := drop_at (by omega : j < es.length)
                obtain ⟨hst0, hI0⟩ := inner_start hA hc0
                clear hA hc0
                go_wp2_with (go_at_call 31; refine (next_any w0 g ls 3 (by decide) _ hS).mono ?_; rintro e w1 ⟨r, rfl, r0, r1, G1, -, S1⟩; have I1 := inner_grown hI0 G1 hg hbu; have W1 := grown_trans hG G1)
                obtain ⟨R2, rfl⟩ : ∃ R2 : Nat, r = (R2 : Int) := ⟨r.toNat, by omega⟩
                have hR2 : R2 ≤ 2 := by omega
                have hl0 : c0.steps.length = 0 := by rw [hst0]; rfl
                clear r0 r1 hI0 hS hG
                go_loopw [47] (fun i wr => ∃ (m : Nat) (fs : List Cy) (c : Cy) (vi : Value), m ≤ R2 ∧ i = .int .i64 m ∧ c.steps.length = m ∧ fs.length = N ∧ okCy k fs ∧ innerArr wr w.heap.size bu fs j c vi ∧ w.grownBy wr (some g) ∧ ∃ l, stream w0 wr g l) (fun i _ => R2 - (intOf i).toNat)
                case atStart => exact ⟨0, es, c0, _, Nat.zero_le _, rfl, hl0, hN, hok, I1, W1, S1⟩
                case round =>
                  clear I1 W1 S1 hok hN hst0 hl0
                  obtain ⟨m, fs, c, vi, hm, rfl, hcl, hN, hok, hI, hG, ls2, hS⟩ := hrel
                  obtain ⟨wo, rfl⟩ : ∃ wo, wo = wr := ⟨_, rfl⟩
                  by_cases hlt4 : m < R2
                  · have hcell := hI.2.1.2.1.2.2.2
                    have hlz := hG.size
                    obtain ⟨va, vcap, rfl, _, _⟩ := isArr_form (ownArr_isArr hI.2.1.2.2.1)
                    obtain ⟨is, j1, j2, j3, j4⟩ := infoSs
                    have HI := Lib.hid hI
                    have HS := Lib.hid hS
                    have HG := Lib.hid hG
                    have HCL := Lib.hid hcl
                    have hcl2 : c.steps.length ≤ 1 := by omega
                    clear hI hS hG hcl
                    go_wp2_with fail
                    go_region_law (first
                      | (go_simp; go_at_call 56; refine (step_made w0 g ls2 _ (by first | exact HS.out | exact stream_drew HS.out)).mono ?_; rintro e w2 ⟨s, rfl, hsE, G2', ls3, S2⟩; have G2 : wo.grownBy w2 (some g) := (by first | exact G2' | exact grown_trans (grown_drew _ _) G2'); have I2 := inner_grown HI.out G2 hg hbu; have hcell2 := I2.2.1.2.1.2.2.2; have hbl2 : bu < w2.heap.size := (Array.getElem?_eq_some_iff.1 I2.1.choose_spec.choose_spec).1)
                      | (refine step_append_step rfl _ _ rfl rfl (inner_none (inner_grown HI.out G2 hg hbu) (by first | exact World.grownBy_alloc _ _ _ | exact grown_trans (grown_drew _ _) (World.grownBy_alloc _ _ _))).2.1.2.2.1 _ s rfl (by first | exact heap_alloc_new _ _) (by omega) (by have := G2.size; simp; omega) ?_; intro b bcap w3 hown3 hgr3 hat3 hlt3; obtain ⟨hcell3, hfz3⟩ := inner_kept (inner_none (inner_grown HI.out G2 hg hbu) (by first | exact World.grownBy_alloc _ _ _ | exact grown_trans (grown_drew _ _) (World.grownBy_alloc _ _ _))) hgr3))
                    all_goals
                      have HR := Lib.hid (inner_round rfl HI.out hg hbu HG.out G2 S2 hown3 hgr3 hat3)
                      have HO := Lib.hid (ok_push hok HI.out.2.1.1 hcl2 hsE)
                      clear hown3 hgr3 hat3 hcell3 hfz3 hcell2 I2 hok hbl2
                      go_wp2_with fail
                      go_roundw
                      case rel => exact ⟨m + 1, _, _, _, by omega, by go_num, by simp [HCL.out], by simp [hN], HO.out, HR.out.1, HR.out.2.1, _, HR.out.2.2⟩
                      case measure => simp [intOf]; omega
                  · obtain rfl : m = R2 := by omega
                    have HE := Lib.hid (inner_end hI)
                    clear hI
                    go_wp2_with fail
                    go_roundw
                    case rel => exact ⟨j + 1, fs, by omega, by go_num, hN, hok, HE.out, hG, ls2, hS⟩
                    case measure => simp [intOf]; omega
              · obtain rfl : j = N := by omega
                have HF := Lib.hid (made_fresh hA (by omega) hcap2 hbu)
                rw [hN] at HF
                go_wp2_with fail
                go_ret
                exact ⟨_, es, rfl, HF.out, hok, by omega, hG, hS⟩
end Go.Proofs.Ytnkplfimcehnmaa
