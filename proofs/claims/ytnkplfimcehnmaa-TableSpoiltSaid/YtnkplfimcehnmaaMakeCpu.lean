/- The maker of processors makes valid processors. -/
import Derived.Test.YtnkplfimcehnmaaMakeCpuA
namespace Go.Proofs.Ytnkplfimcehnmaa
open Go.RowKit

set_option maxRecDepth 100000 in
set_option maxHeartbeats 8000000 in
theorem cpu_made (v : Value) (l : List Int) (w : World) (h : isArg w v l) (hwf : ∀ x ∈ l, (Lit.int .i64 x).wf = true) :
    Calls Try.prog 8 #[v] w fun e w' => ∃ (c : Cp) (v0 v1 v2 v3 : Value), e = .returned (.agg #[.string c.name, v0, v1, v2, v3]) ∧ cpuArg w' v0 v1 v2 v3 c ∧ cpuE c = 0 ∧ 1 ≤ c.instrs.length ∧ c.instrs.length ≤ 8 ∧ (∀ x ∈ c.instrs, sizedIn x) ∧ Below w.heap.size w w' ∧ (∀ (k : Nat) (x : Value), k < w.heap.size → cpuArg (w'.setCell ⟨k, 0, none⟩ x) v0 v1 v2 v3 c) ∧ goodIns c.instrs := by
  have hb2 := below_two w (.cells #[.string ⟨#[]⟩, .slice none 0 0, .slice none 0 0, .slice none 0 0, .slice none 0 0] 26) (.cells #[v] 58)
  have hs0 : stream w ((w.alloc (.cells #[.string ⟨#[]⟩, .slice none 0 0, .slice none 0 0, .slice none 0 0, .slice none 0 0] 26)).alloc (.cells #[v] 58)) (w.heap.size + 1) l := by
    refine ⟨by omega, hb2, hwf, v, ?_, h⟩
    have := Boxed.new (w.alloc (.cells #[.string ⟨#[]⟩, .slice none 0 0, .slice none 0 0, .slice none 0 0, .slice none 0 0] 26)) 58 v
    rw [World.size_alloc] at this
    exact this
  have k0 := box_alloc (p := .cells #[v] 58) (heap_alloc_new w (.cells #[.string ⟨#[]⟩, .slice none 0 0, .slice none 0 0, .slice none 0 0, .slice none 0 0] 26))
  have K0 := Lib.hid k0
  have HS := Lib.hid hs0
  obtain ⟨sa, sl, scap, rfl⟩ : ∃ a n c, v = .slice a n c := by
    rcases h with ⟨a, cap, rfl, _⟩ | ⟨b, off, cap, rfl, _⟩ <;> exact ⟨_, _, _, rfl⟩
  clear k0 hs0 h
  go_enter Try.func8, Try.ntmps8
  go_upto_region 3 with (go_at_call_of 31 (Value.int .i64 26); refine (next_any w (w.heap.size + 1) l 26 (by decide) _ HS.out).mono ?_; go_loud (rintro e w1 ⟨r, rfl, r0, r1, G1, hz1, l1, S1⟩; have K1 := Lib.hid (keep_grown K0.out G1 (by simp)); simp only [World.size_alloc] at hz1; have hr25 : r ≤ 25 := (by omega); have hen := enc_small r0 hr25))
  obtain ⟨R, rfl⟩ : ∃ R : Nat, r = (R : Int) := ⟨r.toNat, by omega⟩
  have hnm := cpuName_ok ⟨R, by omega⟩
  generalize hN : (({ data := #[99, 112, 117, 45] } : ByteArray) ++ Utf8.encode (97 + (R : Int))) = nm at *
  have hnm2 : nameB nm = true ∧ nm.size ≤ 20 := by rw [← hN]; exact hnm
  clear hN hnm r0 r1 hen
  have C0 : cpuAt w (w1.alloc (.cells #[.string nm, .slice none 0 0, .slice none 0 0, .slice none 0 0, .slice none 0 0] 26)) nm (.slice none 0 0) [] := by
    refine ⟨?_, box_alloc K1.out, ownArr_nil _ _ _ _ _, (fun p hp => by cases hp), l1, stream_alloc S1 _⟩
    have := heap_alloc_new w1 (.cells #[.string nm, .slice none 0 0, .slice none 0 0, .slice none 0 0, .slice none 0 0] 26)
    rw [hz1] at this
    exact this
  have hsz0 : w.heap.size + 3 ≤ (w1.alloc (.cells #[.string nm, .slice none 0 0, .slice none 0 0, .slice none 0 0, .slice none 0 0] 26)).heap.size := by simp; omega
  generalize hw2 : w1.alloc (.cells #[.string nm, .slice none 0 0, .slice none 0 0, .slice none 0 0, .slice none 0 0] 26) = w2 at *
  clear hw2 HS K0 K1 S1 G1 hz1
  obtain ⟨_, _, _, _, ls0, S0⟩ := id C0
  go_wp2_with (go_at_call 31; refine (next_any w (w.heap.size + 1) ls0 8 (by decide) _ S0).mono ?_; rintro e w3 ⟨r, rfl, r0, r1, G1, hz1, l1, S1⟩; have hr7 : r ≤ 7 := (by omega); have C1 := cpuAt_grown C0 G1 S1)
  obtain ⟨M, rfl⟩ : ∃ M : Nat, r = (M : Int) := ⟨r.toNat, by omega⟩
  have hM : M ≤ 7 := by omega
  have hsz3 : w.heap.size + 3 ≤ w3.heap.size := by omega
  clear r0 r1 hr7 G1 hz1 S1 S0 C0 hsz0 l1
  go_loopw [5, 22] (fun at_ i wr => ∃ (k : Nat) (A : Int) (vI : Value) (L : List (In × Value)), k ≤ M + 1 ∧ i = .int .i64 k ∧ at_ = .int .i64 A ∧ 0 ≤ A ∧ A ≤ 30 * k ∧ (L = [] ∨ lastOp (L.map Prod.fst) < A) ∧ L.length = k ∧ goodIns (L.map Prod.fst) ∧ cpuAt w wr nm vI L ∧ w.heap.size + 3 ≤ wr.heap.size) (fun _ i _ => M + 1 - (intOf i).toNat)
  case atStart => exact ⟨0, 0, _, [], Nat.zero_le _, rfl, rfl, Int.le_refl _, by decide, .inl rfl, rfl, ⟨rfl, (fun j x hx => by simp at hx), (fun x hx => by cases hx)⟩, C1, hsz3⟩
  case round =>
    clear C1 hsz3
    obtain ⟨k, A, vI, L, hk, rfl, rfl, hA0, hA1, hord, hLl, hgood, hC, hsz⟩ := hrel
    by_cases hlt : k < M + 1
    · have hk7 : k ≤ 7 := by omega
      obtain ⟨_, _, _, _, ls, S⟩ := id hC
      go_upto_region 9 with (first
        | (go_at_call_of 31 (Value.int .i64 30); refine (next_any w (w.heap.size + 1) ls 30 (by decide) _ S).mono ?_; rintro e w4 ⟨d, rfl, d0, d1, G4, hz4, l4, S4⟩; have hd : d ≤ 29 := (by omega); have C4 := cpuAt_grown hC G4 S4; have hs4 : w.heap.size + 3 ≤ w4.heap.size := (by omega); clear G4 hz4)
        | (go_at_call_of 31 (Value.int .i64 9); refine (next_any w (w.heap.size + 1) l4 9 (by decide) _ S4).mono ?_; rintro e w5 ⟨m, rfl, m0, m1, G5, hz5, l5, S5⟩; have hm : m ≤ 8 := (by omega); have C5 := cpuAt_grown C4 G5 S5; have hs5 : w.heap.size + 3 ≤ w5.heap.size := (by omega); clear G5 hz5))
      obtain ⟨mn, rfl⟩ : ∃ mn : Nat, m = (mn : Int) := ⟨m.toNat, by omega⟩
      go_cut [8] from 32 to 35 (fun p wx => p = .int .i64 (operand mn) ∧ wx = w5.alloc (.cells #[.int .i64 0, .int .i64 1, .int .i64 1, .int .i64 1, .int .i64 2, .int .i64 2, .int .i64 2, .int .i64 1, .int .i64 1] 3))
      case first =>
        clear S S4 C4 hC hgood hord
        rcases (by omega : mn = 0 ∨ mn = 1 ∨ mn = 2 ∨ mn = 3 ∨ mn = 4 ∨ mn = 5 ∨ mn = 6 ∨ mn = 7 ∨ mn = 8) with rfl | rfl | rfl | rfl | rfl | rfl | rfl | rfl | rfl
        all_goals
          go_wp2_with fail
          go_meet
          case rel => exact ⟨rfl, rfl⟩
      case rest =>
        obtain ⟨rfl, hwc⟩ := hcut
        have C6 := cpuAt_alloc C5 (.cells #[.int .i64 0, .int .i64 1, .int .i64 1, .int .i64 1, .int .i64 2, .int .i64 2, .int .i64 2, .int .i64 1, .int .i64 1] 3)
        rw [← hwc] at C6
        have hs6 : w.heap.size + 3 ≤ wc.heap.size := by rw [hwc]; simp; omega
        clear hwc S S4 S5 C4 C5 hC hs4 hs5 hsz
        have hop : ∃ on : Nat, operand (mn : Int) = (on : Int) ∧ on ≤ 2 := by
          rcases (by omega : mn = 0 ∨ mn = 1 ∨ mn = 2 ∨ mn = 3 ∨ mn = 4 ∨ mn = 5 ∨ mn = 6 ∨ mn = 7 ∨ mn = 8) with rfl | rfl | rfl | rfl | rfl | rfl | rfl | rfl | rfl
          all_goals first | exact ⟨0, rfl, by decide⟩ | exact ⟨1, rfl, by decide⟩ | exact ⟨2, rfl, by decide⟩
        obtain ⟨on, hon, hon2⟩ := hop
        rw [hon]
        have hen := enc_small (r := (k : Int)) (by omega) (by omega)
        have hw1 : IntKind.i64.wrap (97 + (k : Int)) = 97 + (k : Int) := wrap_small _ (by omega) (by omega)
        have hw2 : IntKind.i32.wrap (97 + (k : Int)) = 97 + (k : Int) := by simp [IntKind.wrap, IntKind.bits, IntKind.signed]; omega
        have hw3 : IntKind.i64.wrap (A + (1 + d) - 1) = A + (1 + d) - 1 := wrap_small _ (by omega) (by omega)
        have hen3 : ¬ 9223372036854775807 < 3 + (Utf8.encode (97 + (k : Int))).size := by omega
        obtain ⟨_, _, _, _, ls6, S6⟩ := id C6
        obtain ⟨va, vn, vcap, rfl⟩ : ∃ a n c, vI = .slice a n c := by
          obtain ⟨a, c, e, _, _⟩ := isArr_form (ownArr_isArr C6.2.2.1)
          exact ⟨_, _, _, e⟩
        have z1 := cell_of_row wc (w.heap.size + 2) 1 _ _ (0, 0) C6.1
        have CC := Lib.hid C6
        have HG := Lib.hid hgood
        have HO := Lib.hid hord
        have HL := Lib.hid hLl
        clear hgood hord hLl C6
        go_wp2_with fail
        go_region_law (first
          | (go_simp; go_at_call 32; refine (cycles_made w (w.heap.size + 1) ls6 on hon2 _ (by first | exact S6 | exact stream_drew S6) (by first | omega | (show w.heap.size + 1 < wc.heap.size; omega))).mono ?_; rintro e w6 ⟨u, cs, rfl, hu', hok, hcl5, G6', l6', S6'⟩; have hu : freshArr wc.heap.size w6 u cs := hu'; have G6 : wc.grownBy w6 (some (w.heap.size + 1)) := (by first | exact G6' | exact grown_trans (grown_drew _ _) G6'); have C7 := cpuAt_grown CC.out G6 S6'; have hq := arrQ_of (lo := w.heap.size + 3) (q := (Value.slice va vn vcap).ownBlock) hu hs6 (fun b hb e => by have := (own_lt CC.out.2.2.1 b e.symm).2; omega); obtain ⟨ua, ucap, hue, _, _⟩ := isArr_form (freshArr_isArr hu); subst hue; have z2 := cell_of_row w6 (w.heap.size + 2) 1 _ _ (0, 0) C7.1; have hl6 : w.heap.size + 2 < w6.heap.size := (Array.getElem?_eq_some_iff.1 C7.1).1)
          | (refine step_append_instr rfl _ _ rfl rfl (cpuAt_alloc C7 _).2.2.1 _ (⟨A + (1 + d) - 1, inName k, mn, cs⟩, .slice ua cs.length ucap) rfl ⟨_, _, _, rfl⟩ (heap_alloc_new _ _) (by have := HL.out; omega) (by simp; omega) ?_; intro b bcap w7 hown7 hgr7 hat7 hlt7; have k7 := keep_grown (cpuAt_alloc C7 _).1 hgr7 (by intro e; have := (own_lt C7.2.2.1 _ e.symm).1; omega); have z7 := cell_of_row w7 (w.heap.size + 2) 1 _ _ (0, 0) k7; have f7 := frozenB k7 1))
        all_goals
          have HR := Lib.hid (cpu_more (x := ⟨A + (1 + d) - 1, inName k, mn, cs⟩) C7 hq hown7 hgr7 hat7)
          have hLk : (L.map Prod.fst).length = k := by simp [HL.out]
          have hor2 : L.map Prod.fst = [] ∨ lastOp (L.map Prod.fst) < A + (1 + d) - 1 := by
            rcases HO.out with h | h
            · exact .inl (by rw [h]; rfl)
            · exact .inr (by omega)
          have HX := Lib.hid (good_more HG.out (x := ⟨A + (1 + d) - 1, inName k, mn, cs⟩) (by omega) (by rw [hLk]) ⟨by show 0 ≤ A + (1 + d) - 1; omega, by show A + (1 + d) - 1 ≤ 255; omega⟩ hor2 ⟨by show (0 : Int) ≤ mn; omega, by show (mn : Int) ≤ 8; omega⟩ (by rw [hon]; exact hok) hcl5)
          have hs7 : w.heap.size + 3 ≤ w7.heap.size := Nat.le_trans (by simp; omega) hgr7.size
          clear hown7 hgr7 hat7 k7 z7 f7 z2 hq hu' hu C7 hok
          go_wp2_with fail
          go_roundw
          case rel =>
            refine ⟨k + 1, A + (1 + d), _, _, by omega, by go_num, rfl, by omega, by omega, .inr ?_, by simp [HL.out], by rw [List.map_append]; exact HX.out, HR.out, by simp; omega⟩
            rw [List.map_append]
            show lastOp (_ ++ [_]) < _
            rw [lastOp_snoc]
            show A + (1 + d) - 1 < A + (1 + d)
            omega
          case measure => simp [intOf]; omega
    · obtain rfl : k = M + 1 := by omega
      obtain ⟨va, vn, vcap, rfl⟩ : ∃ a n c, vI = .slice a n c := by
        obtain ⟨a, c, e, _, _⟩ := isArr_form (ownArr_isArr hC.2.2.1)
        exact ⟨_, _, _, e⟩
      have HC := Lib.hid hC
      obtain ⟨_, _, _, _, ls, S⟩ := hC
      have HG := Lib.hid hgood
      have HL := Lib.hid hLl
      have hg1 : w.heap.size + 1 < wr.heap.size := by omega
      clear hgood hord hLl hA0 hA1
      go_upto_region 13 with (first
        | (go_at_call 32; refine (cycles_made w (w.heap.size + 1) ls 0 (by decide) wr S hg1).mono ?_; rintro e w4 ⟨u4, r4, rfl, hu4, ho4, hc4, G4, l4, S4⟩; have D4 := cpuAt_grown HC.out G4 S4; have A4 := arrQ_of (lo := w.heap.size + 3) (q := none) hu4 hsz (fun b _ => by simp); obtain ⟨ua4, up4, hue4, _, _⟩ := isArr_form (freshArr_isArr hu4); subst hue4; have hg4 : w.heap.size + 1 < w4.heap.size := Nat.lt_of_lt_of_le hg1 G4.size; have hs4 : w.heap.size + 3 ≤ w4.heap.size := Nat.le_trans hsz G4.size; clear hu4 S)
        | (go_at_call 32; refine (cycles_made w (w.heap.size + 1) l4 0 (by decide) w4 S4 hg4).mono ?_; rintro e w5 ⟨u5, r5, rfl, hu5, ho5, hc5, G5, l5, S5⟩; have D5 := cpuAt_grown D4 G5 S5; have A5 := arrQ_of (lo := w.heap.size + 3) (q := none) hu5 hs4 (fun b _ => by simp); have A45 := arrQ_grown A4 G5 (fun b hb _ => by simp; omega); obtain ⟨ua5, up5, hue5, _, _⟩ := isArr_form (freshArr_isArr hu5); subst hue5; have hg5 : w.heap.size + 1 < w5.heap.size := Nat.lt_of_lt_of_le hg4 G5.size; have hs5 : w.heap.size + 3 ≤ w5.heap.size := Nat.le_trans hs4 G5.size; clear hu5 S4)
        | (go_at_call 32; refine (cycles_made w (w.heap.size + 1) l5 0 (by decide) w5 S5 hg5).mono ?_; rintro e w6 ⟨u6, r6, rfl, hu6, ho6, hc6, G6, l6, S6⟩; have D6 := cpuAt_grown D5 G6 S6; have A6 := arrQ_of (lo := w.heap.size + 3) (q := none) hu6 hs5 (fun b _ => by simp); have A56 := arrQ_grown A5 G6 (fun b hb _ => by simp; omega); have A46 := arrQ_grown A45 G6 (fun b hb _ => by simp; omega); obtain ⟨ua6, up6, hue6, _, _⟩ := isArr_form (freshArr_isArr hu6); subst hue6; clear hu6; have kB := D6.1; have p2 := cell_of_row w6 (w.heap.size + 2) 2 _ _ (0, 0) kB; have p3 := cell_of_row w6 (w.heap.size + 2) 3 _ _ (0, 0) kB; have p4 := cell_of_row w6 (w.heap.size + 2) 4 _ _ (0, 0) kB; have f2 := frozenB kB 2; have f3 := frozenB kB 3; have f4 := frozenB kB 4))
      have hW : ∀ (x y z : Value) {v : Value} {l : List Cy} {q : Option Nat}, arrQ (w.heap.size + 3) q w6 v l → arrQ (w.heap.size + 3) q (((w6.setCell ⟨w.heap.size + 2, 2, none⟩ x).setCell ⟨w.heap.size + 2, 3, none⟩ y).setCell ⟨w.heap.size + 2, 4, none⟩ z) v l :=
        fun x y z v l q ha => arrQ_cell (arrQ_cell (arrQ_cell ha (by omega) _ _) (by omega) _ _) (by omega) _ _
      obtain ⟨W8, hW8⟩ : ∃ W8, W8 = ((w6.setCell ⟨w.heap.size + 2, 2, none⟩ (.slice ua4 r4.length up4)).setCell ⟨w.heap.size + 2, 3, none⟩ (.slice ua5 r5.length up5)).setCell ⟨w.heap.size + 2, 4, none⟩ (.slice ua6 r6.length up6) := ⟨_, rfl⟩
      have B4 := hW (.slice ua4 r4.length up4) (.slice ua5 r5.length up5) (.slice ua6 r6.length up6) A46
      have B5 := hW (.slice ua4 r4.length up4) (.slice ua5 r5.length up5) (.slice ua6 r6.length up6) A56
      have B6 := hW (.slice ua4 r4.length up4) (.slice ua5 r5.length up5) (.slice ua6 r6.length up6) A6
      have BI := fun p hp => hW (.slice ua4 r4.length up4) (.slice ua5 r5.length up5) (.slice ua6 r6.length up6) (D6.2.2.2.1 p hp)
      have OI := own_cell (own_cell (own_cell D6.2.2.1 (k := w.heap.size + 2) (by omega) 2 (.slice ua4 r4.length up4)) (k := w.heap.size + 2) (by omega) 3 (.slice ua5 r5.length up5)) (k := w.heap.size + 2) (by omega) 4 (.slice ua6 r6.length up6)
      have K8 := box5_set D6.1 (.slice ua4 r4.length up4) (.slice ua5 r5.length up5) (.slice ua6 r6.length up6)
      have hBel6 : Below w.heap.size w w6 := D6.2.2.2.2.choose_spec.2.1
      have R8 : (((w6.setCell ⟨w.heap.size + 2, 2, none⟩ (.slice ua4 r4.length up4)).setCell ⟨w.heap.size + 2, 3, none⟩ (.slice ua5 r5.length up5)).setCell ⟨w.heap.size + 2, 4, none⟩ (.slice ua6 r6.length up6)).heap[w.heap.size]? = some (.cells #[.string ⟨#[]⟩, .slice none 0 0, .slice none 0 0, .slice none 0 0, .slice none 0 0] 26 (0, 0)) := by
        rw [Below.heap_setCell _ ⟨w.heap.size + 2, 4, none⟩ _ w.heap.size (by show w.heap.size ≠ w.heap.size + 2; omega), Below.heap_setCell _ ⟨w.heap.size + 2, 3, none⟩ _ w.heap.size (by show w.heap.size ≠ w.heap.size + 2; omega), Below.heap_setCell _ ⟨w.heap.size + 2, 2, none⟩ _ w.heap.size (by show w.heap.size ≠ w.heap.size + 2; omega)]
        exact D6.2.1
      have hB8 : Below w.heap.size w (((w6.setCell ⟨w.heap.size + 2, 2, none⟩ (.slice ua4 r4.length up4)).setCell ⟨w.heap.size + 2, 3, none⟩ (.slice ua5 r5.length up5)).setCell ⟨w.heap.size + 2, 4, none⟩ (.slice ua6 r6.length up6)) :=
        ((hBel6.setCell (by show w.heap.size ≤ w.heap.size + 2; omega) _).setCell (by show w.heap.size ≤ w.heap.size + 2; omega) _).setCell (by show w.heap.size ≤ w.heap.size + 2; omega) _
      rw [← hW8] at B4 B5 B6 BI OI K8 R8 hB8
      have q0 := cell_of_row W8 (w.heap.size + 2) 0 _ _ (0, 0) K8
      have q1 := cell_of_row W8 (w.heap.size + 2) 1 _ _ (0, 0) K8
      have q2 := cell_of_row W8 (w.heap.size + 2) 2 _ _ (0, 0) K8
      have q3 := cell_of_row W8 (w.heap.size + 2) 3 _ _ (0, 0) K8
      have q4 := cell_of_row W8 (w.heap.size + 2) 4 _ _ (0, 0) K8
      have s0 := cell_of_row W8 w.heap.size 0 _ _ (0, 0) R8
      have s1 := cell_of_row W8 w.heap.size 1 _ _ (0, 0) R8
      have s2 := cell_of_row W8 w.heap.size 2 _ _ (0, 0) R8
      have s3 := cell_of_row W8 w.heap.size 3 _ _ (0, 0) R8
      have s4 := cell_of_row W8 w.heap.size 4 _ _ (0, 0) R8
      have z0 := frozenB R8 0
      have z1 := frozenB R8 1
      have z2 := frozenB R8 2
      have z3 := frozenB R8 3
      have z4 := frozenB R8 4
      have HB4 := Lib.hid B4
      have HB5 := Lib.hid B5
      have HB6 := Lib.hid B6
      have HBI := Lib.hid BI
      have HOI := Lib.hid OI
      rw [show ((w6.setCell ⟨w.heap.size + 1 + 1, 2, none⟩ (.slice ua4 r4.length up4)).setCell ⟨w.heap.size + 1 + 1, 3, none⟩ (.slice ua5 r5.length up5)).setCell ⟨w.heap.size + 1 + 1, 4, none⟩ (.slice ua6 r6.length up6) = W8 from hW8.symm]
      clear hW8 B4 B5 B6 BI OI A4 A5 A6 A45 A46 A56 D4 D5 D6 S5 S6 G4 G5 G6 K8 R8 hW p2 p3 p4 f2 f3 f4 kB HC
      go_wp2_with fail
      refine bodyPost_ret (v := .agg #[_, _, _, _, _]) (by simp [results, Try.results8, go_sem, s0, s1, s2, s3, s4]; first | exact ⟨rfl, rfl, rfl, rfl, rfl⟩ | rfl) rfl ?_
      have hT : ∀ {v : Value} {l : List Cy} {q : Option Nat}, arrQ (w.heap.size + 3) q W8 v l → ∀ a b c d e, arrQ (w.heap.size + 3) q (((((W8.setCell ⟨w.heap.size, 0, none⟩ a).setCell ⟨w.heap.size, 1, none⟩ b).setCell ⟨w.heap.size, 2, none⟩ c).setCell ⟨w.heap.size, 3, none⟩ d).setCell ⟨w.heap.size, 4, none⟩ e) v l :=
        fun {v l q} ha a b c d e => arrQ_cell (arrQ_cell (arrQ_cell (arrQ_cell (arrQ_cell ha (by omega) _ _) (by omega) _ _) (by omega) _ _) (by omega) _ _) (by omega) _ _
      have hO := fun a b c d e => own_cell (own_cell (own_cell (own_cell (own_cell HOI.out (k := w.heap.size) (by omega) 0 a) (k := w.heap.size) (by omega) 1 b) (k := w.heap.size) (by omega) 2 c) (k := w.heap.size) (by omega) 3 d) (k := w.heap.size) (by omega) 4 e
      have hlen : (L.map Prod.fst).length = M + 1 := by rw [List.length_map]; exact HL.out
      refine ⟨⟨nm, L.map Prod.fst, r4, r5, r6⟩, _, _, _, _, rfl, ⟨fin_instrs (hO _ _ _ _ _) (fun p hp => hT (HBI.out p hp) _ _ _ _ _) (fun x hx => (HG.out.2.2 x hx).1), arrQ_isArr (hT HB4.out _ _ _ _ _), arrQ_isArr (hT HB5.out _ _ _ _ _), arrQ_isArr (hT HB6.out _ _ _ _ _), by show nm.size ≤ _; have := hnm2.2; omega⟩,
        cpuE_zero hnm2.1 (by show (L.map Prod.fst).length ≤ 256; omega) HG.out.1 ⟨ho4, hc4⟩ ⟨ho5, hc5⟩ ⟨ho6, hc6⟩, by show 1 ≤ (L.map Prod.fst).length; omega, by show (L.map Prod.fst).length ≤ 8; omega, fun x hx => (HG.out.2.2 x hx).2, ?_, fun k x hk => ⟨fin_instrs (own_cell (hO _ _ _ _ _) (k := k) (by omega) 0 x) (fun p hp => arrQ_cell (hT (HBI.out p hp) _ _ _ _ _) (by omega) _ _) (fun x hx => (HG.out.2.2 x hx).1),
        arrQ_isArr (arrQ_cell (hT HB4.out _ _ _ _ _) (by omega) _ _), arrQ_isArr (arrQ_cell (hT HB5.out _ _ _ _ _) (by omega) _ _), arrQ_isArr (arrQ_cell (hT HB6.out _ _ _ _ _) (by omega) _ _), by show nm.size ≤ _; have := hnm2.2; omega⟩, HG.out⟩
      exact ((((hB8.setCell (Nat.le_refl _) _).setCell (Nat.le_refl _) _).setCell (Nat.le_refl _) _).setCell (Nat.le_refl _) _).setCell (Nat.le_refl _) _
end Go.Proofs.Ytnkplfimcehnmaa
