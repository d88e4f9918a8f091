/- The museum's processor (P6.1 to P6.4): the law returns true, with the tied card's variables as the program's own text lays them; no other condition. -/
import Derived.Test.YtbgjnegojoaimaaGreatDoorStdSame
import Derived.Test.YtbgjnegojoaimaaGreatDoorStdCpuC
import Derived.Test.YtbgjnegojoaimaaGreatDoorTabChecks
import Derived.Test.YtbgjnegojoaimaaGreatDoorStdTextC
import Derived.Test.YtbgjnegojoaimaaGreatDoorRows
import Derived.Test.YtbgjnegojoaimaaGreatDoorTie
import Derived.Test.YtbgjnegojoaimaaGreatDoorCards
import Derived.WalkKit
import Derived.ProofKit
import Derived.LaidMore
import Derived.Lay
import Derived.OpenShut
import Derived.SizedLaws
import Derived.SevenTiedAt
import Derived.LaidSub
import Derived.MakeChecks
import Derived.Lib.LaidTab
import Derived.Shelf.Vars
namespace Go.Proofs.YtbgjnegojoaimaaGreatDoor
open Go.RowKit
set_option maxRecDepth 100000

theorem std_valid : cpuE stdC = 0 := by decide +kernel
def zeroCpu : Array Value := #[.string ⟨#[]⟩, .slice none 0 0, .slice none 0 0, .slice none 0 0, .slice none 0 0]
/-- One instruction, as the law reads it. -/
theorem ok_at {x : In} {t : ByteArray} {k : Nat} (h : lineOk x t k = true) : x.op = (k : Int) + 1 ∧ (0 ≤ x.mode ∧ x.mode ≤ 8) ∧ x.name.size ≤ 100 ∧ t.size ≤ 1000 ∧ isAscii t = true ∧ (∀ c ∈ x.cycles, okC c = true) ∧ 0 < x.cycles.length ∧ x.cycles.length ≤ 8 ∧ (⟨(Lib.trimSpace t.data.toList).toArray⟩ : ByteArray) = textX x := by
  unfold lineOk at h
  simp only [Bool.and_eq_true, decide_eq_true_eq, beq_iff_eq, List.all_eq_true] at h
  obtain ⟨h1, h2, h3, h4, h5, h6, h7, h8, h9, h10⟩ := h
  refine ⟨h1, ⟨h2, h3⟩, h4, h5, h6, h7, h8, h9, ?_⟩
  rw [h10]
set_option maxHeartbeats 8000000 in
theorem stdCpu_walk (w : World) (hlib : libW w) (hlw : 2 < w.heap.size ∧ 0 < w.heap.size) :
    Calls Tryz.prog 3 #[] w fun e w' => e = .returned (.bool true) ∧ Below w.heap.size w w' := by
  go_enter Tryz.func3, Tryz.ntmps3
  go_upto_region 2 with (first
      | (go_at_call 4; refine (cpu_std _).mono ?_; rintro e w1 ⟨a0, n0, d0, a1, n1, d1, a2, n2, d2, a3, n3, d3, rfl, i0, i1, i2, i3, hb1⟩; have nz := rowB_new w1 25 zeroCpu)
      | (refine wpList_storeR rfl 25 _ _ rfl (w1.heap.size) rfl (cpuCells a0 n0 d0 a1 n1 d1 a2 n2 d2 a3 n3 d3) rfl (cpuCells_one _ _ _ _ _ _ _ _ _ _ _ _) 25 zeroCpu rfl ?_ agCpu ?_; exact nz))
  have rB := rowB_row nz (cpuCells a0 n0 d0 a1 n1 d1 a2 n2 d2 a3 n3 d3)
  have c1B : Below w1.heap.size w1 ((w1.alloc (.cells zeroCpu 25)).setRow w1.heap.size (cpuCells a0 n0 d0 a1 n1 d1 a2 n2 d2 a3 n3 d3)) := below_rowR (below_one w1 (.cells zeroCpu 25)) _ (Nat.le_refl _)
  change Code.wp _ _ _ _ ((w1.alloc (.cells zeroCpu 25)).setRow w1.heap.size (cpuCells a0 n0 d0 a1 n1 d1 a2 n2 d2 a3 n3 d3))
  generalize (w1.alloc (.cells zeroCpu 25)).setRow w1.heap.size (cpuCells a0 n0 d0 a1 n1 d1 a2 n2 d2 a3 n3 d3) = wB at *
  have hw1 := hb1.size
  have j0 := instrsO_below i0 c1B
  have j1 := cyclesO_below i1 c1B
  have j2 := cyclesO_below i2 c1B
  have j3 := cyclesO_below i3 c1B
  have lB := libW_below (libW_below hlib hb1) c1B
  have bB := hb1.trans (c1B.mono hw1)
  have hwB : 2 < wB.heap.size ∧ 0 < wB.heap.size := ⟨Nat.lt_of_lt_of_le hlw.1 bB.size, Nat.lt_of_lt_of_le hlw.2 bB.size⟩
  clear i0 i1 i2 i3 c1B nz hb1 hlib hlw
  generalize w1.heap.size = g at *
  go_upto_region 3 with (go_at_call 5; refine (stdText_any _ lB hwB).mono ?_; rintro e w2 ⟨al, nl, dl, rfl, il, hb2⟩)
  have r2 := rowB_below rB hb2 (rowB_lt rB)
  have k0 := instrsO_below j0 hb2
  have k1 := cyclesO_below j1 hb2
  have k2 := cyclesO_below j2 hb2
  have k3 := cyclesO_below j3 hb2
  have l2 := libW_below lB hb2
  have b2 := bB.trans (hb2.mono bB.size)
  clear rB j0 j1 j2 j3 lB bB hwB hb2
  obtain rfl : n0 = 92 := by
    obtain ⟨a', c', e⟩ := own_slice k0
    rw [stdI_len] at e
    cases e
    rfl
  obtain rfl : nl = 92 := by
    obtain ⟨a', c', e⟩ := own_slice il
    rw [txL54_len] at e
    cases e
    rfl
  have CK := Lib.hid (show Calls Tryz.prog 6 #[.agg (cpuCells a0 92 d0 a1 n1 d1 a2 n2 d2 a3 n3 d3)] w2 fun e w' => e = .returned (.int .i64 0) ∧ Below w2.heap.size w2 w' by
    have := check_any stdC _ _ _ _ w2 (cpu_arg k0 k1 k2 k3)
    rw [std_valid] at this
    exact this)
  have q0 := rowB_cell r2 0 (v := .string ⟨#[115, 116, 100]⟩) rfl
  have q1 := rowB_cell r2 1 (v := .slice a0 92 d0) rfl
  go_wp2_with (first
      | (refine wpList_loadRg rfl 25 _ rfl g rfl 25 (cpuCells a0 92 d0 a1 n1 d1 a2 n2 d2 a3 n3 d3) ?_ agCpu ?_; with_reducible exact r2)
      | (go_at_call 6; refine CK.out.mono ?_; rintro e w3 ⟨rfl, hb3⟩)
      | (go_at_call 7; refine (tables_law _).mono ?_; rintro e w4 ⟨rfl, hb4⟩; have q4 : w4.cell? ⟨g, 1, none⟩ = some (.slice a0 92 d0) := rowB_cell (rowB_below (rowB_below r2 hb3 (rowB_lt r2)) hb4 (rowB_lt (rowB_below r2 hb3 (rowB_lt r2)))) 1 rfl))
  have b24 := below_step hb3 hb4
  have r4 := rowB_below r2 b24 (rowB_lt r2)
  have p0 := instrsO_below k0 b24
  have p1 := cyclesO_below k1 b24
  have p2 := cyclesO_below k2 b24
  have p3 := cyclesO_below k3 b24
  have pl := strsO_below il b24
  have l4 := libW_below l2 b24
  have b4 := b2.trans (b24.mono b2.size)
  clear r2 k0 k1 k2 k3 il l2 b2 hb3 hb4 b24 q0 q1 q4 CK
  go_loopw [31] (fun i wr => ∃ k : Nat, k ≤ 92 ∧ i = .int .i64 k ∧ Below w4.heap.size w4 wr) (fun i _ => 92 - (intOf i).toNat)
  case atStart => exact ⟨0, Nat.zero_le _, rfl, Below.refl _ _⟩
  case round =>
    obtain ⟨k, hk, rfl, hbel⟩ := hrel
    obtain ⟨wo, hwo⟩ : ∃ x, x = wr := ⟨_, rfl⟩
    subst hwo
    have hsz := hbel.size
    by_cases hlt : k < 92
    · obtain ⟨x, t, hx, ht, hok⟩ := allOk_at all_ok k hlt
      obtain ⟨hop, ⟨hm0, hm8⟩, hnm, hts, hta, hcy, hc0, hc8, htrim⟩ := ok_at hok
      clear hok
      rcases ownArr_isArr p0 with ⟨_, _, _, e⟩ | ⟨b, off, cap, hsl, hb, _, _, hcells⟩
      · exact absurd e (by intro e; have := stdI_len; rw [e] at this; cases this)
      have hsl2 := hsl
      rw [stdI_len] at hsl2
      obtain ⟨rfl, rfl⟩ : a0 = some ⟨b, off, none⟩ ∧ d0 = cap := by simpa using hsl2
      clear hsl hsl2
      obtain ⟨cs, _, hcs, vs, rfl, hcyc⟩ := hcells k x hx
      obtain ⟨c0, c1, c2, c3⟩ := four_cells hcs
      rw [← hbel.cell (p := ⟨b, off + k * 4, none⟩) hb] at c0
      rw [← hbel.cell (p := ⟨b, off + k * 4 + 1, none⟩) hb] at c1
      rw [← hbel.cell (p := ⟨b, off + k * 4 + 2, none⟩) hb] at c2
      rw [← hbel.cell (p := ⟨b, off + k * 4 + 3, none⟩) hb] at c3
      rcases ownArr_isArr pl with ⟨_, _, _, e⟩ | ⟨lb, loff, lcap, hsl, hlb, _, _, lcells⟩
      · exact absurd e (by intro e; have := txL54_len; rw [e] at this; cases this)
      have hsl2 := hsl
      rw [txL54_len] at hsl2
      obtain ⟨rfl, rfl⟩ : al = some ⟨lb, loff, none⟩ ∧ dl = lcap := by simpa using hsl2
      clear hsl hsl2
      obtain ⟨ls, _, hls, rfl⟩ := lcells k t ht
      have hl0 : w4.cell? ⟨lb, loff + k, none⟩ = some (.string t) := by simpa using hls 0 (by decide)
      obtain ⟨vs0, vn, vc, rfl⟩ : ∃ a n c, vs = .slice a n c := by
        obtain ⟨a', c', e⟩ := own_slice hcyc
        exact ⟨_, _, _, e⟩
      have hcya : isArr 4 cycleR w4 (.slice vs0 vn vc) x.cycles := cycles_isArr (lo := 0) hcyc
      obtain ⟨op, nm, mode, cyc⟩ := x
      dsimp only at c0 c1 c2 c3 hop hm0 hm8 hnm hcy hc0 hc8 hcya
      subst hop
      obtain ⟨mN, rfl⟩ : ∃ mN : Nat, mode = (mN : Int) := ⟨mode.toNat, by omega⟩
      have hmN : mN ≤ 8 := by omega
      have hTX : textX ⟨(k : Int) + 1, nm, (mN : Int), cyc⟩ = ((((nm ++ ⟨#[32]⟩) ++ digM mN) ++ ⟨#[32]⟩) ++ txt cyc) := rfl
      rw [hTX] at htrim
      have htz := joinB_size (cyc.map txtC) ⟨#[32]⟩ 40 (fun y hy => by
        obtain ⟨c, hc, rfl⟩ := List.mem_map.1 hy
        exact txtC_size (okC_of (hcy c hc)).2.2.1)
      have htz2 : (txt cyc).size ≤ 400 := by
        rw [List.length_map, show (⟨#[32]⟩ : ByteArray).size = 1 from rfl] at htz
        show (joinB (cyc.map txtC) ⟨#[32]⟩).size ≤ 400
        omega
      have TR := Lib.hid (fun W hW => trim_std t _ (by omega) hta htrim W hW)
      have TX := Lib.hid (fun W hW => textual_any cyc (.slice vs0 vn vc) W hW hcy hc8 hc0)
      have hds := digM_size mN
      have hU := digM_enc hmN
      have hw1 : IntKind.i64.wrap (48 + (mN : Int)) = 48 + (mN : Int) := by simp [IntKind.wrap, IntKind.bits, IntKind.signed]; omega
      have hw2 : IntKind.i32.wrap (48 + (mN : Int)) = 48 + (mN : Int) := by simp [IntKind.wrap, IntKind.bits, IntKind.signed]; omega
      have bx := below_one wo (.cells #[.int .i64 ((k : Int) + 1), .string nm, .int .i64 (mN : Int), .slice vs0 vn vc] 33)
      have rx := rowB_new wo 33 #[.int .i64 ((k : Int) + 1), .string nm, .int .i64 (mN : Int), .slice vs0 vn vc]
      clear hcs hls hcyc hcells lcells hx ht hTX htrim hta hcy htz
      have HH := Lib.hid (And.intro hU (And.intro hw1 (And.intro hw2 (And.intro hds hl0))))
      clear hU hw1 hw2 hds hl0
      go_upto_region 8 with (fail)
      obtain ⟨hU, hw1, hw2, hds, hl0⟩ := HH.out
      clear HH
      generalize wo.alloc (.cells #[.int .i64 ((k : Int) + 1), .string nm, .int .i64 (mN : Int), .slice vs0 vn vc] 33) = wy at *
      clear c0 c1 c2 c3
      refine wp_region_mix (fun w' => w'.cell? ⟨wo.heap.size, 1, none⟩ = some (.string nm) ∧ w'.cell? ⟨wo.heap.size, 2, none⟩ = some (.int .i64 (mN : Int)) ∧ w'.cell? ⟨wo.heap.size, 3, none⟩ = some (.slice vs0 vn vc)) [(0, 1), (1, 1), (2, 1), (3, 1), (4, 1), (5, 1), (6, 1), (7, 1), (8, 1), (9, 1), (10, 1), (11, 1), (12, 1), (13, 1), (14, 3), (15, 0), (16, 0)] (by kernel_rfl) (by kernel_rfl) (fun _ _ _ _ _ h => h) ?_
      simp only [List.map_cons, List.map_nil, opOf, List.getD_cons_zero, List.getD_cons_succ]
      change wpMix _ _ _ _ _ _ wy.drew
      have bz : Below wo.heap.size wo wy.drew := bx.drew
      have rz : rowB wy.drew wo.heap.size 33 #[.int .i64 ((k : Int) + 1), .string nm, .int .i64 (mN : Int), .slice vs0 vn vc] := rx
      have hS : wy.drew.cell? ⟨wo.heap.size, 1, none⟩ = some (.string nm) ∧ wy.drew.cell? ⟨wo.heap.size, 2, none⟩ = some (.int .i64 (mN : Int)) ∧ wy.drew.cell? ⟨wo.heap.size, 3, none⟩ = some (.slice vs0 vn vc) := ⟨rowB_cell rz 1 rfl, rowB_cell rz 2 rfl, rowB_cell rz 3 rfl⟩
      clear rx bx
      generalize wy.drew = wz at *
      refine wpMix_held (Value.pointer (some ⟨wo.heap.size, 1, none⟩)) rfl hS (fun w' hw' => by obtain ⟨e1, e2, e3⟩ := hw'; go_simp <;> omega) ?_
      simp only [Act.put, List.setIfInBounds_toArray, List.set_cons_zero, List.set_cons_succ]
      refine wpMix_held (Value.string nm) rfl hS (fun w' hw' => by obtain ⟨e1, e2, e3⟩ := hw'; go_simp <;> omega) ?_
      simp only [Act.put, List.setIfInBounds_toArray, List.set_cons_zero, List.set_cons_succ]
      refine wpMix_held (Value.string (nm ++ ⟨#[32]⟩)) rfl hS (fun w' hw' => by obtain ⟨e1, e2, e3⟩ := hw'; go_simp <;> omega) ?_
      simp only [Act.put, List.setIfInBounds_toArray, List.set_cons_zero, List.set_cons_succ]
      refine wpMix_held (Value.pointer (some ⟨wo.heap.size, 2, none⟩)) rfl hS (fun w' hw' => by obtain ⟨e1, e2, e3⟩ := hw'; go_simp <;> omega) ?_
      simp only [Act.put, List.setIfInBounds_toArray, List.set_cons_zero, List.set_cons_succ]
      refine wpMix_held (Value.int .i64 (mN : Int)) rfl hS (fun w' hw' => by obtain ⟨e1, e2, e3⟩ := hw'; go_simp <;> omega) ?_
      simp only [Act.put, List.setIfInBounds_toArray, List.set_cons_zero, List.set_cons_succ]
      refine wpMix_held (Value.int .i64 (mN : Int)) rfl hS (fun w' hw' => by obtain ⟨e1, e2, e3⟩ := hw'; go_simp <;> omega) ?_
      simp only [Act.put, List.setIfInBounds_toArray, List.set_cons_zero, List.set_cons_succ]
      refine wpMix_held (Value.int .i64 (mN : Int)) rfl hS (fun w' hw' => by obtain ⟨e1, e2, e3⟩ := hw'; go_simp <;> omega) ?_
      simp only [Act.put, List.setIfInBounds_toArray, List.set_cons_zero, List.set_cons_succ]
      refine wpMix_held (Value.int .i64 (48 + (mN : Int))) rfl hS (fun w' hw' => by obtain ⟨e1, e2, e3⟩ := hw'; go_simp <;> omega) ?_
      simp only [Act.put, List.setIfInBounds_toArray, List.set_cons_zero, List.set_cons_succ]
      refine wpMix_held (Value.int .i32 (48 + (mN : Int))) rfl hS (fun w' hw' => by obtain ⟨e1, e2, e3⟩ := hw'; go_simp <;> omega) ?_
      simp only [Act.put, List.setIfInBounds_toArray, List.set_cons_zero, List.set_cons_succ]
      refine wpMix_held (Value.string (digM mN)) rfl hS (fun w' hw' => by obtain ⟨e1, e2, e3⟩ := hw'; go_simp <;> omega) ?_
      simp only [Act.put, List.setIfInBounds_toArray, List.set_cons_zero, List.set_cons_succ]
      refine wpMix_held (Value.string ((nm ++ ⟨#[32]⟩) ++ digM mN)) rfl hS (fun w' hw' => by obtain ⟨e1, e2, e3⟩ := hw'; go_simp <;> omega) ?_
      simp only [Act.put, List.setIfInBounds_toArray, List.set_cons_zero, List.set_cons_succ]
      refine wpMix_held (Value.string (((nm ++ ⟨#[32]⟩) ++ digM mN) ++ ⟨#[32]⟩)) rfl hS (fun w' hw' => by obtain ⟨e1, e2, e3⟩ := hw'; go_simp <;> omega) ?_
      simp only [Act.put, List.setIfInBounds_toArray, List.set_cons_zero, List.set_cons_succ]
      refine wpMix_held (Value.pointer (some ⟨wo.heap.size, 3, none⟩)) rfl hS (fun w' hw' => by obtain ⟨e1, e2, e3⟩ := hw'; go_simp <;> omega) ?_
      simp only [Act.put, List.setIfInBounds_toArray, List.set_cons_zero, List.set_cons_succ]
      refine wpMix_held (Value.slice vs0 vn vc) rfl hS (fun w' hw' => by obtain ⟨e1, e2, e3⟩ := hw'; go_simp <;> omega) ?_
      simp only [Act.put, List.setIfInBounds_toArray, List.set_cons_zero, List.set_cons_succ]
      refine wpMix_call ?_
      have b4z : Below w4.heap.size w4 wz := hbel.trans (bz.mono hsz)
      have hca := isArr_below cycle_keeps hcya b4z (Nat.le_refl _)
      go_wp2_with (go_at_call 8; refine (TX.out _ hca).mono ?_; rintro e w5 ⟨rfl, b5⟩)
      try refine ⟨fun _ => ⟨rowB_cell (rowB_below rz b5 (rowB_lt rz)) 1 rfl, rowB_cell (rowB_below rz b5 (rowB_lt rz)) 2 rfl, rowB_cell (rowB_below rz b5 (rowB_lt rz)) 3 rfl⟩, ?_⟩
      try refine ⟨⟨rowB_cell (rowB_below rz b5 (rowB_lt rz)) 1 rfl, rowB_cell (rowB_below rz b5 (rowB_lt rz)) 2 rfl, rowB_cell (rowB_below rz b5 (rowB_lt rz)) 3 rfl⟩, ?_⟩
      have r5 := rowB_below rz b5 (rowB_lt rz)
      have s0 : w5.cell? ⟨wo.heap.size, 0, none⟩ = some (.int .i64 ((k : Int) + 1)) := rowB_cell r5 0 rfl
      have b45 := below_step b4z b5
      have hl5 : w5.cell? ⟨lb, loff + k, none⟩ = some (.string t) := by rw [b45.cell (p := ⟨lb, loff + k, none⟩) hlb]; exact hl0
      have l5 := libW_below l4 b45
      clear hS rz bz b4z b5 hca hU hw1 hw2 hl0 TX hcya r5
      generalize hTT : txt cyc = TT at *
      have HTT := Lib.hid hTT
      clear hTT
      have hz1 : ¬ 9223372036854775807 < nm.size + 1 + 1 + 1 + TT.size := by omega
      have hz2 : ¬ 9223372036854775807 < nm.size + 3 + TT.size := by omega
      refine wpMix_still (fun K hK => ?_)
      go_simp
      refine hK _ ?_
      clear hK K
      refine wpMix_still (fun K hK => ?_)
      go_simp
      refine hK _ ?_
      clear hK K
      refine wpMix_nil ?_
      clear hz1 hz2
      generalize hST : ((((nm ++ ⟨#[32]⟩) ++ digM mN) ++ ⟨#[32]⟩) ++ TT : ByteArray) = ST at *
      clear hST hds
      go_wp2_with (go_at_call 9; refine (TR.out _ l5).mono ?_; rintro e w6 ⟨rfl, b6⟩)
      have b46 := below_step b45 b6
      clear s0 b45 hl5 l5 b6
      go_wp2_with fail
      go_roundw
      case rel => exact ⟨k + 1, by omega, by go_num, b46⟩
      case measure => simp [intOf]; omega
    · obtain rfl : k = 92 := by omega
      have r9 := rowB_below r4 hbel (rowB_lt r4)
      have m2 : wo.cell? ⟨g, 2, none⟩ = some (.slice a1 n1 d1) := rowB_cell r9 2 rfl
      have h1 := isArr_below cycle_keeps (cycles_isArr p1) hbel (Nat.le_refl _)
      have h2 := isArr_below cycle_keeps (cycles_isArr p2) hbel (Nat.le_refl _)
      have h3 := isArr_below cycle_keeps (cycles_isArr p3) hbel (Nat.le_refl _)
      have T1 := Lib.hid (show ∀ W, isArr 4 cycleR W (.slice a1 n1 d1) resetC → Calls Tryz.prog 8 #[.slice a1 n1 d1] W fun e w' => e = .returned (.string ansT0) ∧ Below W.heap.size W w' from fun W hW => by
        have := textual_any resetC _ W hW (by decide) (by decide) (by decide)
        rw [txt_res] at this
        exact this)
      have T2 := Lib.hid (show ∀ W, isArr 4 cycleR W (.slice a2 n2 d2) (interruptC 6 7) → Calls Tryz.prog 8 #[.slice a2 n2 d2] W fun e w' => e = .returned (.string ansT1) ∧ Below W.heap.size W w' from fun W hW => by
        have := textual_any (interruptC 6 7) _ W hW (by decide) (by decide) (by decide)
        rw [txt_irq] at this
        exact this)
      have T3 := Lib.hid (show ∀ W, isArr 4 cycleR W (.slice a3 n3 d3) (interruptC 8 9) → Calls Tryz.prog 8 #[.slice a3 n3 d3] W fun e w' => e = .returned (.string ansT2) ∧ Below W.heap.size W w' from fun W hW => by
        have := textual_any (interruptC 8 9) _ W hW (by decide) (by decide) (by decide)
        rw [txt_nmi] at this
        exact this)
      have bw := b4.trans (hbel.mono b4.size)
      clear r4 hbel p0 p1 p2 p3 pl l4 b4 hk hlt
      go_wp2_with (first
        | (go_at_call_of 8 (Value.slice a1 n1 d1); refine (T1.out _ h1).mono ?_; rintro e y1 ⟨rfl, e1⟩)
        | (go_at_call_of 10 (Value.int .i64 0); refine (answer0_any _).mono ?_; rintro e y2 ⟨rfl, f2⟩; have e2 := below_step e1 f2; have m3 : y2.cell? ⟨g, 3, none⟩ = some (.slice a2 n2 d2) := rowB_cell (rowB_below r9 e2 (rowB_lt r9)) 3 rfl; have h2' := isArr_below cycle_keeps h2 e2 (Nat.le_refl _))
        | (go_at_call_of 8 (Value.slice a2 n2 d2); refine (T2.out _ h2').mono ?_; rintro e y3 ⟨rfl, f3⟩; have e3 := below_step e2 f3)
        | (go_at_call_of 10 (Value.int .i64 1); refine (answer1_any _).mono ?_; rintro e y4 ⟨rfl, f4⟩; have e4 := below_step e3 f4; have m4 : y4.cell? ⟨g, 4, none⟩ = some (.slice a3 n3 d3) := rowB_cell (rowB_below r9 e4 (rowB_lt r9)) 4 rfl; have h3' := isArr_below cycle_keeps h3 e4 (Nat.le_refl _))
        | (go_at_call_of 8 (Value.slice a3 n3 d3); refine (T3.out _ h3').mono ?_; rintro e y5 ⟨rfl, f5⟩; have e5 := below_step e4 f5)
        | (go_at_call_of 10 (Value.int .i64 2); refine (answer2_any _).mono ?_; rintro e y6 ⟨rfl, f6⟩; have e6 := below_step e5 f6))
      go_ret
      exact ⟨rfl, bw.trans (e6.mono bw.size)⟩
end Go.Proofs.YtbgjnegojoaimaaGreatDoor
namespace Go.Proofs.YtbgjnegojoaimaaGreatDoor.stdCpu
open Go.ChangeShapes Go.WideShapes Go.ChangeAt Go.RowKit

/-- The plain wrap with a condition on memory, the world's shape kept. -/
theorem returns_and_shaped {H : Type} {enc : TypeId × Value → H} {a : Assume} {C : Checked} {os : Os} {f : FuncId} {fn : Func} {s : ChangeSpec} {conds : List PathCond} {apart fresh handsOn again : Bool} {X : World → Array Value → Prop}
    (hX : ∀ (w w' : World) (args : Array Value), w.heap = w'.heap → X w args → X w' args)
    (own : ownKnob C.prog.godebug = none) (started : os.Started) (noInit : C.prog.inits.idxOf? f = none) (_ : C.prog.funcs[f]? = some fn)
    (witness : ∃ (w : World) (tape : Tape) (i : Input), w.os = os ∧ (w.forCall tape i).Shaped C.prog ∧ i.vars = [] ∧ Input.okWide C.prog (w.forCall tape i) .any w.heap.size f i ∧
      ((s.pre enc C.prog fn conds apart (w.forCall tape i).memory i.args ∧ X (w.forCall tape i).memory i.args) ∧ sizedMet enc C.prog fn (OpenSpec.ofChange s) apart (w.forCall tape i).memory i.args) ∧ a.holds C.prog (lone (Frame.enter C.prog f i.args .normal) [] (w.forCall tape i)))
    (contract : ∀ (W : World) (args : Array Value) (ds gs : List (DataW H)) (before : List MemPlace),
      DataW.Whole enc C.prog fn.params.toList s.vars apart W args.toList ds gs before → W.ShapedOpen C.prog → X W args →
      Calls C.prog f args W fun e W' => ∃ v, e = .returned v ∧ s.post enc C.prog fn apart fresh handsOn again W args v W') :
    ReturnsInHanded a C os f .any (fun w args => (s.pre enc C.prog fn conds apart w args ∧ X w args) ∧ sizedMet enc C.prog fn (OpenSpec.ofChange s) apart w args) (s.post enc C.prog fn apart fresh handsOn again) := by
  refine returnsInHanded_of_calls own started noInit witness ?_
  intro w tape i _ hsh _ _ hpre _
  obtain ⟨⟨⟨ds, gs, before, hw, _⟩, hx⟩, _⟩ := hpre
  have hw' := DataW.Whole.of_heap (w' := w.forCall tape i) (by rfl) hw
  refine (contract (w.forCall tape i) i.args ds gs before hw' hsh (hX _ _ _ (by rfl) hx)).mono fun e W' ⟨v, he, hp⟩ => ?_
  subst he
  exact ChangeSpec.post_blind hp

theorem own : ownKnob Tryz.prog.godebug = none := by kernel_rfl
/-- A heap in which the variables are laid meets the condition. -/
theorem door_met (os : Os) : laidMetH Tryz.prog Rows.stdCpuRow.laid ((World.laidAll Tryz.prog os Rows.stdCpuRow.laid).forCall (fun _ _ => 0) ⟨#[], #[], []⟩).memory := by
  rw [MakeChecks.laidMetH_plain _ _ _ (by kernel_rfl)]
  exact laidMet_laidAll _ (by kernel_rfl) (by kernel_rfl)
/-- What the condition gives the walk. -/
theorem of_laid {W : World} (hs : W.ShapedOpen Tryz.prog) (h : laidMetH Tryz.prog Rows.stdCpuRow.laid W) : libW W ∧ 2 < W.heap.size ∧ 0 < W.heap.size := by
  have h1 := h.filter (fun x => x.1 == "strings.asciiSpace")
  have e : Rows.stdCpuRow.laid.filter (fun x => x.1 == "strings.asciiSpace") = [("strings.asciiSpace", Lib.tabData .u8 Lib.asciiSpaceTab)] := by kernel_rfl
  rw [e, MakeChecks.laidMetH_plain _ _ _ (by kernel_rfl)] at h1
  have hg : Tryz.prog.globalNamed "strings.asciiSpace" = some 0 := by kernel_rfl
  have ht := Lib.tabIs_of_head hg (t := 65) (e := 5) (n := 256) (by kernel_rfl) (by kernel_rfl) (by kernel_rfl) (by kernel_rfl) (by kernel_rfl) h1
  obtain ⟨m, hm⟩ := cell_of_shapedOpen_int (g := 2) (t := 3) (zero := #[.int .i64 0]) (k := .i64) hs (of_decide_eq_true (by kernel_rfl)) (by kernel_rfl) (by kernel_rfl) (by kernel_rfl) (by kernel_rfl) Tryz.underlying3
  refine ⟨⟨ht, m, hm⟩, (cell_block hm).1, ?_⟩
  have h0 := ht.cell hg 0 (by rw [Lib.asciiSpaceTab_length]; decide)
  exact (cell_block h0).1

theorem walk (w : World) (h : libW w ∧ 2 < w.heap.size ∧ 0 < w.heap.size) :
    Calls Tryz.prog 3 #[] w fun e w' => e = .returned (.bool true) ∧ Below w.heap.size w w' := stdCpu_walk w h.1 h.2

set_option maxRecDepth 100000 in
theorem lifted (os : Os) (started : os.Started) (H : Type) (enc : TypeId × Value → H) :
    ReturnsInHanded {} Tryz.checked os 3 .any (fun w args => (Rows.stdCpuSpec.pre enc Tryz.prog Tryz.f3 [] false w args ∧ laidMetH Tryz.prog Rows.stdCpuRow.laid w) ∧ sizedMet enc Tryz.prog Tryz.f3 (OpenSpec.ofChange Rows.stdCpuSpec) false w args)
      (Rows.stdCpuSpec.post enc Tryz.prog Tryz.f3 false true false false) := by
  refine returns_and_shaped (C := Tryz.checked) (X := fun w _ => laidMetH Tryz.prog Rows.stdCpuRow.laid w) (fun _ _ _ hh h => h.of_heap hh) own started (by kernel_rfl) Tryz.func3
    (ChangeSpec.witness_shaped (enc := enc) (C := Tryz.checked) (os := os) (X := fun w _ => laidMetH Tryz.prog Rows.stdCpuRow.laid w) false (World.laidAll Tryz.prog os Rows.stdCpuRow.laid) #[] 8 (World.laidAll_os _ _ _) (World.shaped_of_ZipB (by kernel_rfl) (by kernel_rfl)) (by kernel_rfl) (by kernel_rfl) (by kernel_rfl) (door_met os)) ?_
  intro W args ds gs before hW hshape hL
  have hW' := hW
  obtain ⟨p, q, hA0, hV, rfl, hfz, hnd⟩ := hW
  have hA : DataW.TrodAll enc Tryz.prog W 0 (fun _ => true) true Tryz.f3.params.toList args.toList ds p := hA0
  rw [Tryz.params3] at hA
  obtain ⟨rfl, rfl, rfl⟩ := trodAll_none hA
  obtain ⟨rfl, rfl⟩ := trodVars_none hV
  clear hA0
  simp only [List.append_nil] at hW'
  refine (walk W (of_laid hshape hL)).mono fun e W' ⟨he, hg⟩ => ?_
  subst he
  exact ⟨_, rfl, _, _, _, [], _, [], hW', trodAll_mk1 (shut_bool Tryz.underlying4 _), trodAll_mk0, rfl, hg.frame _, fun h => by cases h⟩

theorem over : Rows.StdCpuSaid :=
  OpenClaim.holds_of_wide 3 Tryz.f3 rfl rfl rfl rfl rfl rfl rfl ⟨rfl, rfl, rfl, rfl, rfl⟩ rfl rfl rfl rfl rfl (by kernel_rfl) Tryz.func3 (by kernel_rfl)
    (of_decide_eq_true (by kernel_rfl)) (by unfold Func.isWrapper; first | (rw [if_pos (by decide +kernel)]; kernel_rfl) | (rw [if_neg (by decide +kernel)]; exact ⟨rfl, rfl⟩))
    (fun os started H enc _ => lifted os started H enc)

theorem proved : Rows.StdCpuCardSaid :=
  Claim7.holds_tied_plain_at .later [] [.data, .listed, .data, .pinned] true _ false
    over (fun _ h => by cases h) (by kernel_rfl) (fun _ h => by cases h) stdCpu_row_tie rfl ⟨rfl, rfl⟩ (by kernel_rfl) rfl
    (fun f fn hf hfn => by
      obtain rfl : f = 3 := Option.some.inj ((show Tryz.prog.funcNamed "bakelite/bakelaw1.StdCpu" = some 3 by kernel_rfl).symm.trans hf) |>.symm
      obtain rfl : fn = Tryz.f3 := (Option.some.inj (Tryz.func3.symm.trans hfn)).symm
      exact ⟨by kernel_rfl, fun j t ht => by
        rw [Tryz.params3] at ht
        simp at ht⟩)
    (by kernel_rfl)
#print axioms proved
end Go.Proofs.YtbgjnegojoaimaaGreatDoor.stdCpu
