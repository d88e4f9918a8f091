/- The law CoreResets: the museum's processor begins where its memory says. -/
import Derived.Test.YtdaaaaacknpbhaaChecked
import Derived.Test.YtdaaaaacknpbhaaCoresK
import Derived.Test.YtdaaaaacknpbhaaWholes
import Derived.Below
import Derived.BigQuiet
import Derived.ChangeMaps5
import Derived.Deep.CutBlock
import Derived.Deep.DeepAppendWide
import Derived.Deep.DeepCutAuto
import Derived.Deep.Draws
import Derived.Deep.MidRow
import Derived.Deep.OwnRows
import Derived.Deep.QuietTactic
import Derived.Deep.RegionHeld3
import Derived.Deep.RegionLaw
import Derived.Deep.RegionWith
import Derived.Deep.Slices
import Derived.Deep.WholeRow
import Derived.Great.BuildSlice
import Derived.Laws.CopyOwn
import Derived.Laws.OwnMore
import Derived.Lib.Hide
import Derived.Lib.SmallJoins
import Derived.OpenShut
import Derived.OrdersHeld
import Derived.OwnWalk
import Derived.RangeFuncBox
import Derived.RowKit3
import Derived.Shelf.Abstract
import Derived.SizedLaws
import Derived.StillTactics
import Derived.StillTail
import Derived.StillTailTactics
import Derived.WalkKit
namespace Go.Proofs.Ytdaaaaacknpbhaa
open Go.RowKit
set_option maxRecDepth 100000

theorem newR_fits : fits newR := fun k => by
  unfold newR
  split <;> simp
theorem reset_pure (m : Nat → Int) (hm : isMem m) : ∃ f' l, runK flatF stdC 20 ⟨newR, 258, 0, false⟩ m = (⟨f', -1, 0, false⟩, l, m) ∧ l.length = 2 ∧ f' 7 = m 65532 + 256 * m 65533 ∧ f' 3 = 255 ∧ f' 4 = 4 := by
  have hf := newR_fits
  have h := run_exec flatF stdC 258 false (by decide) (by decide) [⟨1, 11, 6, [⟨18, 7, 5, 0⟩, ⟨19, 7, 6, 0⟩, ⟨2, 3, 0, 255⟩]⟩] ⟨1, 10, 5, []⟩ [] newR m 20 rfl (by decide)
  have hv := hm 65532
  have hu := hm 65533
  have o1 := c_fixed hf hm 10 (by decide) 5 (rI := 5) rfl (by decide) []
  rw [stepsF_nil, show at16 (fixedAt 10) = 65532 from by decide] at o1
  obtain ⟨v, e1⟩ : ∃ v, v = m 65532 := ⟨_, rfl⟩
  obtain ⟨u, e2⟩ : ∃ u, u = m 65533 := ⟨_, rfl⟩
  rw [← e1] at hv o1 ⊢
  rw [← e2] at hu ⊢
  have p1 := fits_set hf 5 v hv.1 hv.2
  have o2 := c_fixed p1 hm 11 (by decide) 6 (rI := 6) rfl (by decide) [⟨18, 7, 5, 0⟩, ⟨19, 7, 6, 0⟩, ⟨2, 3, 0, 255⟩]
  rw [show at16 (fixedAt 11) = 65533 from by decide, ← e2] at o2
  have p2 := fits_set p1 6 u hu.1 hu.2
  have p3 := fits_setP p2 7 v (by omega) (by omega) (fun h => absurd rfl h)
  have p4 := fits_setP p3 7 (v + 256 * u) (by omega) (by omega) (fun h => absurd rfl h)
  have p5 := fits_set p4 3 255 (by decide) (by decide)
  have s2 : stepsF [⟨18, 7, 5, 0⟩, ⟨19, 7, 6, 0⟩, ⟨2, 3, 0, 255⟩] (setR (setR newR 5 v) 6 u) = (setR (setR (setR (setR (setR newR 5 v) 6 u) 7 v) 7 (v + 256 * u)) 3 255, false) := by
    have q1 : setR (setR newR 5 v) 6 u 7 = 0 := by simp [setR, newR]
    have q2 : setR (setR newR 5 v) 6 u 5 = v := by simp [setR]
    have q3 : setR (setR (setR newR 5 v) 6 u) 7 v 6 = u := by simp [setR]
    rw [stepsF_cons _ _ _ _ _ (by decide), show reg 7 = 7 from rfl, show reg 5 = 5 from rfl, do_low p2 7 5 0 (.inl rfl) (by rw [q2]; exact hv.2), q1, q2, show (0 : Int) / 256 * 256 + v = v by omega,
      stepsF_cons _ _ _ _ _ (by decide), show reg 7 = 7 from rfl, show reg 6 = 6 from rfl, do_high p3 7 6 0 (.inl rfl) (by rw [q3]; exact hu.2), q3, setR_same, show v % 256 + 256 * u = v + 256 * u by omega,
      stepsF_cons _ _ _ _ _ (by decide), show reg 3 = 3 from rfl, do_lit p4 3 _ 255 (by decide) (by decide) (fun _ _ => by decide), stepsF_nil]
  rw [s2] at o2
  rw [exec_cons o1, exec_cons o2, exec_nil] at h
  refine ⟨_, _, h, rfl, ?_, ?_, ?_⟩
  · simp [setR]
  · simp [setR]
  · simp [setR, newR]

theorem busO_len {lo : Nat} {w : World} {a : Option Addr} {n c : Nat} {l : List Bu} (h : busO lo w (.slice a n c) l) : n = l.length := by
  obtain ⟨a', c', e⟩ := own_slice h
  injection e
set_option maxHeartbeats 4000000 in
theorem coreResets_walk (low high : Int) (w : World) :
    Calls Try.prog 12 #[.int .i64 low, .int .i64 high] w fun e w' => e = .returned (.bool true) ∧ Below w.heap.size w w' := by
  obtain ⟨cs0, hcs0⟩ : ∃ cs0, cs0 = madeCells #[Value.int .u8 0] 65536 := ⟨_, rfl⟩
  obtain ⟨i8, hi8, hz8, hs8, hb8⟩ : ∃ i, Try.prog.info? 5 = some i ∧ i.zero = some (.int .u8 0) ∧ i.size = 1 ∧ i.bytes = 1 := by
    have h : (Try.prog.info? 5).map (fun i => (i.zero, i.size, i.bytes)) = some (some (.int .u8 0), 1, 1) := by kernel_rfl
    cases hh : Try.prog.info? 5 with
    | none => rw [hh] at h; cases h
    | some i => rw [hh] at h; simp only [Option.map_some, Option.some.injEq, Prod.mk.injEq] at h; exact ⟨i, rfl, h⟩
  have HC0 := Lib.hid hcs0
  have H8 := Lib.hid hb8
  clear hcs0 hb8
  go_enter Try.func12, Try.ntmps12
  go_upto_region 2 with (refine wpList_make_row _ rfl _ _ 72 rfl 5 i8 (.int .u8 0) Try.underlying72 hi8 hz8 hs8 rfl .i64 .i64 65536 rfl rfl (by rw [H8.out]; decide) (by decide) ?_; rw [← HC0.out])
  have b2 := ((Below.refl w.heap.size w).alloc (Nat.le_refl _) (.cells cs0 5)).alloc (by simp) (.cells #[.slice (some ⟨w.heap.size, 0, none⟩) 65536 65536] 76)
  have m2 := rowB_alloc (rowB_new w 5 cs0) (.cells #[.slice (some ⟨w.heap.size, 0, none⟩) 65536 65536] 76)
  have g2 := rowB_new (w.alloc (.cells cs0 5)) 76 #[.slice (some ⟨w.heap.size, 0, none⟩) 65536 65536]
  rw [World.size_alloc] at g2
  have hm0 : flatW (w.heap.size + 1) w.heap.size ((w.alloc (.cells cs0 5)).alloc (.cells #[.slice (some ⟨w.heap.size, 0, none⟩) 65536 65536] 76)) (fun _ => 0) :=
    ⟨g2, ⟨cs0, m2, by rw [HC0.out, zeros_size], fun k hk => by rw [HC0.out]; exact zeros_get _ _ _ hk⟩, by omega, fun _ => by decide⟩
  generalize (w.alloc (.cells cs0 5)).alloc (.cells #[.slice (some ⟨w.heap.size, 0, none⟩) 65536 65536] 76) = w2 at *
  clear m2 g2
  have gc := rowB_cell hm0.hg 0 rfl
  refine wp_region_mix (fun _ => True) [(0, 0), (1, 0), (2, 0), (3, 0), (4, 0), (5, 0), (6, 0), (7, 0), (8, 0), (9, 0), (10, 1), (11, 1), (12, 0), (13, 3), (14, 0), (15, 2)] (by kernel_rfl) (by kernel_rfl) (fun _ _ _ _ _ h => h) ?_
  simp only [List.map_cons, List.map_nil, opOf, List.getD_cons_zero, List.getD_cons_succ]
  change wpMix _ _ _ _ _ _ w2.drew
  have hm1 := (flat_memC (w.heap.size + 1) w.heap.size).drew hm0
  have gc : w2.drew.cell? ⟨w.heap.size + 1, 0, none⟩ = some (.slice (some ⟨w.heap.size, 0, none⟩) 65536 65536) := gc
  have b2 := b2.drew
  generalize w2.drew = w3 at *
  clear hm0
  have wl : IntKind.u8.wrap low = low % 256 := rfl
  have wh : IntKind.u8.wrap high = high % 256 := rfl
  iterate 10 (refine wpMix_still (fun K hK => ?_); go_simp; refine hK _ ?_; clear hK K)
  refine wpMix_held (.int .i64 high) rfl trivial (fun w' hw' => by go_simp) ?_
  simp only [Act.put, List.setIfInBounds_toArray, List.set_cons_zero, List.set_cons_succ]
  refine wpMix_held (.int .u8 (high % 256)) rfl trivial (fun w' hw' => by go_simp) ?_
  simp only [Act.put, List.setIfInBounds_toArray, List.set_cons_zero, List.set_cons_succ]
  (refine wpMix_still (fun K hK => ?_); go_simp; refine hK _ ?_; clear hK K)
  have c1 := hm1.cell (k := 65532) (by decide)
  have f1 := hm1.free 65532
  have hm2 := hm1.put (k := 65532) (by decide) (low % 256) (by omega)
  have b3 := b2.setCell (p := ⟨w.heap.size, 65532, none⟩) (Nat.le_refl _) (.int .u8 (low % 256))
  refine wpMix_call ?_
  go_wp2_with fail
  first | refine ⟨fun _ => trivial, ?_⟩ | skip
  generalize w3.setCell ⟨w.heap.size, 65532, none⟩ (.int .u8 (low % 256)) = w4 at *
  clear hm1 b2 c1 f1 gc
  (refine wpMix_still (fun K hK => ?_); go_simp; refine hK _ ?_; clear hK K)
  have c2 := hm2.cell (k := 65533) (by decide)
  have f2 := hm2.free 65533
  have hm3 := hm2.put (k := 65533) (by decide) (high % 256) (by omega)
  have b4 := b3.setCell (p := ⟨w.heap.size, 65533, none⟩) (Nat.le_refl _) (.int .u8 (high % 256))
  refine wpMix_call ?_
  go_wp2_with fail
  first | refine ⟨fun h => (by cases h), ?_⟩ | skip
  generalize w4.setCell ⟨w.heap.size, 65533, none⟩ (.int .u8 (high % 256)) = w5 at *
  clear hm2 b3 c2 f2
  refine wpMix_nil ?_
  obtain ⟨m, hmd⟩ : ∃ m : Nat → Int, m = fun j => if j = 65533 then high % 256 else if j = 65532 then low % 256 else 0 := ⟨_, rfl⟩
  have hm : flatW (w.heap.size + 1) w.heap.size w5 m := hmd ▸ hm3
  have hM : isMem m := hm.byte
  have hl : m 65532 = low % 256 := by rw [hmd]; rfl
  have hh : m 65533 = high % 256 := by rw [hmd]; rfl
  clear hm3 hmd
  obtain ⟨f2, l2, hrun, hl2, r7, r3, r4⟩ := reset_pure m hM
  have hR : ∀ (a0 : Option Addr) (n0 c0 : Nat) (a1 : Option Addr) (n1 c1 : Nat) (a2 : Option Addr) (n2 c2 : Nat) (a3 : Option Addr) (n3 c3 : Nat) (wx : World), flatW (w.heap.size + 1) w.heap.size wx m → stdAt wx (.slice a0 n0 c0) (.slice a1 n1 c1) (.slice a2 n2 c2) (.slice a3 n3 c3) →
      Calls Try.prog 22 #[.agg (cpu5 stdC.name (.slice a0 n0 c0) (.slice a1 n1 c1) (.slice a2 n2 c2) (.slice a3 n3 c3)), .agg (core12 newR 258 0 false), .iface 68 (.pointer (some ⟨w.heap.size + 1, 0, none⟩))] wx (runEnd (flatG (w.heap.size + 1) w.heap.size) (flatW (w.heap.size + 1) w.heap.size) wx (⟨f2, -1, 0, false⟩, l2, m)) := fun a0 n0 c0 a1 n1 c1 a2 n2 c2 a3 n3 c3 wx h1 h2 => by
    have := run_std (g := w.heap.size + 1) (b := w.heap.size) ⟨newR, 258, 0, false⟩ m wx h1 h2
    rw [hrun] at this
    exact this
  have HRUN := Lib.hid hR
  rw [hl] at r7
  rw [hh] at r7
  have H7 := Lib.hid r7
  have HL := Lib.hid hl2
  have H3 := Lib.hid r3
  have H4 := Lib.hid r4
  clear hR hrun r7 r3 r4 hl2 hl hh hM gc wl wh
  go_upto_region 4 with (first
      | (go_at_call 41; refine (cpu_end _).mono ?_; rintro e w6 ⟨a0, n0, c0, a1, n1, c1, a2, n2, c2, a3, n3, c3, rfl, -, hs, hb⟩; have hm6 := (flat_memC _ _).call hm hb)
      | (go_at_call 43; refine (new_any _).mono ?_; rintro e w7 ⟨rfl, hb7⟩; have hm7 := (flat_memC _ _).call hm6 hb7; have hs7 := hs.below hb7)
      | (go_at_call 22; refine (HRUN.out _ _ _ _ _ _ _ _ _ _ _ _ _ hm7 hs7).mono ?_; rintro e w8 ⟨sa, sn, sc, rfl, hbus, hm8, ho8⟩; have nz := rowB_new w8 29 (core12 (fun _ => 0) 0 0 false))
      | (refine wpList_storeR rfl 29 _ _ rfl (w8.heap.size) rfl (core12 f2 (-1) 0 false) rfl (core12_one _ _ _ _) 29 (core12 (fun _ => 0) 0 0 false) rfl ?_ agK ?_; exact nz))
  obtain rfl : sn = 2 := (busO_len hbus).trans HL.out
  have bA := b4.trans ((hb.trans (hb7.mono hb.size)).mono b4.size)
  have bB := flat_below bA (show w.heap.size ≤ w.heap.size + 1 by omega) (Nat.le_refl _) ho8
  have bC := below_rowR (bB.alloc bB.size (.cells (core12 (fun _ => 0) 0 0 false) 29)) (core12 f2 (-1) 0 false) bB.size
  have nB := rowB_row nz (core12 f2 (-1) 0 false)
  change Code.wp _ _ _ _ ((w8.alloc (.cells (core12 (fun _ => 0) 0 0 false) 29)).setRow w8.heap.size (core12 f2 (-1) 0 false))
  generalize (w8.alloc (.cells (core12 (fun _ => 0) 0 0 false) 29)).setRow w8.heap.size (core12 f2 (-1) 0 false) = w9 at *
  generalize w8.heap.size = q at *
  clear hb hm6 hb7 hm7 hs7 hs hbus hm8 ho8 nz HRUN hm b4 bA bB
  have lo8 := fun n w => low_any n 8 w
  rw [show wd 8 = 8 from rfl] at lo8
  simp only [lo8_eq] at lo8
  have ml : 0 ≤ low % 256 ∧ low % 256 < 256 := by omega
  have mh : 0 ≤ high % 256 ∧ high % 256 < 256 := by omega
  have e7 : f2 7 = low % 256 + 256 * (high % 256) := H7.out
  obtain ⟨L, hL⟩ : ∃ L, L = low % 256 := ⟨_, rfl⟩
  obtain ⟨H, hH⟩ : ∃ H, H = high % 256 := ⟨_, rfl⟩
  have lL := fun w => lo8 low w
  have lH := fun w => lo8 high w
  rw [← hL] at lL ml e7
  rw [← hH] at lH mh e7
  have E7 := Lib.hid e7
  have t7 : (L + 256 * H == L + 256 * H) = true := by simp
  clear lo8 hL hH e7 H7
  go_upto_region 5 with (first
      | (go_at_call_of 39 (Value.int .i64 low); refine (lL _).mono ?_; rintro e w' ⟨rfl, rfl⟩)
      | (go_at_call_of 39 (Value.int .i64 high); refine (lH _).mono ?_; rintro e w' ⟨rfl, rfl⟩))
  go_wp2_with (first
      | (go_at_call 38; refine (wholes_keep _).mono ?_; rintro e wx ⟨rfl, hb⟩; have nB1 := rowB_below nB hb (rowB_lt nB); have bD := bC.trans (hb.mono bC.size))
      | (go_at_call 33; refine (cores_keep _).mono ?_; rintro e wy ⟨rfl, hb2⟩; have nB2 := rowB_below nB1 hb2 (rowB_lt nB1); have bE := bD.trans (hb2.mono bD.size); have c9 := coreB_op nB2; have c7 := coreB_reg nB2 7 (by decide); have c3 := coreB_reg nB2 3 (by decide); have c4 := coreB_reg nB2 4 (by decide); rw [E7.out] at c7; rw [H3.out] at c3; rw [H4.out] at c4))
  go_ret
  exact ⟨rfl, bE⟩
end Go.Proofs.Ytdaaaaacknpbhaa
