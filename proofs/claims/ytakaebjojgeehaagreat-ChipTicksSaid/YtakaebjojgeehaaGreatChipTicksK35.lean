/- A part of the proof of ChipTicks: DrvMb. -/
import Derived.Test.YtakaebjojgeehaaGreatChipTicksK01
import Derived.Test.YtakaebjojgeehaaGreatChipTicksK02
import Derived.Test.YtakaebjojgeehaaGreatChipTicksK03
import Derived.Test.YtakaebjojgeehaaGreatChipTicksK04
import Derived.Test.YtakaebjojgeehaaGreatChipTicksK05
import Derived.Test.YtakaebjojgeehaaGreatChipTicksK06
import Derived.Test.YtakaebjojgeehaaGreatChipTicksK09
import Derived.Test.YtakaebjojgeehaaGreatChipTicksK12
import Derived.Test.YtakaebjojgeehaaGreatChipTicksK13
import Derived.Test.YtakaebjojgeehaaGreatChipTicksK16
import Derived.Test.YtakaebjojgeehaaGreatChipTicksK17
import Derived.Test.YtakaebjojgeehaaGreatChipTicksK18
import Derived.Test.YtakaebjojgeehaaGreatChipTicksK19
import Derived.Test.YtakaebjojgeehaaGreatChipTicksK20
import Derived.Below
import Derived.BigQuiet
import Derived.ChangeMaps5
import Derived.Deep.AppendSrc
import Derived.Deep.DeepAppendWide
import Derived.Deep.DeepCutAuto
import Derived.Deep.Draws
import Derived.Deep.MidRow
import Derived.Deep.OwnRows
import Derived.Deep.QuietTactic
import Derived.Deep.RegionHeld3
import Derived.Deep.RegionWith
import Derived.Deep.Slices
import Derived.Deep.WholeRow
import Derived.Laws.CopyOwn
import Derived.Laws.OwnMore
import Derived.Lib.Hide
import Derived.Lib.SmallJoins
import Derived.Maps.AppendAt
import Derived.OpenShut
import Derived.OrdersHeld
import Derived.OwnWalk
import Derived.RowKit3
import Derived.StillTactics
import Derived.StillTail
import Derived.StillTailTactics
import Derived.Test.YtakaebjojgeehaaGreatChecked
import Derived.WalkKit
namespace Go.Proofs.YtakaebjojgeehaaGreat
open Go.RowKit
set_option maxRecDepth 100000
theorem drvBegin_any (lo y : Nat) (k t c e n l d r o b : Int) (m : List Int) (u : Value) (x z : Int) (w : World) (h : stD lo w y ⟨k, t, c, e, n, l, d, r, o, b, m⟩ u) (hx : 0 ≤ x ∧ x < 16) :
    Calls Tryz.prog 121 #[.pointer (some ⟨y, 0, none⟩), .int .i64 x, .int .i64 z] w fun e' w' => e' = .returned (.tuple #[]) ∧ stD lo w' y (if c ≠ 0 ∨ x = 0 ∨ 4 < x ∨ (2 < x ∧ k = 0) then ⟨k, t, c, e, n, l, d, r, o, b, m⟩ else ⟨k, t, x, z, 0, 30, d, oneD (x == 4), o, b, m⟩) u ∧ Below lo w w' := by
  obtain ⟨⟨e0, e1, e2, e3, e4, e5, e6, e7, e8, e9, e10⟩, ⟨z0, z1, z2, z3, z4, z5, z6, z7, z8, z9, z10⟩⟩ := elCells h.row
  by_cases h0 : c = 0
  · subst h0
    by_cases h1 : 0 < x ∧ x ≤ 4
    · have hi : decide (0 < x ∧ x ≤ 4) = true := decide_eq_true h1
      by_cases h2 : k = 0 ∧ (x = 3 ∨ x = 4)
      · have hl : decide (k = 0 ∧ (x = 3 ∨ x = 4)) = true := decide_eq_true h2
        rw [if_pos (show (0 : Int) ≠ 0 ∨ x = 0 ∨ 4 < x ∨ (2 < x ∧ k = 0) by omega)]
        go_enter Tryz.func121, Tryz.ntmps121
        go_wp2_with (first
            | (go_at_call 150; refine (drvIsCmd_any _ _).mono ?_; rintro e2 w2 ⟨rfl, rfl⟩; rw [hi])
            | (go_at_call 93; refine (drvLacks_any y _ _ _ e0).mono ?_; rintro e2 w2 ⟨rfl, rfl⟩; rw [hl])
      )
        first | refine bodyPost_end (results_none rfl _ _ _) rfl ?_ | refine bodyPost_ret (results_none rfl _ _ _) rfl ?_
        exact ⟨rfl, h, Below.refl _ _⟩
      · have hl : decide (k = 0 ∧ (x = 3 ∨ x = 4)) = false := decide_eq_false h2
        rw [if_neg (show ¬ ((0 : Int) ≠ 0 ∨ x = 0 ∨ 4 < x ∨ (2 < x ∧ k = 0)) by omega)]
        by_cases h4 : x = 4
        · have q4 : (x == 4) = true := by simpa using h4
          rw [show oneD (x == 4) = 1 by rw [q4]; rfl]
          clear h4
          go_enter Tryz.func121, Tryz.ntmps121
          go_wp2_with (first
              | (go_at_call 150; refine (drvIsCmd_any _ _).mono ?_; rintro e2 w2 ⟨rfl, rfl⟩; rw [hi])
              | (go_at_call 93; refine (drvLacks_any y _ _ _ e0).mono ?_; rintro e2 w2 ⟨rfl, rfl⟩; rw [hl])
        )
          refine bodyPost_end (results_none rfl _ _ _) rfl ⟨rfl, (stD.put (stD.put (stD.put (stD.put (stD.put (stD.put h 2 (.int .i64 x) (t := ⟨k, t, x, e, n, l, d, r, o, b, m⟩) rfl rfl) 3 (.int .i64 z) (t := ⟨k, t, x, z, n, l, d, r, o, b, m⟩) rfl rfl) 4 (.int .i64 0) (t := ⟨k, t, x, z, 0, l, d, r, o, b, m⟩) rfl rfl) 5 (.int .i64 30) (t := ⟨k, t, x, z, 0, 30, d, r, o, b, m⟩) rfl rfl) 7 (.int .i64 0) (t := ⟨k, t, x, z, 0, 30, d, 0, o, b, m⟩) rfl rfl) 7 (.int .i64 1) (t := ⟨k, t, x, z, 0, 30, d, 1, o, b, m⟩) rfl rfl), (Below.setCell (Below.setCell (Below.setCell (Below.setCell (Below.setCell (Below.setCell (Below.refl lo w) (p := ⟨y, 2, none⟩) h.lo (.int .i64 x)) (p := ⟨y, 3, none⟩) h.lo (.int .i64 z)) (p := ⟨y, 4, none⟩) h.lo (.int .i64 0)) (p := ⟨y, 5, none⟩) h.lo (.int .i64 30)) (p := ⟨y, 7, none⟩) h.lo (.int .i64 0)) (p := ⟨y, 7, none⟩) h.lo (.int .i64 1))⟩
        · have q4 : (x == 4) = false := by simpa using h4
          rw [show oneD (x == 4) = 0 by rw [q4]; rfl]
          go_enter Tryz.func121, Tryz.ntmps121
          go_wp2_with (first
              | (go_at_call 150; refine (drvIsCmd_any _ _).mono ?_; rintro e2 w2 ⟨rfl, rfl⟩; rw [hi])
              | (go_at_call 93; refine (drvLacks_any y _ _ _ e0).mono ?_; rintro e2 w2 ⟨rfl, rfl⟩; rw [hl])
        )
          refine bodyPost_end (results_none rfl _ _ _) rfl ⟨rfl, (stD.put (stD.put (stD.put (stD.put (stD.put h 2 (.int .i64 x) (t := ⟨k, t, x, e, n, l, d, r, o, b, m⟩) rfl rfl) 3 (.int .i64 z) (t := ⟨k, t, x, z, n, l, d, r, o, b, m⟩) rfl rfl) 4 (.int .i64 0) (t := ⟨k, t, x, z, 0, l, d, r, o, b, m⟩) rfl rfl) 5 (.int .i64 30) (t := ⟨k, t, x, z, 0, 30, d, r, o, b, m⟩) rfl rfl) 7 (.int .i64 0) (t := ⟨k, t, x, z, 0, 30, d, 0, o, b, m⟩) rfl rfl), (Below.setCell (Below.setCell (Below.setCell (Below.setCell (Below.setCell (Below.refl lo w) (p := ⟨y, 2, none⟩) h.lo (.int .i64 x)) (p := ⟨y, 3, none⟩) h.lo (.int .i64 z)) (p := ⟨y, 4, none⟩) h.lo (.int .i64 0)) (p := ⟨y, 5, none⟩) h.lo (.int .i64 30)) (p := ⟨y, 7, none⟩) h.lo (.int .i64 0))⟩
    · have hi : decide (0 < x ∧ x ≤ 4) = false := decide_eq_false h1
      rw [if_pos (show (0 : Int) ≠ 0 ∨ x = 0 ∨ 4 < x ∨ (2 < x ∧ k = 0) by omega)]
      go_enter Tryz.func121, Tryz.ntmps121
      go_wp2_with (first
          | (go_at_call 150; refine (drvIsCmd_any _ _).mono ?_; rintro e2 w2 ⟨rfl, rfl⟩; rw [hi])
          | (go_at_call 93; refine (drvLacks_any y _ _ _ e0).mono ?_; rintro e2 w2 ⟨rfl, rfl⟩; rw [hl])
    )
      first | refine bodyPost_end (results_none rfl _ _ _) rfl ?_ | refine bodyPost_ret (results_none rfl _ _ _) rfl ?_
      exact ⟨rfl, h, Below.refl _ _⟩
  · have q : (c == 0) = false := by simpa using h0
    rw [if_pos (show c ≠ 0 ∨ x = 0 ∨ 4 < x ∨ (2 < x ∧ k = 0) by omega)]
    go_enter Tryz.func121, Tryz.ntmps121
    go_wp2_with fail
    first | refine bodyPost_end (results_none rfl _ _ _) rfl ?_ | refine bodyPost_ret (results_none rfl _ _ _) rfl ?_
    exact ⟨rfl, h, Below.refl _ _⟩
theorem drvDev_any (lo y : Nat) (k t c e n l d r o b : Int) (m : List Int) (u : Value) (w : World) (h : stD lo w y ⟨k, t, c, e, n, l, d, r, o, b, m⟩ u) :
    Calls Tryz.prog 95 #[.pointer (some ⟨y, 0, none⟩)] w fun e' w' => ∃ g, e' = .returned (.agg #[.slice (some ⟨g, 0, none⟩) 10 10, u]) ∧ rowB w' g 3 (nums [k, t, c, e, n, l, d, r, o, b]) ∧ w.heap.size ≤ g ∧ Below w.heap.size w w' := by
  obtain ⟨a, cap, rfl⟩ := h.slice
  dsimp only at *
  obtain ⟨k0, bW, sW⟩ := boxes1 w (.cells #[.slice none 0 0, .slice none 0 0] 27)
  have k0 : rowB _ _ _ _ := k0
  replace h := h.alloc (.cells #[.slice none 0 0, .slice none 0 0] 27)
  go_enter Tryz.func95, Tryz.ntmps95
  go_upto_region 1 with (fail)
  generalize w.alloc (.cells #[.slice none 0 0, .slice none 0 0] 27) = w1 at *
  refine wp_region_mixM (fun _ => True) 3298534883327 0 [(0, 0, 3298534883342), (1, 0, 3298534883340), (2, 0, 3298534883336), (3, 0, 3298534883328), (4, 0, 3298534883552), (5, 0, 3298534883520), (6, 0, 3298534883456), (7, 0, 3298534883328), (8, 0, 3298534886912), (9, 0, 3298534886400), (10, 0, 3298534885376), (11, 0, 3298534883328), (12, 0, 3298534940672), (13, 0, 3298534932480), (14, 0, 3298534916096), (15, 0, 3298534883328), (16, 0, 3298535800832), (17, 0, 3298535669760), (18, 0, 3298535407616), (19, 0, 3298534883328), (20, 0, 3298549563392), (21, 0, 3298547466240), (22, 0, 3298543271936), (23, 0, 3298534883328), (24, 0, 3298769764352), (25, 0, 3298736209920), (26, 0, 3298669101056), (27, 0, 3298534883328), (28, 0, 3302292979712), (29, 0, 3301756108800), (30, 0, 3300682366976), (31, 0, 3298534883328), (32, 0, 3358664425472), (33, 0, 3350074490880), (34, 0, 3332894621696), (35, 0, 3298534883328), (36, 0, 4260607557632), (37, 0, 4123168604160), (38, 0, 3848290697216), (39, 0, 3298534883328), (40, 2, 0), (41, 0, 0)] (by kernel_rfl) (by kernel_rfl) (fun _ _ _ _ _ h => h) ?_
  simp only [List.map_cons, List.map_nil, opOf, List.getD_cons_zero, List.getD_cons_succ]
  change wpMix _ _ _ _ _ _ w1.drew
  replace h := h.drew
  replace k0 : rowB w1.drew _ _ _ := k0
  replace bW := bW.drew
  replace sW : w1.drew.heap.size = w.heap.size + 1 := sW
  generalize w1.drew = w2 at *
  obtain ⟨⟨e0, e1, e2, e3, e4, e5, e6, e7, e8, e9, e10⟩, _⟩ := elCells h.row
  (refine wpMix_still (fun K hK => ?_); go_simp; refine hK _ ?_; clear hK K)
  (refine wpMix_still (fun K hK => ?_); go_simp; refine hK _ ?_; clear hK K)
  (refine wpMix_still (fun K hK => ?_); go_simp; refine hK _ ?_; clear hK K)
  (refine wpMix_still (fun K hK => ?_); go_simp; refine hK _ ?_; clear hK K)
  (refine wpMix_still (fun K hK => ?_); go_simp; refine hK _ ?_; clear hK K)
  (refine wpMix_still (fun K hK => ?_); go_simp; refine hK _ ?_; clear hK K)
  (refine wpMix_still (fun K hK => ?_); go_simp; refine hK _ ?_; clear hK K)
  (refine wpMix_still (fun K hK => ?_); go_simp; refine hK _ ?_; clear hK K)
  (refine wpMix_still (fun K hK => ?_); go_simp; refine hK _ ?_; clear hK K)
  (refine wpMix_still (fun K hK => ?_); go_simp; refine hK _ ?_; clear hK K)
  (refine wpMix_still (fun K hK => ?_); go_simp; refine hK _ ?_; clear hK K)
  (refine wpMix_still (fun K hK => ?_); go_simp; refine hK _ ?_; clear hK K)
  (refine wpMix_still (fun K hK => ?_); go_simp; refine hK _ ?_; clear hK K)
  (refine wpMix_still (fun K hK => ?_); go_simp; refine hK _ ?_; clear hK K)
  (refine wpMix_still (fun K hK => ?_); go_simp; refine hK _ ?_; clear hK K)
  (refine wpMix_still (fun K hK => ?_); go_simp; refine hK _ ?_; clear hK K)
  (refine wpMix_still (fun K hK => ?_); go_simp; refine hK _ ?_; clear hK K)
  (refine wpMix_still (fun K hK => ?_); go_simp; refine hK _ ?_; clear hK K)
  (refine wpMix_still (fun K hK => ?_); go_simp; refine hK _ ?_; clear hK K)
  (refine wpMix_still (fun K hK => ?_); go_simp; refine hK _ ?_; clear hK K)
  (refine wpMix_still (fun K hK => ?_); go_simp; refine hK _ ?_; clear hK K)
  (refine wpMix_still (fun K hK => ?_); go_simp; refine hK _ ?_; clear hK K)
  (refine wpMix_still (fun K hK => ?_); go_simp; refine hK _ ?_; clear hK K)
  (refine wpMix_still (fun K hK => ?_); go_simp; refine hK _ ?_; clear hK K)
  (refine wpMix_still (fun K hK => ?_); go_simp; refine hK _ ?_; clear hK K)
  (refine wpMix_still (fun K hK => ?_); go_simp; refine hK _ ?_; clear hK K)
  (refine wpMix_still (fun K hK => ?_); go_simp; refine hK _ ?_; clear hK K)
  (refine wpMix_still (fun K hK => ?_); go_simp; refine hK _ ?_; clear hK K)
  (refine wpMix_still (fun K hK => ?_); go_simp; refine hK _ ?_; clear hK K)
  (refine wpMix_still (fun K hK => ?_); go_simp; refine hK _ ?_; clear hK K)
  (refine wpMix_still (fun K hK => ?_); go_simp; refine hK _ ?_; clear hK K)
  (refine wpMix_still (fun K hK => ?_); go_simp; refine hK _ ?_; clear hK K)
  (refine wpMix_still (fun K hK => ?_); go_simp; refine hK _ ?_; clear hK K)
  (refine wpMix_still (fun K hK => ?_); go_simp; refine hK _ ?_; clear hK K)
  (refine wpMix_still (fun K hK => ?_); go_simp; refine hK _ ?_; clear hK K)
  (refine wpMix_still (fun K hK => ?_); go_simp; refine hK _ ?_; clear hK K)
  (refine wpMix_still (fun K hK => ?_); go_simp; refine hK _ ?_; clear hK K)
  (refine wpMix_still (fun K hK => ?_); go_simp; refine hK _ ?_; clear hK K)
  (refine wpMix_still (fun K hK => ?_); go_simp; refine hK _ ?_; clear hK K)
  (refine wpMix_still (fun K hK => ?_); go_simp; refine hK _ ?_; clear hK K)
  refine wpMix_call ?_
  go_wp2_with fail
  have n5 := rowB_new w2 3 #[.int .i64 k, .int .i64 t, .int .i64 c, .int .i64 e, .int .i64 n, .int .i64 l, .int .i64 d, .int .i64 r, .int .i64 o, .int .i64 b]
  replace k0 := rowB_alloc k0 (.cells #[.int .i64 k, .int .i64 t, .int .i64 c, .int .i64 e, .int .i64 n, .int .i64 l, .int .i64 d, .int .i64 r, .int .i64 o, .int .i64 b] 3)
  replace h := h.alloc (.cells #[.int .i64 k, .int .i64 t, .int .i64 c, .int .i64 e, .int .i64 n, .int .i64 l, .int .i64 d, .int .i64 r, .int .i64 o, .int .i64 b] 3)
  replace bW := bW.alloc (by omega) (.cells #[.int .i64 k, .int .i64 t, .int .i64 c, .int .i64 e, .int .i64 n, .int .i64 l, .int .i64 d, .int .i64 r, .int .i64 o, .int .i64 b] 3)
  clear e0 e1 e2 e3 e4 e5 e6 e7 e8 e9 e10
  generalize w2.alloc (.cells #[.int .i64 k, .int .i64 t, .int .i64 c, .int .i64 e, .int .i64 n, .int .i64 l, .int .i64 d, .int .i64 r, .int .i64 o, .int .i64 b] 3) = w3 at *
  rw [sW] at n5
  obtain ⟨⟨e0, e1, e2, e3, e4, e5, e6, e7, e8, e9, e10⟩, _⟩ := elCells h.row
  try refine ⟨fun h => (by cases h), ?_⟩
  (refine wpMix_still (fun K hK => ?_); go_simp; refine hK _ ?_; clear hK K)
  refine wpMix_nil ?_
  go_wp2_with (refine wpList_storeR rfl 27 _ _ rfl w.heap.size rfl #[.slice (some ⟨w.heap.size + 1, 0, none⟩) 10 10, .slice a m.length cap] rfl (dev2_one _ _ _ _ _ _) 27 #[.slice none 0 0, .slice none 0 0] rfl ?_ agDv ?_; with_reducible exact k0)
  refine bodyPost_ret (resultsR rfl w.heap.size _ rfl (rowB_row k0 _) agDv) rfl ?_
  exact ⟨w.heap.size + 1, rfl, rowB_row_other n5 _ (by omega), by omega, below_rowR bW _ (by omega)⟩
set_option maxHeartbeats 2000000 in
theorem drvTransfer_any (lo y : Nat) (k t c e n l d r o b : Int) (m : List Int) (u : Value) (w : World) (h : stD lo w y ⟨k, t, c, e, n, l, d, r, o, b, m⟩ u) (hs : (⟨k, t, c, e, n, l, d, r, o, b, m⟩ : Dr).fit) (hk : k ≠ 0) (hc : c = 3 ∨ c = 4) :
    Calls Tryz.prog 133 #[.pointer (some ⟨y, 0, none⟩)] w fun e' w' => e' = .returned (.tuple #[]) ∧ stD lo w' y (⟨k, t, c, e, n, l, d, r, o, b, m⟩ : Dr).byte.done u ∧ Below lo w w' := by
  obtain ⟨hp1, hp2⟩ := Dr.at_bd hs hk
  have hk2 := hs.k.1
  have ht := hs.t
  have he := hs.e
  have hn := hs.n
  have hr := hs.r
  have ho := hs.o
  have hd := hs.d
  dsimp only at hp1 hp2 hk2 ht he hn hr ho hd
  have hOr := drOr2 r o hr ho
  have hat : (⟨k, t, c, e, n, l, d, r, o, b, m⟩ : Dr).at = 256 * k - 256 + 64 * t + 16 * e + n := rfl
  obtain ⟨O, hO⟩ : ∃ O, (if r = 1 then 1 else o) = O := ⟨_, rfl⟩
  obtain ⟨j, hj⟩ : ∃ j : Nat, (⟨k, t, c, e, n, l, d, r, o, b, m⟩ : Dr).at = j := ⟨(⟨k, t, c, e, n, l, d, r, o, b, m⟩ : Dr).at.toNat, by omega⟩
  rw [hO] at hOr
  have hpl := fun w' h' => drvPlace_any lo y k t c e n l d r O b m u w' h' hk2 ht he hn
  rw [hj] at hp1 hp2 hat
  simp only [← hat] at hpl
  have hjm : j < m.length := by omega
  have hw1 : wrap64 (n + 1) = n + 1 := IntWalk.wrap64_in _ (by omega)
  rcases hc with hc | hc
  · subst hc
    obtain ⟨Y, hY⟩ : ∃ Y, m.getD j 0 = Y := ⟨_, rfl⟩
    have hYb : 0 ≤ Y ∧ Y < 256 := by rw [← hY, List.getD_eq_getElem?_getD, List.getElem?_eq_getElem hjm]; exact hs.y _ (List.getElem_mem hjm)
    have hYw : wrap64 Y = Y := IntWalk.wrap64_in _ (by omega)
    have hj0 : decide ((j : Int) < 0) = false := decide_eq_false (by omega)
    clear hs
    by_cases h16 : n + 1 = 16
    · have ev : (⟨k, t, 3, e, n, l, d, r, o, b, m⟩ : Dr).byte.done = ⟨k, t, 0, e, 0, 0, Y, 1, O, b, m⟩ := by
        unfold Dr.done Dr.byte
        rw [if_pos (show (3 : Int) = 3 by decide), hj, Int.toNat_natCast]
        dsimp only
        rw [if_pos h16, hO]
        show Dr.mk _ _ _ _ _ _ (m.getD j 0) _ _ _ _ = _
        rw [hY]
        rfl
      rw [ev]
      clear ev hj hO hat
      have q16 : (n + 1 == 16) = true := by simpa using h16
      clear h16
      go_enter Tryz.func133, Tryz.ntmps133
      go_upto_region 0 with (fail)
      refine wp_region_mix (fun _ => True) [(0, 0), (1, 0), (2, 0), (3, 0), (4, 0), (5, 0), (6, 0), (7, 0), (8, 0), (9, 0), (10, 0), (11, 2)] (by kernel_rfl) (by kernel_rfl) (fun _ _ _ _ _ h => h) ?_
      simp only [List.map_cons, List.map_nil, opOf, List.getD_cons_zero, List.getD_cons_succ]
      change wpMix _ _ _ _ _ _ w.drew
      have hd := h.drew
      have bd := (Below.refl lo w).drew
      clear h
      generalize w.drew = w1 at *
      have h := hd
      have e0 := (elCells hd.row).1.2.2.2.2.2.2.2.1
      have e1 := (elCells hd.row).1.2.2.2.2.2.2.2.2.1
      have e2 := (elCells hd.row).2.2.2.2.2.2.2.2.2.1
      (refine wpMix_still (fun K hK => ?_); go_simp; refine hK _ ?_; clear hK K)
      (refine wpMix_still (fun K hK => ?_); go_simp; refine hK _ ?_; clear hK K)
      (refine wpMix_still (fun K hK => ?_); go_simp; refine hK _ ?_; clear hK K)
      (refine wpMix_still (fun K hK => ?_); go_simp; refine hK _ ?_; clear hK K)
      (refine wpMix_still (fun K hK => ?_); go_simp; refine hK _ ?_; clear hK K)
      (refine wpMix_still (fun K hK => ?_); go_simp; refine hK _ ?_; clear hK K)
      (refine wpMix_still (fun K hK => ?_); go_simp; refine hK _ ?_; clear hK K)
      (refine wpMix_still (fun K hK => ?_); go_simp; refine hK _ ?_; clear hK K)
      (refine wpMix_still (fun K hK => ?_); go_simp; refine hK _ ?_; clear hK K)
      (refine wpMix_still (fun K hK => ?_); go_simp; refine hK _ ?_; clear hK K)
      (refine wpMix_still (fun K hK => ?_); go_simp; refine hK _ ?_; clear hK K)
      refine wpMix_call ?_
      go_wp2_with fail
      have h2 := (stD.put hd 8 (.int .i64 O) (t := ⟨k, t, 3, e, n, l, d, r, O, b, m⟩) rfl rfl)
      have b2 := (Below.setCell bd (p := ⟨y, 8, none⟩) h.lo (.int .i64 O))
      have ly := hd.lt
      clear hd bd h e0 e1 e2
      generalize w1.setCell ⟨y, 8, none⟩ (.int .i64 O) = w2 at *
      try refine ⟨fun h => (by cases h), ?_⟩
      refine wpMix_nil ?_
      go_upto_region 2 with (go_at_call 156; refine (hpl _ h2).mono ?_; rintro e2 w3 ⟨rfl, hb⟩)
      have h := h2.below hb
      have b3 := b2.trans (hb.mono (by have := h2.lt; have := h2.lo; omega))
      clear h2 b2 hb hpl
      obtain ⟨g, cap, rfl, hg, cb, fb, hset⟩ := h.byte j hjm
      dsimp only at cb fb hset
      rw [hY] at cb
      have HY := Lib.hid hY
      clear hY hset
      obtain ⟨⟨e0, e1, e2, e3, e4, e5, e6, e7, e8, e9, e10⟩, ⟨z0, z1, z2, z3, z4, z5, z6, z7, z8, z9, z10⟩⟩ := elCells h.row
      dsimp only at e0 e1 e2 e3 e4 e5 e6 e7 e8 e9 e10
      go_wp2_with (go_at_call 132; refine (drvEnd_any lo y _ _ _ _ _ _ _ _ _ _ _ _ _ (stD.put (stD.put (stD.put (stD.put (stD.put h 6 (.int .i64 Y) (t := ⟨k, t, 3, e, n, l, Y, r, O, b, m⟩) rfl rfl) 7 (.int .i64 1) (t := ⟨k, t, 3, e, n, l, Y, 1, O, b, m⟩) rfl rfl) 4 (.int .i64 (n + 1)) (t := ⟨k, t, 3, e, n + 1, l, Y, 1, O, b, m⟩) rfl rfl) 5 (.int .i64 20) (t := ⟨k, t, 3, e, n + 1, 20, Y, 1, O, b, m⟩) rfl rfl) 4 (.int .i64 0) (t := ⟨k, t, 3, e, 0, 20, Y, 1, O, b, m⟩) rfl rfl)).mono ?_; rintro e2 w6 ⟨rfl, h6, hb⟩)
      first | refine bodyPost_end (results_none rfl _ _ _) rfl ?_ | refine bodyPost_ret (results_none rfl _ _ _) rfl ?_
      exact ⟨rfl, h6, ((Below.setCell (Below.setCell (Below.setCell (Below.setCell (Below.setCell b3 (p := ⟨y, 6, none⟩) h.lo (.int .i64 Y)) (p := ⟨y, 7, none⟩) h.lo (.int .i64 1)) (p := ⟨y, 4, none⟩) h.lo (.int .i64 (n + 1))) (p := ⟨y, 5, none⟩) h.lo (.int .i64 20)) (p := ⟨y, 4, none⟩) h.lo (.int .i64 0))).trans hb⟩
    · have ev : (⟨k, t, 3, e, n, l, d, r, o, b, m⟩ : Dr).byte.done = ⟨k, t, 3, e, n + 1, 20, Y, 1, O, b, m⟩ := by
        unfold Dr.done Dr.byte
        rw [if_pos (show (3 : Int) = 3 by decide), hj, Int.toNat_natCast]
        dsimp only
        rw [if_neg h16, hO]
        show Dr.mk _ _ _ _ _ _ (m.getD j 0) _ _ _ _ = _
        rw [hY]
      rw [ev]
      clear ev hj hO hat
      have q16 : (n + 1 == 16) = false := by simpa using h16
      clear h16
      go_enter Tryz.func133, Tryz.ntmps133
      go_upto_region 0 with (fail)
      refine wp_region_mix (fun _ => True) [(0, 0), (1, 0), (2, 0), (3, 0), (4, 0), (5, 0), (6, 0), (7, 0), (8, 0), (9, 0), (10, 0), (11, 2)] (by kernel_rfl) (by kernel_rfl) (fun _ _ _ _ _ h => h) ?_
      simp only [List.map_cons, List.map_nil, opOf, List.getD_cons_zero, List.getD_cons_succ]
      change wpMix _ _ _ _ _ _ w.drew
      have hd := h.drew
      have bd := (Below.refl lo w).drew
      clear h
      generalize w.drew = w1 at *
      have h := hd
      have e0 := (elCells hd.row).1.2.2.2.2.2.2.2.1
      have e1 := (elCells hd.row).1.2.2.2.2.2.2.2.2.1
      have e2 := (elCells hd.row).2.2.2.2.2.2.2.2.2.1
      (refine wpMix_still (fun K hK => ?_); go_simp; refine hK _ ?_; clear hK K)
      (refine wpMix_still (fun K hK => ?_); go_simp; refine hK _ ?_; clear hK K)
      (refine wpMix_still (fun K hK => ?_); go_simp; refine hK _ ?_; clear hK K)
      (refine wpMix_still (fun K hK => ?_); go_simp; refine hK _ ?_; clear hK K)
      (refine wpMix_still (fun K hK => ?_); go_simp; refine hK _ ?_; clear hK K)
      (refine wpMix_still (fun K hK => ?_); go_simp; refine hK _ ?_; clear hK K)
      (refine wpMix_still (fun K hK => ?_); go_simp; refine hK _ ?_; clear hK K)
      (refine wpMix_still (fun K hK => ?_); go_simp; refine hK _ ?_; clear hK K)
      (refine wpMix_still (fun K hK => ?_); go_simp; refine hK _ ?_; clear hK K)
      (refine wpMix_still (fun K hK => ?_); go_simp; refine hK _ ?_; clear hK K)
      (refine wpMix_still (fun K hK => ?_); go_simp; refine hK _ ?_; clear hK K)
      refine wpMix_call ?_
      go_wp2_with fail
      have h2 := (stD.put hd 8 (.int .i64 O) (t := ⟨k, t, 3, e, n, l, d, r, O, b, m⟩) rfl rfl)
      have b2 := (Below.setCell bd (p := ⟨y, 8, none⟩) h.lo (.int .i64 O))
      have ly := hd.lt
      clear hd bd h e0 e1 e2
      generalize w1.setCell ⟨y, 8, none⟩ (.int .i64 O) = w2 at *
      try refine ⟨fun h => (by cases h), ?_⟩
      refine wpMix_nil ?_
      go_upto_region 2 with (go_at_call 156; refine (hpl _ h2).mono ?_; rintro e2 w3 ⟨rfl, hb⟩)
      have h := h2.below hb
      have b3 := b2.trans (hb.mono (by have := h2.lt; have := h2.lo; omega))
      clear h2 b2 hb hpl
      obtain ⟨g, cap, rfl, hg, cb, fb, hset⟩ := h.byte j hjm
      dsimp only at cb fb hset
      rw [hY] at cb
      have HY := Lib.hid hY
      clear hY hset
      obtain ⟨⟨e0, e1, e2, e3, e4, e5, e6, e7, e8, e9, e10⟩, ⟨z0, z1, z2, z3, z4, z5, z6, z7, z8, z9, z10⟩⟩ := elCells h.row
      dsimp only at e0 e1 e2 e3 e4 e5 e6 e7 e8 e9 e10
      go_wp2_with fail
      first | refine bodyPost_end (results_none rfl _ _ _) rfl ?_ | refine bodyPost_ret (results_none rfl _ _ _) rfl ?_
      exact ⟨rfl, (stD.put (stD.put (stD.put (stD.put h 6 (.int .i64 Y) (t := ⟨k, t, 3, e, n, l, Y, r, O, b, m⟩) rfl rfl) 7 (.int .i64 1) (t := ⟨k, t, 3, e, n, l, Y, 1, O, b, m⟩) rfl rfl) 4 (.int .i64 (n + 1)) (t := ⟨k, t, 3, e, n + 1, l, Y, 1, O, b, m⟩) rfl rfl) 5 (.int .i64 20) (t := ⟨k, t, 3, e, n + 1, 20, Y, 1, O, b, m⟩) rfl rfl), (Below.setCell (Below.setCell (Below.setCell (Below.setCell b3 (p := ⟨y, 6, none⟩) h.lo (.int .i64 Y)) (p := ⟨y, 7, none⟩) h.lo (.int .i64 1)) (p := ⟨y, 4, none⟩) h.lo (.int .i64 (n + 1))) (p := ⟨y, 5, none⟩) h.lo (.int .i64 20))⟩
  · subst hc
    have hw8 : IntKind.u8.wrap d = d := by rw [IntKind.wrap_u8]; omega
    have hj0 : decide ((j : Int) < 0) = false := decide_eq_false (by omega)
    clear hs
    by_cases h16 : n + 1 = 16
    · have ev : (⟨k, t, 4, e, n, l, d, r, o, b, m⟩ : Dr).byte.done = ⟨k, t, 0, e, 0, 0, d, 0, O, b, (m.set j d)⟩ := by
        unfold Dr.done Dr.byte
        rw [if_neg (show ¬ (4 : Int) = 3 by decide), hj, Int.toNat_natCast]
        dsimp only
        rw [if_pos h16, hO]
        rfl
      rw [ev]
      clear ev hj hO hat
      have q16 : (n + 1 == 16) = true := by simpa using h16
      clear h16
      go_enter Tryz.func133, Tryz.ntmps133
      go_upto_region 0 with (fail)
      refine wp_region_mix (fun _ => True) [(0, 0), (1, 0), (2, 0), (3, 0), (4, 0), (5, 0), (6, 0), (7, 0), (8, 0), (9, 0), (10, 0), (11, 2)] (by kernel_rfl) (by kernel_rfl) (fun _ _ _ _ _ h => h) ?_
      simp only [List.map_cons, List.map_nil, opOf, List.getD_cons_zero, List.getD_cons_succ]
      change wpMix _ _ _ _ _ _ w.drew
      have hd := h.drew
      have bd := (Below.refl lo w).drew
      clear h
      generalize w.drew = w1 at *
      have h := hd
      have e0 := (elCells hd.row).1.2.2.2.2.2.2.2.1
      have e1 := (elCells hd.row).1.2.2.2.2.2.2.2.2.1
      have e2 := (elCells hd.row).2.2.2.2.2.2.2.2.2.1
      (refine wpMix_still (fun K hK => ?_); go_simp; refine hK _ ?_; clear hK K)
      (refine wpMix_still (fun K hK => ?_); go_simp; refine hK _ ?_; clear hK K)
      (refine wpMix_still (fun K hK => ?_); go_simp; refine hK _ ?_; clear hK K)
      (refine wpMix_still (fun K hK => ?_); go_simp; refine hK _ ?_; clear hK K)
      (refine wpMix_still (fun K hK => ?_); go_simp; refine hK _ ?_; clear hK K)
      (refine wpMix_still (fun K hK => ?_); go_simp; refine hK _ ?_; clear hK K)
      (refine wpMix_still (fun K hK => ?_); go_simp; refine hK _ ?_; clear hK K)
      (refine wpMix_still (fun K hK => ?_); go_simp; refine hK _ ?_; clear hK K)
      (refine wpMix_still (fun K hK => ?_); go_simp; refine hK _ ?_; clear hK K)
      (refine wpMix_still (fun K hK => ?_); go_simp; refine hK _ ?_; clear hK K)
      (refine wpMix_still (fun K hK => ?_); go_simp; refine hK _ ?_; clear hK K)
      refine wpMix_call ?_
      go_wp2_with fail
      have h2 := (stD.put hd 8 (.int .i64 O) (t := ⟨k, t, 4, e, n, l, d, r, O, b, m⟩) rfl rfl)
      have b2 := (Below.setCell bd (p := ⟨y, 8, none⟩) h.lo (.int .i64 O))
      have ly := hd.lt
      clear hd bd h e0 e1 e2
      generalize w1.setCell ⟨y, 8, none⟩ (.int .i64 O) = w2 at *
      try refine ⟨fun h => (by cases h), ?_⟩
      refine wpMix_nil ?_
      go_upto_region 2 with (go_at_call 156; refine (hpl _ h2).mono ?_; rintro e2 w3 ⟨rfl, hb⟩)
      have h := h2.below hb
      have b3 := b2.trans (hb.mono (by have := h2.lt; have := h2.lo; omega))
      clear h2 b2 hb hpl
      have e2 := (elCells h.row).1.2.2.1
      go_upto_region 4 with (fail)
      refine wp_region_mix (fun _ => True) [(0, 0), (1, 0), (2, 0), (3, 0), (4, 0), (5, 0), (6, 0), (7, 0), (8, 0), (9, 0), (10, 0), (11, 2)] (by kernel_rfl) (by kernel_rfl) (fun _ _ _ _ _ h => h) ?_
      simp only [List.map_cons, List.map_nil, opOf, List.getD_cons_zero, List.getD_cons_succ]
      change wpMix _ _ _ _ _ _ w3.drew
      have hd := h.drew
      replace b3 := b3.drew
      clear h e2
      generalize w3.drew = w4 at *
      have h := hd
      clear hd
      obtain ⟨g, cap, rfl, hg, cb, fb, hset⟩ := h.byte j hjm
      dsimp only at cb fb hset
      obtain ⟨⟨e0, e1, e2, e3, e4, e5, e6, e7, e8, e9, e10⟩, ⟨z0, z1, z2, z3, z4, z5, z6, z7, z8, z9, z10⟩⟩ := elCells h.row
      dsimp only at e0 e1 e2 e3 e4 e5 e6 e7 e8 e9 e10
      (refine wpMix_still (fun K hK => ?_); go_simp; refine hK _ ?_; clear hK K)
      (refine wpMix_still (fun K hK => ?_); go_simp; refine hK _ ?_; clear hK K)
      (refine wpMix_still (fun K hK => ?_); go_simp; refine hK _ ?_; clear hK K)
      (refine wpMix_still (fun K hK => ?_); go_simp; refine hK _ ?_; clear hK K)
      (refine wpMix_still (fun K hK => ?_); go_simp; refine hK _ ?_; clear hK K)
      (refine wpMix_still (fun K hK => ?_); go_simp; refine hK _ ?_; clear hK K)
      (refine wpMix_still (fun K hK => ?_); go_simp; refine hK _ ?_; clear hK K)
      (refine wpMix_still (fun K hK => ?_); go_simp; refine hK _ ?_; clear hK K)
      (refine wpMix_still (fun K hK => ?_); go_simp; refine hK _ ?_; clear hK K)
      (refine wpMix_still (fun K hK => ?_); go_simp; refine hK _ ?_; clear hK K)
      (refine wpMix_still (fun K hK => ?_); go_simp; refine hK _ ?_; clear hK K)
      refine wpMix_call ?_
      go_wp2_with fail
      replace hset := hset d
      replace b3 := Below.setCell b3 (p := ⟨g, j, none⟩) hg (.int .u8 d)
      have hlo := h.lo
      clear h cb fb e0 z0 e1 z1 e2 z2 e3 z3 e4 z4 e5 z5 e6 z6 e7 z7 e8 z8 e9 z9 e10 z10
      generalize w4.setCell ⟨g, j, none⟩ (.int .u8 d) = w5 at *
      have h := hset
      clear hset
      obtain ⟨⟨e0, e1, e2, e3, e4, e5, e6, e7, e8, e9, e10⟩, ⟨z0, z1, z2, z3, z4, z5, z6, z7, z8, z9, z10⟩⟩ := elCells h.row
      dsimp only at e0 e1 e2 e3 e4 e5 e6 e7 e8 e9 e10
      try refine ⟨fun h => (by cases h), ?_⟩
      refine wpMix_nil ?_
      go_wp2_with (go_at_call 132; refine (drvEnd_any lo y _ _ _ _ _ _ _ _ _ _ _ _ _ (stD.put (stD.put (stD.put (stD.put (stD.put h 7 (.int .i64 1) (t := ⟨k, t, 4, e, n, l, d, 1, O, b, m.set j d⟩) rfl rfl) 4 (.int .i64 (n + 1)) (t := ⟨k, t, 4, e, n + 1, l, d, 1, O, b, m.set j d⟩) rfl rfl) 5 (.int .i64 20) (t := ⟨k, t, 4, e, n + 1, 20, d, 1, O, b, m.set j d⟩) rfl rfl) 7 (.int .i64 0) (t := ⟨k, t, 4, e, n + 1, 20, d, 0, O, b, m.set j d⟩) rfl rfl) 4 (.int .i64 0) (t := ⟨k, t, 4, e, 0, 20, d, 0, O, b, m.set j d⟩) rfl rfl)).mono ?_; rintro e2 w6 ⟨rfl, h6, hb⟩)
      first | refine bodyPost_end (results_none rfl _ _ _) rfl ?_ | refine bodyPost_ret (results_none rfl _ _ _) rfl ?_
      exact ⟨rfl, h6, ((Below.setCell (Below.setCell (Below.setCell (Below.setCell (Below.setCell b3 (p := ⟨y, 7, none⟩) h.lo (.int .i64 1)) (p := ⟨y, 4, none⟩) h.lo (.int .i64 (n + 1))) (p := ⟨y, 5, none⟩) h.lo (.int .i64 20)) (p := ⟨y, 7, none⟩) h.lo (.int .i64 0)) (p := ⟨y, 4, none⟩) h.lo (.int .i64 0))).trans hb⟩
    · have ev : (⟨k, t, 4, e, n, l, d, r, o, b, m⟩ : Dr).byte.done = ⟨k, t, 4, e, n + 1, 20, d, 1, O, b, (m.set j d)⟩ := by
        unfold Dr.done Dr.byte
        rw [if_neg (show ¬ (4 : Int) = 3 by decide), hj, Int.toNat_natCast]
        dsimp only
        rw [if_neg h16, hO]
      rw [ev]
      clear ev hj hO hat
      have q16 : (n + 1 == 16) = false := by simpa using h16
      clear h16
      go_enter Tryz.func133, Tryz.ntmps133
      go_upto_region 0 with (fail)
      refine wp_region_mix (fun _ => True) [(0, 0), (1, 0), (2, 0), (3, 0), (4, 0), (5, 0), (6, 0), (7, 0), (8, 0), (9, 0), (10, 0), (11, 2)] (by kernel_rfl) (by kernel_rfl) (fun _ _ _ _ _ h => h) ?_
      simp only [List.map_cons, List.map_nil, opOf, List.getD_cons_zero, List.getD_cons_succ]
      change wpMix _ _ _ _ _ _ w.drew
      have hd := h.drew
      have bd := (Below.refl lo w).drew
      clear h
      generalize w.drew = w1 at *
      have h := hd
      have e0 := (elCells hd.row).1.2.2.2.2.2.2.2.1
      have e1 := (elCells hd.row).1.2.2.2.2.2.2.2.2.1
      have e2 := (elCells hd.row).2.2.2.2.2.2.2.2.2.1
      (refine wpMix_still (fun K hK => ?_); go_simp; refine hK _ ?_; clear hK K)
      (refine wpMix_still (fun K hK => ?_); go_simp; refine hK _ ?_; clear hK K)
      (refine wpMix_still (fun K hK => ?_); go_simp; refine hK _ ?_; clear hK K)
      (refine wpMix_still (fun K hK => ?_); go_simp; refine hK _ ?_; clear hK K)
      (refine wpMix_still (fun K hK => ?_); go_simp; refine hK _ ?_; clear hK K)
      (refine wpMix_still (fun K hK => ?_); go_simp; refine hK _ ?_; clear hK K)
      (refine wpMix_still (fun K hK => ?_); go_simp; refine hK _ ?_; clear hK K)
      (refine wpMix_still (fun K hK => ?_); go_simp; refine hK _ ?_; clear hK K)
      (refine wpMix_still (fun K hK => ?_); go_simp; refine hK _ ?_; clear hK K)
      (refine wpMix_still (fun K hK => ?_); go_simp; refine hK _ ?_; clear hK K)
      (refine wpMix_still (fun K hK => ?_); go_simp; refine hK _ ?_; clear hK K)
      refine wpMix_call ?_
      go_wp2_with fail
      have h2 := (stD.put hd 8 (.int .i64 O) (t := ⟨k, t, 4, e, n, l, d, r, O, b, m⟩) rfl rfl)
      have b2 := (Below.setCell bd (p := ⟨y, 8, none⟩) h.lo (.int .i64 O))
      have ly := hd.lt
      clear hd bd h e0 e1 e2
      generalize w1.setCell ⟨y, 8, none⟩ (.int .i64 O) = w2 at *
      try refine ⟨fun h => (by cases h), ?_⟩
      refine wpMix_nil ?_
      go_upto_region 2 with (go_at_call 156; refine (hpl _ h2).mono ?_; rintro e2 w3 ⟨rfl, hb⟩)
      have h := h2.below hb
      have b3 := b2.trans (hb.mono (by have := h2.lt; have := h2.lo; omega))
      clear h2 b2 hb hpl
      have e2 := (elCells h.row).1.2.2.1
      go_upto_region 4 with (fail)
      refine wp_region_mix (fun _ => True) [(0, 0), (1, 0), (2, 0), (3, 0), (4, 0), (5, 0), (6, 0), (7, 0), (8, 0), (9, 0), (10, 0), (11, 2)] (by kernel_rfl) (by kernel_rfl) (fun _ _ _ _ _ h => h) ?_
      simp only [List.map_cons, List.map_nil, opOf, List.getD_cons_zero, List.getD_cons_succ]
      change wpMix _ _ _ _ _ _ w3.drew
      have hd := h.drew
      replace b3 := b3.drew
      clear h e2
      generalize w3.drew = w4 at *
      have h := hd
      clear hd
      obtain ⟨g, cap, rfl, hg, cb, fb, hset⟩ := h.byte j hjm
      dsimp only at cb fb hset
      obtain ⟨⟨e0, e1, e2, e3, e4, e5, e6, e7, e8, e9, e10⟩, ⟨z0, z1, z2, z3, z4, z5, z6, z7, z8, z9, z10⟩⟩ := elCells h.row
      dsimp only at e0 e1 e2 e3 e4 e5 e6 e7 e8 e9 e10
      (refine wpMix_still (fun K hK => ?_); go_simp; refine hK _ ?_; clear hK K)
      (refine wpMix_still (fun K hK => ?_); go_simp; refine hK _ ?_; clear hK K)
      (refine wpMix_still (fun K hK => ?_); go_simp; refine hK _ ?_; clear hK K)
      (refine wpMix_still (fun K hK => ?_); go_simp; refine hK _ ?_; clear hK K)
      (refine wpMix_still (fun K hK => ?_); go_simp; refine hK _ ?_; clear hK K)
      (refine wpMix_still (fun K hK => ?_); go_simp; refine hK _ ?_; clear hK K)
      (refine wpMix_still (fun K hK => ?_); go_simp; refine hK _ ?_; clear hK K)
      (refine wpMix_still (fun K hK => ?_); go_simp; refine hK _ ?_; clear hK K)
      (refine wpMix_still (fun K hK => ?_); go_simp; refine hK _ ?_; clear hK K)
      (refine wpMix_still (fun K hK => ?_); go_simp; refine hK _ ?_; clear hK K)
      (refine wpMix_still (fun K hK => ?_); go_simp; refine hK _ ?_; clear hK K)
      refine wpMix_call ?_
      go_wp2_with fail
      replace hset := hset d
      replace b3 := Below.setCell b3 (p := ⟨g, j, none⟩) hg (.int .u8 d)
      have hlo := h.lo
      clear h cb fb e0 z0 e1 z1 e2 z2 e3 z3 e4 z4 e5 z5 e6 z6 e7 z7 e8 z8 e9 z9 e10 z10
      generalize w4.setCell ⟨g, j, none⟩ (.int .u8 d) = w5 at *
      have h := hset
      clear hset
      obtain ⟨⟨e0, e1, e2, e3, e4, e5, e6, e7, e8, e9, e10⟩, ⟨z0, z1, z2, z3, z4, z5, z6, z7, z8, z9, z10⟩⟩ := elCells h.row
      dsimp only at e0 e1 e2 e3 e4 e5 e6 e7 e8 e9 e10
      try refine ⟨fun h => (by cases h), ?_⟩
      refine wpMix_nil ?_
      go_wp2_with fail
      first | refine bodyPost_end (results_none rfl _ _ _) rfl ?_ | refine bodyPost_ret (results_none rfl _ _ _) rfl ?_
      exact ⟨rfl, (stD.put (stD.put (stD.put h 7 (.int .i64 1) (t := ⟨k, t, 4, e, n, l, d, 1, O, b, m.set j d⟩) rfl rfl) 4 (.int .i64 (n + 1)) (t := ⟨k, t, 4, e, n + 1, l, d, 1, O, b, m.set j d⟩) rfl rfl) 5 (.int .i64 20) (t := ⟨k, t, 4, e, n + 1, 20, d, 1, O, b, m.set j d⟩) rfl rfl), (Below.setCell (Below.setCell (Below.setCell b3 (p := ⟨y, 7, none⟩) h.lo (.int .i64 1)) (p := ⟨y, 4, none⟩) h.lo (.int .i64 (n + 1))) (p := ⟨y, 5, none⟩) h.lo (.int .i64 20))⟩
theorem drvAct_any (lo y : Nat) (k t c e n l d r o b : Int) (m : List Int) (u : Value) (w : World) (h : stD lo w y ⟨k, t, c, e, n, l, d, r, o, b, m⟩ u) (hs : (⟨k, t, c, e, n, l, d, r, o, b, m⟩ : Dr).fit) (h0 : 0 < c) (hk : ¬ (2 < c ∧ k = 0)) :
    Calls Tryz.prog 94 #[.pointer (some ⟨y, 0, none⟩)] w fun e' w' => e' = .returned (.tuple #[]) ∧ stD lo w' y (if c < 3 then (⟨k, t, c, e, n, l, d, r, o, b, m⟩ : Dr).move else (⟨k, t, c, e, n, l, d, r, o, b, m⟩ : Dr).byte.done) u ∧ Below lo w w' := by
  have hc5 := hs.c.2
  have ht := hs.t
  dsimp only at hc5 ht
  rcases (by omega : c = 1 ∨ c = 2 ∨ (2 < c ∧ c ≠ 1 ∧ c ≠ 2)) with rfl | rfl | ⟨h3, h4, h5⟩
  · rw [if_pos (by decide)]
    obtain ⟨T, hT⟩ : ∃ T, min (t + 1) 3 = T := ⟨_, rfl⟩
    have ev : (⟨k, t, 1, e, n, l, d, r, o, b, m⟩ : Dr).move = ⟨k, T, 0, e, n, 0, d, r, o, b, m⟩ := by
      have e1 : (if t < 3 then t + 1 else t) = T := by rw [← hT]; split <;> omega
      unfold Dr.move
      dsimp only
      rw [if_pos (show (1 : Int) = 1 by decide), e1]
    rw [ev]
    clear ev
    have hw : wrap64 (t + 1) = t + 1 := IntWalk.wrap64_in _ (by omega)
    obtain ⟨⟨e0, e1, e2, e3, e4, e5, e6, e7, e8, e9, e10⟩, ⟨z0, z1, z2, z3, z4, z5, z6, z7, z8, z9, z10⟩⟩ := elCells h.row
    clear hs
    go_enter Tryz.func94, Tryz.ntmps94
    go_wp2_with (first
        | (refine wpList_min2 rfl _ _ _ rfl .i64 (t + 1) 3 rfl rfl ?_; rw [hT])
        | (go_at_call 132; refine (drvEnd_any lo y _ _ _ _ _ _ _ _ _ _ _ _ _ (stD.put h 1 (.int .i64 T) (t := ⟨k, T, 1, e, n, l, d, r, o, b, m⟩) rfl rfl)).mono ?_; rintro e2 w6 ⟨rfl, h6, hb⟩)
  )
    first | refine bodyPost_end (results_none rfl _ _ _) rfl ?_ | refine bodyPost_ret (results_none rfl _ _ _) rfl ?_
    exact ⟨rfl, h6, ((Below.setCell (Below.refl lo w) (p := ⟨y, 1, none⟩) h.lo (.int .i64 T))).trans hb⟩
  · rw [if_pos (by decide)]
    obtain ⟨T, hT⟩ : ∃ T, max (t - 1) 0 = T := ⟨_, rfl⟩
    have ev : (⟨k, t, 2, e, n, l, d, r, o, b, m⟩ : Dr).move = ⟨k, T, 0, e, n, 0, d, r, o, b, m⟩ := by
      have e1 : (if 0 < t then t - 1 else t) = T := by rw [← hT]; split <;> omega
      unfold Dr.move
      dsimp only
      rw [if_neg (show ¬ (2 : Int) = 1 by decide), e1]
    rw [ev]
    clear ev
    have hw : wrap64 (t - 1) = t - 1 := IntWalk.wrap64_in _ (by omega)
    obtain ⟨⟨e0, e1, e2, e3, e4, e5, e6, e7, e8, e9, e10⟩, ⟨z0, z1, z2, z3, z4, z5, z6, z7, z8, z9, z10⟩⟩ := elCells h.row
    clear hs
    go_enter Tryz.func94, Tryz.ntmps94
    go_wp2_with (first
        | (refine wpList_max2 rfl _ _ _ rfl .i64 (t - 1) 0 rfl rfl ?_; rw [hT])
        | (go_at_call 132; refine (drvEnd_any lo y _ _ _ _ _ _ _ _ _ _ _ _ _ (stD.put h 1 (.int .i64 T) (t := ⟨k, T, 2, e, n, l, d, r, o, b, m⟩) rfl rfl)).mono ?_; rintro e2 w6 ⟨rfl, h6, hb⟩)
  )
    first | refine bodyPost_end (results_none rfl _ _ _) rfl ?_ | refine bodyPost_ret (results_none rfl _ _ _) rfl ?_
    exact ⟨rfl, h6, ((Below.setCell (Below.refl lo w) (p := ⟨y, 1, none⟩) h.lo (.int .i64 T))).trans hb⟩
  · rw [if_neg (by omega)]
    have q1 : (c == 1) = false := by simpa using h4
    have q2 : (c == 2) = false := by simpa using h5
    have htr := drvTransfer_any lo y k t c e n l d r o b m u w h hs (by omega) (by omega)
    obtain ⟨⟨e0, e1, e2, e3, e4, e5, e6, e7, e8, e9, e10⟩, ⟨z0, z1, z2, z3, z4, z5, z6, z7, z8, z9, z10⟩⟩ := elCells h.row
    clear hs
    go_enter Tryz.func94, Tryz.ntmps94
    go_wp2_with (go_at_call 133; refine htr.mono ?_; rintro e2 w6 ⟨rfl, h6, hb⟩)
    first | refine bodyPost_end (results_none rfl _ _ _) rfl ?_ | refine bodyPost_ret (results_none rfl _ _ _) rfl ?_
    exact ⟨rfl, h6, hb⟩
end Go.Proofs.YtakaebjojgeehaaGreat
