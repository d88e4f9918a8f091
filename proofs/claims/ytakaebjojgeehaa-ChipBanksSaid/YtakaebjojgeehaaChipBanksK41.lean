/- A part of the proof of ChipBanks: DrvMb. -/
import Derived.Test.YtakaebjojgeehaaChipBanksK01
import Derived.Test.YtakaebjojgeehaaChipBanksK02
import Derived.Test.YtakaebjojgeehaaChipBanksK03
import Derived.Test.YtakaebjojgeehaaChipBanksK04
import Derived.Test.YtakaebjojgeehaaChipBanksK05
import Derived.Test.YtakaebjojgeehaaChipBanksK06
import Derived.Test.YtakaebjojgeehaaChipBanksK08
import Derived.Test.YtakaebjojgeehaaChipBanksK09
import Derived.Test.YtakaebjojgeehaaChipBanksK15
import Derived.Test.YtakaebjojgeehaaChipBanksK17
import Derived.Test.YtakaebjojgeehaaChipBanksK19
import Derived.Test.YtakaebjojgeehaaChipBanksK20
import Derived.Test.YtakaebjojgeehaaChipBanksK21
import Derived.Test.YtakaebjojgeehaaChipBanksK22
import Derived.Test.YtakaebjojgeehaaChipBanksK23
import Derived.Test.YtakaebjojgeehaaChipBanksK24
import Derived.Test.YtakaebjojgeehaaChipBanksK30
import Derived.Test.YtakaebjojgeehaaChipBanksK37
import Derived.Below
import Derived.BigQuiet
import Derived.ChangeMaps5
import Derived.Deep.AppendSrc
import Derived.Deep.DeepAppendWide
import Derived.Deep.DeepCutAuto
import Derived.Deep.Draws
import Derived.Deep.MidRow
import Derived.Deep.OwnRows
import Derived.Deep.QuietTactic
import Derived.Deep.RegionHeld3
import Derived.Deep.RegionWith
import Derived.Deep.Slices
import Derived.Deep.WholeRow
import Derived.Laws.CopyOwn
import Derived.Laws.OwnMore
import Derived.Lib.Hide
import Derived.Lib.SmallJoins
import Derived.Maps.AppendAt
import Derived.OpenShut
import Derived.OrdersHeld
import Derived.OwnWalk
import Derived.RowKit3
import Derived.StillTactics
import Derived.StillTail
import Derived.StillTailTactics
import Derived.Test.YtakaebjojgeehaaChecked
import Derived.WalkKit
namespace Go.Proofs.Ytakaebjojgeehaa
open Go.RowKit
set_option maxRecDepth 100000
theorem drvBegin_any (lo y : Nat) (k t c e n l d r o b : Int) (m : List Int) (u : Value) (x z : Int) (w : World) (h : stD lo w y ⟨k, t, c, e, n, l, d, r, o, b, m⟩ u) (hx : 0 ≤ x ∧ x < 16) :
    Calls Try.prog 74 #[.pointer (some ⟨y, 0, none⟩), .int .i64 x, .int .i64 z] w fun e' w' => e' = .returned (.tuple #[]) ∧ stD lo w' y (if c ≠ 0 ∨ x = 0 ∨ 4 < x ∨ (2 < x ∧ k = 0) then ⟨k, t, c, e, n, l, d, r, o, b, m⟩ else ⟨k, t, x, z, 0, 30, d, oneD (x == 4), o, b, m⟩) u ∧ Below lo w w' := by
  obtain ⟨⟨e0, e1, e2, e3, e4, e5, e6, e7, e8, e9, e10⟩, ⟨z0, z1, z2, z3, z4, z5, z6, z7, z8, z9, z10⟩⟩ := elCells h.row
  by_cases h0 : c = 0
  · subst h0
    by_cases h1 : 0 < x ∧ x ≤ 4
    · have hi : decide (0 < x ∧ x ≤ 4) = true := decide_eq_true h1
      by_cases h2 : k = 0 ∧ (x = 3 ∨ x = 4)
      · have hl : decide (k = 0 ∧ (x = 3 ∨ x = 4)) = true := decide_eq_true h2
        rw [if_pos (show (0 : Int) ≠ 0 ∨ x = 0 ∨ 4 < x ∨ (2 < x ∧ k = 0) by omega)]
        go_enter Try.func74, Try.ntmps74
        go_wp2_with (first
            | (go_at_call 88; refine (drvIsCmd_any _ _).mono ?_; rintro e2 w2 ⟨rfl, rfl⟩; rw [hi])
            | (go_at_call 89; refine (drvLacks_any y _ _ _ e0).mono ?_; rintro e2 w2 ⟨rfl, rfl⟩; rw [hl])
      )
        first | refine bodyPost_end (results_none rfl _ _ _) rfl ?_ | refine bodyPost_ret (results_none rfl _ _ _) rfl ?_
        exact ⟨rfl, h, Below.refl _ _⟩
      · have hl : decide (k = 0 ∧ (x = 3 ∨ x = 4)) = false := decide_eq_false h2
        rw [if_neg (show ¬ ((0 : Int) ≠ 0 ∨ x = 0 ∨ 4 < x ∨ (2 < x ∧ k = 0)) by omega)]
        by_cases h4 : x = 4
        · have q4 : (x == 4) = true := by simpa using h4
          rw [show oneD (x == 4) = 1 by rw [q4]; rfl]
          clear h4
          go_enter Try.func74, Try.ntmps74
          go_wp2_with (first
              | (go_at_call 88; refine (drvIsCmd_any _ _).mono ?_; rintro e2 w2 ⟨rfl, rfl⟩; rw [hi])
              | (go_at_call 89; refine (drvLacks_any y _ _ _ e0).mono ?_; rintro e2 w2 ⟨rfl, rfl⟩; rw [hl])
        )
          refine bodyPost_end (results_none rfl _ _ _) rfl ⟨rfl, (stD.put (stD.put (stD.put (stD.put (stD.put (stD.put h 2 (.int .i64 x) (t := ⟨k, t, x, e, n, l, d, r, o, b, m⟩) rfl rfl) 3 (.int .i64 z) (t := ⟨k, t, x, z, n, l, d, r, o, b, m⟩) rfl rfl) 4 (.int .i64 0) (t := ⟨k, t, x, z, 0, l, d, r, o, b, m⟩) rfl rfl) 5 (.int .i64 30) (t := ⟨k, t, x, z, 0, 30, d, r, o, b, m⟩) rfl rfl) 7 (.int .i64 0) (t := ⟨k, t, x, z, 0, 30, d, 0, o, b, m⟩) rfl rfl) 7 (.int .i64 1) (t := ⟨k, t, x, z, 0, 30, d, 1, o, b, m⟩) rfl rfl), (Below.setCell (Below.setCell (Below.setCell (Below.setCell (Below.setCell (Below.setCell (Below.refl lo w) (p := ⟨y, 2, none⟩) h.lo (.int .i64 x)) (p := ⟨y, 3, none⟩) h.lo (.int .i64 z)) (p := ⟨y, 4, none⟩) h.lo (.int .i64 0)) (p := ⟨y, 5, none⟩) h.lo (.int .i64 30)) (p := ⟨y, 7, none⟩) h.lo (.int .i64 0)) (p := ⟨y, 7, none⟩) h.lo (.int .i64 1))⟩
        · have q4 : (x == 4) = false := by simpa using h4
          rw [show oneD (x == 4) = 0 by rw [q4]; rfl]
          go_enter Try.func74, Try.ntmps74
          go_wp2_with (first
              | (go_at_call 88; refine (drvIsCmd_any _ _).mono ?_; rintro e2 w2 ⟨rfl, rfl⟩; rw [hi])
              | (go_at_call 89; refine (drvLacks_any y _ _ _ e0).mono ?_; rintro e2 w2 ⟨rfl, rfl⟩; rw [hl])
        )
          refine bodyPost_end (results_none rfl _ _ _) rfl ⟨rfl, (stD.put (stD.put (stD.put (stD.put (stD.put h 2 (.int .i64 x) (t := ⟨k, t, x, e, n, l, d, r, o, b, m⟩) rfl rfl) 3 (.int .i64 z) (t := ⟨k, t, x, z, n, l, d, r, o, b, m⟩) rfl rfl) 4 (.int .i64 0) (t := ⟨k, t, x, z, 0, l, d, r, o, b, m⟩) rfl rfl) 5 (.int .i64 30) (t := ⟨k, t, x, z, 0, 30, d, r, o, b, m⟩) rfl rfl) 7 (.int .i64 0) (t := ⟨k, t, x, z, 0, 30, d, 0, o, b, m⟩) rfl rfl), (Below.setCell (Below.setCell (Below.setCell (Below.setCell (Below.setCell (Below.refl lo w) (p := ⟨y, 2, none⟩) h.lo (.int .i64 x)) (p := ⟨y, 3, none⟩) h.lo (.int .i64 z)) (p := ⟨y, 4, none⟩) h.lo (.int .i64 0)) (p := ⟨y, 5, none⟩) h.lo (.int .i64 30)) (p := ⟨y, 7, none⟩) h.lo (.int .i64 0))⟩
    · have hi : decide (0 < x ∧ x ≤ 4) = false := decide_eq_false h1
      rw [if_pos (show (0 : Int) ≠ 0 ∨ x = 0 ∨ 4 < x ∨ (2 < x ∧ k = 0) by omega)]
      go_enter Try.func74, Try.ntmps74
      go_wp2_with (first
          | (go_at_call 88; refine (drvIsCmd_any _ _).mono ?_; rintro e2 w2 ⟨rfl, rfl⟩; rw [hi])
          | (go_at_call 89; refine (drvLacks_any y _ _ _ e0).mono ?_; rintro e2 w2 ⟨rfl, rfl⟩; rw [hl])
    )
      first | refine bodyPost_end (results_none rfl _ _ _) rfl ?_ | refine bodyPost_ret (results_none rfl _ _ _) rfl ?_
      exact ⟨rfl, h, Below.refl _ _⟩
  · have q : (c == 0) = false := by simpa using h0
    rw [if_pos (show c ≠ 0 ∨ x = 0 ∨ 4 < x ∨ (2 < x ∧ k = 0) by omega)]
    go_enter Try.func74, Try.ntmps74
    go_wp2_with fail
    first | refine bodyPost_end (results_none rfl _ _ _) rfl ?_ | refine bodyPost_ret (results_none rfl _ _ _) rfl ?_
    exact ⟨rfl, h, Below.refl _ _⟩
theorem drvDev_any (lo y : Nat) (k t c e n l d r o b : Int) (m : List Int) (u : Value) (w : World) (h : stD lo w y ⟨k, t, c, e, n, l, d, r, o, b, m⟩ u) :
    Calls Try.prog 63 #[.pointer (some ⟨y, 0, none⟩)] w fun e' w' => ∃ g, e' = .returned (.agg #[.slice (some ⟨g, 0, none⟩) 10 10, u]) ∧ rowB w' g 3 (nums [k, t, c, e, n, l, d, r, o, b]) ∧ w.heap.size ≤ g ∧ Below w.heap.size w w' := by
  obtain ⟨a, cap, rfl⟩ := h.slice
  dsimp only at *
  obtain ⟨k0, bW, sW⟩ := boxes1 w (.cells #[.slice none 0 0, .slice none 0 0] 34)
  have k0 : rowB _ _ _ _ := k0
  replace h := h.alloc (.cells #[.slice none 0 0, .slice none 0 0] 34)
  go_enter Try.func63, Try.ntmps63
  go_upto_region 1 with (fail)
  generalize w.alloc (.cells #[.slice none 0 0, .slice none 0 0] 34) = w1 at *
  refine wp_region_mixM (fun _ => True) 3298534883327 0 [(0, 0, 3298534883342), (1, 0, 3298534883340), (2, 0, 3298534883336), (3, 0, 3298534883328), (4, 0, 3298534883552), (5, 0, 3298534883520), (6, 0, 3298534883456), (7, 0, 3298534883328), (8, 0, 3298534886912), (9, 0, 3298534886400), (10, 0, 3298534885376), (11, 0, 3298534883328), (12, 0, 3298534940672), (13, 0, 3298534932480), (14, 0, 3298534916096), (15, 0, 3298534883328), (16, 0, 3298535800832), (17, 0, 3298535669760), (18, 0, 3298535407616), (19, 0, 3298534883328), (20, 0, 3298549563392), (21, 0, 3298547466240), (22, 0, 3298543271936), (23, 0, 3298534883328), (24, 0, 3298769764352), (25, 0, 3298736209920), (26, 0, 3298669101056), (27, 0, 3298534883328), (28, 0, 3302292979712), (29, 0, 3301756108800), (30, 0, 3300682366976), (31, 0, 3298534883328), (32, 0, 3358664425472), (33, 0, 3350074490880), (34, 0, 3332894621696), (35, 0, 3298534883328), (36, 0, 4260607557632), (37, 0, 4123168604160), (38, 0, 3848290697216), (39, 0, 3298534883328), (40, 2, 0), (41, 0, 0)] (by kernel_rfl) (by kernel_rfl) (fun _ _ _ _ _ h => h) ?_
  simp only [List.map_cons, List.map_nil, opOf, List.getD_cons_zero, List.getD_cons_succ]
  change wpMix _ _ _ _ _ _ w1.drew
  replace h := h.drew
  replace k0 : rowB w1.drew _ _ _ := k0
  replace bW := bW.drew
  replace sW : w1.drew.heap.size = w.heap.size + 1 := sW
  generalize w1.drew = w2 at *
  obtain ⟨⟨e0, e1, e2, e3, e4, e5, e6, e7, e8, e9, e10⟩, _⟩ := elCells h.row
  (refine wpMix_still (fun K hK => ?_); go_simp; refine hK _ ?_; clear hK K)
  (refine wpMix_still (fun K hK => ?_); go_simp; refine hK _ ?_; clear hK K)
  (refine wpMix_still (fun K hK => ?_); go_simp; refine hK _ ?_; clear hK K)
  (refine wpMix_still (fun K hK => ?_); go_simp; refine hK _ ?_; clear hK K)
  (refine wpMix_still (fun K hK => ?_); go_simp; refine hK _ ?_; clear hK K)
  (refine wpMix_still (fun K hK => ?_); go_simp; refine hK _ ?_; clear hK K)
  (refine wpMix_still (fun K hK => ?_); go_simp; refine hK _ ?_; clear hK K)
  (refine wpMix_still (fun K hK => ?_); go_simp; refine hK _ ?_; clear hK K)
  (refine wpMix_still (fun K hK => ?_); go_simp; refine hK _ ?_; clear hK K)
  (refine wpMix_still (fun K hK => ?_); go_simp; refine hK _ ?_; clear hK K)
  (refine wpMix_still (fun K hK => ?_); go_simp; refine hK _ ?_; clear hK K)
  (refine wpMix_still (fun K hK => ?_); go_simp; refine hK _ ?_; clear hK K)
  (refine wpMix_still (fun K hK => ?_); go_simp; refine hK _ ?_; clear hK K)
  (refine wpMix_still (fun K hK => ?_); go_simp; refine hK _ ?_; clear hK K)
  (refine wpMix_still (fun K hK => ?_); go_simp; refine hK _ ?_; clear hK K)
  (refine wpMix_still (fun K hK => ?_); go_simp; refine hK _ ?_; clear hK K)
  (refine wpMix_still (fun K hK => ?_); go_simp; refine hK _ ?_; clear hK K)
  (refine wpMix_still (fun K hK => ?_); go_simp; refine hK _ ?_; clear hK K)
  (refine wpMix_still (fun K hK => ?_); go_simp; refine hK _ ?_; clear hK K)
  (refine wpMix_still (fun K hK => ?_); go_simp; refine hK _ ?_; clear hK K)
  (refine wpMix_still (fun K hK => ?_); go_simp; refine hK _ ?_; clear hK K)
  (refine wpMix_still (fun K hK => ?_); go_simp; refine hK _ ?_; clear hK K)
  (refine wpMix_still (fun K hK => ?_); go_simp; refine hK _ ?_; clear hK K)
  (refine wpMix_still (fun K hK => ?_); go_simp; refine hK _ ?_; clear hK K)
  (refine wpMix_still (fun K hK => ?_); go_simp; refine hK _ ?_; clear hK K)
  (refine wpMix_still (fun K hK => ?_); go_simp; refine hK _ ?_; clear hK K)
  (refine wpMix_still (fun K hK => ?_); go_simp; refine hK _ ?_; clear hK K)
  (refine wpMix_still (fun K hK => ?_); go_simp; refine hK _ ?_; clear hK K)
  (refine wpMix_still (fun K hK => ?_); go_simp; refine hK _ ?_; clear hK K)
  (refine wpMix_still (fun K hK => ?_); go_simp; refine hK _ ?_; clear hK K)
  (refine wpMix_still (fun K hK => ?_); go_simp; refine hK _ ?_; clear hK K)
  (refine wpMix_still (fun K hK => ?_); go_simp; refine hK _ ?_; clear hK K)
  (refine wpMix_still (fun K hK => ?_); go_simp; refine hK _ ?_; clear hK K)
  (refine wpMix_still (fun K hK => ?_); go_simp; refine hK _ ?_; clear hK K)
  (refine wpMix_still (fun K hK => ?_); go_simp; refine hK _ ?_; clear hK K)
  (refine wpMix_still (fun K hK => ?_); go_simp; refine hK _ ?_; clear hK K)
  (refine wpMix_still (fun K hK => ?_); go_simp; refine hK _ ?_; clear hK K)
  (refine wpMix_still (fun K hK => ?_); go_simp; refine hK _ ?_; clear hK K)
  (refine wpMix_still (fun K hK => ?_); go_simp; refine hK _ ?_; clear hK K)
  (refine wpMix_still (fun K hK => ?_); go_simp; refine hK _ ?_; clear hK K)
  refine wpMix_call ?_
  go_wp2_with fail
  have n5 := rowB_new w2 3 #[.int .i64 k, .int .i64 t, .int .i64 c, .int .i64 e, .int .i64 n, .int .i64 l, .int .i64 d, .int .i64 r, .int .i64 o, .int .i64 b]
  replace k0 := rowB_alloc k0 (.cells #[.int .i64 k, .int .i64 t, .int .i64 c, .int .i64 e, .int .i64 n, .int .i64 l, .int .i64 d, .int .i64 r, .int .i64 o, .int .i64 b] 3)
  replace h := h.alloc (.cells #[.int .i64 k, .int .i64 t, .int .i64 c, .int .i64 e, .int .i64 n, .int .i64 l, .int .i64 d, .int .i64 r, .int .i64 o, .int .i64 b] 3)
  replace bW := bW.alloc (by omega) (.cells #[.int .i64 k, .int .i64 t, .int .i64 c, .int .i64 e, .int .i64 n, .int .i64 l, .int .i64 d, .int .i64 r, .int .i64 o, .int .i64 b] 3)
  clear e0 e1 e2 e3 e4 e5 e6 e7 e8 e9 e10
  generalize w2.alloc (.cells #[.int .i64 k, .int .i64 t, .int .i64 c, .int .i64 e, .int .i64 n, .int .i64 l, .int .i64 d, .int .i64 r, .int .i64 o, .int .i64 b] 3) = w3 at *
  rw [sW] at n5
  obtain ⟨⟨e0, e1, e2, e3, e4, e5, e6, e7, e8, e9, e10⟩, _⟩ := elCells h.row
  try refine ⟨fun h => (by cases h), ?_⟩
  (refine wpMix_still (fun K hK => ?_); go_simp; refine hK _ ?_; clear hK K)
  refine wpMix_nil ?_
  go_wp2_with (refine wpList_storeR rfl 34 _ _ rfl w.heap.size rfl #[.slice (some ⟨w.heap.size + 1, 0, none⟩) 10 10, .slice a m.length cap] rfl (dev2_one _ _ _ _ _ _) 34 #[.slice none 0 0, .slice none 0 0] rfl ?_ agDv ?_; with_reducible exact k0)
  refine bodyPost_ret (resultsR rfl w.heap.size _ rfl (rowB_row k0 _) agDv) rfl ?_
  exact ⟨w.heap.size + 1, rfl, rowB_row_other n5 _ (by omega), by omega, below_rowR bW _ (by omega)⟩
end Go.Proofs.Ytakaebjojgeehaa
