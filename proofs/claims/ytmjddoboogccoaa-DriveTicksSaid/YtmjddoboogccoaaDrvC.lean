/- Contracts of package drive: Skip, Tick, Out, Irq, Next between states as they come in. -/
import Derived.Test.YtmjddoboogccoaaChecked
import Derived.Test.YtmjddoboogccoaaDrvCd
import Derived.Below
import Derived.BigQuiet
import Derived.ChangeMaps5
import Derived.Deep.AppendSrc
import Derived.Deep.DeepAppendWide
import Derived.Deep.DeepCutAuto
import Derived.Deep.Draws
import Derived.Deep.MidRow
import Derived.Deep.OwnRows
import Derived.Deep.QuietTactic
import Derived.Deep.RegionHeld3
import Derived.Deep.RegionWith
import Derived.Deep.Slices
import Derived.Deep.WholeRow
import Derived.Laws.CopyOwn
import Derived.Laws.OwnMore
import Derived.Lib.Hide
import Derived.Lib.SmallJoins
import Derived.Maps.AppendAt
import Derived.OpenShut
import Derived.OrdersHeld
import Derived.OwnWalk
import Derived.RowKit3
import Derived.StillTactics
import Derived.StillTail
import Derived.StillTailTactics
import Derived.WalkKit
namespace Go.Proofs.Ytmjddoboogccoaa
open Go.RowKit
set_option maxRecDepth 100000
theorem drvSkip_any (v vm : Value) (l lb : List Int) (k : Int) (w : World) (h : isArg w v l) (hm : isByt w vm lb) (hbb : ∀ x ∈ lb, 0 ≤ x ∧ x < 256) (hL : lb.length ≤ 140737488351232) (hk : -9223372036854775808 ≤ k ∧ k ≤ 9223372036854775807) :
    Calls Try.prog 28 #[.agg #[v, vm], .int .i64 k] w fun e w' => ∃ u, e = .returned u ∧ devA w' u ((Dr.of l lb).ticks k.toNat) ∧ Below w.heap.size w w' := by
  refine (drvSkip_from v vm l lb k w h hm hbb hL hk).mono ?_
  rintro e w' ⟨u, e1, e2, e3⟩
  exact ⟨u, e1, e2.toA, e3⟩
theorem drvTick_any (v vm : Value) (l lb : List Int) (w : World) (h : isArg w v l) (hm : isByt w vm lb) (hbb : ∀ x ∈ lb, 0 ≤ x ∧ x < 256) (hL : lb.length ≤ 140737488351232) :
    Calls Try.prog 27 #[.agg #[v, vm]] w fun e w' => ∃ u, e = .returned u ∧ devA w' u (Dr.of l lb).tick ∧ Below w.heap.size w w' := by
  obtain ⟨k0, k1, bW, sW⟩ := boxes2 w (.cells #[v, vm] 25) (.cells #[.slice none 0 0, .slice none 0 0] 25)
  have k1 : rowB _ _ _ _ := k1
  have hSk := drvSkip_any v vm l lb 1 _ (isArg_below h bW (Nat.le_refl _)) (isByt_below hm bW (Nat.le_refl _)) hbb hL (by omega)
  replace hSk : Calls _ _ _ _ fun e w' => ∃ u, e = .returned u ∧ devA w' u (Dr.of l lb).tick ∧ Below _ _ w' := hSk
  generalize (Dr.of l lb).tick = T at *
  clear h hm hbb hL
  go_enter Try.func27, Try.ntmps27
  go_wp2_with (first
    | (go_at_call 28; refine hSk.mono ?_; rintro e w3 ⟨u, rfl, hx, hb⟩; obtain ⟨a3, c3, b3, d3, rfl, p3, q3⟩ := hx.open; have r2 := rowB_below k1 hb (rowB_lt k1); have bX := bW.trans (hb.mono bW.size))
    | (refine wpList_storeR rfl 25 _ _ rfl (w.heap.size + 1) rfl #[.slice a3 10 c3, .slice b3 T.m.length d3] rfl (dev2_one _ _ _ _ _ _) 25 #[.slice none 0 0, .slice none 0 0] rfl ?_ agDv ?_; with_reducible exact r2))
  refine bodyPost_ret (resultsR rfl (w.heap.size + 1) _ rfl (rowB_row r2 _) agDv) rfl ?_
  exact ⟨_, rfl, ⟨_, _, rfl, isArg_box r2 (fun n h => by cases h) (fun n h => by cases h) p3 _, isByt_box r2 (fun n h => by cases h) (fun n h => by cases h) q3 _⟩, below_rowR bX _ (by omega)⟩
theorem drvOut_any (v vm : Value) (ln lb : List Int) (w : World) (h : isArg w v ln) (hm : isByt w vm lb) (hbb : ∀ x ∈ lb, 0 ≤ x ∧ x < 256) (hL : lb.length ≤ 140737488351232) :
    Calls Try.prog 21 #[.agg #[v, vm]] w fun e' w' => e' = .returned (.int .i64 (Dr.of ln lb).t) ∧ Below w.heap.size w w' := by
  obtain ⟨k0, bW, sW⟩ := boxes1 w (.cells #[v, vm] 25)
  have hlook := drvLook_any v vm ln lb _ (isArg_below h bW (Nat.le_refl _)) (isByt_below hm bW (Nat.le_refl _)) hL
  have hfit := Dr.of_fit ln lb hbb
  have hm2 : drM lb = (Dr.of ln lb).m := rfl
  rw [hm2] at hlook
  obtain ⟨s, hs⟩ : ∃ s, Dr.of ln lb = s := ⟨_, rfl⟩
  rw [hs] at hlook hfit
  rw [hs]
  clear hs h hm hbb hL hm2 k0
  obtain ⟨k, t, c, e, n, l, d, r, o, b, m⟩ := s
  dsimp only [Dr.cs] at hlook
  go_enter Try.func21, Try.ntmps21
  go_upto_region 2 with (go_at_call 47; refine hlook.mono ?_; rintro e2 w1 ⟨u, rfl, hu, hb⟩; obtain ⟨a, cap, rfl, _⟩ := isByt_form hu; have bX := bW.trans (hb.mono bW.size); have hs := hb.size; rw [sW] at hs; clear hb hlook hu)
  have nP := rowB_new w1 58 #[.int .i64 k, .int .i64 t, .int .i64 c, .int .i64 e, .int .i64 n, .int .i64 l, .int .i64 d, .int .i64 r, .int .i64 o, .int .i64 b, .slice a m.length cap]
  replace bX := bX.alloc (by omega) (.cells #[.int .i64 k, .int .i64 t, .int .i64 c, .int .i64 e, .int .i64 n, .int .i64 l, .int .i64 d, .int .i64 r, .int .i64 o, .int .i64 b, .slice a m.length cap] 58)
  change Code.wp _ _ _ _ (w1.alloc (.cells #[.int .i64 k, .int .i64 t, .int .i64 c, .int .i64 e, .int .i64 n, .int .i64 l, .int .i64 d, .int .i64 r, .int .i64 o, .int .i64 b, .slice a m.length cap] 58))
  generalize w1.alloc (.cells #[.int .i64 k, .int .i64 t, .int .i64 c, .int .i64 e, .int .i64 n, .int .i64 l, .int .i64 d, .int .i64 r, .int .i64 o, .int .i64 b, .slice a m.length cap] 58) = w2 at *
  generalize w1.heap.size = y at *
  obtain ⟨⟨e0, e1, e2, e3, e4, e5, e6, e7, e8, e9, e10⟩, _⟩ := elCells nP
  go_wp2_with fail
  go_ret
  exact ⟨rfl, bX⟩
theorem drvIrq_any (v vm : Value) (ln lb : List Int) (w : World) (h : isArg w v ln) (hm : isByt w vm lb) (hbb : ∀ x ∈ lb, 0 ≤ x ∧ x < 256) (hL : lb.length ≤ 140737488351232) :
    Calls Try.prog 19 #[.agg #[v, vm]] w fun e' w' => e' = .returned (.bool (Dr.of ln lb).irq) ∧ Below w.heap.size w w' := by
  obtain ⟨k0, bW, sW⟩ := boxes1 w (.cells #[v, vm] 25)
  have hlook := drvLook_any v vm ln lb _ (isArg_below h bW (Nat.le_refl _)) (isByt_below hm bW (Nat.le_refl _)) hL
  have hfit := Dr.of_fit ln lb hbb
  have hm2 : drM lb = (Dr.of ln lb).m := rfl
  rw [hm2] at hlook
  obtain ⟨s, hs⟩ : ∃ s, Dr.of ln lb = s := ⟨_, rfl⟩
  rw [hs] at hlook hfit
  rw [hs]
  clear hs h hm hbb hL hm2 k0
  obtain ⟨k, t, c, e, n, l, d, r, o, b, m⟩ := s
  dsimp only [Dr.cs] at hlook
  by_cases h1 : b = 1
  · subst h1
    have ev : (⟨k, t, c, e, n, l, d, r, o, 1, m⟩ : Dr).irq = (r == 1) := by unfold Dr.irq; dsimp only; by_cases h : r = 1 <;> simp [h]
    rw [ev]
    go_enter Try.func19, Try.ntmps19
    go_upto_region 2 with (go_at_call 47; refine hlook.mono ?_; rintro e2 w1 ⟨u, rfl, hu, hb⟩; obtain ⟨a, cap, rfl, _⟩ := isByt_form hu; have bX := bW.trans (hb.mono bW.size); have hs := hb.size; rw [sW] at hs; clear hb hlook hu)
    have nP := rowB_new w1 58 #[.int .i64 k, .int .i64 t, .int .i64 c, .int .i64 e, .int .i64 n, .int .i64 l, .int .i64 d, .int .i64 r, .int .i64 o, .int .i64 1, .slice a m.length cap]
    replace bX := bX.alloc (by omega) (.cells #[.int .i64 k, .int .i64 t, .int .i64 c, .int .i64 e, .int .i64 n, .int .i64 l, .int .i64 d, .int .i64 r, .int .i64 o, .int .i64 1, .slice a m.length cap] 58)
    change Code.wp _ _ _ _ (w1.alloc (.cells #[.int .i64 k, .int .i64 t, .int .i64 c, .int .i64 e, .int .i64 n, .int .i64 l, .int .i64 d, .int .i64 r, .int .i64 o, .int .i64 1, .slice a m.length cap] 58))
    generalize w1.alloc (.cells #[.int .i64 k, .int .i64 t, .int .i64 c, .int .i64 e, .int .i64 n, .int .i64 l, .int .i64 d, .int .i64 r, .int .i64 o, .int .i64 1, .slice a m.length cap] 58) = w2 at *
    generalize w1.heap.size = y at *
    obtain ⟨⟨e0, e1, e2, e3, e4, e5, e6, e7, e8, e9, e10⟩, _⟩ := elCells nP
    go_wp2_with fail
    go_ret
    exact ⟨rfl, bX⟩
  · have q1 : (b == 1) = false := by simpa using h1
    have ev : (⟨k, t, c, e, n, l, d, r, o, b, m⟩ : Dr).irq = false := by unfold Dr.irq; dsimp only; rw [decide_eq_false h1]; rfl
    rw [ev]
    go_enter Try.func19, Try.ntmps19
    go_upto_region 2 with (go_at_call 47; refine hlook.mono ?_; rintro e2 w1 ⟨u, rfl, hu, hb⟩; obtain ⟨a, cap, rfl, _⟩ := isByt_form hu; have bX := bW.trans (hb.mono bW.size); have hs := hb.size; rw [sW] at hs; clear hb hlook hu)
    have nP := rowB_new w1 58 #[.int .i64 k, .int .i64 t, .int .i64 c, .int .i64 e, .int .i64 n, .int .i64 l, .int .i64 d, .int .i64 r, .int .i64 o, .int .i64 b, .slice a m.length cap]
    replace bX := bX.alloc (by omega) (.cells #[.int .i64 k, .int .i64 t, .int .i64 c, .int .i64 e, .int .i64 n, .int .i64 l, .int .i64 d, .int .i64 r, .int .i64 o, .int .i64 b, .slice a m.length cap] 58)
    change Code.wp _ _ _ _ (w1.alloc (.cells #[.int .i64 k, .int .i64 t, .int .i64 c, .int .i64 e, .int .i64 n, .int .i64 l, .int .i64 d, .int .i64 r, .int .i64 o, .int .i64 b, .slice a m.length cap] 58))
    generalize w1.alloc (.cells #[.int .i64 k, .int .i64 t, .int .i64 c, .int .i64 e, .int .i64 n, .int .i64 l, .int .i64 d, .int .i64 r, .int .i64 o, .int .i64 b, .slice a m.length cap] 58) = w2 at *
    generalize w1.heap.size = y at *
    obtain ⟨⟨e0, e1, e2, e3, e4, e5, e6, e7, e8, e9, e10⟩, _⟩ := elCells nP
    go_wp2_with fail
    go_ret
    exact ⟨rfl, bX⟩
theorem drvNext_any (v vm : Value) (ln lb : List Int) (w : World) (h : isArg w v ln) (hm : isByt w vm lb) (hbb : ∀ x ∈ lb, 0 ≤ x ∧ x < 256) (hL : lb.length ≤ 140737488351232) :
    Calls Try.prog 23 #[.agg #[v, vm]] w fun e' w' => e' = .returned (.int .i64 (Dr.of ln lb).next) ∧ Below w.heap.size w w' := by
  obtain ⟨k0, bW, sW⟩ := boxes1 w (.cells #[v, vm] 25)
  have hlook := drvLook_any v vm ln lb _ (isArg_below h bW (Nat.le_refl _)) (isByt_below hm bW (Nat.le_refl _)) hL
  have hfit := Dr.of_fit ln lb hbb
  have hm2 : drM lb = (Dr.of ln lb).m := rfl
  rw [hm2] at hlook
  obtain ⟨s, hs⟩ : ∃ s, Dr.of ln lb = s := ⟨_, rfl⟩
  rw [hs] at hlook hfit
  rw [hs]
  clear hs h hm hbb hL hm2 k0
  obtain ⟨k, t, c, e, n, l, d, r, o, b, m⟩ := s
  dsimp only [Dr.cs] at hlook
  have hcb := hfit.c
  have hlb := hfit.l
  dsimp only at hcb hlb
  clear hfit
  by_cases h1 : c = 0
  · subst h1
    have ev : (⟨k, t, 0, e, n, l, d, r, o, b, m⟩ : Dr).next = 100000 := rfl
    rw [ev]
    go_enter Try.func23, Try.ntmps23
    go_upto_region 2 with (go_at_call 47; refine hlook.mono ?_; rintro e2 w1 ⟨u, rfl, hu, hb⟩; obtain ⟨a, cap, rfl, _⟩ := isByt_form hu; have bX := bW.trans (hb.mono bW.size); have hs := hb.size; rw [sW] at hs; clear hb hlook hu)
    have nP := rowB_new w1 58 #[.int .i64 k, .int .i64 t, .int .i64 0, .int .i64 e, .int .i64 n, .int .i64 l, .int .i64 d, .int .i64 r, .int .i64 o, .int .i64 b, .slice a m.length cap]
    replace bX := bX.alloc (by omega) (.cells #[.int .i64 k, .int .i64 t, .int .i64 0, .int .i64 e, .int .i64 n, .int .i64 l, .int .i64 d, .int .i64 r, .int .i64 o, .int .i64 b, .slice a m.length cap] 58)
    change Code.wp _ _ _ _ (w1.alloc (.cells #[.int .i64 k, .int .i64 t, .int .i64 0, .int .i64 e, .int .i64 n, .int .i64 l, .int .i64 d, .int .i64 r, .int .i64 o, .int .i64 b, .slice a m.length cap] 58))
    generalize w1.alloc (.cells #[.int .i64 k, .int .i64 t, .int .i64 0, .int .i64 e, .int .i64 n, .int .i64 l, .int .i64 d, .int .i64 r, .int .i64 o, .int .i64 b, .slice a m.length cap] 58) = w2 at *
    generalize w1.heap.size = y at *
    obtain ⟨⟨e0, e1, e2, e3, e4, e5, e6, e7, e8, e9, e10⟩, _⟩ := elCells nP
    go_wp2_with fail
    go_ret
    exact ⟨rfl, bX⟩
  · have q1 : (c == 0) = false := by simpa using h1
    obtain ⟨F, hF⟩ : ∃ F, max 1 l = F := ⟨_, rfl⟩
    have hw : wrap64 (F - 1) = F - 1 := IntWalk.wrap64_in _ (by omega)
    have ev : (⟨k, t, c, e, n, l, d, r, o, b, m⟩ : Dr).next = F - 1 := by unfold Dr.next; rw [if_pos (show 0 < c by omega)]; dsimp only; split <;> omega
    rw [ev]
    go_enter Try.func23, Try.ntmps23
    go_upto_region 2 with (go_at_call 47; refine hlook.mono ?_; rintro e2 w1 ⟨u, rfl, hu, hb⟩; obtain ⟨a, cap, rfl, _⟩ := isByt_form hu; have bX := bW.trans (hb.mono bW.size); have hs := hb.size; rw [sW] at hs; clear hb hlook hu)
    have nP := rowB_new w1 58 #[.int .i64 k, .int .i64 t, .int .i64 c, .int .i64 e, .int .i64 n, .int .i64 l, .int .i64 d, .int .i64 r, .int .i64 o, .int .i64 b, .slice a m.length cap]
    replace bX := bX.alloc (by omega) (.cells #[.int .i64 k, .int .i64 t, .int .i64 c, .int .i64 e, .int .i64 n, .int .i64 l, .int .i64 d, .int .i64 r, .int .i64 o, .int .i64 b, .slice a m.length cap] 58)
    change Code.wp _ _ _ _ (w1.alloc (.cells #[.int .i64 k, .int .i64 t, .int .i64 c, .int .i64 e, .int .i64 n, .int .i64 l, .int .i64 d, .int .i64 r, .int .i64 o, .int .i64 b, .slice a m.length cap] 58))
    generalize w1.alloc (.cells #[.int .i64 k, .int .i64 t, .int .i64 c, .int .i64 e, .int .i64 n, .int .i64 l, .int .i64 d, .int .i64 r, .int .i64 o, .int .i64 b, .slice a m.length cap] 58) = w2 at *
    generalize w1.heap.size = y at *
    obtain ⟨⟨e0, e1, e2, e3, e4, e5, e6, e7, e8, e9, e10⟩, _⟩ := elCells nP
    go_wp2_with (refine wpList_max2 rfl _ _ _ rfl .i64 1 l rfl rfl ?_; rw [hF])
    go_ret
    exact ⟨rfl, bX⟩
end Go.Proofs.Ytmjddoboogccoaa
