/- Contracts of package whole's Times and Touches. -/
import Derived.Test.YtdiajkgebicnnaaAluFit
import Derived.Test.YtdiajkgebicnnaaChecked
import Derived.Test.YtdiajkgebicnnaaQuiet
import Derived.Test.YtdiajkgebicnnaaRow
import Derived.Test.YtdiajkgebicnnaaShape
import Derived.Test.YtdiajkgebicnnaaTabMath
import Derived.Test.YtdiajkgebicnnaaWholes
import Derived.Below
import Derived.BigQuiet
import Derived.ChangeMaps5
import Derived.Deep.DeepCutAuto
import Derived.Deep.Draws
import Derived.Deep.MidRow
import Derived.Deep.OwnRows
import Derived.Deep.QuietTactic
import Derived.Deep.RegionHeld3
import Derived.Deep.RegionWith
import Derived.Deep.Slices
import Derived.Deep.WholeRow
import Derived.Lib.Hide
import Derived.Lib.SmallJoins
import Derived.OpenShut
import Derived.OrdersHeld
import Derived.OwnWalk
import Derived.RowKit3
import Derived.Shelf.Abstract
import Derived.StillTactics
import Derived.StillTail
import Derived.StillTailTactics
import Derived.WalkKit
namespace Go.Proofs.Ytdiajkgebicnnaa
open Go.RowKit
set_option maxRecDepth 100000

theorem box_below (w : World) (o : Obj) : Below w.heap.size w (w.alloc o) := (Below.refl _ _).alloc (Nat.le_refl _) o

/-- The library's search by a function that is given, among steps. -/
theorem idxSteps_at (fn : Nat) (caps : Array Value) (p : St → Bool) (v : Value) (l : List St) (w : World) (h : isArr 4 stepR w v l) (hE : Enters Try.prog fn)
    (hc : ∀ (x : St) (w' : World), Below w.heap.size w w' → Calls Try.prog fn (#[.agg #[.int .i64 x.d, .int .i64 x.t, .int .i64 x.f, .int .i64 x.n]] ++ caps) w' fun e w'' => e = .returned (.bool (p x)) ∧ Below w'.heap.size w' w'') :
    Calls Try.prog 135 #[v, .func (.func fn) #[] caps] w fun e w' => e = .returned (.int .i64 (idxL p l)) ∧ Below w.heap.size w w' := by
  obtain ⟨a, cap, rfl, hlen, hform⟩ := isArr_form h
  have hEn : ∀ (args : Array Value) (w : World), (callFunc fn args).run Try.prog w = .ok (.enter fn args) w := hE
  clear hE
  go_enter Try.func135, Try.ntmps135
  go_wp2_with fail
  go_loopw [8] (fun i wr => ∃ k : Nat, k ≤ l.length ∧ i = .int .i64 k ∧ k ≤ l.findIdx p ∧ Below w.heap.size w wr) (fun i _ => l.length - (intOf i).toNat)
  case atStart => exact ⟨0, Nat.zero_le _, rfl, Nat.zero_le _, Below.refl _ _⟩
  case round =>
    obtain ⟨k, hk, rfl, hF, hbel⟩ := hrel
    obtain ⟨wo, rfl⟩ : ∃ wo, wo = wr := ⟨_, rfl⟩
    have hsz := hbel.size
    by_cases hlt : k < l.length
    · obtain ⟨x, hx, _⟩ := drop_at hlt
      obtain ⟨b, off, rfl, hb, hcap, hcap2, cs, _, hcs, rfl⟩ := hform k x hx
      obtain ⟨c0, c1, c2, c3⟩ := four_cells hcs
      rw [← hbel.cell (p := ⟨b, off + k * 4, none⟩) hb] at c0
      rw [← hbel.cell (p := ⟨b, off + k * 4 + 1, none⟩) hb] at c1
      rw [← hbel.cell (p := ⟨b, off + k * 4 + 2, none⟩) hb] at c2
      rw [← hbel.cell (p := ⟨b, off + k * 4 + 3, none⟩) hb] at c3
      have hC := hc x _ hbel
      cases hp : p x
      · rw [hp] at hC
        have HN := Lib.hid (idxL_next hF hx hp)
        clear hF hx hcs hform hc h hp
        go_wp2_with (with_reducible refine hC.mono ?_; rintro e w1 ⟨rfl, hb1⟩)
        go_roundw
        case rel => exact ⟨k + 1, by omega, by go_num, HN.out, hbel.trans (hb1.mono hsz)⟩
        case measure => simp [intOf]; omega
      · rw [hp] at hC
        have HN := Lib.hid (idxL_here hF hx hp)
        clear hF hx hcs hform hc h hp
        go_wp2_with (with_reducible refine hC.mono ?_; rintro e w1 ⟨rfl, hb1⟩)
        go_ret
        exact ⟨ret_int HN.out.symm, hbel.trans (hb1.mono hsz)⟩
    · obtain rfl : k = l.length := by omega
      have HN := Lib.hid (idxL_none hF)
      clear hF hform hc h
      go_wp2_with fail
      go_ret
      exact ⟨ret_int HN.out.symm, hbel⟩
theorem hasSteps_at (fn : Nat) (caps : Array Value) (p : St → Bool) (v : Value) (l : List St) (w : World) (h : isArr 4 stepR w v l) (hE : Enters Try.prog fn)
    (hc : ∀ (x : St) (w' : World), Below w.heap.size w w' → Calls Try.prog fn (#[.agg #[.int .i64 x.d, .int .i64 x.t, .int .i64 x.f, .int .i64 x.n]] ++ caps) w' fun e w'' => e = .returned (.bool (p x)) ∧ Below w'.heap.size w' w'') :
    Calls Try.prog 86 #[v, .func (.func fn) #[] caps] w fun e w' => e = .returned (.bool (l.any p)) ∧ Below w.heap.size w w' := by
  rw [← idxL_any]
  have HI := Lib.hid (idxSteps_at fn caps p v l w h hE hc)
  clear hc hE h
  go_enter Try.func86, Try.ntmps86
  go_wp2_with (go_at_call 135; refine HI.out.mono ?_; rintro e w1 ⟨rfl, hb1⟩)
  go_ret
  exact ⟨rfl, hb1⟩
/-- .. among cycles. -/
theorem idxCycles_at (fn : Nat) (caps : Array Value) (p : Cy → Bool) (v : Value) (l : List Cy) (w : World) (h : isArr 4 cycleR w v l) (hE : Enters Try.prog fn)
    (hc : ∀ (x : Cy) (cv : Value) (w' : World), Below w.heap.size w w' → isArr 4 stepR w' cv x.steps → Calls Try.prog fn (#[.agg #[.int .i64 x.bus, .int .i64 x.place, .int .i64 x.reg, cv]] ++ caps) w' fun e w'' => e = .returned (.bool (p x)) ∧ Below w'.heap.size w' w'') :
    Calls Try.prog 136 #[v, .func (.func fn) #[] caps] w fun e w' => e = .returned (.int .i64 (idxL p l)) ∧ Below w.heap.size w w' := by
  obtain ⟨a, cap, rfl, hlen, hform⟩ := isArr_form h
  have hEn : ∀ (args : Array Value) (w : World), (callFunc fn args).run Try.prog w = .ok (.enter fn args) w := hE
  clear hE
  go_enter Try.func136, Try.ntmps136
  go_wp2_with fail
  go_loopw [8] (fun i wr => ∃ k : Nat, k ≤ l.length ∧ i = .int .i64 k ∧ k ≤ l.findIdx p ∧ Below w.heap.size w wr) (fun i _ => l.length - (intOf i).toNat)
  case atStart => exact ⟨0, Nat.zero_le _, rfl, Nat.zero_le _, Below.refl _ _⟩
  case round =>
    obtain ⟨k, hk, rfl, hF, hbel⟩ := hrel
    obtain ⟨wo, rfl⟩ : ∃ wo, wo = wr := ⟨_, rfl⟩
    have hsz := hbel.size
    by_cases hlt : k < l.length
    · obtain ⟨x, hx, _⟩ := drop_at hlt
      obtain ⟨b, off, rfl, hb, hcap, hcap2, cs, _, hcs, cv, rfl, hcy⟩ := hform k x hx
      obtain ⟨c0, c1, c2, c3⟩ := four_cells hcs
      rw [← hbel.cell (p := ⟨b, off + k * 4, none⟩) hb] at c0
      rw [← hbel.cell (p := ⟨b, off + k * 4 + 1, none⟩) hb] at c1
      rw [← hbel.cell (p := ⟨b, off + k * 4 + 2, none⟩) hb] at c2
      rw [← hbel.cell (p := ⟨b, off + k * 4 + 3, none⟩) hb] at c3
      have hC := hc x cv _ hbel (isArr_below step_keeps hcy hbel (Nat.le_refl _))
      obtain ⟨ca, ccap, rfl, _, _⟩ := isArr_form hcy
      cases hp : p x
      · rw [hp] at hC
        have HN := Lib.hid (idxL_next hF hx hp)
        clear hF hx hcs hform hc hcy h hp
        go_wp2_with (with_reducible refine hC.mono ?_; rintro e w1 ⟨rfl, hb1⟩)
        go_roundw
        case rel => exact ⟨k + 1, by omega, by go_num, HN.out, hbel.trans (hb1.mono hsz)⟩
        case measure => simp [intOf]; omega
      · rw [hp] at hC
        have HN := Lib.hid (idxL_here hF hx hp)
        clear hF hx hcs hform hc hcy h hp
        go_wp2_with (with_reducible refine hC.mono ?_; rintro e w1 ⟨rfl, hb1⟩)
        go_ret
        exact ⟨ret_int HN.out.symm, hbel.trans (hb1.mono hsz)⟩
    · obtain rfl : k = l.length := by omega
      have HN := Lib.hid (idxL_none hF)
      clear hF hform hc h
      go_wp2_with fail
      go_ret
      exact ⟨ret_int HN.out.symm, hbel⟩
theorem hasCycles_at (fn : Nat) (caps : Array Value) (p : Cy → Bool) (v : Value) (l : List Cy) (w : World) (h : isArr 4 cycleR w v l) (hE : Enters Try.prog fn)
    (hc : ∀ (x : Cy) (cv : Value) (w' : World), Below w.heap.size w w' → isArr 4 stepR w' cv x.steps → Calls Try.prog fn (#[.agg #[.int .i64 x.bus, .int .i64 x.place, .int .i64 x.reg, cv]] ++ caps) w' fun e w'' => e = .returned (.bool (p x)) ∧ Below w'.heap.size w' w'') :
    Calls Try.prog 88 #[v, .func (.func fn) #[] caps] w fun e w' => e = .returned (.bool (l.any p)) ∧ Below w.heap.size w w' := by
  rw [← idxL_any]
  have HI := Lib.hid (idxCycles_at fn caps p v l w h hE hc)
  clear hc hE h
  go_enter Try.func88, Try.ntmps88
  go_wp2_with (go_at_call 136; refine HI.out.mono ?_; rintro e w1 ⟨rfl, hb1⟩)
  go_ret
  exact ⟨rfl, hb1⟩

theorem mayEnd_any (x : St) (w : World) : Calls Try.prog 87 #[.agg #[.int .i64 x.d, .int .i64 x.t, .int .i64 x.f, .int .i64 x.n]] w fun e w' => e = .returned (.bool (ifB x)) ∧ Below w.heap.size w w' := by
  have hb := box_below w (.cells #[.int .i64 x.d, .int .i64 x.t, .int .i64 x.f, .int .i64 x.n] 86)
  go_enter Try.func87, Try.ntmps87
  go_wp2
  go_ret
  exact ⟨rfl, hb⟩
theorem changesTo_any (x : St) (w : World) : Calls Try.prog 137 #[.agg #[.int .i64 x.d, .int .i64 x.t, .int .i64 x.f, .int .i64 x.n]] w fun e w' => e = .returned (.bool (toB x.d)) ∧ Below w.heap.size w w' := by
  obtain ⟨d, t, f, n⟩ := x
  have hb := box_below w (.cells #[.int .i64 d, .int .i64 t, .int .i64 f, .int .i64 n] 86)
  dsimp only
  go_enter Try.func137, Try.ntmps137
  go_wp2
  all_goals
    go_ret
    refine ⟨?_, hb⟩
    unfold toB
    simp_all
theorem changesFlags_any (x : St) (w : World) : Calls Try.prog 138 #[.agg #[.int .i64 x.d, .int .i64 x.t, .int .i64 x.f, .int .i64 x.n]] w fun e w' => e = .returned (.bool (flagsB x.d x.t)) ∧ Below w.heap.size w w' := by
  obtain ⟨d, t, f, n⟩ := x
  have hb := box_below w (.cells #[.int .i64 d, .int .i64 t, .int .i64 f, .int .i64 n] 86)
  dsimp only
  go_enter Try.func138, Try.ntmps138
  go_wp2_with (go_at_call 104; refine (wideTab_any _ _).mono ?_; rintro e w' ⟨rfl, rfl⟩)
  all_goals
    go_ret
    refine ⟨?_, hb⟩
    unfold flagsB
    simp_all [wideB]
theorem agStB : isAg Try.prog 86 4 := ⟨⟨_, Try.underlying86, rfl⟩, by kernel_rfl⟩
theorem agCyB : isAg Try.prog 84 4 := ⟨⟨_, Try.underlying84, rfl⟩, by kernel_rfl⟩
theorem stepTouches_any (x : St) (reg : Int) (w : World) : Calls Try.prog 92 #[.agg #[.int .i64 x.d, .int .i64 x.t, .int .i64 x.f, .int .i64 x.n], .int .i64 reg] w fun e w' => e = .returned (.bool (stepT reg x)) ∧ Below w.heap.size w w' := by
  have hb := box_below w (.cells #[.int .i64 x.d, .int .i64 x.t, .int .i64 x.f, .int .i64 x.n] 86)
  have hr := rowB_new w 86 #[.int .i64 x.d, .int .i64 x.t, .int .i64 x.f, .int .i64 x.n]
  have hT := fun w => changesTo_any x w
  have hF := fun w => changesFlags_any x w
  obtain ⟨R, hR⟩ : ∃ R, R = stepT reg x := ⟨_, rfl⟩
  rw [← hR]
  unfold stepT at hR
  cases a : (x.t == reg)
  · rw [a, Bool.false_and, Bool.false_or] at hR
    cases b : (reg == 4)
    · rw [b, Bool.false_and] at hR
      subst hR
      clear hT hF
      go_enter Try.func92, Try.ntmps92
      go_wp2_with fail
      go_ret
      exact ⟨rfl, hb⟩
    · rw [b, Bool.true_and] at hR
      have HR := Lib.hid hR
      clear hR hT
      go_enter Try.func92, Try.ntmps92
      go_wp2_with (first
        | (refine wpList_loadRg rfl 86 _ rfl w.heap.size rfl 86 #[.int .i64 x.d, .int .i64 x.t, .int .i64 x.f, .int .i64 x.n] ?_ agStB ?_; with_reducible exact hr)
        | (go_at_call 138; refine (hF _).mono ?_; rintro e w1 ⟨rfl, hb1⟩))
      go_ret
      exact ⟨by rw [HR.out]; rfl, hb.trans (hb1.mono hb.size)⟩
  · rw [a, Bool.true_and] at hR
    cases c : toB x.d
    · rw [c, Bool.false_or] at hR
      rw [c] at hT
      cases b : (reg == 4)
      · rw [b, Bool.false_and] at hR
        subst hR
        clear hF c
        go_enter Try.func92, Try.ntmps92
        go_wp2_with (first
          | (refine wpList_loadRg rfl 86 _ rfl w.heap.size rfl 86 #[.int .i64 x.d, .int .i64 x.t, .int .i64 x.f, .int .i64 x.n] ?_ agStB ?_; with_reducible exact hr)
          | (go_at_call 137; refine (hT _).mono ?_; rintro e w1 ⟨rfl, hb1⟩))
        go_ret
        exact ⟨rfl, hb.trans (hb1.mono hb.size)⟩
      · rw [b, Bool.true_and] at hR
        have HR := Lib.hid hR
        clear hR c
        go_enter Try.func92, Try.ntmps92
        go_wp2_with (first
          | (refine wpList_loadRg rfl 86 _ rfl w.heap.size rfl 86 #[.int .i64 x.d, .int .i64 x.t, .int .i64 x.f, .int .i64 x.n] ?_ agStB ?_; first | with_reducible exact hr | with_reducible exact hr1)
          | (go_at_call 137; refine (hT _).mono ?_; rintro e w1 ⟨rfl, hb1⟩; have hr1 := rowB_below hr hb1 (rowB_lt hr))
          | (go_at_call 138; refine (hF _).mono ?_; rintro e w2 ⟨rfl, hb2⟩))
        go_ret
        exact ⟨by rw [HR.out]; rfl, (hb.trans (hb1.mono hb.size)).trans (hb2.mono (hb.trans (hb1.mono hb.size)).size)⟩
    · rw [c, Bool.true_or] at hR
      rw [c] at hT
      subst hR
      clear hF c
      go_enter Try.func92, Try.ntmps92
      go_wp2_with (first
        | (refine wpList_loadRg rfl 86 _ rfl w.heap.size rfl 86 #[.int .i64 x.d, .int .i64 x.t, .int .i64 x.f, .int .i64 x.n] ?_ agStB ?_; with_reducible exact hr)
        | (go_at_call 137; refine (hT _).mono ?_; rintro e w1 ⟨rfl, hb1⟩))
      go_ret
      exact ⟨rfl, hb.trans (hb1.mono hb.size)⟩
set_option maxHeartbeats 4000000 in
theorem busTouches_any (bus place r : Int) (a : Option Addr) (n c : Nat) (reg : Int) (w : World) : Calls Try.prog 90 #[.agg #[.int .i64 bus, .int .i64 place, .int .i64 r, .slice a n c], .int .i64 reg] w fun e w' => e = .returned (.bool (busT reg ⟨bus, place, r, []⟩)) ∧ Below w.heap.size w w' := by
  have hb := box_below w (.cells #[.int .i64 bus, .int .i64 place, .int .i64 r, .slice a n c] 84)
  obtain ⟨R, hR⟩ : ∃ R, R = busT reg ⟨bus, place, r, []⟩ := ⟨_, rfl⟩
  rw [← hR]
  unfold busT at hR
  dsimp only at hR
  have HR := Lib.hid hR
  clear hR
  go_enter Try.func90, Try.ntmps90
  cases t1 : (bus == 1) <;> cases t2 : (r == reg) <;> cases t3 : (place == 4) <;> cases t4 : (place == 5) <;> cases t5 : (reg == 3) <;> cases t6 : (bus != 0)
  all_goals
    go_wp2_with fail
    go_ret
    exact ⟨by rw [HR.out, t1, t2, t3, t4, t5, t6]; rfl, hb⟩
/-- The closures of Touches; block g holds the register. -/
theorem stepAt_touch (g : Nat) (reg : Int) (x : St) (w : World) (hg : rowB w g 3 #[.int .i64 reg]) : Calls Try.prog 91 #[.agg #[.int .i64 x.d, .int .i64 x.t, .int .i64 x.f, .int .i64 x.n], .pointer (some ⟨g, 0, none⟩)] w fun e w' => e = .returned (.bool (stepT reg x)) ∧ Below w.heap.size w w' := by
  have hb := box_below w (.cells #[.int .i64 x.d, .int .i64 x.t, .int .i64 x.f, .int .i64 x.n] 86)
  have hr := rowB_new w 86 #[.int .i64 x.d, .int .i64 x.t, .int .i64 x.f, .int .i64 x.n]
  have hc := rowB_cell (rowB_alloc hg (.cells #[.int .i64 x.d, .int .i64 x.t, .int .i64 x.f, .int .i64 x.n] 86)) 0 rfl
  have hS := fun w => stepTouches_any x reg w
  clear hg
  go_enter Try.func91, Try.ntmps91
  go_wp2_with (first
    | (refine wpList_loadRg rfl 86 _ rfl w.heap.size rfl 86 #[.int .i64 x.d, .int .i64 x.t, .int .i64 x.f, .int .i64 x.n] ?_ agStB ?_; with_reducible exact hr)
    | (go_at_call 92; refine (hS _).mono ?_; rintro e w1 ⟨rfl, hb1⟩))
  go_ret
  exact ⟨rfl, hb.trans (hb1.mono hb.size)⟩
theorem cycleAt_touch (g : Nat) (reg : Int) (x : Cy) (cv : Value) (w : World) (hg : rowB w g 3 #[.int .i64 reg]) (hcv : isArr 4 stepR w cv x.steps) : Calls Try.prog 89 #[.agg #[.int .i64 x.bus, .int .i64 x.place, .int .i64 x.reg, cv], .pointer (some ⟨g, 0, none⟩)] w fun e w' => e = .returned (.bool (cyT reg x)) ∧ Below w.heap.size w w' := by
  obtain ⟨sa, sc, rfl, _, _⟩ := isArr_form hcv
  have hb := box_below w (.cells #[.int .i64 x.bus, .int .i64 x.place, .int .i64 x.reg, .slice sa x.steps.length sc] 84)
  have hr := rowB_new w 84 #[.int .i64 x.bus, .int .i64 x.place, .int .i64 x.reg, .slice sa x.steps.length sc]
  have hg1 := rowB_alloc hg (.cells #[.int .i64 x.bus, .int .i64 x.place, .int .i64 x.reg, .slice sa x.steps.length sc] 84)
  have hc := rowB_cell hg1 0 rfl
  have hB := fun w => busTouches_any x.bus x.place x.reg sa x.steps.length sc reg w
  have hH := fun w1 (h1 : Below w.heap.size w w1) (hg1 : rowB w1 g 3 #[.int .i64 reg]) => hasSteps_at 91 #[.pointer (some ⟨g, 0, none⟩)] (stepT reg) (.slice sa x.steps.length sc) x.steps w1 (isArr_below step_keeps hcv h1 (Nat.le_refl _)) (enters_of Try.func91 (by kernel_rfl) rfl) (fun y w' h' => stepAt_touch g reg y w' (rowB_below hg1 h' (rowB_lt hg1)))
  have hgl := rowB_lt hg1
  obtain ⟨B, hBe⟩ : ∃ B, B = busT reg ⟨x.bus, x.place, x.reg, []⟩ := ⟨_, rfl⟩
  have hres : cyT reg x = (B || x.steps.any (stepT reg)) := by rw [hBe]; rfl
  rw [← hBe] at hB
  rw [hres]
  have HH := Lib.hid hH
  have Hg := Lib.hid hg1
  clear hres hBe hH hcv hg hg1
  cases B
  · go_enter Try.func89, Try.ntmps89
    go_wp2_with (first
      | (refine wpList_loadR rfl 84 _ rfl w.heap.size rfl 84 #[.int .i64 x.bus, .int .i64 x.place, .int .i64 x.reg, .slice sa x.steps.length sc] ?_ agCyB ?_; with_reducible exact hr)
      | (go_at_call 90; refine (hB _).mono ?_; rintro e w1 ⟨rfl, hb1⟩; have hr1 := rowB_below hr hb1 (rowB_lt hr); have hq := rowB_cell hr1 3 rfl)
      | (go_at_call 86; refine (HH.out _ (hb.trans (hb1.mono hb.size)) (rowB_below Hg.out hb1 hgl)).mono ?_; rintro e w2 ⟨rfl, hb2⟩))
    go_ret
    exact ⟨by rw [Bool.false_or]; rfl, (hb.trans (hb1.mono hb.size)).trans (hb2.mono (hb.trans (hb1.mono hb.size)).size)⟩
  · go_enter Try.func89, Try.ntmps89
    go_wp2_with (first
      | (refine wpList_loadR rfl 84 _ rfl w.heap.size rfl 84 #[.int .i64 x.bus, .int .i64 x.place, .int .i64 x.reg, .slice sa x.steps.length sc] ?_ agCyB ?_; with_reducible exact hr)
      | (go_at_call 90; refine (hB _).mono ?_; rintro e w1 ⟨rfl, hb1⟩))
    go_ret
    exact ⟨by rw [Bool.true_or]; rfl, hb.trans (hb1.mono hb.size)⟩
theorem touches_any (op : Int) (name : ByteArray) (mode : Int) (cv : Value) (l : List Cy) (reg : Int) (w : World) (h : isArr 4 cycleR w cv l) : Calls Try.prog 42 #[.agg #[.int .i64 op, .string name, .int .i64 mode, cv], .int .i64 reg] w fun e w' => e = .returned (.bool (touchB reg l)) ∧ Below w.heap.size w w' := by
  obtain ⟨sa, sc, rfl, _, _⟩ := isArr_form h
  obtain ⟨k0, k1, bW, sW⟩ := boxes2 w (.cells #[.int .i64 op, .string name, .int .i64 mode, .slice sa l.length sc] 78) (.cells #[.int .i64 reg] 3)
  have hq := rowB_cell (show rowB _ _ _ _ from k0) 3 rfl
  have k1 : rowB _ _ _ _ := k1
  have hH := hasCycles_at 89 #[.pointer (some ⟨w.heap.size + 1, 0, none⟩)] (cyT reg) (.slice sa l.length sc) l _ (isArr_below cycle_keeps h bW (Nat.le_refl _)) (enters_of Try.func89 (by kernel_rfl) rfl) (fun y cv w' h' hcv => cycleAt_touch (w.heap.size + 1) reg y cv w' (rowB_below k1 h' (rowB_lt k1)) hcv)
  have HH := Lib.hid hH
  clear hH k0 k1 h sW
  go_enter Try.func42, Try.ntmps42
  go_wp2_with (go_at_call 88; refine HH.out.mono ?_; rintro e w2 ⟨rfl, hb2⟩)
  go_ret
  exact ⟨rfl, bW.trans (hb2.mono bW.size)⟩
end Go.Proofs.Ytdiajkgebicnnaa
