/- Contracts of package whole's Times and Touches. -/
import Derived.Test.YthhihmggaddlmaaChecked
import Derived.Test.YthhihmggaddlmaaQuiet
import Derived.Test.YthhihmggaddlmaaRow
import Derived.Test.YthhihmggaddlmaaWholeTim
import Derived.Below
import Derived.BigQuiet
import Derived.ChangeMaps5
import Derived.Deep.DeepCutAuto
import Derived.Deep.Draws
import Derived.Deep.MidRow
import Derived.Deep.OwnRows
import Derived.Deep.QuietTactic
import Derived.Deep.RegionHeld3
import Derived.Deep.RegionWith
import Derived.Deep.Slices
import Derived.Deep.WholeRow
import Derived.Lib.Hide
import Derived.Lib.SmallJoins
import Derived.OpenShut
import Derived.OrdersHeld
import Derived.OwnWalk
import Derived.RowKit3
import Derived.Shelf.Abstract
import Derived.StillTactics
import Derived.StillTail
import Derived.StillTailTactics
import Derived.WalkKit
namespace Go.Proofs.Ythhihmggaddlmaa
open Go.RowKit
set_option maxRecDepth 100000

theorem box_below (w : World) (o : Obj) : Below w.heap.size w (w.alloc o) := (Below.refl _ _).alloc (Nat.le_refl _) o

/-- The library's search by a function that is given, among steps. -/
theorem idxSteps_at (fn : Nat) (caps : Array Value) (p : St → Bool) (v : Value) (l : List St) (w : World) (h : isArr 4 stepR w v l) (hE : Enters Try.prog fn)
    (hc : ∀ (x : St) (w' : World), Below w.heap.size w w' → Calls Try.prog fn (#[.agg #[.int .i64 x.d, .int .i64 x.t, .int .i64 x.f, .int .i64 x.n]] ++ caps) w' fun e w'' => e = .returned (.bool (p x)) ∧ Below w'.heap.size w' w'') :
    Calls Try.prog 100 #[v, .func (.func fn) #[] caps] w fun e w' => e = .returned (.int .i64 (idxL p l)) ∧ Below w.heap.size w w' := by
  obtain ⟨a, cap, rfl, hlen, hform⟩ := isArr_form h
  have hEn : ∀ (args : Array Value) (w : World), (callFunc fn args).run Try.prog w = .ok (.enter fn args) w := hE
  clear hE
  go_enter Try.func100, Try.ntmps100
  go_wp2_with fail
  go_loopw [8] (fun i wr => ∃ k : Nat, k ≤ l.length ∧ i = .int .i64 k ∧ k ≤ l.findIdx p ∧ Below w.heap.size w wr) (fun i _ => l.length - (intOf i).toNat)
  case atStart => exact ⟨0, Nat.zero_le _, rfl, Nat.zero_le _, Below.refl _ _⟩
  case round =>
    obtain ⟨k, hk, rfl, hF, hbel⟩ := hrel
    obtain ⟨wo, rfl⟩ : ∃ wo, wo = wr := ⟨_, rfl⟩
    have hsz := hbel.size
    by_cases hlt : k < l.length
    · obtain ⟨x, hx, _⟩ := drop_at hlt
      obtain ⟨b, off, rfl, hb, hcap, hcap2, cs, _, hcs, rfl⟩ := hform k x hx
      obtain ⟨c0, c1, c2, c3⟩ := four_cells hcs
      rw [← hbel.cell (p := ⟨b, off + k * 4, none⟩) hb] at c0
      rw [← hbel.cell (p := ⟨b, off + k * 4 + 1, none⟩) hb] at c1
      rw [← hbel.cell (p := ⟨b, off + k * 4 + 2, none⟩) hb] at c2
      rw [← hbel.cell (p := ⟨b, off + k * 4 + 3, none⟩) hb] at c3
      have hC := hc x _ hbel
      cases hp : p x
      · rw [hp] at hC
        have HN := Lib.hid (idxL_next hF hx hp)
        clear hF hx hcs hform hc h hp
        go_wp2_with (with_reducible refine hC.mono ?_; rintro e w1 ⟨rfl, hb1⟩)
        go_roundw
        case rel => exact ⟨k + 1, by omega, by go_num, HN.out, hbel.trans (hb1.mono hsz)⟩
        case measure => simp [intOf]; omega
      · rw [hp] at hC
        have HN := Lib.hid (idxL_here hF hx hp)
        clear hF hx hcs hform hc h hp
        go_wp2_with (with_reducible refine hC.mono ?_; rintro e w1 ⟨rfl, hb1⟩)
        go_ret
        exact ⟨ret_int HN.out.symm, hbel.trans (hb1.mono hsz)⟩
    · obtain rfl : k = l.length := by omega
      have HN := Lib.hid (idxL_none hF)
      clear hF hform hc h
      go_wp2_with fail
      go_ret
      exact ⟨ret_int HN.out.symm, hbel⟩
theorem hasSteps_at (fn : Nat) (caps : Array Value) (p : St → Bool) (v : Value) (l : List St) (w : World) (h : isArr 4 stepR w v l) (hE : Enters Try.prog fn)
    (hc : ∀ (x : St) (w' : World), Below w.heap.size w w' → Calls Try.prog fn (#[.agg #[.int .i64 x.d, .int .i64 x.t, .int .i64 x.f, .int .i64 x.n]] ++ caps) w' fun e w'' => e = .returned (.bool (p x)) ∧ Below w'.heap.size w' w'') :
    Calls Try.prog 82 #[v, .func (.func fn) #[] caps] w fun e w' => e = .returned (.bool (l.any p)) ∧ Below w.heap.size w w' := by
  rw [← idxL_any]
  have HI := Lib.hid (idxSteps_at fn caps p v l w h hE hc)
  clear hc hE h
  go_enter Try.func82, Try.ntmps82
  go_wp2_with (go_at_call 100; refine HI.out.mono ?_; rintro e w1 ⟨rfl, hb1⟩)
  go_ret
  exact ⟨rfl, hb1⟩
theorem mayEnd_any (x : St) (w : World) : Calls Try.prog 83 #[.agg #[.int .i64 x.d, .int .i64 x.t, .int .i64 x.f, .int .i64 x.n]] w fun e w' => e = .returned (.bool (ifB x)) ∧ Below w.heap.size w w' := by
  have hb := box_below w (.cells #[.int .i64 x.d, .int .i64 x.t, .int .i64 x.f, .int .i64 x.n] 100)
  go_enter Try.func83, Try.ntmps83
  go_wp2
  go_ret
  exact ⟨rfl, hb⟩
theorem agStB : isAg Try.prog 100 4 := ⟨⟨_, Try.underlying100, rfl⟩, by kernel_rfl⟩
theorem agCyB : isAg Try.prog 84 4 := ⟨⟨_, Try.underlying84, rfl⟩, by kernel_rfl⟩
end Go.Proofs.Ythhihmggaddlmaa
