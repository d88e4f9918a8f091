/- Package serial on states whose numbers lie in rows. -/
import Derived.Test.YtofodkilbigbdaaChecked
import Derived.Test.YtofodkilbigbdaaSerCa
import Derived.Test.YtofodkilbigbdaaSerCb
import Derived.Below
import Derived.BigQuiet
import Derived.ChangeMaps5
import Derived.Deep.DeepCutAuto
import Derived.Deep.Draws
import Derived.Deep.MidRow
import Derived.Deep.OwnRows
import Derived.Deep.QuietTactic
import Derived.Deep.RegionHeld3
import Derived.Deep.RegionWith
import Derived.Deep.Slices
import Derived.Deep.WholeRow
import Derived.Lib.Hide
import Derived.Lib.SmallJoins
import Derived.OpenShut
import Derived.OrdersHeld
import Derived.OwnWalk
import Derived.RowKit3
import Derived.StillTactics
import Derived.StillTail
import Derived.StillTailTactics
import Derived.WalkKit
namespace Go.Proofs.Ytofodkilbigbdaa
open Go.RowKit
set_option maxRecDepth 100000

deriving instance DecidableEq for Sr
/-- A state in a row of its own. -/
theorem sr_arg {s : Sr} {w : World} {g : Nat} (h : rowB w g 3 s.cs) : isArg w (.slice (some ⟨g, 0, none⟩) 8 8) s.ns := numB_arg (l := s.ns) h (show (8 : Nat) ≤ _ by decide)
theorem sr_zero : (⟨0, 0, 0, 0, 0, 0, 0, 0⟩ : Sr).fit := ⟨by decide, by decide, by decide, by decide, by decide, by decide, by decide, by decide⟩
theorem srNew_at (w : World) : Calls Try.prog 10 #[] w fun e w' => ∃ k, e = .returned (.agg #[.slice (some ⟨k, 0, none⟩) 8 8, .slice none 0 0]) ∧ w.heap.size ≤ k ∧ rowB w' k 3 (Sr.mk 0 0 0 0 0 0 0 0).cs ∧ Below w.heap.size w w' := by
  refine (srNew_any w).mono ?_
  rintro e w' ⟨u, rfl, ⟨k, rfl, hk, hr⟩, hb⟩
  exact ⟨k, rfl, hk, hr, hb⟩
theorem srIn_at {s : Sr} (hs : s.fit) (x : Int) {t : Sr} (ht : s.inp x = t) {w : World} {g : Nat} (h : rowB w g 3 s.cs) :
    Calls Try.prog 16 #[.agg #[.slice (some ⟨g, 0, none⟩) 8 8, .slice none 0 0], .int .i64 x] w fun e w' => ∃ k, e = .returned (.agg #[.slice (some ⟨k, 0, none⟩) 8 8, .slice none 0 0]) ∧ w.heap.size ≤ k ∧ rowB w' k 3 t.cs ∧ Below w.heap.size w w' := by
  have hc := srIn_any _ (.slice none 0 0) _ x w (sr_arg h)
  rw [Sr.of_ns hs, ht] at hc
  refine hc.mono ?_
  rintro e w' ⟨u, rfl, ⟨k, rfl, hk, hr⟩, hb⟩
  exact ⟨k, rfl, hk, hr, hb⟩
theorem srWrite_at {s : Sr} (hs : s.fit) (a x : Int) {t : Sr} (ht : s.write a x = t) {w : World} {g : Nat} (h : rowB w g 3 s.cs) :
    Calls Try.prog 14 #[.agg #[.slice (some ⟨g, 0, none⟩) 8 8, .slice none 0 0], .int .i64 a, .int .i64 x] w fun e w' => ∃ k, e = .returned (.agg #[.slice (some ⟨k, 0, none⟩) 8 8, .slice none 0 0]) ∧ w.heap.size ≤ k ∧ rowB w' k 3 t.cs ∧ Below w.heap.size w w' := by
  have hc := srWrite_any _ (.slice none 0 0) _ a x w (sr_arg h)
  rw [Sr.of_ns hs, ht] at hc
  refine hc.mono ?_
  rintro e w' ⟨u, rfl, ⟨k, rfl, hk, hr⟩, hb⟩
  exact ⟨k, rfl, hk, hr, hb⟩
theorem srSkip_at {s : Sr} (hs : s.fit) (j : Int) (hj : -9223372036854775808 ≤ j ∧ j ≤ 9223372036854775807) {t : Sr} (ht : s.skip j = t) {w : World} {g : Nat} (h : rowB w g 3 s.cs) :
    Calls Try.prog 27 #[.agg #[.slice (some ⟨g, 0, none⟩) 8 8, .slice none 0 0], .int .i64 j] w fun e w' => ∃ k, e = .returned (.agg #[.slice (some ⟨k, 0, none⟩) 8 8, .slice none 0 0]) ∧ w.heap.size ≤ k ∧ rowB w' k 3 t.cs ∧ Below w.heap.size w w' := by
  have hc := srSkip_any _ (.slice none 0 0) _ j w (sr_arg h) hj
  rw [Sr.of_ns hs, ht] at hc
  refine hc.mono ?_
  rintro e w' ⟨u, rfl, ⟨k, rfl, hk, hr⟩, hb⟩
  exact ⟨k, rfl, hk, hr, hb⟩
theorem srRead_at {s : Sr} (hs : s.fit) (a : Int) {t : Sr} (ht : s.read a = t) {n : Int} (hn : s.reg a = n) {w : World} {g : Nat} (h : rowB w g 3 s.cs) :
    Calls Try.prog 12 #[.agg #[.slice (some ⟨g, 0, none⟩) 8 8, .slice none 0 0], .int .i64 a] w fun e w' => ∃ k, e = .returned (.tuple #[.agg #[.slice (some ⟨k, 0, none⟩) 8 8, .slice none 0 0], .int .i64 n]) ∧ w.heap.size ≤ k ∧ rowB w' k 3 t.cs ∧ Below w.heap.size w w' := by
  have hc := srRead_any _ (.slice none 0 0) _ a w (sr_arg h)
  rw [Sr.of_ns hs, ht, hn] at hc
  refine hc.mono ?_
  rintro e w' ⟨u, rfl, ⟨k, rfl, hk, hr⟩, hb⟩
  exact ⟨k, rfl, hk, hr, hb⟩
theorem srOut_at {s : Sr} (hs : s.fit) {n : Int} (hn : s.out = n) {w : World} {g : Nat} (h : rowB w g 3 s.cs) :
    Calls Try.prog 20 #[.agg #[.slice (some ⟨g, 0, none⟩) 8 8, .slice none 0 0]] w fun e w' => e = .returned (.int .i64 n) ∧ Below w.heap.size w w' := by
  have hc := srOut_any _ (.slice none 0 0) _ w (sr_arg h)
  rw [Sr.of_ns hs, hn] at hc
  exact hc
theorem srIrq_at {s : Sr} (hs : s.fit) {b : Bool} (hn : s.irq = b) {w : World} {g : Nat} (h : rowB w g 3 s.cs) :
    Calls Try.prog 18 #[.agg #[.slice (some ⟨g, 0, none⟩) 8 8, .slice none 0 0]] w fun e w' => e = .returned (.bool b) ∧ Below w.heap.size w w' := by
  have hc := srIrq_any _ (.slice none 0 0) _ w (sr_arg h)
  rw [Sr.of_ns hs, hn] at hc
  exact hc
theorem serialsK_any (w : World) : Calls Try.prog 29 #[] w fun e w' => e = .returned (.bool true) ∧ Below w.heap.size w w' := by
  have hN := srNew_at w
  have fx : (Sr.mk 0 0 65 1 0 0 0 0).fit := Sr.inp_fit sr_zero 65
  go_enter Try.func29, Try.ntmps29
  go_wp2_with (first
    | (go_at_call 10; refine hN.mono ?_; rintro e w1 ⟨g, rfl, hg, hr, hb⟩)
    | (go_at_call 16; refine (srIn_at sr_zero 65 (t := ⟨0, 0, 65, 1, 0, 0, 0, 0⟩) (by decide) hr).mono ?_; rintro e w2 ⟨k, rfl, hk, hr2, hb2⟩)
    | (go_at_call 12; refine (srRead_at fx 0 (t := ⟨0, 0, 65, 0, 0, 0, 0, 0⟩) (by decide) (n := 65) (by decide) hr2).mono ?_; rintro e w3 ⟨m, rfl, hm, hr3, hb3⟩))
  go_ret
  exact ⟨rfl, ((hb.trans (hb2.mono hb.size)).trans (hb3.mono (by have := hb.size; have := hb2.size; omega))).alloc (by have := hb.size; have := hb2.size; have := hb3.size; omega) _⟩
end Go.Proofs.Ytofodkilbigbdaa
