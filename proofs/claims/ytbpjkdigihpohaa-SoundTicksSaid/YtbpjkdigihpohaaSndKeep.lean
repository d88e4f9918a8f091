/- Package sound on states whose numbers lie in rows. -/
import Derived.Test.YtbpjkdigihpohaaChecked
import Derived.Test.YtbpjkdigihpohaaSndCb
import Derived.Test.YtbpjkdigihpohaaSndCc
import Derived.Below
import Derived.BigQuiet
import Derived.ChangeMaps5
import Derived.Deep.AppendSrc
import Derived.Deep.DeepCutAuto
import Derived.Deep.Draws
import Derived.Deep.MidRow
import Derived.Deep.OwnRows
import Derived.Deep.QuietTactic
import Derived.Deep.RegionHeld3
import Derived.Deep.RegionWith
import Derived.Deep.Slices
import Derived.Deep.WholeRow
import Derived.Lib.Hide
import Derived.Lib.SmallJoins
import Derived.OpenShut
import Derived.OrdersHeld
import Derived.OwnWalk
import Derived.RowKit3
import Derived.StillTactics
import Derived.StillTail
import Derived.StillTailTactics
import Derived.WalkKit
namespace Go.Proofs.Ytbpjkdigihpohaa
open Go.RowKit
set_option maxRecDepth 100000

deriving instance DecidableEq for Vc
deriving instance DecidableEq for Sn
/-- A state in a row of its own. -/
theorem sn_arg {s : Sn} {w : World} {g : Nat} (h : rowB w g 3 s.cs) : isArg w (.slice (some ⟨g, 0, none⟩) 12 12) s.ns := numB_arg (l := s.ns) h (show (12 : Nat) ≤ _ by decide)
def Vc.zero : Vc := ⟨0, 0, 0, 0, 0, 0⟩
def Sn.zero : Sn := ⟨Vc.zero, Vc.zero⟩
theorem Vc.zero_fit : Vc.zero.fit := ⟨by decide, by decide, by decide, by decide, by decide, by decide⟩
theorem Sn.zero_fit : Sn.zero.fit := ⟨Vc.zero_fit, Vc.zero_fit⟩
theorem Vc.ticks_zero (n : Nat) : Vc.zero.ticks n = Vc.zero := by
  induction n with
  | zero => rfl
  | succ n ih => show (Vc.zero.ticks n).tick = _; rw [ih]; rfl
theorem sndNew_at (w : World) : Calls Try.prog 9 #[] w fun e w' => ∃ k, e = .returned (.agg #[.slice (some ⟨k, 0, none⟩) 12 12, .slice none 0 0]) ∧ w.heap.size ≤ k ∧ rowB w' k 3 Sn.zero.cs ∧ Below w.heap.size w w' := by
  refine (sndNew_any w).mono ?_
  rintro e w' ⟨u, rfl, ⟨k, rfl, hk, hr⟩, hb⟩
  exact ⟨k, rfl, hk, hr, hb⟩
theorem sndWrite_at {s : Sn} (hs : s.fit) (a x : Int) {t : Sn} (ht : s.write a x = t) {w : World} {g : Nat} (h : rowB w g 3 s.cs) :
    Calls Try.prog 13 #[.agg #[.slice (some ⟨g, 0, none⟩) 12 12, .slice none 0 0], .int .i64 a, .int .i64 x] w fun e w' => ∃ k, e = .returned (.agg #[.slice (some ⟨k, 0, none⟩) 12 12, .slice none 0 0]) ∧ w.heap.size ≤ k ∧ rowB w' k 3 t.cs ∧ Below w.heap.size w w' := by
  have hc := sndWrite_any _ (.slice none 0 0) _ a x w (sn_arg h)
  rw [Sn.of_ns hs, ht] at hc
  refine hc.mono ?_
  rintro e w' ⟨u, rfl, ⟨k, rfl, hk, hr⟩, hb⟩
  exact ⟨k, rfl, hk, hr, hb⟩
theorem sndTick_at {s : Sn} (hs : s.fit) {t : Sn} (ht : s.tick = t) {w : World} {g : Nat} (h : rowB w g 3 s.cs) :
    Calls Try.prog 21 #[.agg #[.slice (some ⟨g, 0, none⟩) 12 12, .slice none 0 0]] w fun e w' => ∃ k, e = .returned (.agg #[.slice (some ⟨k, 0, none⟩) 12 12, .slice none 0 0]) ∧ w.heap.size ≤ k ∧ rowB w' k 3 t.cs ∧ Below w.heap.size w w' := by
  have hc := sndTick_any _ (.slice none 0 0) _ w (sn_arg h)
  rw [Sn.of_ns hs, ht] at hc
  refine hc.mono ?_
  rintro e w' ⟨u, rfl, ⟨k, rfl, hk, hr⟩, hb⟩
  exact ⟨k, rfl, hk, hr, hb⟩
theorem sndSkip_at {s : Sn} (hs : s.fit) (j : Int) (hj : -9223372036854775808 ≤ j ∧ j ≤ 9223372036854775807) {t : Sn} (ht : s.skip j = t) {w : World} {g : Nat} (h : rowB w g 3 s.cs) :
    Calls Try.prog 22 #[.agg #[.slice (some ⟨g, 0, none⟩) 12 12, .slice none 0 0], .int .i64 j] w fun e w' => ∃ k, e = .returned (.agg #[.slice (some ⟨k, 0, none⟩) 12 12, .slice none 0 0]) ∧ w.heap.size ≤ k ∧ rowB w' k 3 t.cs ∧ Below w.heap.size w w' := by
  have hc := sndSkip_any _ (.slice none 0 0) _ j w (sn_arg h) hj
  rw [Sn.of_ns hs, ht] at hc
  refine hc.mono ?_
  rintro e w' ⟨u, rfl, ⟨k, rfl, hk, hr⟩, hb⟩
  exact ⟨k, rfl, hk, hr, hb⟩
theorem sndRead_at {s : Sn} (hs : s.fit) (a : Int) {n : Int} (hn : s.reg a = n) {w : World} {g : Nat} (h : rowB w g 3 s.cs) :
    Calls Try.prog 11 #[.agg #[.slice (some ⟨g, 0, none⟩) 12 12, .slice none 0 0], .int .i64 a] w fun e w' => ∃ k, e = .returned (.tuple #[.agg #[.slice (some ⟨k, 0, none⟩) 12 12, .slice none 0 0], .int .i64 n]) ∧ w.heap.size ≤ k ∧ rowB w' k 3 s.cs ∧ Below w.heap.size w w' := by
  have hc := sndRead_any _ (.slice none 0 0) _ a w (sn_arg h)
  rw [Sn.of_ns hs, hn] at hc
  refine hc.mono ?_
  rintro e w' ⟨u, rfl, ⟨k, rfl, hk, hr⟩, hb⟩
  exact ⟨k, rfl, hk, hr, hb⟩
theorem sndOut_at {s : Sn} (hs : s.fit) {n : Int} (hn : s.out = n) {w : World} {g : Nat} (h : rowB w g 3 s.cs) :
    Calls Try.prog 15 #[.agg #[.slice (some ⟨g, 0, none⟩) 12 12, .slice none 0 0]] w fun e w' => e = .returned (.int .i64 n) ∧ Below w.heap.size w w' := by
  have hc := sndOut_any _ (.slice none 0 0) _ w (sn_arg h)
  rw [Sn.of_ns hs, hn] at hc
  exact hc
theorem soundsL_any (w : World) : Calls Try.prog 7 #[] w fun e w' => e = .returned (.bool true) ∧ Below w.heap.size w w' := by
  have f1 : (⟨⟨1, 0, 0, 0, 0, 0⟩, Vc.zero⟩ : Sn).fit := Sn.write_fit Sn.zero_fit 0 1
  have f2 : (⟨⟨1, 15, 0, 0, 0, 0⟩, Vc.zero⟩ : Sn).fit := Sn.write_fit f1 2 15
  have f3 : (⟨⟨1, 15, 0, 0, 1, 0⟩, Vc.zero⟩ : Sn).fit := Sn.tick_fit f2
  go_enter Try.func7, Try.ntmps7
  go_wp2_with (first
    | (go_at_call 13; refine (sndWrite_at f1 2 15 (t := ⟨⟨1, 15, 0, 0, 0, 0⟩, Vc.zero⟩) (by decide) hr2).mono ?_; rintro e w3 ⟨g3, rfl, hg3, hr3, hb3⟩)
    | (go_at_call 13; refine (sndWrite_at Sn.zero_fit 0 1 (t := ⟨⟨1, 0, 0, 0, 0, 0⟩, Vc.zero⟩) (by decide) hr1).mono ?_; rintro e w2 ⟨g2, rfl, hg2, hr2, hb2⟩)
    | (go_at_call 9; refine (sndNew_at _).mono ?_; rintro e w1 ⟨g1, rfl, hg1, hr1, hb1⟩)
    | (go_at_call 21; refine (sndTick_at f2 (t := ⟨⟨1, 15, 0, 0, 1, 0⟩, Vc.zero⟩) (by decide) hr3).mono ?_; rintro e w4 ⟨g4, rfl, hg4, hr4, hb4⟩)
    | (go_at_call 15; refine (sndOut_at f3 (n := 15) (by decide) hr4).mono ?_; rintro e w5 ⟨rfl, hb5⟩))
  go_ret
  have z1 := hb1.size
  have z2 := hb2.size
  have z3 := hb3.size
  have z4 := hb4.size
  exact ⟨rfl, (((hb1.trans (hb2.mono z1)).trans (hb3.mono (by omega))).trans (hb4.mono (by omega))).trans (hb5.mono (by omega))⟩
theorem soundsK_any (w : World) : Calls Try.prog 24 #[] w fun e w' => e = .returned (.bool true) ∧ Below w.heap.size w w' := by
  have f1 : (⟨⟨1, 0, 0, 0, 0, 0⟩, Vc.zero⟩ : Sn).fit := Sn.write_fit Sn.zero_fit 0 1
  have f2 : (⟨⟨1, 15, 0, 0, 0, 0⟩, Vc.zero⟩ : Sn).fit := Sn.write_fit f1 2 15
  have f3 : (⟨⟨1, 15, 0, 0, 1, 0⟩, Vc.zero⟩ : Sn).fit := Sn.tick_fit f2
  go_enter Try.func24, Try.ntmps24
  go_wp2_with (first
    | (go_at_call 13; refine (sndWrite_at f1 2 15 (t := ⟨⟨1, 15, 0, 0, 0, 0⟩, Vc.zero⟩) (by decide) hr2).mono ?_; rintro e w3 ⟨g3, rfl, hg3, hr3, hb3⟩)
    | (go_at_call 13; refine (sndWrite_at Sn.zero_fit 0 1 (t := ⟨⟨1, 0, 0, 0, 0, 0⟩, Vc.zero⟩) (by decide) hr1).mono ?_; rintro e w2 ⟨g2, rfl, hg2, hr2, hb2⟩)
    | (go_at_call 9; refine (sndNew_at _).mono ?_; rintro e w1 ⟨g1, rfl, hg1, hr1, hb1⟩)
    | (go_at_call 21; refine (sndTick_at f2 (t := ⟨⟨1, 15, 0, 0, 1, 0⟩, Vc.zero⟩) (by decide) hr3).mono ?_; rintro e w4 ⟨g4, rfl, hg4, hr4, hb4⟩)
    | (go_at_call 15; refine (sndOut_at f3 (n := 15) (by decide) hr4).mono ?_; rintro e w5 ⟨rfl, hb5⟩))
  go_ret
  have z1 := hb1.size
  have z2 := hb2.size
  have z3 := hb3.size
  have z4 := hb4.size
  exact ⟨rfl, (((hb1.trans (hb2.mono z1)).trans (hb3.mono (by omega))).trans (hb4.mono (by omega))).trans (hb5.mono (by omega))⟩
end Go.Proofs.Ytbpjkdigihpohaa
