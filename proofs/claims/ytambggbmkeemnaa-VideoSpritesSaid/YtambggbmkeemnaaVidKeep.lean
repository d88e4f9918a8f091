/- Package video's contracts on states in rows. -/
import Derived.Test.YtambggbmkeemnaaChecked
import Derived.Test.YtambggbmkeemnaaVidCe
import Derived.Test.YtambggbmkeemnaaVidSame
import Derived.Below
import Derived.BigQuiet
import Derived.ChangeMaps5
import Derived.Deep.DeepCutAuto
import Derived.Deep.Draws
import Derived.Deep.MidRow
import Derived.Deep.OwnRows
import Derived.Deep.QuietTactic
import Derived.Deep.RegionHeld3
import Derived.Deep.RegionWith
import Derived.Deep.Slices
import Derived.Deep.WholeRow
import Derived.Laws.CopyOwn
import Derived.Lib.Hide
import Derived.Lib.SmallJoins
import Derived.OpenShut
import Derived.OrdersHeld
import Derived.OwnWalk
import Derived.RowKit3
import Derived.Shelf.Abstract
import Derived.StillTactics
import Derived.StillTail
import Derived.StillTailTactics
import Derived.WalkKit
namespace Go.Proofs.Ytambggbmkeemnaa
open Go.RowKit
set_option maxRecDepth 100000

theorem vidWrite_at {lo : Nat} {s t : Vd} {v : Value} {w : World} (hs : s.fit) (a d : Int) (e : s.write a d = t) (h : devV lo w v s) :
    Calls Try.prog 14 #[v, .int .i64 a, .int .i64 d] w fun e w' => ∃ u, e = .returned u ∧ devV w.heap.size w' u t ∧ Below w.heap.size w w' := by
  obtain ⟨vx, vm, rfl, h1, h2⟩ := h.arg hs
  have := vidWrite_any vx vm _ _ a d w h1 h2 (Vd.fit_mem hs)
  rw [Vd.ofN_self hs, e] at this
  exact this
theorem vidRead_at {lo : Nat} {s t : Vd} {v : Value} {w : World} (hs : s.fit) (a n : Int) (e : s.read a = t) (e2 : s.reg a = n) (h : devV lo w v s) :
    Calls Try.prog 12 #[v, .int .i64 a] w fun e w' => ∃ u, e = .returned (.tuple #[u, .int .i64 n]) ∧ devV w.heap.size w' u t ∧ Below w.heap.size w w' := by
  obtain ⟨vx, vm, rfl, h1, h2⟩ := h.arg hs
  have := vidRead_any vx vm _ _ a w h1 h2 (Vd.fit_mem hs)
  rw [Vd.ofN_self hs, e, e2] at this
  exact this
theorem vidSkip_at {lo : Nat} {s t : Vd} {v : Value} {w : World} (hs : s.fit) (k : Int) (hk : -9223372036854775808 ≤ k ∧ k ≤ 9223372036854775807) (e : s.ticks k.toNat = t) (h : devV lo w v s) :
    Calls Try.prog 23 #[v, .int .i64 k] w fun e w' => ∃ u, e = .returned u ∧ devV w.heap.size w' u t ∧ Below w.heap.size w w' := by
  obtain ⟨vx, vm, rfl, h1, h2⟩ := h.arg hs
  have := vidSkip_any vx vm _ _ k w h1 h2 (Vd.fit_mem hs) hk
  rw [Vd.ofN_self hs, e] at this
  exact this
theorem vidTick_at {lo : Nat} {s t : Vd} {v : Value} {w : World} (hs : s.fit) (e : s.tick = t) (h : devV lo w v s) :
    Calls Try.prog 22 #[v] w fun e w' => ∃ u, e = .returned u ∧ devV w.heap.size w' u t ∧ Below w.heap.size w w' := by
  obtain ⟨vx, vm, rfl, h1, h2⟩ := h.arg hs
  have := vidTick_any vx vm _ _ w h1 h2 (Vd.fit_mem hs)
  rw [Vd.ofN_self hs, e] at this
  exact this
theorem vidOut_at {lo : Nat} {s : Vd} {n : Int} {v : Value} {w : World} (hs : s.fit) (e : s.out = n) (h : devV lo w v s) :
    Calls Try.prog 16 #[v] w fun e w' => e = .returned (.int .i64 n) ∧ Below w.heap.size w w' := by
  obtain ⟨vx, vm, rfl, h1, h2⟩ := h.arg hs
  have := vidOut_any vx vm _ _ w h1 h2 (Vd.fit_mem hs)
  rw [Vd.ofN_self hs, e] at this
  exact this
theorem vidNext_at {lo : Nat} {s : Vd} {n : Int} {v : Value} {w : World} (hs : s.fit) (e : s.next = n) (h : devV lo w v s) :
    Calls Try.prog 18 #[v] w fun e w' => e = .returned (.int .i64 n) ∧ Below w.heap.size w w' := by
  obtain ⟨vx, vm, rfl, h1, h2⟩ := h.arg hs
  have := vidNext_any vx vm _ _ w h1 h2 (Vd.fit_mem hs)
  rw [Vd.ofN_self hs, e] at this
  exact this
theorem vid_zero : (⟨2559, 0, zeros32⟩ : Vd).fit := Vd.ofN_fit [] [] (fun x hx => by cases hx)
theorem videos_fit : ((⟨2559, 0, zeros32⟩ : Vd).write 0 7).fit := Vd.write_fit vid_zero 0 7
theorem videosK_any (w : World) : Calls Try.prog 26 #[] w fun e w' => e = .returned (.bool true) ∧ Below w.heap.size w w' := by
  have hN := vidNew_any w
  go_enter Try.func26, Try.ntmps26
  go_wp2_with (first
    | (go_at_call 10; refine hN.mono ?_; rintro e w1 ⟨u, rfl, hx, hb⟩)
    | (go_at_call 14; refine (vidWrite_at vid_zero 0 7 rfl hx).mono ?_; rintro e w2 ⟨u2, rfl, hx2, hb2⟩)
    | (go_at_call 16; refine (vidOut_at (n := 7) videos_fit (by decide) hx2).mono ?_; rintro e w3 ⟨rfl, hb3⟩))
  go_ret
  exact ⟨rfl, (hb.trans (hb2.mono hb.size)).trans (hb3.mono (by have := hb.size; have := hb2.size; omega))⟩
theorem videosL_any (w : World) : Calls Try.prog 8 #[] w fun e w' => e = .returned (.bool true) ∧ Below w.heap.size w w' := by
  have hN := vidNew_any w
  go_enter Try.func8, Try.ntmps8
  go_wp2_with (first
    | (go_at_call 10; refine hN.mono ?_; rintro e w1 ⟨u, rfl, hx, hb⟩)
    | (go_at_call 14; refine (vidWrite_at vid_zero 0 7 rfl hx).mono ?_; rintro e w2 ⟨u2, rfl, hx2, hb2⟩)
    | (go_at_call 16; refine (vidOut_at (n := 7) videos_fit (by decide) hx2).mono ?_; rintro e w3 ⟨rfl, hb3⟩))
  go_ret
  exact ⟨rfl, (hb.trans (hb2.mono hb.size)).trans (hb3.mono (by have := hb.size; have := hb2.size; omega))⟩
end Go.Proofs.Ytambggbmkeemnaa
