/- The contract of package whole's Times. -/
import Derived.Test.YthhihmggaddlmaaChecked
import Derived.Test.YthhihmggaddlmaaWholeTel
import Derived.Below
import Derived.BigQuiet
import Derived.ChangeMaps5
import Derived.Deep.DeepCutAuto
import Derived.Deep.Draws
import Derived.Deep.MidRow
import Derived.Deep.OwnRows
import Derived.Deep.QuietTactic
import Derived.Deep.RegionHeld3
import Derived.Deep.RegionWith
import Derived.Deep.Slices
import Derived.Deep.WholeRow
import Derived.Lib.Hide
import Derived.Lib.SmallJoins
import Derived.OpenShut
import Derived.OrdersHeld
import Derived.OwnWalk
import Derived.RowKit3
import Derived.Shelf.Abstract
import Derived.StillTactics
import Derived.StillTail
import Derived.StillTailTactics
import Derived.WalkKit
namespace Go.Proofs.Ythhihmggaddlmaa
open Go.RowKit
set_option maxRecDepth 100000

set_option maxHeartbeats 1000000 in
theorem times_any (op : Int) (name : ByteArray) (mode : Int) (cv : Value) (l : List Cy) (w : World) (h : isArr 4 cycleR w cv l) (hlen : l.length ≤ 4611686018427387904) :
    Calls Try.prog 50 #[.agg #[.int .i64 op, .string name, .int .i64 mode, cv]] w fun e w' => e = .returned (.tuple #[.int .i64 ((leastN l + 1 : Nat) : Int), .int .i64 ((l.length + 1 : Nat) : Int)]) ∧ Below w.heap.size w w' := by
  obtain ⟨a, cap, rfl, _, hform⟩ := isArr_form h
  have bW := box_below w (.cells #[.int .i64 op, .string name, .int .i64 mode, .slice a l.length cap] 86)
  have kB := rowB_new w 86 #[.int .i64 op, .string name, .int .i64 mode, .slice a l.length cap]
  obtain ⟨R, hR⟩ : ∃ R, R = leastN l := ⟨_, rfl⟩
  have hRl : R ≤ l.length := hR ▸ leastN_le l
  rw [← hR]
  have HR := Lib.hid hR
  clear hR h
  have hq := rowB_cell kB 3 rfl
  have hw1 : IntKind.i64.wrap (1 + (l.length : Int)) = (l.length : Int) + 1 := by rw [Int.add_comm]; exact IntWalk.i64_in _ ⟨by omega, by omega⟩
  go_enter Try.func50, Try.ntmps50
  go_upto_region 1 with (fail)
  go_quiet (fail)
  have bW := bW.trans ((below_drewN _ nq _).mono bW.size)
  have kB := rowB_below kB (below_drewN _ nq _) (rowB_lt kB)
  have hq := rowB_cell kB 3 rfl
  generalize (w.alloc (.cells #[.int .i64 op, .string name, .int .i64 mode, .slice a l.length cap] 86)).drewN nq = w1 at *
  clear hw1
  go_wp2_with fail
  have hM := fun w1 (v : Value) (m : List St) (h : isArr 4 stepR w1 v m) => hasSteps_at 83 #[] ifB v m w1 h (enters_of Try.func83 (by kernel_rfl) rfl) (fun y w' _ => mayEnd_any y w')
  have HM := Lib.hid hM
  have HF := Lib.hid hform
  have hw0 : w.heap.size < w1.heap.size := rowB_lt kB
  clear hM hform
  go_loopw [4, 15] (fun t i wr => ∃ k : Nat, k ≤ l.length ∧ t = .int .i64 ((k + 1 : Nat) : Int) ∧ i = .int .i64 k ∧ R = k + leastN (l.drop k) ∧ Below w.heap.size w wr) (fun _ i _ => l.length - (intOf i).toNat)
  case atStart => exact ⟨0, Nat.zero_le _, rfl, rfl, by rw [HR.out]; simp, bW⟩
  case round =>
    clear bW kB hq
    obtain ⟨k, hk, rfl, rfl, hk2, hbel⟩ := hrel
    have HK := Lib.hid hk2
    clear hk2
    have hsz := hbel.size
    by_cases hlt : k < l.length
    · obtain ⟨x, hx, hdr⟩ := drop_at hlt
      obtain ⟨b, off, rfl, hb, hcap, hcap2, cs, _, hcs, sv, rfl, hs⟩ := HF.out k x hx
      obtain ⟨c0, c1, c2, c3⟩ := four_cells hcs
      rw [← hbel.cell (p := ⟨b, off + k * 4, none⟩) hb] at c0
      rw [← hbel.cell (p := ⟨b, off + k * 4 + 1, none⟩) hb] at c1
      rw [← hbel.cell (p := ⟨b, off + k * 4 + 2, none⟩) hb] at c2
      rw [← hbel.cell (p := ⟨b, off + k * 4 + 3, none⟩) hb] at c3
      have hs2 := isArr_below step_keeps hs hbel (Nat.le_refl _)
      obtain ⟨sa, sc, rfl, _, _⟩ := isArr_form hs
      obtain ⟨H, hH⟩ : ∃ H, H = hasIf x.steps := ⟨_, rfl⟩
      have HN := Lib.hid (show R = if H = true then k + 1 else k + 1 + leastN (l.drop (k + 1)) by rw [HK.out, hdr, leastN, hH]; split <;> omega)
      have HC := Lib.hid (fun wx (h : Below wr.heap.size wr wx) => HM.out wx _ x.steps (isArr_below step_keeps hs2 h (Nat.le_refl _)))
      have HH := Lib.hid hH
      clear hcs hx hdr hs hs2 hH HM HK
      go_upto_region 6 with (fail)
      have bx := box_below wr (.cells #[.int .i64 x.bus, .int .i64 x.place, .int .i64 x.reg, .slice sa x.steps.length sc] 84)
      have kx := rowB_new wr 84 #[.int .i64 x.bus, .int .i64 x.place, .int .i64 x.reg, .slice sa x.steps.length sc]
      have hC := HC.out _ bx
      have hb2 := hbel.trans (bx.mono hsz)
      rw [show x.steps.any ifB = H from HH.out.symm] at hC
      generalize wr.alloc (.cells #[.int .i64 x.bus, .int .i64 x.place, .int .i64 x.reg, .slice sa x.steps.length sc] 84) = wx at *
      have kc := rowB_cell kx 3 rfl
      have hsx := hb2.size
      clear HC HH c0 c1 c2 c3 bx kx
      cases H
      · go_wp2_with (go_at_call 82; refine hC.mono ?_; rintro e w2 ⟨rfl, hb3⟩)
        go_roundw
        case measure => simp [intOf]; omega
        case rel => exact ⟨k + 1, by omega, by go_num, by go_num, HN.out, hb2.trans (hb3.mono hsx)⟩
      · go_wp2_with (go_at_call 82; refine hC.mono ?_; rintro e w2 ⟨rfl, hb3⟩)
        go_ret2
        have e : R = k + 1 := by rw [HN.out]; rfl
        exact ⟨by subst e; rfl, hb2.trans (hb3.mono hsx)⟩
    · obtain rfl : k = l.length := by omega
      have e : R = l.length := by rw [HK.out]; simp [leastN]
      have HE := Lib.hid e
      clear e HK HM
      go_wp2_with fail
      go_ret2
      exact ⟨by rw [HE.out]; rfl, hbel⟩
end Go.Proofs.Ythhihmggaddlmaa
