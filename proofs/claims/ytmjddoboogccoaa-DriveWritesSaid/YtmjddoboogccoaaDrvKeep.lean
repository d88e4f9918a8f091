/- Package drive between states that are read. -/
import Derived.Test.YtmjddoboogccoaaChecked
import Derived.Test.YtmjddoboogccoaaDrvC
import Derived.Below
import Derived.BigQuiet
import Derived.ChangeMaps5
import Derived.Deep.AppendSrc
import Derived.Deep.DeepAppendWide
import Derived.Deep.DeepCutAuto
import Derived.Deep.Draws
import Derived.Deep.MidRow
import Derived.Deep.OwnRows
import Derived.Deep.QuietTactic
import Derived.Deep.RegionHeld3
import Derived.Deep.RegionWith
import Derived.Deep.Slices
import Derived.Deep.WholeRow
import Derived.Laws.CopyOwn
import Derived.Laws.OwnMore
import Derived.Lib.Hide
import Derived.Lib.SmallJoins
import Derived.Maps.AppendAt
import Derived.OpenShut
import Derived.OrdersHeld
import Derived.OwnWalk
import Derived.RowKit3
import Derived.StillTactics
import Derived.StillTail
import Derived.StillTailTactics
import Derived.WalkKit
namespace Go.Proofs.Ytmjddoboogccoaa
open Go.RowKit
set_option maxRecDepth 100000
theorem drvWrite_at {s : Dr} (hs : s.fit) (hL : s.m.length ≤ 140737488351232) (a : Int) (x : Int) {t : Dr} (ht : s.write a x = t) {w : World} {v : Value} (h : devA w v s) :
    Calls Try.prog 15 #[v, .int .i64 a, .int .i64 x] w fun e w' => ∃ u, e = .returned u ∧ devA w' u t ∧ Below w.heap.size w w' := by
  obtain ⟨vx, vm, rfl, h1, h2⟩ := h
  have hc := drvWrite_any _ _ _ _ a x w h1 h2 hs.y hL
  rw [Dr.of_ns hs, ht] at hc
  exact hc
theorem drvChange_at {s : Dr} (hs : s.fit) (hL : s.m.length ≤ 140737488351232) (x : Int) (hx : 0 ≤ x ∧ x < 256) {t : Dr} (ht : s.change x = t) {w : World} {v : Value} (h : devA w v s) :
    Calls Try.prog 17 #[v, .int .i64 x] w fun e w' => ∃ u, e = .returned u ∧ devA w' u t ∧ Below w.heap.size w w' := by
  obtain ⟨vx, vm, rfl, h1, h2⟩ := h
  have hc := drvChange_any _ _ _ _ x w h1 h2 hs.y hL hx
  rw [Dr.of_ns hs, ht] at hc
  exact hc
theorem drvSkip_at {s : Dr} (hs : s.fit) (hL : s.m.length ≤ 140737488351232) (k : Int) (hk : -9223372036854775808 ≤ k ∧ k ≤ 9223372036854775807) {t : Dr} (ht : s.ticks k.toNat = t) {w : World} {v : Value} (h : devA w v s) :
    Calls Try.prog 28 #[v, .int .i64 k] w fun e w' => ∃ u, e = .returned u ∧ devA w' u t ∧ Below w.heap.size w w' := by
  obtain ⟨vx, vm, rfl, h1, h2⟩ := h
  have hc := drvSkip_any _ _ _ _ k w h1 h2 hs.y hL hk
  rw [Dr.of_ns hs, ht] at hc
  exact hc
theorem drvRead_at {s : Dr} (hs : s.fit) (hL : s.m.length ≤ 140737488351232) (a : Int) {t : Dr} (ht : s.read a = t) {n : Int} (hn : s.reg a = n) {w : World} {v : Value} (h : devA w v s) :
    Calls Try.prog 13 #[v, .int .i64 a] w fun e w' => ∃ u, e = .returned (.tuple #[u, .int .i64 n]) ∧ devA w' u t ∧ Below w.heap.size w w' := by
  obtain ⟨vx, vm, rfl, h1, h2⟩ := h
  have hc := drvRead_any _ _ _ _ a w h1 h2 hs.y hL
  rw [Dr.of_ns hs, ht, hn] at hc
  exact hc
theorem drvSkip_fat {s : Dr} (hs : s.fit) (hL : s.m.length ≤ 140737488351232) (k : Int) (hk : -9223372036854775808 ≤ k ∧ k ≤ 9223372036854775807) {t : Dr} (ht : s.ticks k.toNat = t) {w : World} {vx vy : Value} (h1 : isArg w vx s.ns) (h2 : isByt w vy s.m) :
    Calls Try.prog 28 #[.agg #[vx, vy], .int .i64 k] w fun e w' => ∃ u, e = .returned u ∧ devF w.heap.size vx vy w' u t ∧ Below w.heap.size w w' := by
  have hc := drvSkip_from _ _ _ _ k w h1 h2 hs.y hL hk
  rw [Dr.of_ns hs, ht] at hc
  exact hc
theorem drvRead_fat {s : Dr} (hs : s.fit) (hL : s.m.length ≤ 140737488351232) (a : Int) {t : Dr} (ht : s.read a = t) {n : Int} (hn : s.reg a = n) {w : World} {vx vy : Value} (h1 : isArg w vx s.ns) (h2 : isByt w vy s.m) :
    Calls Try.prog 13 #[.agg #[vx, vy], .int .i64 a] w fun e w' => ∃ u, e = .returned (.tuple #[u, .int .i64 n]) ∧ devF w.heap.size vx vy w' u t ∧ Below w.heap.size w w' := by
  have hc := drvRead_from _ _ _ _ a w h1 h2 hs.y hL
  rw [Dr.of_ns hs, ht, hn] at hc
  exact hc
theorem drvOut_at {s : Dr} (hs : s.fit) (hL : s.m.length ≤ 140737488351232) {n : Int} (hn : s.t = n) {w : World} {v : Value} (h : devA w v s) :
    Calls Try.prog 21 #[v] w fun e w' => e = .returned (.int .i64 n) ∧ Below w.heap.size w w' := by
  obtain ⟨vx, vm, rfl, h1, h2⟩ := h
  have hc := drvOut_any _ _ _ _ w h1 h2 hs.y hL
  rw [Dr.of_ns hs, hn] at hc
  exact hc
theorem drM_zero : drM (List.replicate 256 (0 : Int)) = List.replicate 256 0 := drM_self (by simp)
theorem rep_bytes (n : Nat) : ∀ x ∈ List.replicate n (0 : Int), 0 ≤ x ∧ x < 256 := fun x hx => by
  rw [List.eq_of_mem_replicate hx]
  decide
theorem Dr.of_nil (lb : List Int) : Dr.of [] lb = ⟨0, 0, 0, 0, 0, 0, 0, 0, 0, 0, drM lb⟩ := by simp [Dr.of]
theorem drivesL_any (w : World) : Calls Try.prog 9 #[] w fun e w' => e = .returned (.bool true) ∧ Below w.heap.size w w' := by
  have hf := Dr.of_fit [] (List.replicate 256 0) (rep_bytes 256)
  have hl : (Dr.of [] (List.replicate 256 0)).m.length ≤ 140737488351232 := by
    show (drM (List.replicate 256 (0 : Int))).length ≤ _
    rw [drM_zero, List.length_replicate]
    decide
  have hn : (Dr.of [] (List.replicate 256 0)).reg 0 = 8 := by
    rw [Dr.of_nil]
    rfl
  obtain ⟨ii, i1, i2, i3, i4⟩ := infoBt
  have b1 := (Below.refl w.heap.size w).alloc (Nat.le_refl _) (.cells (byts (List.replicate 256 0)) 5)
  have n0 := rowB_new w 5 (byts (List.replicate 256 0))
  have HZ := Lib.hid (made_byts 256)
  have hB : isByt (w.alloc (.cells (byts (List.replicate 256 0)) 5)) (.slice (some ⟨w.heap.size, 0, none⟩) 256 256) (List.replicate 256 0) := by
    have := bytB_arg n0 (by rw [List.length_replicate]; decide)
    rwa [List.length_replicate] at this
  have hNew := drvNew_any _ _ _ hB (by rw [List.length_replicate]; decide)
  generalize hs : Dr.of [] (List.replicate 256 0) = s at *
  clear hs
  go_enter Try.func9, Try.ntmps9
  go_upto_region 2 with (first
    | (at_make; refine wpList_make_row _ rfl _ _ _ rfl 5 ii (.int .u8 0) Try.underlying23 i1 i2 i3 rfl _ _ 256 rfl rfl (by rw [i4]; omega) (by omega) ?_; rw [HZ.out])
    | (go_at_call 11; refine hNew.mono ?_; rintro e w2 ⟨u, rfl, hx, hb2⟩)
    | (go_at_call 13; refine (drvRead_at hf hl 0 rfl hn hx).mono ?_; rintro e w3 ⟨u3, rfl, hx3, hb3⟩; obtain ⟨a3, c3, b3, d3, rfl, hx4⟩ := hx3.open))
  go_wp2_with fail
  go_ret
  have z1 := b1.size
  have z2 := hb2.size
  have z3 := hb3.size
  exact ⟨rfl, ((b1.trans (hb2.mono z1)).trans (hb3.mono (by omega))).alloc (by omega) _⟩
theorem drivesK_any (w : World) : Calls Try.prog 32 #[] w fun e w' => e = .returned (.bool true) ∧ Below w.heap.size w w' := by
  have hf := Dr.of_fit [] (List.replicate 256 0) (rep_bytes 256)
  have hl : (Dr.of [] (List.replicate 256 0)).m.length ≤ 140737488351232 := by
    show (drM (List.replicate 256 (0 : Int))).length ≤ _
    rw [drM_zero, List.length_replicate]
    decide
  have hn : (Dr.of [] (List.replicate 256 0)).reg 0 = 8 := by
    rw [Dr.of_nil]
    rfl
  obtain ⟨ii, i1, i2, i3, i4⟩ := infoBt
  have b1 := (Below.refl w.heap.size w).alloc (Nat.le_refl _) (.cells (byts (List.replicate 256 0)) 5)
  have n0 := rowB_new w 5 (byts (List.replicate 256 0))
  have HZ := Lib.hid (made_byts 256)
  have hB : isByt (w.alloc (.cells (byts (List.replicate 256 0)) 5)) (.slice (some ⟨w.heap.size, 0, none⟩) 256 256) (List.replicate 256 0) := by
    have := bytB_arg n0 (by rw [List.length_replicate]; decide)
    rwa [List.length_replicate] at this
  have hNew := drvNew_any _ _ _ hB (by rw [List.length_replicate]; decide)
  generalize hs : Dr.of [] (List.replicate 256 0) = s at *
  clear hs
  go_enter Try.func32, Try.ntmps32
  go_upto_region 2 with (first
    | (at_make; refine wpList_make_row _ rfl _ _ _ rfl 5 ii (.int .u8 0) Try.underlying23 i1 i2 i3 rfl _ _ 256 rfl rfl (by rw [i4]; omega) (by omega) ?_; rw [HZ.out])
    | (go_at_call 11; refine hNew.mono ?_; rintro e w2 ⟨u, rfl, hx, hb2⟩)
    | (go_at_call 13; refine (drvRead_at hf hl 0 rfl hn hx).mono ?_; rintro e w3 ⟨u3, rfl, hx3, hb3⟩; obtain ⟨a3, c3, b3, d3, rfl, hx4⟩ := hx3.open))
  go_wp2_with fail
  go_ret
  have z1 := b1.size
  have z2 := hb2.size
  have z3 := hb3.size
  exact ⟨rfl, ((b1.trans (hb2.mono z1)).trans (hb3.mono (by omega))).alloc (by omega) _⟩
end Go.Proofs.Ytmjddoboogccoaa
