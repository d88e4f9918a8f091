/- Two states of chips compared: slices.Equal on numbers and on bytes, the laws' same. -/
import Derived.Test.YtmjddoboogccoaaChecked
import Derived.Test.YtmjddoboogccoaaDev
import Derived.Test.YtmjddoboogccoaaQuiet
import Derived.Below
import Derived.BigQuiet
import Derived.ChangeMaps5
import Derived.Deep.DeepCutAuto
import Derived.Deep.Draws
import Derived.Deep.MidRow
import Derived.Deep.OwnRows
import Derived.Deep.QuietTactic
import Derived.Deep.RegionHeld3
import Derived.Deep.RegionWith
import Derived.Deep.Slices
import Derived.Deep.WholeRow
import Derived.Lib.Hide
import Derived.Lib.SmallJoins
import Derived.OpenShut
import Derived.OrdersHeld
import Derived.OwnWalk
import Derived.RowKit3
import Derived.StillTactics
import Derived.StillTail
import Derived.StillTailTactics
import Derived.WalkKit
namespace Go.Proofs.Ytmjddoboogccoaa
open Go.RowKit
set_option maxRecDepth 100000

/-- The slice v of bytes reads as the list; of an empty one nothing more is known. -/
def isByt (w : World) (v : Value) (l : List Int) : Prop :=
  (∃ a cap, v = .slice a 0 cap ∧ l = []) ∨
  ∃ b off cap, v = .slice (some ⟨b, off, none⟩) l.length cap ∧ b < w.heap.size ∧ l.length ≤ cap ∧ cap ≤ 9223372036854775807 ∧ ∀ j, j < l.length → w.cell? ⟨b, off + j, none⟩ = some (.int .u8 (l.getD j 0))
theorem isByt_below {B : Nat} {w w' : World} {v : Value} {l : List Int} (h : isByt w v l) (hb : Below B w w') (hB : w.heap.size ≤ B) : isByt w' v l := by
  rcases h with h | ⟨b, off, cap, rfl, h1, h2, h3, h4⟩
  · exact .inl h
  · refine .inr ⟨b, off, cap, rfl, Nat.lt_of_lt_of_le h1 hb.size, h2, h3, fun j hj => ?_⟩
    rw [hb.cell (p := ⟨b, off + j, none⟩) (by show b < B; omega)]; exact h4 j hj
theorem isByt_form {w : World} {v : Value} {l : List Int} (h : isByt w v l) :
    ∃ a cap, v = .slice a l.length cap ∧ ∀ m, m < l.length → ∃ b off, a = some ⟨b, off, none⟩ ∧ b < w.heap.size ∧ l.length ≤ cap ∧ cap ≤ 9223372036854775807 ∧ w.cell? ⟨b, off + m, none⟩ = some (.int .u8 (l.getD m 0)) := by
  rcases h with ⟨a, cap, rfl, rfl⟩ | ⟨b, off, cap, rfl, h1, h2, h3, h4⟩
  · exact ⟨a, cap, rfl, fun m hm => absurd hm (Nat.not_lt_zero _)⟩
  · exact ⟨_, cap, rfl, fun m hm => ⟨b, off, rfl, h1, h2, h3, h4 m hm⟩⟩
theorem take_eq_snoc {l m : List Int} {k : Nat} (h : l.take k = m.take k) (h1 : k < l.length) (h2 : k < m.length) (e : l.getD k 0 = m.getD k 0) : l.take (k + 1) = m.take (k + 1) := by
  rw [List.take_add_one, List.take_add_one, h, List.getElem?_eq_getElem h1, List.getElem?_eq_getElem h2]
  simp only [List.getD_eq_getElem?_getD, List.getElem?_eq_getElem h1, List.getElem?_eq_getElem h2, Option.getD_some] at e
  rw [e]
theorem equalI_any (v u : Value) (l m : List Int) (w : World) (h : isArg w v l) (g : isArg w u m) :
    Calls Try.prog 33 #[v, u] w fun e w' => e = .returned (.bool (decide (l = m))) ∧ Qt w w' := by
  obtain ⟨a, cap, rfl, hform⟩ := isArg_form h
  obtain ⟨a', cap', rfl, gform⟩ := isArg_form g
  clear h g
  by_cases hl : l.length = m.length
  · obtain ⟨R, hR⟩ : ∃ R, decide (l = m) = R := ⟨_, rfl⟩
    rw [hR]
    have HR := Lib.hid hR
    have hz : ((l.length : Int) != (m.length : Int)) = false := by simp [hl]
    have HL := Lib.hid hl
    clear hR hl
    go_enter Try.func33, Try.ntmps33
    go_wp2_with fail
    go_loopw [13] (fun i wr => ∃ k : Nat, k ≤ l.length ∧ i = .int .i64 k ∧ l.take k = m.take k ∧ Qt w wr) (fun i _ => l.length - (intOf i).toNat)
    case atStart => exact ⟨0, Nat.zero_le _, rfl, rfl, Qt.refl _⟩
    case round =>
      obtain ⟨k, hk, rfl, hF, hq⟩ := hrel
      by_cases hlt : k < l.length
      · have hkm : k < m.length := by rw [← HL.out]; exact hlt
        have hd : decide ((k : Int) < (l.length : Int)) = true := decide_eq_true (by omega)
        obtain ⟨b, off, rfl, hb, hc1, hc2, c0⟩ := hform k hlt
        obtain ⟨b', off', rfl, hb', hd1, hd2, d0⟩ := gform k hkm
        rw [← hq.cell] at c0 d0
        have hT := fun e => take_eq_snoc hF hlt hkm e
        by_cases e : l.getD k 0 = m.getD k 0
        · have hN := hT e
          rw [← e] at d0
          generalize l.getD k 0 = x at *
          clear hform gform hT hF HR e
          have hx : (x != x) = false := by simp
          go_wp2_with fail
          go_quiet (fail)
          go_wp2_with fail
          go_round
          case rel => exact ⟨k + 1, by omega, by go_num, hN, hq.drewN _⟩
          case measure => simp [intOf]; omega
        · have HN := Lib.hid (show R = false by rw [← HR.out]; exact decide_eq_false (fun hh => e (by rw [hh])))
          generalize l.getD k 0 = x at *
          generalize m.getD k 0 = y at *
          have hx : (x != y) = true := by simpa using e
          clear hform gform hT hF HR e
          go_wp2_with fail
          go_quiet (fail)
          go_wp2_with fail
          go_ret
          exact ⟨by rw [HN.out]; rfl, hq.drewN _⟩
      · obtain rfl : k = l.length := by omega
        have hd : decide ((l.length : Int) < (l.length : Int)) = false := by simp
        have HN := Lib.hid (show R = true by rw [← HR.out]; refine decide_eq_true ?_; rw [List.take_length, HL.out, List.take_length] at hF; exact hF)
        clear hF hform gform
        go_wp2_with fail
        go_ret
        exact ⟨by rw [HN.out]; rfl, hq⟩
  · have e : decide (l = m) = false := by simp; intro h; rw [h] at hl; exact hl rfl
    rw [e]
    have hz : ((l.length : Int) != (m.length : Int)) = true := by simp; omega
    clear hform gform e
    go_enter Try.func33, Try.ntmps33
    go_wp2_with fail
    go_ret
    exact ⟨rfl, Qt.refl _⟩
theorem equalB_any (v u : Value) (l m : List Int) (w : World) (h : isByt w v l) (g : isByt w u m) :
    Calls Try.prog 34 #[v, u] w fun e w' => e = .returned (.bool (decide (l = m))) ∧ Qt w w' := by
  obtain ⟨a, cap, rfl, hform⟩ := isByt_form h
  obtain ⟨a', cap', rfl, gform⟩ := isByt_form g
  clear h g
  by_cases hl : l.length = m.length
  · obtain ⟨R, hR⟩ : ∃ R, decide (l = m) = R := ⟨_, rfl⟩
    rw [hR]
    have HR := Lib.hid hR
    have hz : ((l.length : Int) != (m.length : Int)) = false := by simp [hl]
    have HL := Lib.hid hl
    clear hR hl
    go_enter Try.func34, Try.ntmps34
    go_wp2_with fail
    go_loopw [13] (fun i wr => ∃ k : Nat, k ≤ l.length ∧ i = .int .i64 k ∧ l.take k = m.take k ∧ Qt w wr) (fun i _ => l.length - (intOf i).toNat)
    case atStart => exact ⟨0, Nat.zero_le _, rfl, rfl, Qt.refl _⟩
    case round =>
      obtain ⟨k, hk, rfl, hF, hq⟩ := hrel
      by_cases hlt : k < l.length
      · have hkm : k < m.length := by rw [← HL.out]; exact hlt
        have hd : decide ((k : Int) < (l.length : Int)) = true := decide_eq_true (by omega)
        obtain ⟨b, off, rfl, hb, hc1, hc2, c0⟩ := hform k hlt
        obtain ⟨b', off', rfl, hb', hd1, hd2, d0⟩ := gform k hkm
        rw [← hq.cell] at c0 d0
        have hT := fun e => take_eq_snoc hF hlt hkm e
        by_cases e : l.getD k 0 = m.getD k 0
        · have hN := hT e
          rw [← e] at d0
          generalize l.getD k 0 = x at *
          clear hform gform hT hF HR e
          have hx : (x != x) = false := by simp
          go_wp2_with fail
          go_quiet (fail)
          go_wp2_with fail
          go_round
          case rel => exact ⟨k + 1, by omega, by go_num, hN, hq.drewN _⟩
          case measure => simp [intOf]; omega
        · have HN := Lib.hid (show R = false by rw [← HR.out]; exact decide_eq_false (fun hh => e (by rw [hh])))
          generalize l.getD k 0 = x at *
          generalize m.getD k 0 = y at *
          have hx : (x != y) = true := by simpa using e
          clear hform gform hT hF HR e
          go_wp2_with fail
          go_quiet (fail)
          go_wp2_with fail
          go_ret
          exact ⟨by rw [HN.out]; rfl, hq.drewN _⟩
      · obtain rfl : k = l.length := by omega
        have hd : decide ((l.length : Int) < (l.length : Int)) = false := by simp
        have HN := Lib.hid (show R = true by rw [← HR.out]; refine decide_eq_true ?_; rw [List.take_length, HL.out, List.take_length] at hF; exact hF)
        clear hF hform gform
        go_wp2_with fail
        go_ret
        exact ⟨by rw [HN.out]; rfl, hq⟩
  · have e : decide (l = m) = false := by simp; intro h; rw [h] at hl; exact hl rfl
    rw [e]
    have hz : ((l.length : Int) != (m.length : Int)) = true := by simp; omega
    clear hform gform e
    go_enter Try.func34, Try.ntmps34
    go_wp2_with fail
    go_ret
    exact ⟨rfl, Qt.refl _⟩
/-- The laws' same: the numbers and the bytes are the same. -/
theorem sameDv_any (vx mx vy my : Value) (lx ly bx by' : List Int) (w : World) (h1 : isArg w vx lx) (h2 : isByt w mx bx) (h3 : isArg w vy ly) (h4 : isByt w my by') :
    Calls Try.prog 10 #[.agg #[vx, mx], .agg #[vy, my]] w fun e w' => e = .returned (.bool (decide (lx = ly) && decide (bx = by'))) ∧ Below w.heap.size w w' := by
  obtain ⟨k0, k1, bW, sW⟩ := boxes2 w (.cells #[vx, mx] 25) (.cells #[vy, my] 25)
  have k0 : rowB _ _ _ _ := k0
  have k1 : rowB _ _ _ _ := k1
  have E1 := equalI_any vx vy lx ly _ (isArg_below h1 bW (Nat.le_refl _)) (isArg_below h3 bW (Nat.le_refl _))
  have m2 := isByt_below h2 bW (Nat.le_refl _)
  have m4 := isByt_below h4 bW (Nat.le_refl _)
  cases h : decide (lx = ly)
  · rw [h] at E1
    go_enter Try.func10, Try.ntmps10
    go_wp2_with (go_at_call 33; refine E1.mono ?_; rintro e w1 ⟨rfl, hq⟩; have hb := bW.trans (hq.below _))
    go_ret
    exact ⟨rfl, hb⟩
  · rw [h] at E1
    go_enter Try.func10, Try.ntmps10
    go_wp2_with (first
      | (go_at_call 33; refine E1.mono ?_; rintro e w1 ⟨rfl, hq⟩; have hb := bW.trans (hq.below _); have q0 := rowB_below k0 (hq.below _) (rowB_lt k0); have q1 := rowB_below k1 (hq.below _) (rowB_lt k1); obtain ⟨c0, c1, _, _⟩ := dcells2 q0; obtain ⟨d0, d1, _, _⟩ := dcells2 q1)
      | (go_at_call 34; refine (equalB_any _ _ bx by' _ (isByt_below m2 (hq.below _) (Nat.le_refl _)) (isByt_below m4 (hq.below _) (Nat.le_refl _))).mono ?_; rintro e w2 ⟨rfl, hq2⟩))
    go_ret
    exact ⟨rfl, hb.trans (hq2.below _)⟩
end Go.Proofs.Ytmjddoboogccoaa
