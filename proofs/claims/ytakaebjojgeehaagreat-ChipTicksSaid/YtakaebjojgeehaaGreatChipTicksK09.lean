/- A part of the proof of ChipTicks: DevEq, DevSame, LinM, DevPick, SerR, DevFormS, SndR. -/
import Derived.Test.YtakaebjojgeehaaGreatChipTicksK01
import Derived.Test.YtakaebjojgeehaaGreatChipTicksK02
import Derived.Test.YtakaebjojgeehaaGreatChipTicksK03
import Derived.Test.YtakaebjojgeehaaGreatChipTicksK04
import Derived.Test.YtakaebjojgeehaaGreatChipTicksK05
import Derived.Test.YtakaebjojgeehaaGreatChipTicksK06
import Derived.Test.YtakaebjojgeehaaGreatChipTicksK08
import Derived.Below
import Derived.BigQuiet
import Derived.ChangeMaps5
import Derived.Deep.DeepCutAuto
import Derived.Deep.Draws
import Derived.Deep.MidRow
import Derived.Deep.OwnRows
import Derived.Deep.QuietTactic
import Derived.Deep.RegionHeld3
import Derived.Deep.RegionWith
import Derived.Deep.Slices
import Derived.Deep.WholeRow
import Derived.Lib.Hide
import Derived.Lib.SmallJoins
import Derived.OpenShut
import Derived.OrdersHeld
import Derived.OwnWalk
import Derived.RowKit3
import Derived.StillTactics
import Derived.StillTail
import Derived.StillTailTactics
import Derived.Test.YtakaebjojgeehaaGreatChecked
import Derived.WalkKit
namespace Go.Proofs.YtakaebjojgeehaaGreat
open Go.RowKit
set_option maxRecDepth 100000
/-- The slice v of bytes reads as the list; of an empty one nothing more is known. -/
def isByt (w : World) (v : Value) (l : List Int) : Prop :=
  (∃ a cap, v = .slice a 0 cap ∧ l = []) ∨
  ∃ b off cap, v = .slice (some ⟨b, off, none⟩) l.length cap ∧ b < w.heap.size ∧ l.length ≤ cap ∧ cap ≤ 9223372036854775807 ∧ ∀ j, j < l.length → w.cell? ⟨b, off + j, none⟩ = some (.int .u8 (l.getD j 0))
theorem isByt_below {B : Nat} {w w' : World} {v : Value} {l : List Int} (h : isByt w v l) (hb : Below B w w') (hB : w.heap.size ≤ B) : isByt w' v l := by
  rcases h with h | ⟨b, off, cap, rfl, h1, h2, h3, h4⟩
  · exact .inl h
  · refine .inr ⟨b, off, cap, rfl, Nat.lt_of_lt_of_le h1 hb.size, h2, h3, fun j hj => ?_⟩
    rw [hb.cell (p := ⟨b, off + j, none⟩) (by show b < B; omega)]; exact h4 j hj
theorem isByt_form {w : World} {v : Value} {l : List Int} (h : isByt w v l) :
    ∃ a cap, v = .slice a l.length cap ∧ ∀ m, m < l.length → ∃ b off, a = some ⟨b, off, none⟩ ∧ b < w.heap.size ∧ l.length ≤ cap ∧ cap ≤ 9223372036854775807 ∧ w.cell? ⟨b, off + m, none⟩ = some (.int .u8 (l.getD m 0)) := by
  rcases h with ⟨a, cap, rfl, rfl⟩ | ⟨b, off, cap, rfl, h1, h2, h3, h4⟩
  · exact ⟨a, cap, rfl, fun m hm => absurd hm (Nat.not_lt_zero _)⟩
  · exact ⟨_, cap, rfl, fun m hm => ⟨b, off, rfl, h1, h2, h3, h4 m hm⟩⟩
theorem take_eq_snoc {l m : List Int} {k : Nat} (h : l.take k = m.take k) (h1 : k < l.length) (h2 : k < m.length) (e : l.getD k 0 = m.getD k 0) : l.take (k + 1) = m.take (k + 1) := by
  rw [List.take_add_one, List.take_add_one, h, List.getElem?_eq_getElem h1, List.getElem?_eq_getElem h2]
  simp only [List.getD_eq_getElem?_getD, List.getElem?_eq_getElem h1, List.getElem?_eq_getElem h2, Option.getD_some] at e
  rw [e]
theorem equalI_any (v u : Value) (l m : List Int) (w : World) (h : isArg w v l) (g : isArg w u m) :
    Calls Tryz.prog 28 #[v, u] w fun e w' => e = .returned (.bool (decide (l = m))) ∧ Qt w w' := by
  obtain ⟨a, cap, rfl, hform⟩ := isArg_form h
  obtain ⟨a', cap', rfl, gform⟩ := isArg_form g
  clear h g
  by_cases hl : l.length = m.length
  · obtain ⟨R, hR⟩ : ∃ R, decide (l = m) = R := ⟨_, rfl⟩
    rw [hR]
    have HR := Lib.hid hR
    have hz : ((l.length : Int) != (m.length : Int)) = false := by simp [hl]
    have HL := Lib.hid hl
    clear hR hl
    go_enter Tryz.func28, Tryz.ntmps28
    go_wp2_with fail
    go_loopw [13] (fun i wr => ∃ k : Nat, k ≤ l.length ∧ i = .int .i64 k ∧ l.take k = m.take k ∧ Qt w wr) (fun i _ => l.length - (intOf i).toNat)
    case atStart => exact ⟨0, Nat.zero_le _, rfl, rfl, Qt.refl _⟩
    case round =>
      obtain ⟨k, hk, rfl, hF, hq⟩ := hrel
      by_cases hlt : k < l.length
      · have hkm : k < m.length := by rw [← HL.out]; exact hlt
        have hd : decide ((k : Int) < (l.length : Int)) = true := decide_eq_true (by omega)
        obtain ⟨b, off, rfl, hb, hc1, hc2, c0⟩ := hform k hlt
        obtain ⟨b', off', rfl, hb', hd1, hd2, d0⟩ := gform k hkm
        rw [← hq.cell] at c0 d0
        have hT := fun e => take_eq_snoc hF hlt hkm e
        by_cases e : l.getD k 0 = m.getD k 0
        · have hN := hT e
          rw [← e] at d0
          generalize l.getD k 0 = x at *
          clear hform gform hT hF HR e
          have hx : (x != x) = false := by simp
          go_wp2_with fail
          go_quiet (fail)
          go_wp2_with fail
          go_round
          case rel => exact ⟨k + 1, by omega, by go_num, hN, hq.drewN _⟩
          case measure => simp [intOf]; omega
        · have HN := Lib.hid (show R = false by rw [← HR.out]; exact decide_eq_false (fun hh => e (by rw [hh])))
          generalize l.getD k 0 = x at *
          generalize m.getD k 0 = y at *
          have hx : (x != y) = true := by simpa using e
          clear hform gform hT hF HR e
          go_wp2_with fail
          go_quiet (fail)
          go_wp2_with fail
          go_ret
          exact ⟨by rw [HN.out]; rfl, hq.drewN _⟩
      · obtain rfl : k = l.length := by omega
        have hd : decide ((l.length : Int) < (l.length : Int)) = false := by simp
        have HN := Lib.hid (show R = true by rw [← HR.out]; refine decide_eq_true ?_; rw [List.take_length, HL.out, List.take_length] at hF; exact hF)
        clear hF hform gform
        go_wp2_with fail
        go_ret
        exact ⟨by rw [HN.out]; rfl, hq⟩
  · have e : decide (l = m) = false := by simp; intro h; rw [h] at hl; exact hl rfl
    rw [e]
    have hz : ((l.length : Int) != (m.length : Int)) = true := by simp; omega
    clear hform gform e
    go_enter Tryz.func28, Tryz.ntmps28
    go_wp2_with fail
    go_ret
    exact ⟨rfl, Qt.refl _⟩
theorem equalB_any (v u : Value) (l m : List Int) (w : World) (h : isByt w v l) (g : isByt w u m) :
    Calls Tryz.prog 29 #[v, u] w fun e w' => e = .returned (.bool (decide (l = m))) ∧ Qt w w' := by
  obtain ⟨a, cap, rfl, hform⟩ := isByt_form h
  obtain ⟨a', cap', rfl, gform⟩ := isByt_form g
  clear h g
  by_cases hl : l.length = m.length
  · obtain ⟨R, hR⟩ : ∃ R, decide (l = m) = R := ⟨_, rfl⟩
    rw [hR]
    have HR := Lib.hid hR
    have hz : ((l.length : Int) != (m.length : Int)) = false := by simp [hl]
    have HL := Lib.hid hl
    clear hR hl
    go_enter Tryz.func29, Tryz.ntmps29
    go_wp2_with fail
    go_loopw [13] (fun i wr => ∃ k : Nat, k ≤ l.length ∧ i = .int .i64 k ∧ l.take k = m.take k ∧ Qt w wr) (fun i _ => l.length - (intOf i).toNat)
    case atStart => exact ⟨0, Nat.zero_le _, rfl, rfl, Qt.refl _⟩
    case round =>
      obtain ⟨k, hk, rfl, hF, hq⟩ := hrel
      by_cases hlt : k < l.length
      · have hkm : k < m.length := by rw [← HL.out]; exact hlt
        have hd : decide ((k : Int) < (l.length : Int)) = true := decide_eq_true (by omega)
        obtain ⟨b, off, rfl, hb, hc1, hc2, c0⟩ := hform k hlt
        obtain ⟨b', off', rfl, hb', hd1, hd2, d0⟩ := gform k hkm
        rw [← hq.cell] at c0 d0
        have hT := fun e => take_eq_snoc hF hlt hkm e
        by_cases e : l.getD k 0 = m.getD k 0
        · have hN := hT e
          rw [← e] at d0
          generalize l.getD k 0 = x at *
          clear hform gform hT hF HR e
          have hx : (x != x) = false := by simp
          go_wp2_with fail
          go_quiet (fail)
          go_wp2_with fail
          go_round
          case rel => exact ⟨k + 1, by omega, by go_num, hN, hq.drewN _⟩
          case measure => simp [intOf]; omega
        · have HN := Lib.hid (show R = false by rw [← HR.out]; exact decide_eq_false (fun hh => e (by rw [hh])))
          generalize l.getD k 0 = x at *
          generalize m.getD k 0 = y at *
          have hx : (x != y) = true := by simpa using e
          clear hform gform hT hF HR e
          go_wp2_with fail
          go_quiet (fail)
          go_wp2_with fail
          go_ret
          exact ⟨by rw [HN.out]; rfl, hq.drewN _⟩
      · obtain rfl : k = l.length := by omega
        have hd : decide ((l.length : Int) < (l.length : Int)) = false := by simp
        have HN := Lib.hid (show R = true by rw [← HR.out]; refine decide_eq_true ?_; rw [List.take_length, HL.out, List.take_length] at hF; exact hF)
        clear hF hform gform
        go_wp2_with fail
        go_ret
        exact ⟨by rw [HN.out]; rfl, hq⟩
  · have e : decide (l = m) = false := by simp; intro h; rw [h] at hl; exact hl rfl
    rw [e]
    have hz : ((l.length : Int) != (m.length : Int)) = true := by simp; omega
    clear hform gform e
    go_enter Tryz.func29, Tryz.ntmps29
    go_wp2_with fail
    go_ret
    exact ⟨rfl, Qt.refl _⟩
/-- The laws' same: the numbers and the bytes are the same. -/
theorem sameDv_any (vx mx vy my : Value) (lx ly bx by' : List Int) (w : World) (h1 : isArg w vx lx) (h2 : isByt w mx bx) (h3 : isArg w vy ly) (h4 : isByt w my by') :
    Calls Tryz.prog 9 #[.agg #[vx, mx], .agg #[vy, my]] w fun e w' => e = .returned (.bool (decide (lx = ly) && decide (bx = by'))) ∧ Below w.heap.size w w' := by
  obtain ⟨k0, k1, bW, sW⟩ := boxes2 w (.cells #[vx, mx] 27) (.cells #[vy, my] 27)
  have k0 : rowB _ _ _ _ := k0
  have k1 : rowB _ _ _ _ := k1
  have E1 := equalI_any vx vy lx ly _ (isArg_below h1 bW (Nat.le_refl _)) (isArg_below h3 bW (Nat.le_refl _))
  have m2 := isByt_below h2 bW (Nat.le_refl _)
  have m4 := isByt_below h4 bW (Nat.le_refl _)
  cases h : decide (lx = ly)
  · rw [h] at E1
    go_enter Tryz.func9, Tryz.ntmps9
    go_wp2_with (go_at_call 28; refine E1.mono ?_; rintro e w1 ⟨rfl, hq⟩; have hb := bW.trans (hq.below _))
    go_ret
    exact ⟨rfl, hb⟩
  · rw [h] at E1
    go_enter Tryz.func9, Tryz.ntmps9
    go_wp2_with (first
      | (go_at_call 28; refine E1.mono ?_; rintro e w1 ⟨rfl, hq⟩; have hb := bW.trans (hq.below _); have q0 := rowB_below k0 (hq.below _) (rowB_lt k0); have q1 := rowB_below k1 (hq.below _) (rowB_lt k1); obtain ⟨c0, c1, _, _⟩ := dcells2 q0; obtain ⟨d0, d1, _, _⟩ := dcells2 q1)
      | (go_at_call 29; refine (equalB_any _ _ bx by' _ (isByt_below m2 (hq.below _) (Nat.le_refl _)) (isByt_below m4 (hq.below _) (Nat.le_refl _))).mono ?_; rintro e w2 ⟨rfl, hq2⟩))
    go_ret
    exact ⟨rfl, hb.trans (hq2.below _)⟩
end Go.Proofs.YtakaebjojgeehaaGreat
namespace Go.Proofs.YtakaebjojgeehaaGreat
open Go.RowKit
set_option maxRecDepth 100000
theorem agCh : isAg Tryz.prog 24 5 := ⟨⟨_, Tryz.underlying24, rfl⟩, by kernel_rfl⟩
theorem ccells {w : World} {g : Nat} {t : TypeId} {a b c d e : Value} (h : rowB w g t #[a, b, c, d, e]) : w.cell? ⟨g, 0, none⟩ = some a ∧ w.cell? ⟨g, 1, none⟩ = some b ∧ w.cell? ⟨g, 2, none⟩ = some c ∧ w.cell? ⟨g, 3, none⟩ = some d ∧ w.cell? ⟨g, 4, none⟩ = some e :=
  ⟨rowB_cell h 0 rfl, rowB_cell h 1 rfl, rowB_cell h 2 rfl, rowB_cell h 3 rfl, rowB_cell h 4 rfl⟩
theorem isByt_none (w : World) : isByt w (.slice none 0 0) [] := .inl ⟨none, 0, rfl, rfl⟩
end Go.Proofs.YtakaebjojgeehaaGreat
namespace Go.Proofs.YtakaebjojgeehaaGreat
open Go
section
variable {P : Program} {Q : Exit → Act → World → Prop} {md : Region.Mode} {S : World → Prop} {R N : Nat → Bool}
def notOf (m : Nat) (j : Nat) : Bool := !m.testBit j
def mixM (md : Region.Mode) (ops : Array Oper) (R N : Nat → Bool) : List (Nat × Nat × Nat) → Array Bool → Bool
  | [], listed => (Region.ready md ops listed).isEmpty
  | (i, 0, m) :: rest, listed => (Region.ready md ops listed).contains i && Region.free md ops listed i && R i && blkB md ops (notOf m) listed i && okB ops (notOf m) R listed && mixM md ops R N rest (listed.setIfInBounds i true)
  | (i, 1, m) :: rest, listed => (Region.ready md ops listed).contains i && Region.free md ops listed i && R i && blkB md ops (notOf m) listed i && okB ops (notOf m) (fun j => R j || N j) listed && mixM md ops R N rest (listed.setIfInBounds i true)
  | (i, k + 2, _) :: rest, listed => decide (Region.ready md ops listed = [i]) && !R i && (!N i || decide (k = 1)) && mixM md ops R N rest (listed.setIfInBounds i true)
theorem X_mixM {l : List Oper} (hs : Region.noSelect l.toArray = true) (hQ : ∀ c a w d v, Q (.panic c) (a.put d v) w → Q (.panic c) a w) :
    ∀ (st : List (Nat × Nat × Nat)) (listed : Array Bool) (a : Act) (w : World), listed.size = l.toArray.size → mixM md l.toArray R N st listed = true →
    wpMix P l.toArray Q S (st.map fun x => (opOf l x.1, x.2.1)) a w → wpAnyX P md l.toArray Q S R N st.length listed a w
  | [], listed, a, w, _, hB, h => ⟨by simpa [mixM] using hB, h⟩
  | (i, 0, m) :: rest, listed, a, w, hz, hB, h => by
    simp only [mixM, Bool.and_eq_true] at hB
    obtain ⟨⟨⟨⟨⟨hr, hf⟩, hR⟩, hK⟩, hO⟩, hB⟩ := hB
    have hz' : (listed.setIfInBounds i true).size = l.toArray.size := by simpa using hz
    have ho := opOf_some hr
    have hri : i ∈ Region.ready md l.toArray listed := by simpa using hr
    have hst : stOp P l.toArray w i (fun a' => wpMix P l.toArray Q S (rest.map fun x => (opOf l x.1, x.2.1)) a' w) a := by
      unfold stOp; simp only [ho]; exact h
    obtain ⟨v, hy, h⟩ := yieldsAt_of_stOp ho hst
    exact X_takeR ho (Region.noSelect_spec hs) hR _ _ listed a w (blk_of_B hK) (ok_of_B hz hO) (Region.free_spec ho hf) hri hy (X_mixM hs hQ rest _ _ w hz' hB h)
  | (i, 1, m) :: rest, listed, a, w, hz, hB, h => by
    simp only [mixM, Bool.and_eq_true] at hB
    obtain ⟨⟨⟨⟨⟨hr, hf⟩, hR⟩, hK⟩, hO⟩, hB⟩ := hB
    have hz' : (listed.setIfInBounds i true).size = l.toArray.size := by simpa using hz
    have ho := opOf_some hr
    have hri : i ∈ Region.ready md l.toArray listed := by simpa using hr
    obtain ⟨hS, v, hy, h⟩ := h
    exact X_takeH ho (Region.noSelect_spec hs) hR _ (fun c a w => hQ c a w _ _) _ listed a w (blk_of_B hK) (ok_of_B hz hO) (Region.free_spec ho hf) hri hy hS (X_mixM hs hQ rest _ _ w hz' hB h)
  | (i, k + 2, _) :: rest, listed, a, w, hz, hB, h => by
    simp only [mixM, Bool.and_eq_true, decide_eq_true_eq, Bool.not_eq_true', Bool.or_eq_true] at hB
    obtain ⟨⟨⟨hr, hR⟩, hN⟩, hB⟩ := hB
    have hz' : (listed.setIfInBounds i true).size = l.toArray.size := by simpa using hz
    refine ⟨fun h1 => (by rw [hr] at h1; cases h1), fun j hj => ?_⟩
    rw [hr] at hj
    obtain rfl : j = i := by simpa using hj
    refine ⟨fun h1 => (by rw [hR] at h1; cases h1), fun _ => ?_⟩
    have ho : l.toArray[j]? = some (opOf l j) := opOf_some (md := md) (listed := listed) (by rw [hr]; simp)
    refine wpOp_mono (fun a' w' h' => ⟨fun hNj => h'.1 ?_, X_mixM hs hQ rest _ a' w' hz' hB h'.2⟩) (wpOp_of_list ho h)
    rcases hN with hN | hN
    · rw [hN] at hNj; cases hNj
    · exact hN
/-- A region that draws, in the order 'st': each operation's number, its mark, the bits of those that wait for it. -/
theorem wp_region_mixM {id : Nat} {a : Act} {w : World} {l : List Oper} (S : World → Prop) (R N : Nat) (st : List (Nat × Nat × Nat)) (hm : P.follows .mixedOrders = true)
    (hB : (Region.noSelect l.toArray && decide (st.length = l.length) && mixM .any l.toArray R.testBit N.testBit st (Array.replicate l.length false)) = true)
    (hQ : ∀ c a w t v, Q (.panic c) (a.put (some t) v) w → Q (.panic c) a w)
    (h : wpMix P l.toArray Q S (st.map fun x => (opOf l x.1, x.2.1)) a { w with drawn := w.drawn + 1 }) :
    (Code.region id l.toArray true).wp P Q a w := by
  simp only [Bool.and_eq_true, decide_eq_true_eq] at hB
  obtain ⟨⟨hs, hl⟩, hB⟩ := hB
  refine wp_region_any hm ?_
  have hQ' : ∀ c a w d v, Q (.panic c) (a.put d v) w → Q (.panic c) a w := fun c a w d v hh => by
    cases d with
    | none => exact hh
    | some t => exact hQ c a w t v hh
  have := wpAny_of_X _ _ _ _ (X_mixM (Q := Q) hs hQ' st _ a _ (by simp) hB h)
  rw [hl] at this
  simpa using this
end
end Go.Proofs.YtakaebjojgeehaaGreat
namespace Go.Proofs.YtakaebjojgeehaaGreat
open Go.RowKit
set_option maxRecDepth 100000
theorem isArg_none (w : World) : isArg w (.slice none 0 0) [] := .inl ⟨none, 0, rfl, rfl⟩
end Go.Proofs.YtakaebjojgeehaaGreat
namespace Go.Proofs.YtakaebjojgeehaaGreat
open Go.RowKit
set_option maxRecDepth 100000
theorem fmSer (l : List Int) : fmN l msSer 8 = (Sr.of l).ns := rfl
end Go.Proofs.YtakaebjojgeehaaGreat
namespace Go.Proofs.YtakaebjojgeehaaGreat
open Go.RowKit
set_option maxRecDepth 100000
def msSnd : List Int := [4096, 16, 256, 4096, 2, 16384, 4096, 16, 256, 4096, 2, 16384]
theorem formedSnd_any (nm : ByteArray) (b z : Int) (dat v vm : Value) (l : List Int) (w : World) (h : isArg w v l) :
    Calls Tryz.prog 6 #[.agg (chip5 nm 7 b z dat), .agg #[v, vm]] w fun e w' => ∃ u, e = .returned u ∧ devO w.heap.size w' u (fmN l msSnd 12) ∧ Below w.heap.size w w' := by
  dsimp only [chip5]
  obtain ⟨k0, k1, k2, k3, k4, bW, sW⟩ := boxes5 w (.cells #[.string nm, .int .i64 7, .int .i64 b, .int .i64 z, dat] 24) (.cells #[v, vm] 27) (.cells #[.slice none 0 0, .slice none 0 0] 27) (.cells #[.slice none 0 0, .slice none 0 0] 27) (.cells #[.int .i64 4096, .int .i64 16, .int .i64 256, .int .i64 4096, .int .i64 2, .int .i64 16384, .int .i64 4096, .int .i64 16, .int .i64 256, .int .i64 4096, .int .i64 2, .int .i64 16384] 3)
  have k2 : rowB _ _ _ _ := k2
  have k3 : rowB _ _ _ _ := k3
  have hu := numB_arg (l := [4096, 16, 256, 4096, 2, 16384, 4096, 16, 256, 4096, 2, 16384]) (show rowB _ _ _ _ from k4) (by decide)
  have h2 := isArg_below h bW (Nat.le_refl _)
  have hF := form_any v vm _ l [4096, 16, 256, 4096, 2, 16384, 4096, 16, 256, 4096, 2, 16384] _ h2 hu (by decide) (by decide)
  clear k0 k1 k4 hu h2
  go_enter Tryz.func6, Tryz.ntmps6
  go_wp2_with (first
    | (go_at_call 21; refine hF.mono ?_; rintro e w2 ⟨g, rfl, hg, hr, hb⟩; have q2 := rowB_below k2 hb (rowB_lt k2); have q3 := rowB_set (rowB_below k3 hb (rowB_lt k3)) 0 (.slice (some ⟨g, 0, none⟩) 12 12); obtain ⟨d0, d1, y0, y1⟩ := dcells2 (rowB_below k3 hb (rowB_lt k3)); rw [sW] at hg; have bX := bW.trans (hb.mono bW.size); have p2 := rowB_other q2 ⟨w.heap.size + 3, 0, none⟩ (.slice (some ⟨g, 0, none⟩) 12 12) (by simp))
    | (refine wpList_storeR rfl 27 _ _ rfl (w.heap.size + 2) rfl #[.slice (some ⟨g, 0, none⟩) 12 12, .slice none 0 0] rfl (dev2_one _ _ _ _ _ _) 27 #[.slice none 0 0, .slice none 0 0] rfl ?_ agDv ?_; with_reducible exact p2))
  refine bodyPost_ret (resultsR rfl (w.heap.size + 2) _ rfl (rowB_row p2 _) agDv) rfl ?_
  exact ⟨_, rfl, ⟨g, rfl, by omega, rowB_row_other (rowB_other hr _ _ (by show w.heap.size + 3 ≠ g; omega)) _ (by omega)⟩, below_rowR (bX.setCell (p := ⟨w.heap.size + 3, 0, none⟩) (by simp) _) _ (by omega)⟩
end Go.Proofs.YtakaebjojgeehaaGreat
namespace Go.Proofs.YtakaebjojgeehaaGreat
open Go.RowKit
set_option maxRecDepth 100000
theorem fmSnd (l : List Int) : fmN l msSnd 12 = (Sn.of l).ns := rfl
end Go.Proofs.YtakaebjojgeehaaGreat
