/- The contract of bakemake's Bytes. -/
import Derived.Test.YtmjddoboogccoaaAluRegs
import Derived.Test.YtmjddoboogccoaaChecked
import Derived.Test.YtmjddoboogccoaaReady
import Derived.Test.YtmjddoboogccoaaStdSmall
import Derived.Below
import Derived.BigQuiet
import Derived.ChangeMaps5
import Derived.Deep.CutBlock
import Derived.Deep.DeepAppendWide
import Derived.Deep.DeepCutAuto
import Derived.Deep.Draws
import Derived.Deep.MidRow
import Derived.Deep.OwnRows
import Derived.Deep.QuietTactic
import Derived.Deep.RegionHeld3
import Derived.Deep.RegionLaw
import Derived.Deep.RegionWith
import Derived.Deep.Slices
import Derived.Deep.WholeRow
import Derived.Great.BuildSlice
import Derived.Laws.CopyOwn
import Derived.Laws.OwnMore
import Derived.Lib.Hide
import Derived.Lib.SmallJoins
import Derived.OpenShut
import Derived.OrdersHeld
import Derived.OwnWalk
import Derived.RangeFuncBox
import Derived.RowKit3
import Derived.Shelf.Abstract
import Derived.SizedLaws
import Derived.StillTactics
import Derived.StillTail
import Derived.StillTailTactics
import Derived.WalkKit
namespace Go.Proofs.Ytmjddoboogccoaa
open Go.RowKit
set_option maxRecDepth 100000

def byR (cs : List Value) (x : Int) : Prop := cs = [.int .u8 x]
def byO (lo : Nat) (w : World) (v : Value) (p : List Int) : Prop := ownArr 1 byR lo 5 w v p
theorem byR_one : ∀ cs b, byR cs b → ∀ u ∈ cs, u.oneCell' = true := by
  rintro cs b rfl u hu
  simp only [List.mem_cons, List.not_mem_nil, or_false] at hu
  rw [hu]; rfl
theorem byR_keeps : keeps (fun _ => byR) := fun _ _ _ _ _ _ _ h => h
theorem byO_bytes {lo : Nat} {w : World} {v : Value} {p : List Int} (h : byO lo w v p) (hp : 0 < p.length) (hb : ∀ x ∈ p, 0 ≤ x ∧ x < 256) : bytesA w v p := by
  obtain ⟨f, hf, ho, hR⟩ := h
  rcases ho.2 with ⟨rfl, hn⟩ | ⟨b, cap, cur, rfl, hB, hg, hn, hcm, hs, htk⟩
  · omega
  · refine ⟨b, cap, rfl, (Array.getElem?_eq_some_iff.1 hg).1, fun j x hx => ?_, hb⟩
    have hj := (List.getElem?_eq_some_iff.1 hx).1
    have e := flat_get hf hj (show 0 < 1 by decide)
    rw [Nat.mul_one, Nat.add_zero, hR j x hx] at e
    rw [← htk] at e
    have hlen : j < (cur.toList.take (p.length * 1)).length := by
      by_cases hl : j < (cur.toList.take (p.length * 1)).length
      · exact hl
      · rw [List.getElem?_eq_none (by omega)] at e
        cases e
    rw [List.getElem?_take] at e
    split at e
    · rw [Array.getElem?_toList] at e
      exact rowB_cell (show rowB w b 5 cur from hg) j e
    · cases e
/-- A row of n bytes. -/
def byteRow (w : World) (b n : Nat) : Prop := ∃ cs : Array Value, rowB w b 5 cs ∧ cs.size = n ∧ ∀ k, k < n → ∃ x : Int, cs[k]? = some (.int .u8 x) ∧ 0 ≤ x ∧ x < 256
theorem byteRow.set {w : World} {b n : Nat} (h : byteRow w b n) {k : Nat} (hk : k < n) (x : Int) (hx : 0 ≤ x ∧ x < 256) : byteRow (w.setCell ⟨b, k, none⟩ (.int .u8 x)) b n := by
  obtain ⟨cs, h1, h2, h3⟩ := h
  refine ⟨_, rowB_set h1 k _, by simpa using h2, fun j hj => ?_⟩
  rw [Array.getElem?_setIfInBounds]
  by_cases e : k = j
  · subst e
    exact ⟨x, by rw [if_pos rfl, if_pos (by omega)], hx⟩
  · rw [if_neg e]
    exact h3 j hj
theorem byteRow.isArr {w : World} {b n : Nat} (h : byteRow w b n) (hn : n ≤ 1000) : ∃ p : List Int, p.length = n ∧ (∀ x ∈ p, 0 ≤ x ∧ x < 256) ∧ isArr 1 (fun _ => byR) w (.slice (some ⟨b, 0, none⟩) n n) p := by
  obtain ⟨cs, h1, h2, h3⟩ := h
  obtain ⟨X, hX⟩ := Go.Deep.choose_lt h3
  refine ⟨(List.range n).map X, by simp, fun x hx => ?_, .inr ⟨b, 0, n, by simp, rowB_lt h1, by simp, by omega, fun i x hx => ?_⟩⟩
  · obtain ⟨i, hi, rfl⟩ := List.mem_map.1 hx
    exact (hX i (List.mem_range.1 hi)).2
  · have hi : i < n := by
      have := (List.getElem?_eq_some_iff.1 hx).1
      simpa using this
    rw [List.getElem?_map, List.getElem?_range hi] at hx
    cases hx
    refine ⟨[.int .u8 (X i)], rfl, fun j hj => ?_, rfl⟩
    obtain rfl : j = 0 := by omega
    rw [show 0 + i * 1 + 0 = i by omega]
    exact rowB_cell h1 i (hX i hi).1
def bytesEnd (w : World) (n : Nat) (e : Ending) (w' : World) : Prop := ∃ b, e = .returned (.slice (some ⟨b, 0, none⟩) n n) ∧ byteRow w' b n ∧ w.heap.size ≤ b ∧ Below w.heap.size w w'
set_option maxHeartbeats 1000000 in
theorem bytes_any (v : Value) (l : List Int) (n : Nat) (hn : n ≤ 1000) (hpos : 0 < n) (w : World) (h : isArg w v l) (hwf : ∀ x ∈ l, (Lit.int .i64 x).wf = true) :
    Calls Try.prog 29 #[v, .int .i64 (n : Int)] w (bytesEnd w n) := by
  obtain ⟨i8, hi8, hz8, hs8, hb8⟩ : ∃ i, Try.prog.info? 5 = some i ∧ i.zero = some (.int .u8 0) ∧ i.size = 1 ∧ i.bytes = 1 := by
    have h : (Try.prog.info? 5).map (fun i => (i.zero, i.size, i.bytes)) = some (some (.int .u8 0), 1, 1) := by kernel_rfl
    cases hh : Try.prog.info? 5 with
    | none => rw [hh] at h; cases h
    | some i => rw [hh] at h; simp only [Option.map_some, Option.some.injEq, Prod.mk.injEq] at h; exact ⟨i, rfl, h⟩
  have b0 := below_laid1 w (.cells #[v] 78)
  have S0 : stream w (w.alloc (.cells #[v] 78)) w.heap.size l := ⟨Nat.le_refl _, b0, hwf, v, Boxed.new w 78 v, h⟩
  have hz1 : (w.alloc (.cells #[v] 78)).heap.size = w.heap.size + 1 := by simp
  obtain ⟨sa, sl, scap, rfl⟩ : ∃ a n c, v = .slice a n c := by
    rcases h with ⟨a, cap, rfl, _⟩ | ⟨b, off, cap, rfl, _⟩ <;> exact ⟨_, _, _, rfl⟩
  have H8 := Lib.hid hb8
  clear h hb8
  go_enter Try.func29, Try.ntmps29
  go_upto_region 2 with (fail)
  generalize w.alloc (.cells #[.slice sa sl scap] 78) = w1 at *
  have hr := rowB_new w1 5 (madeCells #[Value.int .u8 0] n)
  have B0 : byteRow (w1.alloc (.cells (madeCells #[Value.int .u8 0] n) 5)) w1.heap.size n := ⟨_, hr, zeros_size _ _, fun k hk => ⟨0, zeros_get _ _ _ hk, by decide, by decide⟩⟩
  have S1 := streamR_alloc S0 (.cells (madeCells #[Value.int .u8 0] n) 5)
  go_upto_region 3 with (refine wpList_make_row _ rfl _ _ 23 rfl 5 i8 (.int .u8 0) Try.underlying23 hi8 hz8 hs8 rfl .i64 .i64 n rfl rfl (by rw [H8.out]; omega) (by omega) ?_)
  rw [hz1] at B0
  generalize w1.alloc (.cells (madeCells #[Value.int .u8 0] n) 5) = w2 at *
  clear b0 S0 hr hz1
  go_wp2_with fail
  go_loopw [16] (fun i wr => ∃ (k : Nat) (ls : List Int), k ≤ n ∧ i = .int .i64 k ∧ stream w wr w.heap.size ls ∧ byteRow wr (w.heap.size + 1) n) (fun i _ => n - (intOf i).toNat)
  case atStart => exact ⟨0, l, Nat.zero_le _, rfl, S1, B0⟩
  case round =>
    clear S1 B0
    obtain ⟨k, ls, hk, rfl, hS, hB⟩ := hrel
    by_cases hlt : k < n
    · have hNext := next_any w w.heap.size ls 256 (by decide) wr hS
      have HN := Lib.hid hNext
      clear hNext
      go_wp2_with (go_at_call 54; refine HN.out.mono ?_; rintro e w3 ⟨r, rfl, r0, r1, G1, hz, l1, S1⟩; have hr : r < 256 := (by omega); have hB1 : byteRow w3 (w.heap.size + 1) n := (by obtain ⟨cs, q1, q2, q3⟩ := hB; refine ⟨cs, ?_, q2, q3⟩; unfold rowB; rw [G1.block _ (rowB_lt q1) (by simp)]; exact q1); obtain ⟨cs, q1, q2, q3⟩ := hB1; obtain ⟨x, q4, q5⟩ := q3 k hlt; have ct := rowB_cell q1 k q4; have fr := rowB_free q1 k)
      have hr8 : r % 256 = r := by omega
      have hB2 := (show byteRow w3 (w.heap.size + 1) n from ⟨cs, q1, q2, q3⟩).set hlt r ⟨r0, hr⟩
      have S2 := streamR_set S1 (k := w.heap.size + 1) (i := k) (by omega) (.int .u8 r)
      go_roundw
      case measure => simp [intOf]; omega
      case rel => exact ⟨k + 1, l1, by omega, by go_num, by first | exact S2 | (rw [hr8]; exact S2), by first | exact hB2 | (rw [hr8]; exact hB2)⟩
    · obtain rfl : k = n := by omega
      go_wp2_with fail
      go_ret
      exact ⟨w.heap.size + 1, rfl, hB, by omega, hS.2.1⟩
end Go.Proofs.Ytmjddoboogccoaa
