/- slices.Backward over instructions: the contract of the iterator. -/
import Derived.Test.YtnkplfimcehnmaaTabFind
import Derived.RangeFuncNested
import Derived.RangeFuncLeaves
import Derived.Shelf.Abstract
import Derived.WalkKit
import Derived.OwnWalkIn
import Derived.TacticsInMore
import Derived.LoopNIn
import Derived.LoopIn
namespace Go.Proofs.Ytnkplfimcehnmaa
open Go.RowKit Go.Shelf

attribute [local go_sem] Oper.semAt_some

/-- One of the instructions of a list, as the loop is handed it: its place, and the slice of its cycles, which reads in the world w0. -/
structure Elem (w0 : World) (l : List In) where
  i : Nat
  x : In
  v : Value
  hx : l[i]? = some x
  hv : isArr 4 cycleR w0 v x.cycles
def encE {w0 : World} {l : List In} (q : Elem w0 l) : Array Value := #[.int .i64 (q.i : Int), .agg #[.int .i64 q.x.op, .string q.x.name, .int .i64 q.x.mode, q.v]]
/-- The last k of them, from the end. -/
def lastE {α : Type} (f : Nat → α) (n k : Nat) : List α := (List.range k).map fun j => f (n - 1 - j)
theorem lastE_succ {α : Type} (f : Nat → α) (n k : Nat) : lastE f n (k + 1) = lastE f n k ++ [f (n - 1 - k)] := by simp [lastE, List.range_succ]
theorem lastE_length {α : Type} (f : Nat → α) (n k : Nat) : (lastE f n k).length = k := by simp [lastE]
theorem lastE_all {w0 : World} {l : List In} (f : Nat → Elem w0 l) (hf : ∀ i, i < l.length → (f i).i = i) : (lastE f l.length l.length).map (·.x) = l.reverse := by
  apply List.ext_getElem
  · simp [lastE]
  · intro i h1 h2
    simp only [lastE, List.length_map, List.length_range] at h1
    have h3 := hf (l.length - 1 - i) (by omega)
    have h4 := (f (l.length - 1 - i)).hx
    rw [h3] at h4
    simp only [lastE, List.getElem_map, List.getElem_range, List.getElem_reverse]
    rw [List.getElem?_eq_getElem (by omega)] at h4
    exact (Option.some.inj h4).symm

/-- What a round that goes on keeps: what lies below n₀, and the box of the slice. -/
def keepB (n₀ Bs : Nat) (A B : World) : Prop := Below n₀ A B ∧ B.cell? ⟨Bs, 0, none⟩ = A.cell? ⟨Bs, 0, none⟩
theorem keepB_refl (n₀ Bs : Nat) (A : World) : keepB n₀ Bs A A := ⟨Below.refl _ _, rfl⟩
theorem keepB_t {n₀ Bs : Nat} {A B C : World} (h : keepB n₀ Bs A B) (k : keepB n₀ Bs B C) : keepB n₀ Bs A C := ⟨h.1.trans k.1, k.2.trans h.2⟩
theorem keepB_b {n₀ Bs : Nat} {w : World} (hn : n₀ ≤ w.heap.size) (hB : Bs < w.heap.size) (W : World) (l : Nat) (o o' : Obj) (hl : w.heap.size ≤ l) (h : W.heap[l]? = some o) (h1 : o.isCells = false) (h2 : o.isWalk = false) : keepB n₀ Bs W (W.putObj l o') := by
  refine ⟨belowK_b hn W l o o' hl h h1 h2, ?_⟩
  have e : (W.putObj l o').heap[Bs]? = W.heap[Bs]? := World.putObj_heap_other (by omega)
  simp only [World.cell?, e]

set_option maxRecDepth 100000 in
set_option maxHeartbeats 2000000 in
theorem back1_in (F : Fence) (n : Nat) (hF : F.fn 44) (hro : F.round = none) (hn : 1 ≤ n) (lp Bs n₀ : Nat) (w0 : World) (l : List In) (a : Option Addr) (cap : Nat) (hcap : l.length ≤ 9223372036854775807)
    (f : Nat → Elem w0 l) (hf : ∀ i, i < l.length → (f i).i = i)
    (J Jx : List (Elem w0 l) → World → Prop)
    (hY : ∀ pre x W, J pre W → pre.length < l.length → YieldAt F (n - 1) Try.prog lp (encE x) W fun e W' =>
      (e = .returned (.bool true) ∧ J (pre ++ [x]) W' ∧ keepB n₀ Bs W W') ∨ (e = .returned (.bool false) ∧ Jx (pre ++ [x]) W'))
    (W : World) (hBs : W.cell? ⟨Bs, 0, none⟩ = some (.slice a l.length cap))
    (hc : ∀ i, i < l.length → ∃ b off, a = some ⟨b, off, none⟩ ∧ b < n₀ ∧ l.length ≤ cap ∧ cap ≤ 9223372036854775807 ∧ W.cell? ⟨b, off + i * 4, none⟩ = some (.int .i64 (f i).x.op) ∧ W.cell? ⟨b, off + i * 4 + 1, none⟩ = some (.string (f i).x.name) ∧ W.cell? ⟨b, off + i * 4 + 2, none⟩ = some (.int .i64 (f i).x.mode) ∧ W.cell? ⟨b, off + i * 4 + 3, none⟩ = some (f i).v)
    (h0 : J [] W) :
    CallsIn F n Try.prog 44 #[.func (.yield lp) #[] #[], .pointer (some ⟨Bs, 0, none⟩)] W fun e W' => (∃ v, e = .returned v) ∧
      ((∃ ys, ys.map (·.x) = l.reverse ∧ J ys W') ∨ (∃ pre, True ∧ Jx pre W')) := by
  refine callsIn_of_wp Try.func44 rfl hF ?_ hro
  simp only [Try.ntmps44, List.size_toArray, List.length_cons, List.length_nil, Nat.reduceAdd, Nat.reduceSub, Array.replicate_succ, Array.replicate_zero, List.push_toArray, List.append_toArray, List.nil_append, List.cons_append]
  gi_wp2
  gi_loopw [3] (fun i wr => ∃ r : Nat, r ≤ l.length ∧ i = .int .i64 ((r : Int) - 1) ∧ J (lastE f l.length (l.length - r)) wr ∧ keepB n₀ Bs W wr) (fun i _ => (intOf i + 1).toNat)
  case atStart => exact ⟨l.length, Nat.le_refl _, rfl, by rw [Nat.sub_self]; exact h0, keepB_refl _ _ _⟩
  case round =>
    obtain ⟨r, hr, rfl, hJs, hkx⟩ := hrel
    have hnx := hkx.1
    have hbs := hkx.2.trans hBs
    cases r with
    | zero =>
      have e : ((0 : Nat) : Int) - 1 = -1 := by omega
      simp only [e]
      rw [Nat.sub_zero] at hJs
      gi_wp2
      go_end0
      exact ⟨⟨_, rfl⟩, .inl ⟨_, lastE_all f hf, hJs⟩⟩
    | succ m =>
      have e : ((m + 1 : Nat) : Int) - 1 = (m : Int) := by omega
      simp only [e]
      have hm : m < l.length := by omega
      obtain ⟨b, off, rfl, hb, hcap1, hcap2, c0, c1, c2, c3⟩ := hc m hm
      rw [← hnx.cell (p := ⟨b, off + m * 4, none⟩) hb] at c0
      rw [← hnx.cell (p := ⟨b, off + m * 4 + 1, none⟩) hb] at c1
      rw [← hnx.cell (p := ⟨b, off + m * 4 + 2, none⟩) hb] at c2
      rw [← hnx.cell (p := ⟨b, off + m * 4 + 3, none⟩) hb] at c3
      obtain ⟨fn, tmps, assign, body, hy, hR⟩ := hY _ (f m) wr hJs (by rw [lastE_length]; omega)
      unfold encE at hy
      rw [hf m hm] at hy
      have e2 : lastE f l.length (l.length - (m + 1)) ++ [f m] = lastE f l.length (l.length - m) := by
        have e3 : l.length - m = (l.length - (m + 1)) + 1 := by omega
        rw [e3, lastE_succ, show l.length - 1 - (l.length - (m + 1)) = m by omega]
      gi_wp2
      refine hR.mono ?_
      rintro e W3 (⟨rfl, hJ3, hk3⟩ | ⟨rfl, hJx3⟩)
      · gi_wp2
        go_roundw
        case rel => exact ⟨m, by omega, by simp, by rw [← e2]; exact hJ3, keepB_t hkx hk3⟩
        case measure => simp [intOf]
      · gi_wp2
        refine bodyPost_ret (results_none rfl _ _ _) rfl ?_
        exact ⟨⟨_, rfl⟩, .inr ⟨_, trivial, hJx3⟩⟩

set_option maxRecDepth 100000 in
set_option maxHeartbeats 1000000 in
/-- .. where there is none: no round. -/
theorem back1_nil (F : Fence) (n : Nat) (hF : F.fn 44) (hro : F.round = none) (lp Bs : Nat) (a : Option Addr) (cap : Nat) {α : Type} (J : List α → World → Prop) (W : World) (hBs : W.cell? ⟨Bs, 0, none⟩ = some (.slice a 0 cap)) (h0 : J [] W) :
    CallsIn F n Try.prog 44 #[.func (.yield lp) #[] #[], .pointer (some ⟨Bs, 0, none⟩)] W fun e W' => (∃ v, e = .returned v) ∧ J [] W' := by
  refine callsIn_of_wp Try.func44 rfl hF ?_ hro
  simp only [Try.ntmps44, List.size_toArray, List.length_cons, List.length_nil, Nat.reduceAdd, Nat.reduceSub, Array.replicate_succ, Array.replicate_zero, List.push_toArray, List.append_toArray, List.nil_append, List.cons_append]
  gi_wp2
  gi_loopw [3] (fun i wr => i = .int .i64 (-1) ∧ J [] wr) (fun _ _ => 0)
  case atStart => exact ⟨rfl, h0⟩
  case round =>
    obtain ⟨rfl, hJs⟩ := hrel
    gi_wp2
    go_end0
    exact ⟨⟨_, rfl⟩, hJs⟩

theorem back_stops (F : Fence) (n : Nat) (hF : F.fn 44) (hro : F.round = none) (hn : 1 ≤ n) (Bs : Nat) (v : Value) (w0 w : World) (l : List In) (h : isArr 4 insR w0 v l) (hw : Below w0.heap.size w0 w) (hBs : Bs < w.heap.size) (hc : w.cell? ⟨Bs, 0, none⟩ = some v) :
    SeqStopsK F n Try.prog 44 #[.pointer (some ⟨Bs, 0, none⟩)] (encE (w0 := w0) (l := l)) (keepB w0.heap.size Bs) (fun ys => ys.map (·.x) = l.reverse) (fun _ => True) l.length w := fun lp J Jx W hW _ _ hY h0 => by
  have hc' := (hW.cell (p := ⟨Bs, 0, none⟩) hBs).trans hc
  have hW0 := hw.trans (hW.mono hw.size)
  obtain ⟨a, cap, rfl, hlen, hform⟩ := isArr_form h
  by_cases hz : l = []
  · subst hz
    exact (back1_nil F n hF hro lp Bs a cap J W hc' h0).mono fun e W' ⟨he, hj⟩ => ⟨he, .inl ⟨_, rfl, hj⟩⟩
  · have hpos : 0 < l.length := List.length_pos_iff.2 hz
    have hex : ∀ i, i < l.length → ∃ q : Elem w0 l, q.i = i ∧ ∃ b off, a = some ⟨b, off, none⟩ ∧ b < w0.heap.size ∧ l.length ≤ cap ∧ cap ≤ 9223372036854775807 ∧ W.cell? ⟨b, off + i * 4, none⟩ = some (.int .i64 q.x.op) ∧ W.cell? ⟨b, off + i * 4 + 1, none⟩ = some (.string q.x.name) ∧ W.cell? ⟨b, off + i * 4 + 2, none⟩ = some (.int .i64 q.x.mode) ∧ W.cell? ⟨b, off + i * 4 + 3, none⟩ = some q.v := fun i hi => by
      obtain ⟨x, hx, _⟩ := drop_at hi
      obtain ⟨b, off, ha, hb, h1, h2, cs, _, hcs, u, rfl, hu, _⟩ := hform i x hx
      obtain ⟨c0, c1, c2, c3⟩ := four_cells hcs
      rw [← hW0.cell (p := ⟨b, off + i * 4, none⟩) hb] at c0
      rw [← hW0.cell (p := ⟨b, off + i * 4 + 1, none⟩) hb] at c1
      rw [← hW0.cell (p := ⟨b, off + i * 4 + 2, none⟩) hb] at c2
      rw [← hW0.cell (p := ⟨b, off + i * 4 + 3, none⟩) hb] at c3
      exact ⟨⟨i, x, u, hx, hu⟩, rfl, b, off, ha, hb, h1, h2, c0, c1, c2, c3⟩
    obtain ⟨q0, _⟩ := hex 0 hpos
    haveI : Inhabited (Elem w0 l) := ⟨q0⟩
    obtain ⟨f, hf⟩ := Go.Deep.choose_lt hex
    exact back1_in F n hF hro hn lp Bs w0.heap.size w0 l a cap (hlen hpos) f (fun i hi => (hf i hi).1) J Jx hY W hc' (fun i hi => (hf i hi).2) h0

theorem back_any (a : Option Addr) (len cap : Nat) (w : World) :
    Calls Try.prog 21 #[.slice a len cap] w fun e w' => e = .returned (.func (.func 44) #[] #[.pointer (some ⟨w.heap.size, 0, none⟩)]) ∧ w' = w.alloc (.cells #[.slice a len cap] 23) := by
  have hmf := mkFunc
  go_enter Try.func21, Try.ntmps21
  go_wp2_with fail
  go_ret
  exact ⟨rfl, rfl⟩
end Go.Proofs.Ytnkplfimcehnmaa
