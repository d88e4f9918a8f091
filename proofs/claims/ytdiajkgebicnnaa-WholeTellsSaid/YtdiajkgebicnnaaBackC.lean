/- slices.Backward over cycles: the contract of the iterator. -/
import Derived.Test.YtdiajkgebicnnaaTabArg
import Derived.Test.YtdiajkgebicnnaaBitWalks
import Derived.RangeFuncNested
import Derived.RangeFuncLeaves
import Derived.Shelf.Abstract
import Derived.WalkKit
import Derived.OwnWalkIn
import Derived.TacticsInMore
import Derived.LoopNIn
import Derived.LoopIn
namespace Go.Proofs.Ytdiajkgebicnnaa
open Go.RowKit Go.Shelf

attribute [local go_sem] Oper.semAt_some

/-- One of the instructions of a list, as the loop is handed it: its place, and the slice of its cycles, which reads in the world w0. -/
structure ElemC (w0 : World) (l : List Cy) where
  i : Nat
  x : Cy
  v : Value
  hx : l[i]? = some x
  hv : isArr 4 stepR w0 v x.steps
def encC {w0 : World} {l : List Cy} (q : ElemC w0 l) : Array Value := #[.int .i64 (q.i : Int), .agg #[.int .i64 q.x.bus, .int .i64 q.x.place, .int .i64 q.x.reg, q.v]]
/-- The last k of them, from the end. -/
def lastC {α : Type} (f : Nat → α) (n k : Nat) : List α := (List.range k).map fun j => f (n - 1 - j)
theorem lastC_succ {α : Type} (f : Nat → α) (n k : Nat) : lastC f n (k + 1) = lastC f n k ++ [f (n - 1 - k)] := by simp [lastC, List.range_succ]
theorem lastC_length {α : Type} (f : Nat → α) (n k : Nat) : (lastC f n k).length = k := by simp [lastC]
theorem mkFuncC (fn : Fn) (first cap : Array Value) (w : World) : (Instr.makeFunc fn first cap).run Try.prog w = .ok (.func fn first cap) w := rfl
/-- What a round that goes on keeps: what lies below n₀, and the box of the slice. -/
def keepC (n₀ Bs : Nat) (A B : World) : Prop := Below n₀ A B ∧ B.cell? ⟨Bs, 0, none⟩ = A.cell? ⟨Bs, 0, none⟩
theorem keepC_refl (n₀ Bs : Nat) (A : World) : keepC n₀ Bs A A := ⟨Below.refl _ _, rfl⟩
theorem keepC_t {n₀ Bs : Nat} {A B C : World} (h : keepC n₀ Bs A B) (k : keepC n₀ Bs B C) : keepC n₀ Bs A C := ⟨h.1.trans k.1, k.2.trans h.2⟩
theorem keepC_b {n₀ Bs : Nat} {w : World} (hn : n₀ ≤ w.heap.size) (hB : Bs < w.heap.size) (W : World) (l : Nat) (o o' : Obj) (hl : w.heap.size ≤ l) (h : W.heap[l]? = some o) (h1 : o.isCells = false) (h2 : o.isWalk = false) : keepC n₀ Bs W (W.putObj l o') := by
  refine ⟨belowK_b hn W l o o' hl h h1 h2, ?_⟩
  have e : (W.putObj l o').heap[Bs]? = W.heap[Bs]? := World.putObj_heap_other (by omega)
  simp only [World.cell?, e]

set_option maxRecDepth 100000 in
set_option maxHeartbeats 2000000 in
theorem backC1_in (F : Fence) (n : Nat) (hF : F.fn 84) (hro : F.round = none) (hn : 1 ≤ n) (lp Bs n₀ : Nat) (w0 : World) (l : List Cy) (a : Option Addr) (cap : Nat) (hcap : l.length ≤ 9223372036854775807)
    (f : Nat → ElemC w0 l) (hf : ∀ i, i < l.length → (f i).i = i)
    (J Jx : List (ElemC w0 l) → World → Prop)
    (hY : ∀ pre x W, J pre W → pre.length < l.length → YieldAt F (n - 1) Try.prog lp (encC x) W fun e W' =>
      (e = .returned (.bool true) ∧ J (pre ++ [x]) W' ∧ keepC n₀ Bs W W') ∨ (e = .returned (.bool false) ∧ Jx (pre ++ [x]) W'))
    (W : World) (hBs : W.cell? ⟨Bs, 0, none⟩ = some (.slice a l.length cap))
    (hc : ∀ i, i < l.length → ∃ b off, a = some ⟨b, off, none⟩ ∧ b < n₀ ∧ l.length ≤ cap ∧ cap ≤ 9223372036854775807 ∧ W.cell? ⟨b, off + i * 4, none⟩ = some (.int .i64 (f i).x.bus) ∧ W.cell? ⟨b, off + i * 4 + 1, none⟩ = some (.int .i64 (f i).x.place) ∧ W.cell? ⟨b, off + i * 4 + 2, none⟩ = some (.int .i64 (f i).x.reg) ∧ W.cell? ⟨b, off + i * 4 + 3, none⟩ = some (f i).v)
    (h0 : J [] W) :
    CallsIn F n Try.prog 84 #[.func (.yield lp) #[] #[], .pointer (some ⟨Bs, 0, none⟩)] W fun e W' => (∃ v, e = .returned v) ∧
      ((∃ ys, ((l = [] ∧ ys = []) ∨ ∃ f : Nat → ElemC w0 l, (∀ i, i < l.length → (f i).i = i) ∧ ys = lastC f l.length l.length) ∧ J ys W') ∨ (∃ pre, True ∧ Jx pre W')) := by
  refine callsIn_of_wp Try.func84 rfl hF ?_ hro
  simp only [Try.ntmps84, List.size_toArray, List.length_cons, List.length_nil, Nat.reduceAdd, Nat.reduceSub, Array.replicate_succ, Array.replicate_zero, List.push_toArray, List.append_toArray, List.nil_append, List.cons_append]
  gi_wp2
  gi_loopw [3] (fun i wr => ∃ r : Nat, r ≤ l.length ∧ i = .int .i64 ((r : Int) - 1) ∧ J (lastC f l.length (l.length - r)) wr ∧ keepC n₀ Bs W wr) (fun i _ => (intOf i + 1).toNat)
  case atStart => exact ⟨l.length, Nat.le_refl _, rfl, by rw [Nat.sub_self]; exact h0, keepC_refl _ _ _⟩
  case round =>
    obtain ⟨r, hr, rfl, hJs, hkx⟩ := hrel
    have hnx := hkx.1
    have hbs := hkx.2.trans hBs
    cases r with
    | zero =>
      have e : ((0 : Nat) : Int) - 1 = -1 := by omega
      simp only [e]
      rw [Nat.sub_zero] at hJs
      gi_wp2
      go_end0
      exact ⟨⟨_, rfl⟩, .inl ⟨_, .inr ⟨f, hf, rfl⟩, hJs⟩⟩
    | succ m =>
      have e : ((m + 1 : Nat) : Int) - 1 = (m : Int) := by omega
      simp only [e]
      have hm : m < l.length := by omega
      obtain ⟨b, off, rfl, hb, hcap1, hcap2, c0, c1, c2, c3⟩ := hc m hm
      rw [← hnx.cell (p := ⟨b, off + m * 4, none⟩) hb] at c0
      rw [← hnx.cell (p := ⟨b, off + m * 4 + 1, none⟩) hb] at c1
      rw [← hnx.cell (p := ⟨b, off + m * 4 + 2, none⟩) hb] at c2
      rw [← hnx.cell (p := ⟨b, off + m * 4 + 3, none⟩) hb] at c3
      obtain ⟨fn, tmps, assign, body, hy, hR⟩ := hY _ (f m) wr hJs (by rw [lastC_length]; omega)
      unfold encC at hy
      rw [hf m hm] at hy
      have e2 : lastC f l.length (l.length - (m + 1)) ++ [f m] = lastC f l.length (l.length - m) := by
        have e3 : l.length - m = (l.length - (m + 1)) + 1 := by omega
        rw [e3, lastC_succ, show l.length - 1 - (l.length - (m + 1)) = m by omega]
      gi_wp2
      refine hR.mono ?_
      rintro e W3 (⟨rfl, hJ3, hk3⟩ | ⟨rfl, hJx3⟩)
      · gi_wp2
        go_roundw
        case rel => exact ⟨m, by omega, by simp, by rw [← e2]; exact hJ3, keepC_t hkx hk3⟩
        case measure => simp [intOf]
      · gi_wp2
        refine bodyPost_ret (results_none rfl _ _ _) rfl ?_
        exact ⟨⟨_, rfl⟩, .inr ⟨_, trivial, hJx3⟩⟩

set_option maxRecDepth 100000 in
set_option maxHeartbeats 1000000 in
/-- .. where there is none: no round. -/
theorem backC1_nil (F : Fence) (n : Nat) (hF : F.fn 84) (hro : F.round = none) (lp Bs : Nat) (a : Option Addr) (cap : Nat) {α : Type} (J : List α → World → Prop) (W : World) (hBs : W.cell? ⟨Bs, 0, none⟩ = some (.slice a 0 cap)) (h0 : J [] W) :
    CallsIn F n Try.prog 84 #[.func (.yield lp) #[] #[], .pointer (some ⟨Bs, 0, none⟩)] W fun e W' => (∃ v, e = .returned v) ∧ J [] W' := by
  refine callsIn_of_wp Try.func84 rfl hF ?_ hro
  simp only [Try.ntmps84, List.size_toArray, List.length_cons, List.length_nil, Nat.reduceAdd, Nat.reduceSub, Array.replicate_succ, Array.replicate_zero, List.push_toArray, List.append_toArray, List.nil_append, List.cons_append]
  gi_wp2
  gi_loopw [3] (fun i wr => i = .int .i64 (-1) ∧ J [] wr) (fun _ _ => 0)
  case atStart => exact ⟨rfl, h0⟩
  case round =>
    obtain ⟨rfl, hJs⟩ := hrel
    gi_wp2
    go_end0
    exact ⟨⟨_, rfl⟩, hJs⟩

theorem backC_stops (F : Fence) (n : Nat) (hF : F.fn 84) (hro : F.round = none) (hn : 1 ≤ n) (Bs : Nat) (v : Value) (w0 w : World) (l : List Cy) (h : isArr 4 cycleR w0 v l) (hw : Below w0.heap.size w0 w) (hBs : Bs < w.heap.size) (hc : w.cell? ⟨Bs, 0, none⟩ = some v) :
    SeqStopsK F n Try.prog 84 #[.pointer (some ⟨Bs, 0, none⟩)] (encC (w0 := w0) (l := l)) (keepC w0.heap.size Bs) (fun ys => ((l = [] ∧ ys = []) ∨ ∃ f : Nat → ElemC w0 l, (∀ i, i < l.length → (f i).i = i) ∧ ys = lastC f l.length l.length)) (fun _ => True) l.length w := fun lp J Jx W hW _ _ hY h0 => by
  have hc' := (hW.cell (p := ⟨Bs, 0, none⟩) hBs).trans hc
  have hW0 := hw.trans (hW.mono hw.size)
  obtain ⟨a, cap, rfl, hlen, hform⟩ := isArr_form h
  by_cases hz : l = []
  · subst hz
    exact (backC1_nil F n hF hro lp Bs a cap J W hc' h0).mono fun e W' ⟨he, hj⟩ => ⟨he, .inl ⟨_, .inl ⟨rfl, rfl⟩, hj⟩⟩
  · have hpos : 0 < l.length := List.length_pos_iff.2 hz
    have hex : ∀ i, i < l.length → ∃ q : ElemC w0 l, q.i = i ∧ ∃ b off, a = some ⟨b, off, none⟩ ∧ b < w0.heap.size ∧ l.length ≤ cap ∧ cap ≤ 9223372036854775807 ∧ W.cell? ⟨b, off + i * 4, none⟩ = some (.int .i64 q.x.bus) ∧ W.cell? ⟨b, off + i * 4 + 1, none⟩ = some (.int .i64 q.x.place) ∧ W.cell? ⟨b, off + i * 4 + 2, none⟩ = some (.int .i64 q.x.reg) ∧ W.cell? ⟨b, off + i * 4 + 3, none⟩ = some q.v := fun i hi => by
      obtain ⟨x, hx, _⟩ := drop_at hi
      obtain ⟨b, off, ha, hb, h1, h2, cs, _, hcs, u, rfl, hu⟩ := hform i x hx
      obtain ⟨c0, c1, c2, c3⟩ := four_cells hcs
      rw [← hW0.cell (p := ⟨b, off + i * 4, none⟩) hb] at c0
      rw [← hW0.cell (p := ⟨b, off + i * 4 + 1, none⟩) hb] at c1
      rw [← hW0.cell (p := ⟨b, off + i * 4 + 2, none⟩) hb] at c2
      rw [← hW0.cell (p := ⟨b, off + i * 4 + 3, none⟩) hb] at c3
      exact ⟨⟨i, x, u, hx, hu⟩, rfl, b, off, ha, hb, h1, h2, c0, c1, c2, c3⟩
    obtain ⟨q0, _⟩ := hex 0 hpos
    haveI : Inhabited (ElemC w0 l) := ⟨q0⟩
    obtain ⟨f, hf⟩ := Go.Deep.choose_lt hex
    exact backC1_in F n hF hro hn lp Bs w0.heap.size w0 l a cap (hlen hpos) f (fun i hi => (hf i hi).1) J Jx hY W hc' (fun i hi => (hf i hi).2) h0

theorem backC_any (a : Option Addr) (len cap : Nat) (w : World) :
    Calls Try.prog 39 #[.slice a len cap] w fun e w' => e = .returned (.func (.func 84) #[] #[.pointer (some ⟨w.heap.size, 0, none⟩)]) ∧ w' = w.alloc (.cells #[.slice a len cap] 68) := by
  have hmf := mkFuncC
  go_enter Try.func39, Try.ntmps39
  go_wp2_with fail
  go_ret
  exact ⟨rfl, rfl⟩
end Go.Proofs.Ytdiajkgebicnnaa
