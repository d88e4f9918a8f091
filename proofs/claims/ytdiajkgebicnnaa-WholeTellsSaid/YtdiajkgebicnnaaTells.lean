/- The walk of the law WholeTells. -/
import Derived.Test.YtdiajkgebicnnaaBackC
import Derived.Test.YtdiajkgebicnnaaChecked
import Derived.Test.YtdiajkgebicnnaaContains
import Derived.Test.YtdiajkgebicnnaaWholeTms
import Derived.Below
import Derived.BigQuiet
import Derived.ChangeMaps5
import Derived.Deep.DeepCutAuto
import Derived.Deep.Draws
import Derived.Deep.MidRow
import Derived.Deep.OwnRows
import Derived.Deep.QuietTactic
import Derived.Deep.RegionHeld3
import Derived.Deep.RegionWith
import Derived.Deep.Slices
import Derived.Deep.WholeRow
import Derived.Lib.Hide
import Derived.Lib.SmallJoins
import Derived.LoopIn
import Derived.LoopNIn
import Derived.OpenShut
import Derived.OrdersHeld
import Derived.OwnWalk
import Derived.OwnWalkIn
import Derived.RangeFuncLeaves
import Derived.RangeFuncNested
import Derived.RowKit3
import Derived.Shelf.Abstract
import Derived.SizedLaws
import Derived.Sort.CutIn
import Derived.StillTactics
import Derived.StillTail
import Derived.StillTailTactics
import Derived.TacticsInMore
import Derived.WalkKit
namespace Go.Proofs.Ytdiajkgebicnnaa
open Go.RowKit Go.Shelf

attribute [local go_sem] Oper.semAt_some

theorem one_cycle (w : World) (t : TypeId) : isArr 4 cycleR (w.alloc (.cells #[.int .i64 0, .int .i64 0, .int .i64 0, .slice none 0 0] t)) (.slice (some ⟨w.heap.size, 0, none⟩) 1 1) [⟨0, 0, 0, []⟩] := by
  have hb := rowB_new w t #[.int .i64 0, .int .i64 0, .int .i64 0, .slice none 0 0]
  refine .inr ⟨w.heap.size, 0, 1, rfl, rowB_lt hb, Nat.le_refl _, by decide, ?_⟩
  intro i x hx
  cases i with
  | succ i => simp at hx
  | zero =>
    obtain rfl : (⟨0, 0, 0, []⟩ : Cy) = x := by simpa using hx
    refine ⟨[.int .i64 0, .int .i64 0, .int .i64 0, .slice none 0 0], rfl, ?_, _, rfl, .inl ⟨_, _, rfl, rfl⟩⟩
    intro j hj
    have : j = 0 ∨ j = 1 ∨ j = 2 ∨ j = 3 := by omega
    rcases this with rfl | rfl | rfl | rfl <;> exact rowB_cell hb _ rfl
set_option maxRecDepth 100000 in
theorem wholes_tells (w : World) : Calls Try.prog 38 #[] w fun e w' => e = .returned (.bool true) ∧ Below w.heap.size w w' := by
  have h1 := one_cycle w 84
  have hb := box_below w (.cells #[.int .i64 0, .int .i64 0, .int .i64 0, .slice none 0 0] 84)
  have HT := Lib.hid (times_any 0 ⟨#[]⟩ 0 _ _ _ h1 (by decide))
  clear h1
  go_enter Try.func38, Try.ntmps38
  go_wp2_with (go_at_call 41; refine HT.out.mono ?_; rintro e w1 ⟨rfl, hb1⟩)
  go_ret
  exact ⟨rfl, hb.trans (hb1.mono hb.size)⟩

/-- What the law's own loop has found: where the last end may lie; whether something changes. -/
def lstA (n : Nat) (l : List (Nat × Cy)) : Nat := l.foldl (fun a q => if hasIf q.2.steps = true then q.1 + 2 else a) (n + 1)
def tchA (reg : Int) (l : List (Nat × Cy)) : Bool := l.foldl (fun a q => a || cyT reg q.2) false
theorem lstA_snoc (n : Nat) (l : List (Nat × Cy)) (q : Nat × Cy) : lstA n (l ++ [q]) = if hasIf q.2.steps = true then q.1 + 2 else lstA n l := by simp [lstA]
theorem tchA_snoc (reg : Int) (l : List (Nat × Cy)) (q : Nat × Cy) : tchA reg (l ++ [q]) = (tchA reg l || cyT reg q.2) := by simp [tchA]
def tagC {w0 : World} {l : List Cy} (ys : List (ElemC w0 l)) : List (Nat × Cy) := ys.map fun q => (q.i, q.x)
theorem tagC_snoc {w0 : World} {l : List Cy} (ys : List (ElemC w0 l)) (q : ElemC w0 l) : tagC (ys ++ [q]) = tagC ys ++ [(q.i, q.x)] := by simp [tagC]
theorem drop_elem {w0 : World} {l : List Cy} (f : Nat → ElemC w0 l) (hf : ∀ i, i < l.length → (f i).i = i) (i : Nat) (hi : i < l.length) : l.drop i = (f i).x :: l.drop (i + 1) := by
  have h := (f i).hx
  rw [hf i hi, List.getElem?_eq_getElem hi] at h
  rw [List.drop_eq_getElem_cons hi, Option.some.inj h]
theorem lstA_upto {w0 : World} {l : List Cy} (f : Nat → ElemC w0 l) (hf : ∀ i, i < l.length → (f i).i = i) : ∀ k, k ≤ l.length → lstA l.length (tagC (lastC f l.length k)) = leastN (l.drop (l.length - k)) + (l.length - k) + 1
  | 0, _ => by simp [lstA, tagC, lastC, leastN]
  | k + 1, hk => by
    rw [lastC_succ, tagC_snoc, lstA_snoc, lstA_upto f hf k (by omega)]
    rw [show l.length - (k + 1) = l.length - 1 - k by omega, drop_elem f hf (l.length - 1 - k) (by omega), show l.length - 1 - k + 1 = l.length - k by omega, leastN, hf _ (by omega)]
    dsimp only
    split <;> omega
theorem tchA_upto {w0 : World} {l : List Cy} (reg : Int) (f : Nat → ElemC w0 l) (hf : ∀ i, i < l.length → (f i).i = i) : ∀ k, k ≤ l.length → tchA reg (tagC (lastC f l.length k)) = touchB reg (l.drop (l.length - k))
  | 0, _ => by simp [tchA, tagC, lastC, touchB]
  | k + 1, hk => by
    rw [lastC_succ, tagC_snoc, tchA_snoc, tchA_upto reg f hf k (by omega)]
    rw [show l.length - (k + 1) = l.length - 1 - k by omega, drop_elem f hf (l.length - 1 - k) (by omega), show l.length - 1 - k + 1 = l.length - k by omega]
    unfold touchB
    rw [List.any_cons, Bool.or_comm]
theorem tells_all {w0 : World} {l : List Cy} (reg : Int) {ys : List (ElemC w0 l)} (h : (l = [] ∧ ys = []) ∨ ∃ f : Nat → ElemC w0 l, (∀ i, i < l.length → (f i).i = i) ∧ ys = lastC f l.length l.length) :
    lstA l.length (tagC ys) = leastN l + 1 ∧ tchA reg (tagC ys) = touchB reg l := by
  rcases h with ⟨rfl, rfl⟩ | ⟨f, hf, rfl⟩
  · exact ⟨rfl, rfl⟩
  · have h1 := lstA_upto f hf l.length (Nat.le_refl _)
    have h2 := tchA_upto reg f hf l.length (Nat.le_refl _)
    rw [Nat.sub_self, List.drop_zero] at h1 h2
    exact ⟨by omega, h2⟩

/-- Between two rounds: the two boxes that the loop writes. -/
def loopC (s : Nat) (reg : Int) (WB : World) {w0 : World} {l : List Cy} (pre : List (ElemC w0 l)) (W : World) : Prop :=
  (rowB W s 3 #[.int .i64 ((lstA l.length (tagC pre) : Nat) : Int)] ∧ rowB W (s + 1) 4 #[.bool (tchA reg (tagC pre))]) ∧ Below s WB W
theorem heap_ownC {B b : Nat} {W W' : World} {row : Option Nat} {c : Array Value} {t : TypeId} (h : rowB W b t c) (hg : W.grownBy W' row) (hr : ∀ r, row = some r → B ≤ r ∧ ∃ o : Obj, W.heap[r]? = some o ∧ o.isCells = false) : rowB W' b t c := by
  unfold rowB at h ⊢
  rw [hg.block b (Array.getElem?_eq_some_iff.1 h).1 (by
    intro e
    obtain ⟨_, o, ho, hc⟩ := hr b e.symm
    rw [h] at ho
    cases ho
    cases hc)]
  exact h
theorem loopC_own (s : Nat) (reg : Int) (w0 WB : World) (l : List Cy) {B : Nat} (hs : s ≤ WB.heap.size) (hB : s ≤ B) : OwnFrom B (loopC s reg WB (w0 := w0) (l := l)) :=
  OwnFrom.and (fun _ _ _ _ ⟨h1, h2⟩ hg hr => ⟨heap_ownC h1 hg hr, heap_ownC h2 hg hr⟩) (ownFrom_below hs hB)
theorem loopC_alloc {s : Nat} {reg : Int} {WB w0 : World} {l : List Cy} {pre : List (ElemC w0 l)} {W : World} (h : loopC s reg WB pre W) (hs : s ≤ WB.heap.size) (o : Obj) : loopC s reg WB pre (W.alloc o) := by
  obtain ⟨⟨h1, h2⟩, h5⟩ := h
  exact ⟨⟨rowB_below h1 (box_below _ _) (rowB_lt h1), rowB_below h2 (box_below _ _) (rowB_lt h2)⟩, h5.alloc (Nat.le_trans hs h5.size) o⟩
theorem keepC_alloc {n₀ Bs : Nat} {W : World} (hn : n₀ ≤ W.heap.size) (hB : Bs < W.heap.size) (o : Obj) : keepC n₀ Bs W (W.alloc o) := by
  refine ⟨(Below.refl _ _).alloc hn o, ?_⟩
  have e : (W.alloc o).heap[Bs]? = W.heap[Bs]? := by
    show (W.heap.push o)[Bs]? = _
    rw [Array.getElem?_push_lt hB, Array.getElem?_eq_getElem hB]
  simp only [World.cell?, e]
theorem keepC_set {n₀ Bs g : Nat} {W : World} (hn : n₀ ≤ g) (hB : Bs ≠ g) (k : Nat) (v : Value) : keepC n₀ Bs W (W.setCell ⟨g, k, none⟩ v) := by
  refine ⟨(Below.refl _ _).setCell (p := ⟨g, k, none⟩) hn v, ?_⟩
  have e : (W.setCell ⟨g, k, none⟩ v).heap[Bs]? = W.heap[Bs]? := Below.heap_setCell W ⟨g, k, none⟩ v Bs (by show Bs ≠ g; exact hB)
  simp only [World.cell?, e]

theorem cell_far {w : World} {p : Addr} {v : Value} (h : w.cell? p = some v) (hp : p.block < w.heap.size) (o : Obj) : (w.alloc o).cell? p = some v := by
  rw [(box_below w o).cell hp]
  exact h
/-- In a round: the two boxes, and what the loop around is owed. -/
structure tellW (s : Nat) (WB W wr : World) (L : Nat) (T : Bool) : Prop where
  hl : rowB wr s 3 #[.int .i64 (L : Int)]
  ht : rowB wr (s + 1) 4 #[.bool T]
  kp : keepC s (s + 2) W wr
  ko : KeepsOthers W wr
  bl : Below s WB wr
  sz : s + 3 ≤ wr.heap.size
section
variable {s : Nat} {WB W wr : World} {L : Nat} {T : Bool}
theorem tellW.alloc (h : tellW s WB W wr L T) (o : Obj) : tellW s WB W (wr.alloc o) L T :=
  have hz := h.sz
  ⟨rowB_below h.hl (box_below _ _) (rowB_lt h.hl), rowB_below h.ht (box_below _ _) (rowB_lt h.ht), keepC_t h.kp (keepC_alloc (by omega) (by omega) o), h.ko.trans (KeepsOthers.alloc _ _), h.bl.alloc (by omega) o, by rw [World.size_alloc]; omega⟩
theorem tellW.setL (h : tellW s WB W wr L T) (L' : Nat) : tellW s WB W (wr.setCell ⟨s, 0, none⟩ (.int .i64 (L' : Int))) L' T :=
  ⟨rowB_set h.hl 0 _, rowB_other h.ht _ _ (by show s ≠ s + 1; omega), keepC_t h.kp (keepC_set (Nat.le_refl _) (by omega) _ _), h.ko.trans (KeepsOthers.setCell _ _ _), h.bl.setCell (p := ⟨s, 0, none⟩) (Nat.le_refl _) _, by rw [World.size_setCell]; exact h.sz⟩
theorem tellW.setT (h : tellW s WB W wr L T) (T' : Bool) : tellW s WB W (wr.setCell ⟨s + 1, 0, none⟩ (.bool T')) L T' :=
  ⟨rowB_other h.hl _ _ (by show s + 1 ≠ s; omega), rowB_set h.ht 0 _, keepC_t h.kp (keepC_set (Nat.le_succ _) (by omega) _ _), h.ko.trans (KeepsOthers.setCell _ _ _), h.bl.setCell (p := ⟨s + 1, 0, none⟩) (Nat.le_succ _) _, by rw [World.size_setCell]; exact h.sz⟩
theorem tellW.eqT (h : tellW s WB W wr L T) {T' : Bool} (e : T = T') : tellW s WB W wr L T' := e ▸ h
theorem tellW.start (h1 : rowB W s 3 #[.int .i64 (L : Int)]) (h2 : rowB W (s + 1) 4 #[.bool T]) (h3 : Below s WB W) (h4 : s + 3 ≤ W.heap.size) : tellW s WB W W L T :=
  ⟨h1, h2, keepC_refl _ _ _, KeepsOthers.refl _, h3, h4⟩
end
def stepsL (qs : List St) (i n k : Nat) : Nat := if (qs.take k).any ifB = true then i + 2 else n
def stepsT (reg : Int) (T : Bool) (qs : List St) (k : Nat) : Bool := T || (qs.take k).any (stepT reg)
theorem any_take {α : Type} (p : α → Bool) (l : List α) (k : Nat) (x : α) (h : l[k]? = some x) : (l.take (k + 1)).any p = ((l.take k).any p || p x) := by
  rw [List.take_add_one, List.any_append, h]
  simp

theorem stepsL_next (qs : List St) (i n k : Nat) (x : St) (h : qs[k]? = some x) : stepsL qs i n (k + 1) = if ifB x = true then i + 2 else stepsL qs i n k := by
  unfold stepsL
  rw [any_take _ _ _ _ h]; cases (qs.take k).any ifB <;> cases ifB x <;> rfl
theorem stepsT_next (reg : Int) (T : Bool) (qs : List St) (k : Nat) (x : St) (h : qs[k]? = some x) : stepsT reg T qs (k + 1) = (stepsT reg T qs k || stepT reg x) := by
  unfold stepsT
  rw [any_take _ _ _ _ h, Bool.or_assoc]
theorem cellsC4 {w : World} {g : Nat} {t : TypeId} {x0 x1 x2 x3 : Value} (h : rowB w g t #[x0, x1, x2, x3]) :
    w.cell? ⟨g, 0, none⟩ = some x0 ∧ w.cell? ⟨g, 1, none⟩ = some x1 ∧ w.cell? ⟨g, 2, none⟩ = some x2 ∧ w.cell? ⟨g, 3, none⟩ = some x3 :=
  ⟨rowB_cell h 0 rfl, rowB_cell h 1 rfl, rowB_cell h 2 rfl, rowB_cell h 3 rfl⟩
theorem keep_belowC {w w' : World} {g B : Nat} {o : Obj} (h : w.heap[g]? = some o) (hb : Below B w w') (hB : w.heap.size ≤ B) : w'.heap[g]? = some o := by
  rw [hb.block g (Nat.lt_of_lt_of_le (Array.getElem?_eq_some_iff.1 h).1 hB)]; exact h
theorem pickT {a b c d : Prop} {w0 wp : World} (h : a ∧ b ∧ c ∧ d ∧ Below w0.heap.size w0 wp) : Below w0.heap.size w0 wp := h.2.2.2.2
set_option maxRecDepth 100000 in
set_option maxHeartbeats 4000000 in
theorem wholeTells_walk (op : Int) (name : ByteArray) (mode reg : Int) (v : Value) (l : List Cy) (w : World) (h : isArr 4 cycleR w v l) (hlen : l.length ≤ 4611686018427387904) :
    Calls Try.prog 9 #[.agg #[.int .i64 op, .string name, .int .i64 mode, v], .int .i64 reg] w fun e w' => e = .returned (.bool true) ∧ Below w.heap.size w w' := by
  obtain ⟨a, cap, rfl, _, _⟩ := isArr_form h
  obtain ⟨w1, hw1⟩ : ∃ w1, w1 = (w.alloc (.cells #[.int .i64 op, .string name, .int .i64 mode, .slice a l.length cap] 78)).alloc (.cells #[.int .i64 reg] 3) := ⟨_, rfl⟩
  obtain ⟨kx, kr, hA, hz1⟩ : rowB w1 w.heap.size 78 #[.int .i64 op, .string name, .int .i64 mode, .slice a l.length cap] ∧ rowB w1 (w.heap.size + 1) 3 #[.int .i64 reg] ∧ Below w.heap.size w w1 ∧ w1.heap.size = w.heap.size + 2 := by
    rw [hw1]
    have e1 := rowB_new w 78 #[.int .i64 op, .string name, .int .i64 mode, .slice a l.length cap]
    have e2 := rowB_new (w.alloc (.cells #[.int .i64 op, .string name, .int .i64 mode, .slice a l.length cap] 78)) 3 #[.int .i64 reg]
    rw [World.size_alloc] at e2
    exact ⟨rowB_below e1 (box_below _ _) (rowB_lt e1), e2, box_below _ _ |>.trans ((box_below _ _).mono (by rw [World.size_alloc]; omega)), by rw [World.size_alloc, World.size_alloc]⟩
  have hL := isArr_below cycle_keeps h hA (Nat.le_refl _)
  refine (callsIn_wide (n := 6)).1 ?_
  refine callsIn_of_wp_marks Try.func9 rfl trivial ?_ rfl
  simp only [Try.ntmps9, List.size_toArray, List.length_cons, List.length_nil, Nat.reduceAdd, Nat.reduceSub, Array.replicate_succ, Array.replicate_zero, List.push_toArray, List.append_toArray, List.nil_append, List.cons_append]
  refine wpIn_wide.2 ?_
  have HA := Lib.hid hA
  have HL := Lib.hid hL
  have HW1 := Lib.hid hw1
  clear hA h hw1 hL
  go_upto_region 1 with fail
  rw [← HW1.out]
  clear HW1
  go_upto_region 3 with (go_at_call 38; refine (wholes_tells _).mono ?_; rintro e wa ⟨rfl, hba⟩)
  have kx := rowB_below kx hba (rowB_lt kx)
  have kr := rowB_below kr hba (rowB_lt kr)
  have hl0 : wa.cell? ⟨w.heap.size, 3, none⟩ = some (.slice a l.length cap) := rowB_cell kx 3 rfl
  have hza := hba.size
  have hwa := HA.out.trans (hba.mono HA.out.size)
  have HLa := Lib.hid (isArr_below cycle_keeps HL.out hba (Nat.le_refl _))
  clear HL HA hba
  go_upto_region 5 with fail
  obtain ⟨W0, hW0⟩ : ∃ W0, W0 = (wa.alloc (.cells #[.int .i64 ((l.length : Int) + 1)] 3)).alloc (.cells #[.bool false] 4) := ⟨_, rfl⟩
  rw [← hW0]
  obtain ⟨k0, k1, hb0, hsz0⟩ : rowB W0 wa.heap.size 3 #[.int .i64 ((l.length : Int) + 1)] ∧ rowB W0 (wa.heap.size + 1) 4 #[.bool false] ∧ Below wa.heap.size wa W0 ∧ W0.heap.size = wa.heap.size + 2 := by
    rw [hW0]
    have e1 := rowB_new wa 3 #[.int .i64 ((l.length : Int) + 1)]
    have e2 := rowB_new (wa.alloc (.cells #[.int .i64 ((l.length : Int) + 1)] 3)) 4 #[.bool false]
    rw [World.size_alloc] at e2
    exact ⟨rowB_below e1 (box_below _ _) (rowB_lt e1), e2, box_below _ _ |>.trans ((box_below _ _).mono (by rw [World.size_alloc]; omega)), by rw [World.size_alloc, World.size_alloc]⟩
  clear hW0
  have kx0 := rowB_below kx hb0 (rowB_lt kx)
  have kr0 := rowB_below kr hb0 (rowB_lt kr)
  have dl := rowB_cell kx0 3 rfl
  dsimp only [List.getElem_toArray, List.getElem_cons_succ, List.getElem_cons_zero] at dl
  have hwl : w.heap.size + 1 < wa.heap.size := by omega
  generalize hs : wa.heap.size = s at *
  go_wp2_with (go_at_call 39; refine (backC_any _ _ _ _).mono ?_; rintro e w' ⟨rfl, rfl⟩)
  refine (wpIn_wide (n := 6)).1 ?_
  obtain ⟨WB, hWB⟩ : ∃ WB, WB = W0.alloc (.cells #[.slice a l.length cap] 68) := ⟨_, rfl⟩
  have hbB : Below s W0 WB := by rw [hWB]; exact (Below.refl _ _).alloc (by omega) _
  have kB : rowB WB (s + 2) 68 #[.slice a l.length cap] := by rw [hWB, ← hsz0]; exact rowB_new W0 _ _
  have hszB : WB.heap.size = s + 3 := by rw [hWB, World.size_alloc, hsz0]
  have hI0 : loopC s reg WB (l := l) (w0 := wa) [] WB := by
    rw [hWB]
    exact ⟨⟨rowB_below k0 (box_below _ _) (rowB_lt k0), rowB_below k1 (box_below _ _) (rowB_lt k1)⟩, Below.refl _ _⟩
  have hcB := rowB_cell kB 0 rfl
  have kxB := rowB_below kx0 hbB (by omega)
  have krB := rowB_below kr0 hbB (by omega)
  rw [← hWB]
  clear hWB
  refine wpIn_rangeFunc_ownH (F := Fence.wide) rfl (by omega) (gf := 84) (lb := #[.pointer (some ⟨s + 2, 0, none⟩)]) rfl trivial (enters_of Try.func84 (by kernel_rfl) rfl)
    (backC_stops Fence.wide 5 trivial rfl (by omega) (s + 2) _ wa WB l HLa.out (by rw [hs]; exact hb0.trans hbB) (by omega) hcB) keepC_t (keepC_b (by omega) (by omega)) (Below.refl _ _) (fun _ => rfl)
    (loopC s reg WB) (fun _ _ _ => False) (loopC_own s reg wa WB l (by omega) (by omega)) (fun _ _ _ _ _ h _ _ => h) hI0
    (fun q a' W => ∃ Bx, s + 3 ≤ Bx ∧ rowB W Bx 84 #[.int .i64 q.x.bus, .int .i64 q.x.place, .int .i64 q.x.reg, q.v] ∧ a' = { tmps := #[.agg #[.int .i64 op, .string name, .int .i64 mode, .slice a l.length cap], .int .i64 reg, .pointer (some ⟨w.heap.size, 0, none⟩), .pointer (some ⟨w.heap.size + 1, 0, none⟩), .bool false, .pointer (some ⟨s, 0, none⟩), .pointer (some ⟨s + 1, 0, none⟩), .int .i64 (q.i : Int), .pointer (some ⟨Bx, 0, none⟩), undef, undef, undef, undef, undef, undef, undef, undef, .bool true, .bool false, .pointer (some ⟨w.heap.size, 3, none⟩), .slice a l.length cap, .int .i64 (l.length : Int), .int .i64 ((l.length : Int) + 1), .pointer (some ⟨w.heap.size, 3, none⟩), .slice a l.length cap, .func (.func 84) #[] #[.pointer (some ⟨s + 2, 0, none⟩)], .int .i64 (q.i : Int), .agg #[.int .i64 q.x.bus, .int .i64 q.x.place, .int .i64 q.x.reg, q.v], undef, undef, undef, undef, undef, undef, undef, undef, undef, undef, undef, undef, undef, undef, undef, undef, undef, undef, undef, undef, undef, undef, undef, undef, undef, undef, undef, undef, undef, undef, undef, undef, undef, undef, undef, undef, undef, undef, undef, undef, undef, undef, undef, undef, undef, undef, undef, undef, undef, undef, undef, undef, undef, undef, undef, undef, undef, undef, undef, undef, undef, undef, undef, undef, undef, undef, undef, undef, undef, undef, undef, undef, undef, undef, undef, undef, undef, undef, undef, undef, undef, undef, undef, undef, undef, undef, undef, undef, undef, undef, undef, undef, undef, undef, undef, undef, undef, undef, undef, undef, undef, undef, undef, undef, undef, undef, undef, undef, undef, undef, undef, undef, undef, undef, undef], defers := [] })
    (fun q a' => fun _ W W' row ⟨Bx, h1, h2, h3⟩ hg hr => ⟨Bx, h1, heap_ownC h2 hg hr, h3⟩) ?assign ?body ?done ?stop
  case assign =>
    rintro lp pre ⟨qi, qx, qv, hqx, hqv⟩ W K hI hK
    obtain ⟨ta, tcap, rfl, _, _⟩ := isArr_form hqv
    have hBW := hI.2
    have hsz := hBW.size
    simp only [encC]
    gi_wp2
    exact hK _ _ ((KeepsOthers.alloc _ _).from _) (keepC_alloc (by omega) (by omega) _) (loopC_alloc hI (by omega) _) ⟨W.heap.size, by omega, heap_alloc_new W _, rfl⟩
  case body =>
    rintro lp pre ⟨qi, qx, qv, hqx, hqv⟩ a' W hl ⟨r, hr⟩ hI ⟨Bx, hBx, hbox, rfl⟩ hlt
    dsimp only at hbox ⊢
    obtain ⟨⟨i1, i2⟩, hBW⟩ := hI
    have hsz := hBW.size
    have hqlt : qi < l.length := (List.getElem?_eq_some_iff.1 hqx).1
    have krW := rowB_below krB hBW (by omega)
    have HQ := Lib.hid hqv
    obtain ⟨ta, tcap, rfl, _, _⟩ := isArr_form hqv
    obtain ⟨LST, hLST⟩ : ∃ L, L = lstA l.length (tagC pre) := ⟨_, rfl⟩
    obtain ⟨TCH, hTCH⟩ : ∃ T, T = tchA reg (tagC pre) := ⟨_, rfl⟩
    rw [← hLST] at i1
    rw [← hTCH] at i2
    have HLST := Lib.hid hLST
    have HTCH := Lib.hid hTCH
    clear hLST hTCH
    obtain ⟨qb, qp, qr, qs⟩ := qx
    dsimp only at hbox HQ ⊢
    have b0 := rowB_cell hbox 0 rfl
    have b1 := rowB_cell hbox 1 rfl
    have b2 := rowB_cell hbox 2 rfl
    have b3 := rowB_cell hbox 3 rfl
    have r0 := rowB_cell krW 0 rfl
    dsimp only [List.getElem_toArray, List.getElem_cons_succ, List.getElem_cons_zero] at b0 b1 b2 b3 r0
    obtain ⟨D, hD⟩ : ∃ D, D = (reg == 3 && qb != 0 && (qp == 4 || qp == 5)) := ⟨_, rfl⟩
    have HD := Lib.hid hD
    clear hD
    gi_upto_region 8 with fail
    gi_cut [9] from 28 (fun s9 wx => s9 = .bool D ∧ wx = W)
    case first =>
      cases t1 : (reg == 3) <;> cases t2 : (qb != 0) <;> cases t3 : (qp == 4) <;> cases t4 : (qp == 5)
      all_goals
        gi_wp2
        gi_meet
        case rel => exact ⟨by rw [HD.out, t1, t2, t3, t4]; rfl, rfl⟩
    case rest =>
      obtain ⟨rfl, hwc⟩ := hcut
      have hwc := hwc.symm
      subst hwc
      have hS := tellW.start i1 i2 hBW (by omega)
      obtain ⟨T1, hT1⟩ : ∃ T, T = (TCH || busT reg ⟨qb, qp, qr, qs⟩) := ⟨_, rfl⟩
      have HT1 := Lib.hid hT1
      clear hT1
      have e2 := rowB_cell i2 0 rfl
      dsimp only [List.getElem_toArray, List.getElem_cons_succ, List.getElem_cons_zero] at e2
      have f2 := rowB_free i2 0
      gi_upto_region 9 with fail
      gi_cut [] from 45 (fun wx => wx = W.setCell ⟨s + 1, 0, none⟩ (.bool T1))
      case first =>
        have hD := HD.out
        cases TCH <;> cases D <;> cases t1 : (qb == 1) <;> cases t2 : (qr == reg)
        all_goals
          have hT := HT1.out
          unfold busT at hT
          dsimp only at hT
          rw [t1, t2, ← hD] at hT
          simp only [Bool.or_true, Bool.or_false, Bool.and_true, Bool.and_false] at hT
          clear hD
          subst hT
          gi_wp2
          gi_meet
          case rel => rfl
      case rest =>
        have hS1 := hS.setT T1
        rw [← hcut] at hS1
        have hbox1 : rowB wc Bx 84 #[.int .i64 qb, .int .i64 qp, .int .i64 qr, .slice ta qs.length tcap] := by rw [hcut]; exact rowB_other hbox _ _ (by show s + 1 ≠ Bx; omega)
        clear hcut
        have hLsz := hS1.sz
        have b3 := rowB_cell hbox1 3 rfl
        dsimp only [List.getElem_toArray, List.getElem_cons_succ, List.getElem_cons_zero] at b3
        obtain ⟨a2, c2, eq2, hlq, hform⟩ := isArr_form HQ.out
        obtain ⟨rfl, rfl⟩ : ta = a2 ∧ tcap = c2 := by simpa using eq2
        have hql : qs.length ≤ 9223372036854775807 := by
          rcases Nat.eq_zero_or_pos qs.length with h0 | h0
          · omega
          · exact hlq h0
        have hab : Below s wa WB := hb0.trans hbB
        have HF := Lib.hid hform
        clear hform hlq eq2
        gi_upto_region 10 with fail
        generalize wc = V1 at *
        gi_wp2
        gi_loopw [63] (fun i wr => ∃ k : Nat, k ≤ qs.length ∧ i = .int .i64 k ∧ tellW s WB W wr (stepsL qs qi LST k) (stepsT reg T1 qs k)) (fun i _ => qs.length - (intOf i).toNat)
        case atStart => exact ⟨0, Nat.zero_le _, rfl, by simpa [stepsL, stepsT] using hS1⟩
        case round =>
          obtain ⟨k, hk, rfl, hR⟩ := hrel
          by_cases hlt2 : k < qs.length
          · obtain ⟨x, hx, _⟩ := drop_at hlt2
            obtain ⟨b, off, rfl, hb, hcap, hcap2, cs, _, hcs, rfl⟩ := HF.out k x hx
            obtain ⟨c0, c1, c2, c3⟩ := four_cells hcs
            have hwr := hab.trans hR.bl
            rw [hs] at hb
            rw [← hwr.cell (p := ⟨b, off + k * 4, none⟩) hb] at c0
            rw [← hwr.cell (p := ⟨b, off + k * 4 + 1, none⟩) hb] at c1
            rw [← hwr.cell (p := ⟨b, off + k * 4 + 2, none⟩) hb] at c2
            rw [← hwr.cell (p := ⟨b, off + k * 4 + 3, none⟩) hb] at c3
            have hnl := stepsL_next qs qi LST k x hx
            have hnt := stepsT_next reg T1 qs k x hx
            obtain ⟨Lk, hLk⟩ : ∃ L, L = stepsL qs qi LST k := ⟨_, rfl⟩
            obtain ⟨Tk, hTk⟩ : ∃ T, T = stepsT reg T1 qs k := ⟨_, rfl⟩
            rw [← hLk] at hR hnl
            rw [← hTk] at hR hnt
            have HNL := Lib.hid hnl
            have HNT := Lib.hid hnt
            clear hnl hnt
            clear hLk hTk hcs hx
            obtain ⟨d, st, sf, sn⟩ := x
            dsimp only at c0 c1 c2 c3
            gi_upto_region 13 with fail
            have hg := hR.sz
            have hR2 := hR.alloc (.cells #[.int .i64 d, .int .i64 st, .int .i64 sf, .int .i64 sn] 86)
            have hX := rowB_new wr 86 #[.int .i64 d, .int .i64 st, .int .i64 sf, .int .i64 sn]
            generalize (wr.alloc (.cells #[.int .i64 d, .int .i64 st, .int .i64 sf, .int .i64 sn] 86)) = V2 at *
            generalize wr.heap.size = g at *
            clear hR c0 c1 c2 c3
            have d0 := rowB_cell hX 0 rfl
            dsimp only [List.getElem_toArray, List.getElem_cons_succ, List.getElem_cons_zero] at d0
            gi_upto_if 69 with fail
            gi_cut [120, 121, 122, 123, 124, 125, 126, 127, 128, 129, 130, 131, 132, 133, 134, 135, 136, 137, 138, 139, 140, 141, 142] from 69 (fun v120 v121 v122 v123 v124 v125 v126 v127 v128 v129 v130 v131 v132 v133 v134 v135 v136 v137 v138 v139 v140 v141 v142 wx => (v120 = u120 ∧ v121 = u121 ∧ v122 = u122 ∧ v123 = u123 ∧ v124 = u124 ∧ v125 = u125 ∧ v126 = u126 ∧ v127 = u127 ∧ v128 = u128 ∧ v129 = u129 ∧ v130 = u130 ∧ v131 = u131 ∧ v132 = u132 ∧ v133 = u133 ∧ v134 = u134 ∧ v135 = u135 ∧ v136 = u136 ∧ v137 = u137 ∧ v138 = u138 ∧ v139 = u139 ∧ v140 = u140 ∧ v141 = u141 ∧ v142 = u142) ∧ tellW s WB W wx (if ifB ⟨d, st, sf, sn⟩ = true then qi + 2 else Lk) Tk ∧ rowB wx g 86 #[.int .i64 d, .int .i64 st, .int .i64 sf, .int .i64 sn])
            case first =>
              have l0 := rowB_cell hR2.hl 0 rfl
              have l1 := rowB_free hR2.hl 0
              cases td : (d == 24)
              · gi_wp2
                gi_meet
                case rel => exact ⟨⟨rfl, rfl, rfl, rfl, rfl, rfl, rfl, rfl, rfl, rfl, rfl, rfl, rfl, rfl, rfl, rfl, rfl, rfl, rfl, rfl, rfl, rfl, rfl⟩, by rw [show ifB ⟨d, st, sf, sn⟩ = false from td]; exact hR2, hX⟩
              · gi_wp2
                gi_meet
                case rel => exact ⟨⟨rfl, rfl, rfl, rfl, rfl, rfl, rfl, rfl, rfl, rfl, rfl, rfl, rfl, rfl, rfl, rfl, rfl, rfl, rfl, rfl, rfl, rfl, rfl⟩, by rw [show ifB ⟨d, st, sf, sn⟩ = true from td]; exact hR2.setL (qi + 2), rowB_other hX _ _ (by show s ≠ g; omega)⟩
            case rest =>
              clear hR2 hX d0
              obtain ⟨⟨rfl, rfl, rfl, rfl, rfl, rfl, rfl, rfl, rfl, rfl, rfl, rfl, rfl, rfl, rfl, rfl, rfl, rfl, rfl, rfl, rfl, rfl, rfl⟩, hR3, hX3⟩ := hcut
              generalize wc = V3 at *
              have d0 := rowB_cell hX3 0 rfl
              dsimp only [List.getElem_toArray, List.getElem_cons_succ, List.getElem_cons_zero] at d0
              have d0 := (cell_far d0 (rowB_lt hX3) (.cells #[.int .i64 0, .int .i64 24, .int .i64 3, .int .i64 6, .int .i64 16, .int .i64 17] 3))
              gi_upto_region 16 with (refine ⟨trivial, ?_⟩; gi_at_call 40; refine (CallsIn.inRound lp (callsIn_wide.2 (puts6_any _ _ _))).mono ?_; rintro e w' ⟨rfl, rfl⟩)
              have hR4 := hR3.alloc (.cells #[.int .i64 0, .int .i64 24, .int .i64 3, .int .i64 6, .int .i64 16, .int .i64 17] 3)
              have hX4 := rowB_alloc hX3 (.cells #[.int .i64 0, .int .i64 24, .int .i64 3, .int .i64 6, .int .i64 16, .int .i64 17] 3)
              generalize (V3.alloc (.cells #[.int .i64 0, .int .i64 24, .int .i64 3, .int .i64 6, .int .i64 16, .int .i64 17] 3)) = V4 at *
              clear hR3 hX3 d0
              have d0 := rowB_cell hX4 0 rfl
              dsimp only [List.getElem_toArray, List.getElem_cons_succ, List.getElem_cons_zero] at d0
              have d0 := (cell_far d0 (rowB_lt hX4) (.cells #[.int .i64 3, .int .i64 6, .int .i64 16, .int .i64 17, .int .i64 4, .int .i64 5, .int .i64 7, .int .i64 8, .int .i64 9, .int .i64 12, .int .i64 13, .int .i64 14, .int .i64 15] 3))
              gi_upto_region 17 with (refine ⟨trivial, ?_⟩; gi_at_call 40; refine (CallsIn.inRound lp (callsIn_wide.2 (flags13_any _ _ _))).mono ?_; rintro e w' ⟨rfl, rfl⟩)
              have hR5 := hR4.alloc (.cells #[.int .i64 3, .int .i64 6, .int .i64 16, .int .i64 17, .int .i64 4, .int .i64 5, .int .i64 7, .int .i64 8, .int .i64 9, .int .i64 12, .int .i64 13, .int .i64 14, .int .i64 15] 3)
              have hX5 := rowB_alloc hX4 (.cells #[.int .i64 3, .int .i64 6, .int .i64 16, .int .i64 17, .int .i64 4, .int .i64 5, .int .i64 7, .int .i64 8, .int .i64 9, .int .i64 12, .int .i64 13, .int .i64 14, .int .i64 15] 3)
              generalize (V4.alloc (.cells #[.int .i64 3, .int .i64 6, .int .i64 16, .int .i64 17, .int .i64 4, .int .i64 5, .int .i64 7, .int .i64 8, .int .i64 9, .int .i64 12, .int .i64 13, .int .i64 14, .int .i64 15] 3)) = V5 at *
              clear hR4 hX4 d0
              have d0 := rowB_cell hX5 0 rfl
              have d1 := rowB_cell hX5 1 rfl
              dsimp only [List.getElem_toArray, List.getElem_cons_succ, List.getElem_cons_zero] at d0 d1
              obtain ⟨C, hC⟩ : ∃ C, C = ((d == 10 || d == 11) && !(st == 7 || st == 8)) := ⟨_, rfl⟩
              obtain ⟨P, hP⟩ : ∃ P, P = toB d := ⟨_, rfl⟩
              obtain ⟨F, hF⟩ : ∃ F, F = flags13 d := ⟨_, rfl⟩
              have STEPE := Lib.hid (show stepT reg ⟨d, st, sf, sn⟩ = (st == reg && P || reg == 4 && (F || C)) by rw [hC, hP, hF]; rfl)
              have HC := Lib.hid hC
              first | rw [Bool.not_not] | skip
              rw [← hP, ← hF]
              clear hC hP hF
              gi_cut [14, 120, 121, 122, 123, 124, 125, 126, 127, 128, 129, 130, 131, 132, 133, 134, 135, 136, 137, 138, 139, 140, 141, 142] from 81 (fun s14 v120 v121 v122 v123 v124 v125 v126 v127 v128 v129 v130 v131 v132 v133 v134 v135 v136 v137 v138 v139 v140 v141 v142 wx => (v120 = u120 ∧ v121 = u121 ∧ v122 = u122 ∧ v123 = u123 ∧ v124 = u124 ∧ v125 = u125 ∧ v126 = u126 ∧ v127 = u127 ∧ v128 = u128 ∧ v129 = u129 ∧ v130 = u130 ∧ v131 = u131 ∧ v132 = u132 ∧ v133 = u133 ∧ v134 = u134 ∧ v135 = u135 ∧ v136 = u136 ∧ v137 = u137 ∧ v138 = u138 ∧ v139 = u139 ∧ v140 = u140 ∧ v141 = u141 ∧ v142 = u142) ∧ s14 = .bool C ∧ wx = V5)
              case first =>
                cases t1 : (d == 10) <;> cases t2 : (d == 11) <;> cases t3 : (st == 7) <;> cases t4 : (st == 8)
                all_goals
                  have t3' : (st != 7) = _ := congrArg Bool.not t3
                  have t4' : (st != 8) = _ := congrArg Bool.not t4
                  gi_wp2
                  gi_meet
                  case rel => exact ⟨⟨rfl, rfl, rfl, rfl, rfl, rfl, rfl, rfl, rfl, rfl, rfl, rfl, rfl, rfl, rfl, rfl, rfl, rfl, rfl, rfl, rfl, rfl, rfl⟩, by rw [HC.out, t1, t2, t3, t4]; rfl, rfl⟩
              case rest =>
                obtain ⟨⟨rfl, rfl, rfl, rfl, rfl, rfl, rfl, rfl, rfl, rfl, rfl, rfl, rfl, rfl, rfl, rfl, rfl, rfl, rfl, rfl, rfl, rfl, rfl⟩, rfl, hwc⟩ := hcut
                have hwc := hwc.symm
                subst hwc
                have hz5 := hR5.sz
                have kr5 := rowB_below krB hR5.bl (by omega)
                have r0 := rowB_cell kr5 0 rfl
                have e0 := rowB_cell hR5.ht 0 rfl
                dsimp only [List.getElem_toArray, List.getElem_cons_succ, List.getElem_cons_zero] at r0 e0
                have e1 := rowB_free hR5.ht 0
                clear d0 b3
                cases Tk
                · cases P
                  ·
                    cases t3 : (reg == 4)
                    ·
                      gi_wp2
                      go_roundw
                      case rel => exact ⟨k + 1, by omega, by go_num, by rw [HNL.out, HNT.out]; exact (hR5.setT _).eqT (by rw [STEPE.out, t3]; simp)⟩
                      case measure => simp [intOf]; omega
                    · cases F
                      ·
                        gi_wp2
                        go_roundw
                        case rel => exact ⟨k + 1, by omega, by go_num, by rw [HNL.out, HNT.out]; exact (hR5.setT _).eqT (by rw [STEPE.out, t3]; simp)⟩
                        case measure => simp [intOf]; omega
                      ·
                        gi_wp2
                        go_roundw
                        case rel => exact ⟨k + 1, by omega, by go_num, by rw [HNL.out, HNT.out]; exact (hR5.setT _).eqT (by rw [STEPE.out, t3]; simp)⟩
                        case measure => simp [intOf]; omega
                  · cases t2 : (st == reg)
                    ·
                      cases t3 : (reg == 4)
                      ·
                        gi_wp2
                        go_roundw
                        case rel => exact ⟨k + 1, by omega, by go_num, by rw [HNL.out, HNT.out]; exact (hR5.setT _).eqT (by rw [STEPE.out, t2, t3]; simp)⟩
                        case measure => simp [intOf]; omega
                      · cases F
                        ·
                          gi_wp2
                          go_roundw
                          case rel => exact ⟨k + 1, by omega, by go_num, by rw [HNL.out, HNT.out]; exact (hR5.setT _).eqT (by rw [STEPE.out, t2, t3]; simp)⟩
                          case measure => simp [intOf]; omega
                        ·
                          gi_wp2
                          go_roundw
                          case rel => exact ⟨k + 1, by omega, by go_num, by rw [HNL.out, HNT.out]; exact (hR5.setT _).eqT (by rw [STEPE.out, t2, t3]; simp)⟩
                          case measure => simp [intOf]; omega
                    ·
                      gi_wp2
                      go_roundw
                      case rel => exact ⟨k + 1, by omega, by go_num, by rw [HNL.out, HNT.out]; exact (hR5.setT _).eqT (by rw [STEPE.out, t2]; simp)⟩
                      case measure => simp [intOf]; omega
                ·
                  gi_wp2
                  go_roundw
                  case rel => exact ⟨k + 1, by omega, by go_num, by rw [HNL.out, HNT.out]; exact (hR5.setT _).eqT (by rw [STEPE.out]; simp)⟩
                  case measure => simp [intOf]; omega
          · obtain rfl : k = qs.length := by omega
            unfold stepsL stepsT at hR
            rw [List.take_length] at hR
            gi_wp2
            refine ⟨hR.ko.from _, by rw [hs]; exact hR.kp, ⟨?_, ?_⟩, hR.bl⟩
            · rw [tagC_snoc, lstA_snoc]
              dsimp only
              have h := hR.hl
              rw [HLST.out] at h
              exact h
            · rw [tagC_snoc, tchA_snoc]
              dsimp only
              have h := hR.ht
              rw [HT1.out, HTCH.out, Bool.or_assoc] at h
              exact h
  case done =>
    rintro D ys W hD hS hI hK
    obtain ⟨⟨i1, i2⟩, hBW⟩ := hI
    obtain ⟨e1, e2⟩ := tells_all reg hS
    rw [e1] at i1
    rw [e2] at i2
    clear e1 e2 hS
    have hsz := hBW.size
    have hwD : w.heap.size ≤ D := by omega
    have hWa : Below s wa W := hb0.trans (hbB.trans hBW)
    have hWw : Below w.heap.size w W := hwa.trans (hWa.mono (by omega))
    have qx := rowB_below kxB hBW (by omega)
    have qr := rowB_below krB hBW (by omega)
    have hLW := isArr_below cycle_keeps HLa.out hWa (Nat.le_of_eq hs)
    have HTM := Lib.hid (times_any op name mode _ l W hLW hlen)
    have HTC := Lib.hid (fun (W1 : World) (hb : Below W.heap.size W W1) => touches_any op name mode _ l reg W1 (isArr_below cycle_keeps hLW hb (Nat.le_refl _)))
    have hlN : leastN l ≤ l.length := leastN_le l
    generalize touchB reg l = TB at *
    generalize leastN l = LN at *
    have dc0 := rowB_cell qx 0 rfl
    have dc1 := rowB_cell qx 1 rfl
    have dc2 := rowB_cell qx 2 rfl
    have dc3 := rowB_cell qx 3 rfl
    dsimp only [List.getElem_toArray, List.getElem_cons_succ, List.getElem_cons_zero] at dc0 dc1 dc2 dc3
    clear hb0 hbB kB hI0 hcB k0 k1 kx0 kr0 kxB krB kx kr dl hl0 HLa
    go_upto_region 21 with (go_at_call 41; refine HTM.out.mono ?_; rintro e w5 ⟨rfl, hb5⟩)
    have KE := Lib.hid (fun (w' : World) (hb : Below w5.heap.size w5 w') => have hb' := hb5.trans (hb.mono hb5.size); And.intro (cellsC4 (rowB_below qx hb' (rowB_lt qx))) (And.intro (rowB_cell (rowB_below qr hb' (rowB_lt qr)) 0 rfl) (And.intro (rowB_cell (rowB_below i1 hb' (rowB_lt i1)) 0 rfl) (And.intro (rowB_cell (rowB_below i2 hb' (rowB_lt i2)) 0 rfl) hb))))
    have HB5 := Lib.hid hb5
    have HK5 := Lib.hid hK
    have tTB : (TB == TB) = true := by simp
    have hw1 : IntKind.i64.wrap ((l.length : Int) + 1) = (l.length : Int) + 1 := IntWalk.i64_in _ ⟨by omega, by omega⟩
    clear dc0 dc1 dc2 dc3 qx qr i1 i2 hb5 hK
    first | go_region_held3 (fun w' => (w'.cell? ⟨w.heap.size, 0, none⟩ = some (.int .i64 op) ∧ w'.cell? ⟨w.heap.size, 1, none⟩ = some (.string name) ∧ w'.cell? ⟨w.heap.size, 2, none⟩ = some (.int .i64 mode) ∧ w'.cell? ⟨w.heap.size, 3, none⟩ = some (.slice a l.length cap)) ∧ w'.cell? ⟨w.heap.size + 1, 0, none⟩ = some (.int .i64 reg) ∧ w'.cell? ⟨s, 0, none⟩ = some (.int .i64 ((LN + 1 : Nat) : Int)) ∧ w'.cell? ⟨s + 1, 0, none⟩ = some (.bool TB) ∧ Below w5.heap.size w5 w')
      (first | exact KE.out _ (by assumption) | exact KE.out _ (Below.refl _ _) | exact KE.out _ (Below.drew (Below.refl _ _)) | exact KE.out _ (Below.drew (by assumption)))
      (first
        | (go_at_call 42; have hP := pickT (w0 := w5) (by assumption); with_reducible refine (HTC.out _ (HB5.out.trans (hP.mono HB5.out.size))).mono ?_; rintro e x1 ⟨rfl, hx1⟩; have X1 : Below w5.heap.size w5 x1 := hP.trans (hx1.mono hP.size))) | fail
    all_goals
      have hBz := pickT (w0 := w5) (by assumption)
      have hWz := HB5.out.trans (hBz.mono HB5.out.size)
      have hKz := keep_belowC HK5.out hWz (Nat.le_refl _)
      go_wp2_with fail
      refine ⟨by simp, .inl ⟨_, _, rfl, run_takeDeferred hKz, ?_⟩⟩
      exact ⟨_, results_tmp rfl _ _ _, rfl, (hWw.trans (hWz.mono hWw.size)).trans (belowK_b (w := w) (Nat.le_refl _) _ D _ _ hwD hKz rfl rfl)⟩
  case stop =>
    rintro D c pre W _ _ h _
    exact h.elim
end Go.Proofs.Ytdiajkgebicnnaa
