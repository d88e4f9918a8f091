/- The contract of the reference's CpuErr: what is wrong with a processor. -/
import Derived.Test.YtnkplfimcehnmaaTabKeys
import Derived.Test.YtnkplfimcehnmaaTabNames
import Derived.Test.YtnkplfimcehnmaaTabCycles
import Derived.Test.YtnkplfimcehnmaaBitMath
import Derived.Carry
import Derived.StillTailTactics
namespace Go.Proofs.Ytnkplfimcehnmaa
open Go.RowKit Go.Maps

def insR (w : World) (cs : List Value) (x : In) : Prop := ∃ v, cs = [.int .i64 x.op, .string x.name, .int .i64 x.mode, v] ∧ isArr 4 cycleR w v x.cycles ∧ goodIn x
theorem ins_keeps : keeps insR := fun _ _ _ hb hB _ _ ⟨v, h, g, q⟩ => ⟨v, h, isArr_below cycle_keeps g hb hB, q⟩

def reads (l : List Cy) : Int := (l.countP fun c => c.bus == 1 && c.place == 0 : Nat)
theorem reads_next (l : List Cy) (m : Nat) (c : Cy) (h : l[m]? = some c) : reads (l.take (m + 1)) = reads (l.take m) + if (c.bus == 1 && c.place == 0) = true then 1 else 0 := by
  unfold reads
  rw [List.take_add_one, h, List.countP_append]
  simp [List.countP_cons]
  split <;> rfl
theorem reads_bd (l : List Cy) (m : Nat) : 0 ≤ reads (l.take m) ∧ reads (l.take m) ≤ m := by
  unfold reads
  have h1 := List.countP_le_length (p := fun c : Cy => c.bus == 1 && c.place == 0) (l := l.take m)
  have h2 : (l.take m).length ≤ m := by rw [List.length_take]; omega
  omega
def lastOp (done : List In) : Int := match done.getLast? with | some x => x.op | none => -1
theorem lastOp_snoc (done : List In) (x : In) : lastOp (done ++ [x]) = x.op := by unfold lastOp; rw [List.getLast?_concat]
def instrE (done : List In) (x : In) : Int :=
  if x.op < 0 ∨ 255 < x.op then 1
  else if done ≠ [] ∧ x.op ≤ lastOp done then 9
  else if nameB x.name = false then 15
  else if operand x.mode < 0 then 8
  else if done.any (sameKey x) = true then 5
  else if cyclesE x.cycles ≠ 0 then cyclesE x.cycles
  else if reads x.cycles ≠ operand x.mode then 3
  else 0
def instrsF : List In → List In → Int
  | _, [] => 0
  | done, x :: l => if instrE done x = 0 then instrsF (done ++ [x]) l else instrE done x
def cpuE (c : Cp) : Int :=
  if nameB c.name = false then 15 else if 256 < c.instrs.length then 2
  else if instrsF [] c.instrs ≠ 0 then instrsF [] c.instrs
  else if cyclesE c.res ≠ 0 then cyclesE c.res
  else if cyclesE c.irq ≠ 0 then cyclesE c.irq else cyclesE c.nmi

theorem grown_of {w w' : World} (h : Below w.heap.size w w') : w.grownBy w' none := ⟨h.os, h.tape, h.output, h.size, fun k hk _ => h.block k hk⟩
theorem box_alloc {w : World} {g : Nat} {o p : Obj} (h : w.heap[g]? = some o) : (w.alloc p).heap[g]? = some o := by
  have hlt := (Array.getElem?_eq_some_iff.1 h).1
  rw [← h]
  show (w.heap.push p)[g]? = _
  rw [Array.getElem?_push_lt hlt, Array.getElem?_eq_getElem hlt]
theorem keep_below {w w' : World} {g B : Nat} {o : Obj} (h : w.heap[g]? = some o) (hb : Below B w w') (hB : w.heap.size ≤ B) : w'.heap[g]? = some o := by
  rw [hb.block g (Nat.lt_of_lt_of_le (Array.getElem?_eq_some_iff.1 h).1 hB)]; exact h
theorem keep_grown {w w' : World} {g : Nat} {r : Option Nat} {o : Obj} (h : w.heap[g]? = some o) (hg : w.grownBy w' r) (hr : some g ≠ r) : w'.heap[g]? = some o := by
  rw [hg.block g (Array.getElem?_eq_some_iff.1 h).1 hr]; exact h
theorem cells4 {w : World} {g : Nat} {t : TypeId} {x0 x1 x2 x3 : Value} (h : w.heap[g]? = some (.cells #[x0, x1, x2, x3] t (0, 0))) :
    w.cell? ⟨g, 0, none⟩ = some x0 ∧ w.cell? ⟨g, 1, none⟩ = some x1 ∧ w.cell? ⟨g, 2, none⟩ = some x2 ∧ w.cell? ⟨g, 3, none⟩ = some x3 :=
  ⟨cell_of_row w g 0 _ t (0, 0) h, cell_of_row w g 1 _ t (0, 0) h, cell_of_row w g 2 _ t (0, 0) h, cell_of_row w g 3 _ t (0, 0) h⟩
theorem cells2 {w : World} {g : Nat} {t : TypeId} {x0 x1 : Value} (h : w.heap[g]? = some (.cells #[x0, x1] t (0, 0))) :
    w.cell? ⟨g, 0, none⟩ = some x0 ∧ w.cell? ⟨g, 1, none⟩ = some x1 :=
  ⟨cell_of_row w g 0 _ t (0, 0) h, cell_of_row w g 1 _ t (0, 0) h⟩
theorem cells5 {w : World} {g : Nat} {t : TypeId} {x0 x1 x2 x3 x4 : Value} (h : w.heap[g]? = some (.cells #[x0, x1, x2, x3, x4] t (0, 0))) :
    w.cell? ⟨g, 2, none⟩ = some x2 ∧ w.cell? ⟨g, 3, none⟩ = some x3 ∧ w.cell? ⟨g, 4, none⟩ = some x4 :=
  ⟨cell_of_row w g 2 _ t (0, 0) h, cell_of_row w g 3 _ t (0, 0) h, cell_of_row w g 4 _ t (0, 0) h⟩
/-- The two blocks that a round lays, behind a call that only lays more. -/
theorem two_blocks {wo w2 : World} {t t' : TypeId} {x0 x1 x2 x3 y0 y1 : Value}
    (hb : Below ((wo.alloc (.cells #[x0, x1, x2, x3] t)).alloc (.cells #[y0, y1] t')).heap.size ((wo.alloc (.cells #[x0, x1, x2, x3] t)).alloc (.cells #[y0, y1] t')) w2) :
    w2.heap[wo.heap.size]? = some (.cells #[x0, x1, x2, x3] t (0, 0)) ∧ w2.heap[wo.heap.size + 1]? = some (.cells #[y0, y1] t' (0, 0)) := by
  have h6 := box_alloc (p := .cells #[y0, y1] t') (heap_alloc_new wo (.cells #[x0, x1, x2, x3] t))
  have h7 := heap_alloc_new (wo.alloc (.cells #[x0, x1, x2, x3] t)) (.cells #[y0, y1] t')
  have e : (wo.alloc (.cells #[x0, x1, x2, x3] t)).heap.size = wo.heap.size + 1 := by simp
  rw [e] at h7
  exact ⟨keep_below h6 hb (Nat.le_refl _), keep_below h7 hb (Nat.le_refl _)⟩
theorem take_next {α : Type} {l : List α} {k : Nat} {x : α} (h : l[k]? = some x) : l.take (k + 1) = l.take k ++ [x] := by rw [List.take_add_one, h]; rfl
theorem and255 (n : Int) : bits .and .i64 n 255 = n % 256 := by
  have := and_mask n 8 (by decide)
  simpa [lo] using this

set_option maxRecDepth 100000 in
set_option maxHeartbeats 8000000 in
theorem cpuErr_any (c : Cp) (v0 v1 v2 v3 : Value) (w : World) (h0 : isArr 4 insR w v0 c.instrs) (h1 : isArr 4 cycleR w v1 c.res) (h2 : isArr 4 cycleR w v2 c.irq) (h3 : isArr 4 cycleR w v3 c.nmi) (hc : c.name.size ≤ 9223372036854775807) :
    Calls Try.prog 18 #[.agg #[.string c.name, v0, v1, v2, v3]] w fun e w' => e = .returned (.int .i64 (cpuE c)) ∧ Below w.heap.size w w' := by
  obtain ⟨name, l, res, irq, nmi⟩ := c
  dsimp only at h0 h1 h2 h3 hc
  obtain ⟨a, cap, rfl, _, hform⟩ := isArr_form h0
  cases hn : nameB name
  · have e : cpuE ⟨name, l, res, irq, nmi⟩ = 15 := by unfold cpuE; rw [if_pos hn]
    rw [e]
    go_enter Try.func18, Try.ntmps18
    go_wp2_with (go_at_call 17; refine (named_any _ _ hc).mono ?_; rintro e w' ⟨rfl, rfl⟩; rw [hn])
    go_ret
    exact ⟨rfl, (Below.refl _ _).alloc (Nat.le_refl _) _⟩
  by_cases h256 : 256 < l.length
  · have e : cpuE ⟨name, l, res, irq, nmi⟩ = 2 := by unfold cpuE; rw [if_neg (by rw [hn]; decide), if_pos h256]
    rw [e]
    go_enter Try.func18, Try.ntmps18
    go_wp2_with (go_at_call 17; refine (named_any _ _ hc).mono ?_; rintro e w' ⟨rfl, rfl⟩; rw [hn])
    go_ret
    exact ⟨rfl, (Below.refl _ _).alloc (Nat.le_refl _) _⟩
  have hE : cpuE ⟨name, l, res, irq, nmi⟩ = if instrsF [] l ≠ 0 then instrsF [] l else if cyclesE res ≠ 0 then cyclesE res else if cyclesE irq ≠ 0 then cyclesE irq else cyclesE nmi := by
    unfold cpuE; rw [if_neg (by rw [hn]; decide), if_neg h256]
  obtain ⟨R, hR⟩ : ∃ R, cpuE ⟨name, l, res, irq, nmi⟩ = R := ⟨_, rfl⟩
  rw [hR]
  rw [hR] at hE
  have HE := Lib.hid hE
  clear hE hR h0
  have hmm := @run_makeMap Try.prog
  go_enter Try.func18, Try.ntmps18
  go_wp2_with (go_at_call 17; refine (named_any _ _ hc).mono ?_; rintro e w' ⟨rfl, rfl⟩; rw [hn])
  go_loopw [3, 25] (fun q i wr => ∃ k : Nat, k ≤ l.length ∧ i = .int .i64 k ∧ q = .int .i64 (lastOp (l.take k)) ∧ wr.ownsMap Try.prog 71 (plainElem (H := Unit) Try.prog 4) (w.heap.size + 1) k (seenD (l.take k)) ∧
    wr.heap[w.heap.size]? = some (.cells #[.string name, .slice a l.length cap, v1, v2, v3] 26 (0, 0)) ∧ instrsF [] l = instrsF (l.take k) (l.drop k) ∧ Below w.heap.size w wr) (fun _ i _ => l.length - (intOf i).toNat)
  case atStart =>
    refine ⟨0, Nat.zero_le _, rfl, rfl, ?_, box_alloc (heap_alloc_new w _), rfl, ((Below.refl _ _).alloc (Nat.le_refl _) _).alloc (by simp) _⟩
    have := World.ownsMap_made (w.alloc (.cells #[.string name, .slice a l.length cap, v1, v2, v3] 26)) Try.prog 71 (plainElem (H := Unit) Try.prog 4)
    simp only [World.size_alloc] at this
    exact this
  case round =>
    obtain ⟨k, hk, rfl, rfl, hmap, hbox, hF, hbel⟩ := hrel
    obtain ⟨wo, rfl⟩ : ∃ wo, wo = wr := ⟨_, rfl⟩
    have hsz := hbel.size
    by_cases hlt : k < l.length
    · obtain ⟨x, hx, hd⟩ := drop_at hlt
      obtain ⟨b, off, rfl, hb, hcap, hcap2, cs, _, hcs, vc, rfl, hcy, hgood⟩ := hform k x hx
      obtain ⟨c0, c1, c2, c3⟩ := four_cells hcs
      rw [← hbel.cell (p := ⟨b, off + k * 4, none⟩) hb] at c0
      rw [← hbel.cell (p := ⟨b, off + k * 4 + 1, none⟩) hb] at c1
      rw [← hbel.cell (p := ⟨b, off + k * 4 + 2, none⟩) hb] at c2
      rw [← hbel.cell (p := ⟨b, off + k * 4 + 3, none⟩) hb] at c3
      have htk := take_next hx
      have hdone : l.take k ≠ [] ↔ 0 < k := by
        cases k with
        | zero => simp
        | succ j =>
          have : (l.take (j + 1)).length = j + 1 := by rw [List.length_take]; omega
          constructor
          · intro _; omega
          · intro _ e; rw [e] at this; cases this
      have hgd : ∀ y ∈ l.take k, goodIn y := fun y hy => by
        obtain ⟨j, hj⟩ := List.getElem?_of_mem (List.mem_of_mem_take hy)
        obtain ⟨_, _, _, _, _, _, _, _, _, _, _, _, hg⟩ := hform j y hj
        exact hg
      have hkey := key_of x hgood.1 hgood.2
      have hseen := seen_at (l.take k) x hgood hgd
      have hFx : instrsF [] l = if instrE (l.take k) x = 0 then instrsF (l.take (k + 1)) (l.drop (k + 1)) else instrE (l.take k) x := by rw [hF, hd, htk]; rfl
      have Hres := Lib.hid (show ∀ E, instrE (l.take k) x = E → E ≠ 0 → R = E from fun E e1 e2 => by
        have hi : instrsF [] l = E := by rw [hFx, e1, if_neg e2]
        rw [HE.out, hi, if_pos e2])
      have HFx := Lib.hid hFx
      have Htk := Lib.hid htk
      have Hkey := Lib.hid hkey
      have Hseen := Lib.hid hseen
      have Hmap := Lib.hid hmap
      have Hbox := Lib.hid hbox
      clear hF hFx hd hx hcs hform hmap hbox htk hkey hseen hgd h1 h2 h3
      obtain ⟨op, xn, mode, cyc⟩ := x
      dsimp only at c0 c1 c2 c3 hcy
      obtain ⟨ca, ccap, hvc, _, _⟩ := isArr_form hcy
      subst hvc
      generalize l.take k = done at *
      generalize hlo : lastOp done = lst at *
      have ha := and255 op
      have hB2 : ∀ o p, Below w.heap.size w ((wo.alloc o).alloc p) := fun o p => (hbel.alloc hsz o).alloc (by simp; omega) p
      by_cases q1 : op < 0 ∨ 255 < op
      · have HR := Lib.hid (Hres.out 1 (by unfold instrE; rw [if_pos q1]) (by decide))
        have t1 : (op != op % 256) = true := by simp; omega
        clear Hres HFx Hkey Hseen
        go_wp2_with fail
        go_ret
        exact ⟨ret_int HR.out.symm, hB2 _ _⟩
      have t1 : (op != op % 256) = false := by simp; omega
      by_cases q2 : done ≠ [] ∧ op ≤ lst
      · have HR := Lib.hid (Hres.out 9 (by unfold instrE; rw [if_neg q1, hlo, if_pos q2]) (by decide))
        have q3 := hdone.1 q2.1
        have q4 := q2.2
        clear Hres HFx Hkey Hseen hdone q2
        go_wp2_with fail
        go_ret
        exact ⟨ret_int HR.out.symm, hB2 _ _⟩
      have hk2 : k = 0 ∨ (0 < k ∧ lst < op) := by
        rcases Nat.eq_zero_or_pos k with h | h
        · exact .inl h
        · refine .inr ⟨h, ?_⟩
          rcases Int.lt_or_le lst op with h3 | h3
          · exact h3
          · exact absurd ⟨hdone.2 h, h3⟩ q2
      have Hq := Lib.hid q2
      clear hdone q2
      rcases hk2 with rfl | ⟨hk0, hk1⟩
      all_goals
        try simp only [Nat.zero_mul, Nat.add_zero] at c0 c1 c2 c3
        by_cases q3 : nameB xn = false
        · have HR := Lib.hid (Hres.out 15 (by unfold instrE; rw [if_neg q1, hlo, if_neg Hq.out, if_pos q3]) (by decide))
          clear Hres HFx Hkey Hseen
          go_wp2_with (go_at_call 17; refine (named_any _ _ hgood.1).mono ?_; rintro e w' ⟨rfl, rfl⟩; rw [q3])
          go_ret
          exact ⟨ret_int HR.out.symm, hB2 _ _⟩
        have q3' : nameB xn = true := by cases e : nameB xn; exact absurd e q3; rfl
        by_cases q4 : operand mode < 0
        · have HR := Lib.hid (Hres.out 8 (by unfold instrE; rw [if_neg q1, hlo, if_neg Hq.out, if_neg q3, if_pos q4]) (by decide))
          clear Hres HFx Hkey Hseen
          go_wp2_with (first
            | (go_at_call 17; refine (named_any _ _ hgood.1).mono ?_; rintro e w' ⟨rfl, rfl⟩; rw [q3'])
            | (go_at_call 19; refine (operand_any _ _).mono ?_; rintro e w2 ⟨rfl, hb2⟩))
          go_ret
          exact ⟨ret_int HR.out.symm, (hB2 _ _).trans (hb2.mono (hB2 _ _).size)⟩
        have hM := fun (o p : Obj) => (Hmap.out.alloc o).alloc p
        by_cases q5 : done.any (sameKey ⟨op, xn, mode, cyc⟩) = true
        · have HR := Lib.hid (Hres.out 5 (by unfold instrE; rw [if_neg q1, hlo, if_neg Hq.out, if_neg q3, if_neg q4, if_pos q5]) (by decide))
          have Hse := Lib.hid (show (seenD done).atKey (keyL ⟨op, xn, mode, cyc⟩) (.lit (.bool false)) = .lit (.bool true) by rw [Hseen.out, q5])
          clear Hres HFx Hseen
          go_wp2_with (first
            | (go_at_call 17; refine (named_any _ _ hgood.1).mono ?_; rintro e w' ⟨rfl, rfl⟩; rw [q3'])
            | (go_at_call 19; refine (operand_any _ _).mono ?_; rintro e w2 ⟨rfl, hb2⟩; have hM2 := (hM _ _).kept (grown_of hb2) (by simp); obtain ⟨H6, H7⟩ := two_blocks hb2; obtain ⟨d0, d1, d2, d3⟩ := cells4 H6; obtain ⟨f0, f1⟩ := cells2 H7)
            | (at_lookup; refine wpList_lookup_own_bool _ rfl _ _ 69 rfl 71 4 keyed Try.underlying69 Try.underlying4 (Try.zeroValue4 _) (w.heap.size + 1) _ _ rfl hM2 _ _ rfl Hkey.out true Hse.out ?_))
          go_ret
          exact ⟨ret_int HR.out.symm, (hB2 _ _).trans (hb2.mono (hB2 _ _).size)⟩
        have q5' : done.any (sameKey ⟨op, xn, mode, cyc⟩) = false := by
          cases e : done.any (sameKey ⟨op, xn, mode, cyc⟩)
          · rfl
          · exact absurd e q5
        have Hse := Lib.hid (show (seenD done).atKey (keyL ⟨op, xn, mode, cyc⟩) (.lit (.bool false)) = .lit (.bool false) by rw [Hseen.out, q5'])
        have H67 := Lib.hid (show instrE done ⟨op, xn, mode, cyc⟩ = if cyclesE cyc ≠ 0 then cyclesE cyc else if reads cyc ≠ operand mode then 3 else 0 by unfold instrE; rw [if_neg q1, hlo, if_neg Hq.out, if_neg q3, if_neg q4, if_neg q5])
        clear Hseen
        go_upto_region 21 with (first
          | (go_at_call 17; refine (named_any _ _ hgood.1).mono ?_; rintro e w' ⟨rfl, rfl⟩; rw [q3'])
          | (go_at_call 19; refine (operand_any _ _).mono ?_; rintro e w2 ⟨rfl, hb2⟩; have hM2 := (hM _ _).kept (grown_of hb2) (by simp); obtain ⟨H6, H7⟩ := two_blocks hb2; obtain ⟨d0, d1, d2, d3⟩ := cells4 H6; obtain ⟨f0, f1⟩ := cells2 H7)
          | (at_lookup; refine wpList_lookup_own_bool _ rfl _ _ 69 rfl 71 4 keyed Try.underlying69 Try.underlying4 (Try.zeroValue4 _) (w.heap.size + 1) _ _ rfl hM2 _ _ rfl Hkey.out false Hse.out ?_))
        go_still_tail 5, (by kernel_rfl)
        change wpList _ _ _ _ _ w2.drew
        refine wpList_mapUpdate_own _ rfl _ _ _ 69 rfl 71 4 keyed Try.underlying69 (plainElem (H := Unit) Try.prog 4) (w.heap.size + 1) _ _ rfl hM2.drew (by unfold maxLen; omega) _ _ _ rfl rfl Hkey.out _ [] (plainElem_bool Try.underlying4 true) ?_
        intro w3 hM3 hgrow3
        have hsz1 : w.heap.size + 2 ≤ wo.heap.size := by
          have := Hmap.out.lt
          omega
        have hB3 : Below w.heap.size w w3 := ((hB2 _ _).trans (hb2.mono (hB2 _ _).size)).drew.grown hgrow3 ((hB2 _ _).trans (hb2.mono (hB2 _ _).size)).size (fun j hj => by cases hj; omega)
        have H63 := keep_grown (w := w2.drew) H6 hgrow3 (by simp; omega)
        have Hb3 := keep_grown (w := w2.drew) (keep_below (box_alloc (box_alloc Hbox.out)) hb2.drew (Nat.le_refl _)) hgrow3 (by simp)
        obtain ⟨e0, e1, e2, e3⟩ := cells4 H63
        have hcy3 := isArr_below cycle_keeps hcy hB3 (Nat.le_refl _)
        clear hM2 hM d0 d1 d2 d3 f0 f1 H6 H7 hgrow3 hb2
        have hsz3 := hB3.size
        by_cases q6 : cyclesE cyc ≠ 0
        · have HR := Lib.hid (Hres.out (cyclesE cyc) (by rw [H67.out, if_pos q6]) q6)
          have q7 : (cyclesE cyc != 0) = true := by simpa using q6
          clear Hres HFx
          go_wp2_with (go_at_call 43; refine (cyclesErr_any _ _ _ hcy3).mono ?_; rintro e w4 ⟨rfl, hb4⟩)
          go_ret
          exact ⟨ret_int HR.out.symm, hB3.trans (hb4.mono hsz3)⟩
        have q7 : (cyclesE cyc != 0) = false := by simpa using q6
        have q8 : cyclesE cyc = 0 := by simpa using q6
        have H7 := Lib.hid (show instrE done ⟨op, xn, mode, cyc⟩ = if reads cyc ≠ operand mode then 3 else 0 by rw [H67.out, if_neg q6])
        have hc8 : cyc.length ≤ 8 := by
          rcases Nat.lt_or_ge 8 cyc.length with h8 | h8
          · exact absurd (by unfold cyclesE; rw [if_pos h8]; decide) q6
          · exact h8
        clear q6 q8 H67
        go_wp2_with (go_at_call 43; refine (cyclesErr_any _ _ _ hcy3).mono ?_; rintro e w4 ⟨rfl, hb4⟩; have H64 := keep_below H63 hb4 (Nat.le_refl _); obtain ⟨g0, g1, g2, g3⟩ := cells4 H64)
        have hB4 := hB3.trans (hb4.mono hsz3)
        have hM4 := hM3.kept (grown_of hb4) (by simp)
        have Hb4 := keep_below Hb3 hb4 (Nat.le_refl _)
        have hsz4 := hB4.size
        have hM4l := hM4.lt
        obtain ⟨ca2, ccap2, hca, _, cform⟩ := isArr_form hcy
        simp only [Value.slice.injEq] at hca
        obtain ⟨rfl, _, rfl⟩ := hca
        clear hM3 Hb3 H63 e0 e1 e2 e3 hcy3 hcy hb4 c0 c1 c2 c3
        go_loopw [9, 78] (fun q i wl => ∃ m : Nat, m ≤ cyc.length ∧ i = .int .i64 m ∧ q = .int .i64 (reads (cyc.take m)) ∧ Below w4.heap.size w4 wl) (fun _ i _ => cyc.length - (intOf i).toNat)
        case atStart => exact ⟨0, Nat.zero_le _, rfl, rfl, Below.refl _ _⟩
        case round =>
          obtain ⟨m, hm, rfl, rfl, hbl⟩ := hrel
          have hszl := hbl.size
          by_cases hmlt : m < cyc.length
          · obtain ⟨cy, hcyx, _⟩ := drop_at hmlt
            obtain ⟨b3, off3, rfl, hb3, hcp, hcp2, cs3, _, hcs3, vs, rfl, hst⟩ := cform m cy hcyx
            obtain ⟨c0, c1, c2, c3⟩ := four_cells hcs3
            have hBl := hB4.trans (hbl.mono hsz4)
            rw [← hBl.cell (p := ⟨b3, off3 + m * 4, none⟩) hb3] at c0
            rw [← hBl.cell (p := ⟨b3, off3 + m * 4 + 1, none⟩) hb3] at c1
            rw [← hBl.cell (p := ⟨b3, off3 + m * 4 + 2, none⟩) hb3] at c2
            rw [← hBl.cell (p := ⟨b3, off3 + m * 4 + 3, none⟩) hb3] at c3
            have Hn := Lib.hid (reads_next cyc m cy hcyx)
            have hrb := reads_bd cyc m
            obtain ⟨bus, place, reg, steps⟩ := cy
            dsimp only at c0 c1 c2 c3 hst Hn
            obtain ⟨sa, scap, hvs, _, _⟩ := isArr_form hst
            subst hvs
            clear hst hcs3 hcyx cform Hres HFx
            generalize reads (cyc.take m) = rd at *
            by_cases u1 : bus = 1
            · by_cases u2 : place = 0
              · have Hn2 := Lib.hid (show reads (cyc.take (m + 1)) = rd + 1 by rw [Hn.out, u1, u2]; rfl)
                subst u1; subst u2
                go_wp2_with fail
                go_roundw
                case rel => exact ⟨m + 1, by omega, by go_num, by rw [Hn2.out], hbl.alloc hszl _⟩
                case measure => simp [intOf]; omega
              · have u3 : (place == 0) = false := by simpa using u2
                have Hn2 := Lib.hid (show reads (cyc.take (m + 1)) = rd by rw [Hn.out, u3]; simp)
                subst u1
                go_wp2_with fail
                go_roundw
                case rel => exact ⟨m + 1, by omega, by go_num, by rw [Hn2.out], hbl.alloc hszl _⟩
                case measure => simp [intOf]; omega
            · have u3 : (bus == 1) = false := by simpa using u1
              have Hn2 := Lib.hid (show reads (cyc.take (m + 1)) = rd by rw [Hn.out, u3]; simp)
              go_wp2_with fail
              go_roundw
              case rel => exact ⟨m + 1, by omega, by go_num, by rw [Hn2.out], hbl.alloc hszl _⟩
              case measure => simp [intOf]; omega
          · obtain rfl : m = cyc.length := by omega
            have htl : reads (cyc.take cyc.length) = reads cyc := by rw [List.take_length]
            rw [htl]
            have H65 := keep_below H64 hbl (Nat.le_refl _)
            obtain ⟨c0, c1, c2, c3⟩ := cells4 H65
            have hM5 := hM4.kept (grown_of hbl) (by simp)
            have Hb5 := keep_below Hb4 hbl (Nat.le_refl _)
            have hB5 := hB4.trans (hbl.mono hsz4)
            have hsz5 := hB5.size
            clear cform htl
            by_cases q9 : reads cyc = operand mode
            · have z0 : instrE done ⟨op, xn, mode, cyc⟩ = 0 := H7.out.trans (if_neg (fun h => h q9))
              have hfx := HFx.out
              rw [z0, if_pos rfl] at hfx
              have HF2 := Lib.hid hfx
              clear z0 hfx
              have u4 : (operand mode != operand mode) = false := by simp
              rw [q9]
              clear Hres HFx
              go_wp2_with (go_at_call 19; refine (operand_any _ _).mono ?_; rintro e w6 ⟨rfl, hb6⟩)
              have hM6 := hM5.kept (grown_of hb6) (by simp)
              have Hb6 := keep_below Hb5 hb6 (Nat.le_refl _)
              go_roundw
              case rel =>
                first
                  | exact ⟨k + 1, by omega, by go_num, by rw [Htk.out, lastOp_snoc], by rw [Htk.out, seenD_snoc]; exact hM6, Hb6, HF2.out, hB5.trans (hb6.mono hsz5)⟩
                  | exact ⟨0 + 1, by omega, by go_num, by rw [Htk.out, lastOp_snoc], by rw [Htk.out, seenD_snoc]; exact hM6, Hb6, HF2.out, hB5.trans (hb6.mono hsz5)⟩
              case measure => simp [intOf]; omega
            · have HR := Lib.hid (Hres.out 3 (by rw [H7.out, if_pos q9]) (by decide))
              have u4 : (reads cyc != operand mode) = true := by simpa using q9
              clear Hres HFx
              go_wp2_with (go_at_call 19; refine (operand_any _ _).mono ?_; rintro e w6 ⟨rfl, hb6⟩)
              go_ret
              exact ⟨ret_int HR.out.symm, hB5.trans (hb6.mono hsz5)⟩
    · obtain rfl : k = l.length := by omega
      rw [List.drop_length] at hF
      have hR : R = if cyclesE res ≠ 0 then cyclesE res else if cyclesE irq ≠ 0 then cyclesE irq else cyclesE nmi := by
        have h0 : instrsF [] l = 0 := by rw [hF]; rfl
        rw [HE.out, h0, if_neg (fun h => h rfl)]
      obtain ⟨c2, c3, c4⟩ := cells5 hbox
      have g1 := isArr_below cycle_keeps h1 hbel (Nat.le_refl _)
      clear hF hform hmap
      have HR := Lib.hid hR
      have hsz := hbel.size
      clear hR
      go_wp2_with fail
      refine (cyclesErr_any _ _ _ g1).mono ?_
      rintro e w1 ⟨rfl, hb1⟩
      have hB1 := hbel.trans (hb1.mono hsz)
      have hbox1 := keep_below hbox hb1 (Nat.le_refl _)
      obtain ⟨d2, d3, d4⟩ := cells5 hbox1
      have g2 := isArr_below cycle_keeps h2 hB1 (Nat.le_refl _)
      have hsz1 := hB1.size
      clear g1 c2 c3 c4 hbox hb1 h1
      by_cases r1 : cyclesE res = 0
      · have HR2 := Lib.hid (show R = if cyclesE irq ≠ 0 then cyclesE irq else cyclesE nmi by rw [HR.out, if_neg (fun h => h r1)])
        rw [r1]
        clear HR r1
        go_wp2_with fail
        refine (cyclesErr_any _ _ _ g2).mono ?_
        rintro e w2 ⟨rfl, hb2⟩
        have hB2 := hB1.trans (hb2.mono hsz1)
        have hbox2 := keep_below hbox1 hb2 (Nat.le_refl _)
        obtain ⟨f2, f3, f4⟩ := cells5 hbox2
        have g3 := isArr_below cycle_keeps h3 hB2 (Nat.le_refl _)
        have hsz2 := hB2.size
        clear g2 d2 d3 d4 hbox1 hb2 h2
        by_cases r2 : cyclesE irq = 0
        · have HR3 := Lib.hid (show R = cyclesE nmi by rw [HR2.out, if_neg (fun h => h r2)])
          rw [r2]
          clear HR2 r2
          go_wp2_with fail
          refine (cyclesErr_any _ _ _ g3).mono ?_
          rintro e w3 ⟨rfl, hb3⟩
          go_wp2_with fail
          go_ret
          exact ⟨ret_int HR3.out.symm, hB2.trans (hb3.mono hsz2)⟩
        · have HR3 := Lib.hid (show R = cyclesE irq by rw [HR2.out, if_pos r2])
          have t2 : (cyclesE irq == 0) = false := by simpa using r2
          clear HR2
          go_wp2_with fail
          go_ret
          exact ⟨ret_int HR3.out.symm, hB2⟩
      · have HR2 := Lib.hid (show R = cyclesE res by rw [HR.out, if_pos r1])
        have t2 : (cyclesE res == 0) = false := by simpa using r1
        clear HR
        go_wp2_with fail
        go_ret
        exact ⟨ret_int HR2.out.symm, hB1⟩
end Go.Proofs.Ytnkplfimcehnmaa
