/- The contract of package table's Check. -/
import Derived.Test.YtnkplfimcehnmaaTabInstr2
namespace Go.Proofs.Ytnkplfimcehnmaa
open Go.RowKit

/-- The first elements of a slice. -/
theorem isArr_take {α : Type} {k : Nat} {R : World → List Value → α → Prop} {w : World} {a : Option Addr} {cap : Nat} {l : List α} (h : isArr k R w (.slice a l.length cap) l) (i : Nat) (hi : i ≤ l.length) : isArr k R w (.slice a i cap) (l.take i) := by
  rcases h with ⟨a', cap', e, rfl⟩ | ⟨b, off, cap', e, h1, h2, h3, h4⟩
  · have : i = 0 := by simpa using hi
    subst this
    exact .inl ⟨_, _, rfl, rfl⟩
  · cases e
    have hl : (l.take i).length = i := by rw [List.length_take]; omega
    refine .inr ⟨b, off, cap, by rw [hl], h1, by omega, h3, fun j x hx => ?_⟩
    have hj : j < i := by
      have := (List.getElem?_eq_some_iff.1 hx).1
      omega
    rw [List.getElem?_take_of_lt hj] at hx
    exact h4 j x hx

def insE (l : List In) (i : Nat) : Int := match l[i]? with | some x => instrE (l.take i) x | none => 0
theorem insE_some {l : List In} {i : Nat} {x : In} (h : l[i]? = some x) : insE l i = instrE (l.take i) x := by unfold insE; rw [h]
theorem firstE_ins (l : List In) : ∀ m k, k + m = l.length → firstE (insE l) k m = instrsF (l.take k) (l.drop k)
  | 0, k, h => by
    have : l.drop k = [] := List.drop_eq_nil_of_le (by omega)
    rw [this]; rfl
  | m + 1, k, h => by
    obtain ⟨x, hx, hd⟩ := drop_at (l := l) (k := k) (by omega)
    show (if insE l k = 0 then firstE (insE l) (k + 1) m else insE l k) = _
    rw [insE_some hx, hd, firstE_ins l m (k + 1) (by omega), take_next hx]
    rfl
theorem firstE_instrs (l : List In) : firstE (insE l) 0 l.length = instrsF [] l := firstE_ins l l.length 0 (by omega)

theorem five_keep {w w' : World} {p0 p1 p2 p3 p4 : Addr} {v0 v1 v2 v3 v4 : Value} (k0 : w.cell? p0 = some v0) (k1 : w.cell? p1 = some v1) (k2 : w.cell? p2 = some v2) (k3 : w.cell? p3 = some v3) (k4 : w.cell? p4 = some v4) (hb : Below w.heap.size w w') :
    w'.cell? p0 = some v0 ∧ w'.cell? p1 = some v1 ∧ w'.cell? p2 = some v2 ∧ w'.cell? p3 = some v3 ∧ w'.cell? p4 = some v4 ∧ Below w.heap.size w w' := by
  have f : ∀ {p : Addr} {v : Value}, w.cell? p = some v → w'.cell? p = some v := fun {p v} h => by
    rw [hb.cell (p := p) (cell_block h).1]; exact h
  exact ⟨f k0, f k1, f k2, f k3, f k4, hb⟩

set_option maxHeartbeats 1000000 in
/-- The check of one of several instructions, called by its place. -/
theorem instrAt_any (g : Nat) (name : ByteArray) (v v1 v2 v3 : Value) (l : List In) (i : Nat) (w : World) (hi : i < l.length) (hb : w.heap[g]? = some (.cells #[.string name, v, v1, v2, v3] 26 (0, 0))) (h : isArr 4 insR w v l) :
    Calls Try.prog 34 #[.int .i64 i, .pointer (some ⟨g, 0, none⟩)] w fun e w' => e = .returned (.int .i64 (insE l i)) ∧ Below w.heap.size w w' := by
  have d1 : w.cell? ⟨g, 1, none⟩ = some v := cell_of_row w g 1 _ _ (0, 0) hb
  obtain ⟨a, cap, rfl, hlen, hform⟩ := isArr_form h
  obtain ⟨x, hx, _⟩ := drop_at hi
  rw [insE_some hx]
  obtain ⟨b, off, rfl, _, hcap, hcap2, cs, _, hcs, u, rfl, hs, hg⟩ := hform i x hx
  obtain ⟨c0, c1, c2, c3⟩ := four_cells hcs
  have HT := Lib.hid (isArr_take h i (by omega))
  have HS := Lib.hid hs
  have K := Lib.hid (fun (w' : World) (hb : Below w.heap.size w w') => five_keep d1 c0 c1 c2 c3 hb)
  obtain ⟨sa, scap, rfl, _, _⟩ := isArr_form hs
  generalize hdone : l.take i = done at *
  have hil : i ≤ cap := by omega
  clear hcs hform hx hb h hs
  go_enter Try.func34, Try.ntmps34
  go_wp2_with fail
  go_region_held3 (fun w' => w'.cell? ⟨g, 1, none⟩ = some (.slice (some ⟨b, off, none⟩) l.length cap) ∧ w'.cell? ⟨b, off + i * 4, none⟩ = some (.int .i64 x.op) ∧ w'.cell? ⟨b, off + i * 4 + 1, none⟩ = some (.string x.name) ∧ w'.cell? ⟨b, off + i * 4 + 2, none⟩ = some (.int .i64 x.mode) ∧ w'.cell? ⟨b, off + i * 4 + 3, none⟩ = some (.slice sa x.cycles.length scap) ∧ Below w.heap.size w w')
    (first | exact K.out _ (by assumption) | exact K.out _ (Below.refl _ _) | exact K.out _ (Below.drew (Below.refl _ _)) | exact K.out _ (Below.drew (by assumption)))
    (first | (go_at_call 35; have hP := pick6 (w0 := w) (by assumption); refine (checkInstr_any done x _ _ _ (isArr_below ins_keeps HT.out hP (Nat.le_refl _)) (isArr_below cycle_keeps HS.out hP (Nat.le_refl _)) hg).mono ?_; rintro e w5 ⟨rfl, hb5⟩; have B5 : Below w.heap.size w w5 := below_next hP hb5))
  all_goals
    go_wp2_with fail
    go_ret
    exact ⟨rfl, B5⟩

/-- The check of one of the answers, called by its place. -/
theorem answerAt_any (g g3 : Nat) (v1 v2 v3 : Value) (c : Cp) (i : Nat) (w : World) (hi : i < 3) (hb : w.heap[g]? = some (.cells #[.slice (some ⟨g3, 0, none⟩) 3 3] 63 (0, 0)))
    (h3 : w.heap[g3]? = some (.cells #[v1, v2, v3] 24 (0, 0))) (k1 : isArr 4 cycleR w v1 c.res) (k2 : isArr 4 cycleR w v2 c.irq) (k3 : isArr 4 cycleR w v3 c.nmi) :
    Calls Try.prog 36 #[.int .i64 i, .pointer (some ⟨g, 0, none⟩)] w fun e w' => e = .returned (.int .i64 (if i = 0 then cyclesE c.res else if i = 1 then cyclesE c.irq else cyclesE c.nmi)) ∧ Below w.heap.size w w' := by
  have d0 := cell_of_row w g 0 _ _ (0, 0) hb
  have c0 : w.cell? ⟨g3, 0, none⟩ = some v1 := cell_of_row w g3 0 _ _ (0, 0) h3
  have c1 : w.cell? ⟨g3, 1, none⟩ = some v2 := cell_of_row w g3 1 _ _ (0, 0) h3
  have c2 : w.cell? ⟨g3, 2, none⟩ = some v3 := cell_of_row w g3 2 _ _ (0, 0) h3
  obtain ⟨a1, p1, rfl, _, _⟩ := isArr_form k1
  obtain ⟨a2, p2, rfl, _, _⟩ := isArr_form k2
  obtain ⟨a3, p3, rfl, _, _⟩ := isArr_form k3
  clear hb h3
  match i, hi with
  | 0, _ =>
    go_enter Try.func36, Try.ntmps36
    go_wp2_with (go_at_call 37; refine (checkCycles_any _ c.res _ k1).mono ?_; rintro e w1 ⟨rfl, hb1⟩)
    go_ret
    exact ⟨rfl, hb1⟩
  | 1, _ =>
    go_enter Try.func36, Try.ntmps36
    go_wp2_with (go_at_call 37; refine (checkCycles_any _ c.irq _ k2).mono ?_; rintro e w1 ⟨rfl, hb1⟩)
    go_ret
    exact ⟨rfl, hb1⟩
  | 2, _ =>
    go_enter Try.func36, Try.ntmps36
    go_wp2_with (go_at_call 37; refine (checkCycles_any _ c.nmi _ k3).mono ?_; rintro e w1 ⟨rfl, hb1⟩)
    go_ret
    exact ⟨rfl, hb1⟩

def ansE (c : Cp) (i : Nat) : Int := if i = 0 then cyclesE c.res else if i = 1 then cyclesE c.irq else cyclesE c.nmi
theorem firstE_ans (c : Cp) : firstE (ansE c) 0 3 = if cyclesE c.res ≠ 0 then cyclesE c.res else if cyclesE c.irq ≠ 0 then cyclesE c.irq else cyclesE c.nmi := by
  show (if cyclesE c.res = 0 then if cyclesE c.irq = 0 then if cyclesE c.nmi = 0 then 0 else cyclesE c.nmi else cyclesE c.irq else cyclesE c.res) = _
  by_cases h1 : cyclesE c.res = 0 <;> by_cases h2 : cyclesE c.irq = 0 <;> by_cases h3 : cyclesE c.nmi = 0 <;> simp [h1, h2, h3]

theorem answers_first (c : Cp) (v1 v2 v3 : Value) (w : World) (k1 : isArr 4 cycleR w v1 c.res) (k2 : isArr 4 cycleR w v2 c.irq) (k3 : isArr 4 cycleR w v3 c.nmi) (g : Nat) (hg : w.heap.size = g) :
    Calls Try.prog 33 #[.int .i64 3, .func (.func 36) #[] #[.pointer (some ⟨g + 1, 0, none⟩)]] ((w.alloc (.cells #[v1, v2, v3] 24)).alloc (.cells #[.slice (some ⟨g, 0, none⟩) 3 3] 63)) fun e w' =>
      e = .returned (.int .i64 (if cyclesE c.res ≠ 0 then cyclesE c.res else if cyclesE c.irq ≠ 0 then cyclesE c.irq else cyclesE c.nmi)) ∧ Below w.heap.size w w' := by
  subst hg
  rw [← firstE_ans]
  have hA : Below w.heap.size w ((w.alloc (.cells #[v1, v2, v3] 24)).alloc (.cells #[.slice (some ⟨w.heap.size, 0, none⟩) 3 3] 63)) := below_two _ _ _
  have h3 := box_alloc (p := .cells #[.slice (some ⟨w.heap.size, 0, none⟩) 3 3] 63) (heap_alloc_new w (.cells #[v1, v2, v3] 24))
  have hb := heap_alloc_new (w.alloc (.cells #[v1, v2, v3] 24)) (.cells #[.slice (some ⟨w.heap.size, 0, none⟩) 3 3] 63)
  rw [World.size_alloc] at hb
  refine (first_at 36 (.pointer (some ⟨w.heap.size + 1, 0, none⟩)) 3 (ansE c) _ (by decide) (enters_of Try.func36 (by kernel_rfl) rfl) (fun i hi w' hw => ?_)).mono ?_
  · have hB := hA.trans (hw.mono hA.size)
    exact answerAt_any (w.heap.size + 1) w.heap.size v1 v2 v3 c i w' hi (keep_below hb hw (Nat.le_refl _)) (keep_below h3 hw (Nat.le_refl _))
      (isArr_below cycle_keeps k1 hB (Nat.le_refl _)) (isArr_below cycle_keeps k2 hB (Nat.le_refl _)) (isArr_below cycle_keeps k3 hB (Nat.le_refl _))
  · rintro e w' ⟨rfl, hw⟩
    exact ⟨rfl, hA.trans (hw.mono hA.size)⟩

theorem instrs_first (c : Cp) (v0 v1 v2 v3 : Value) (w : World) (h0 : isArr 4 insR w v0 c.instrs) (hl : c.instrs.length ≤ 9223372036854775807) :
    Calls Try.prog 33 #[.int .i64 c.instrs.length, .func (.func 34) #[] #[.pointer (some ⟨w.heap.size, 0, none⟩)]] (w.alloc (.cells #[.string c.name, v0, v1, v2, v3] 26)) fun e w' =>
      e = .returned (.int .i64 (instrsF [] c.instrs)) ∧ w'.heap[w.heap.size]? = some (.cells #[.string c.name, v0, v1, v2, v3] 26 (0, 0)) ∧ Below w.heap.size w w' := by
  rw [← firstE_instrs]
  have hA : Below w.heap.size w (w.alloc (.cells #[.string c.name, v0, v1, v2, v3] 26)) := (Below.refl _ w).alloc (Nat.le_refl _) _
  have hb := heap_alloc_new w (.cells #[.string c.name, v0, v1, v2, v3] 26)
  refine (first_at 34 (.pointer (some ⟨w.heap.size, 0, none⟩)) c.instrs.length (insE c.instrs) _ hl (enters_of Try.func34 (by kernel_rfl) rfl) (fun i hi w' hw => ?_)).mono ?_
  · exact instrAt_any w.heap.size c.name v0 v1 v2 v3 c.instrs i w' hi (keep_below hb hw (Nat.le_refl _)) (isArr_below ins_keeps h0 (hA.trans (hw.mono hA.size)) (Nat.le_refl _))
  · rintro e w' ⟨rfl, hw⟩
    exact ⟨rfl, keep_below hb hw (Nat.le_refl _), hA.trans (hw.mono hA.size)⟩

set_option maxRecDepth 100000 in
set_option maxHeartbeats 2000000 in
theorem check_any (c : Cp) (v0 v1 v2 v3 : Value) (w : World) (h : cpuArg w v0 v1 v2 v3 c) :
    Calls Try.prog 10 #[.agg #[.string c.name, v0, v1, v2, v3]] w fun e w' => e = .returned (.int .i64 (cpuE c)) ∧ Below w.heap.size w w' := by
  have hmf := mkFunc
  obtain ⟨h0, h1, h2, h3, hn⟩ := h
  have h1' := h1
  have h2' := h2
  have h3' := h3
  have HI := Lib.hid (instrs_first c v0 v1 v2 v3 w h0)
  obtain ⟨a, cap, rfl, hlen, _⟩ := isArr_form h0
  obtain ⟨a1, cap1, rfl, _, _⟩ := isArr_form h1'
  obtain ⟨a2, cap2, rfl, _, _⟩ := isArr_form h2'
  obtain ⟨a3, cap3, rfl, _, _⟩ := isArr_form h3'
  clear h1' h2' h3' h0
  have hbA : ∀ o, Below w.heap.size w (w.alloc o) := fun o => (Below.refl _ w).alloc (Nat.le_refl _) o
  have hl : c.instrs.length ≤ 9223372036854775807 := by
    rcases Nat.eq_zero_or_pos c.instrs.length with h | h
    · omega
    · exact hlen h
  cases q1 : nameB c.name
  · have e : cpuE c = 15 := by unfold cpuE; rw [if_pos q1]
    rw [e]
    clear HI
    go_enter Try.func10, Try.ntmps10
    go_wp2_with (go_at_call 16; refine (name_is _ _ hn).mono ?_; rintro e w' ⟨rfl, rfl⟩; rw [q1])
    go_ret
    exact ⟨rfl, hbA _⟩
  by_cases q2 : 256 < c.instrs.length
  · have e : cpuE c = 2 := by unfold cpuE; rw [if_neg (by rw [q1]; decide), if_pos q2]
    rw [e]
    clear HI
    go_enter Try.func10, Try.ntmps10
    go_wp2_with (go_at_call 16; refine (name_is _ _ hn).mono ?_; rintro e w' ⟨rfl, rfl⟩; rw [q1])
    go_ret
    exact ⟨rfl, hbA _⟩
  have e : cpuE c = if instrsF [] c.instrs ≠ 0 then instrsF [] c.instrs else if cyclesE c.res ≠ 0 then cyclesE c.res else if cyclesE c.irq ≠ 0 then cyclesE c.irq else cyclesE c.nmi := by
    unfold cpuE; rw [if_neg (by rw [q1]; decide), if_neg q2]
  rw [e]
  clear e
  by_cases q3 : instrsF [] c.instrs = 0
  · rw [if_neg (by rw [q3]; decide)]
    rw [q3] at HI
    obtain ⟨R, hR⟩ : ∃ R, (if cyclesE c.res ≠ 0 then cyclesE c.res else if cyclesE c.irq ≠ 0 then cyclesE c.irq else cyclesE c.nmi) = R := ⟨_, rfl⟩
    rw [hR]
    have HR := Lib.hid hR
    have H1 := Lib.hid h1
    have H2 := Lib.hid h2
    have H3 := Lib.hid h3
    clear hR h1 h2 h3
    go_enter Try.func10, Try.ntmps10
    go_wp2_with (first
      | (go_at_call 16; refine (name_is _ _ hn).mono ?_; rintro e w' ⟨rfl, rfl⟩; rw [q1])
      | (go_at_call 33; with_reducible refine (HI.out hl).mono ?_; rintro e w1 ⟨rfl, k1, hb1⟩; have d2 := cell_of_row w1 w.heap.size 2 _ _ (0, 0) k1; have d3 := cell_of_row w1 w.heap.size 3 _ _ (0, 0) k1; have d4 := cell_of_row w1 w.heap.size 4 _ _ (0, 0) k1)
      | (go_at_call 33; refine (answers_first c _ _ _ w1 (isArr_below cycle_keeps H1.out hb1 (Nat.le_refl _)) (isArr_below cycle_keeps H2.out hb1 (Nat.le_refl _)) (isArr_below cycle_keeps H3.out hb1 (Nat.le_refl _)) _ rfl).mono ?_; rintro e w2 ⟨rfl, hb2⟩; rw [HR.out]))
    go_ret
    exact ⟨rfl, below_next hb1 hb2⟩
  · rw [if_pos q3]
    have t3 : (instrsF [] c.instrs != 0) = true := by simpa using q3
    go_enter Try.func10, Try.ntmps10
    go_wp2_with (first
      | (go_at_call 16; refine (name_is _ _ hn).mono ?_; rintro e w' ⟨rfl, rfl⟩; rw [q1])
      | (go_at_call 33; refine (HI.out hl).mono ?_; rintro e w1 ⟨rfl, k1, hb1⟩))
    go_ret
    exact ⟨rfl, hb1⟩
end Go.Proofs.Ytnkplfimcehnmaa
