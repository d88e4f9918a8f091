/- A part of the proof of ChipBanks: Lin. -/
import Derived.OrdersHeld
import Derived.StillTactics
import Derived.StillTail
namespace Go.Proofs.Ytakaebjojgeehaa
open Go
section
variable {P : Program} {ops : Array Oper} {Q : Exit → Act → World → Prop} {md : Region.Mode} {S : World → Prop} {R N : Nat → Bool}
/-- Whatever order is picked: an operation of R leaves the world as it is, behind one of N the world meets S. -/
def wpAnyX (P : Program) (md : Region.Mode) (ops : Array Oper) (Q : Exit → Act → World → Prop) (S : World → Prop) (R N : Nat → Bool) : Nat → Array Bool → Act → World → Prop
  | 0, listed, a, w => Region.ready md ops listed = [] ∧ Q .normal a w
  | fuel + 1, listed, a, w =>
    (Region.ready md ops listed = [] → Q .normal a w) ∧
    ∀ i ∈ Region.ready md ops listed,
      (R i = true → stOp P ops w i (fun a' => wpAnyX P md ops Q S R N fuel (listed.setIfInBounds i true) a' w) a) ∧
      (R i = false → wpOp P ops Q i (fun a' w' => (N i = true → S w') ∧ wpAnyX P md ops Q S R N fuel (listed.setIfInBounds i true) a' w') a w)

theorem wpAny_of_X : ∀ (fuel : Nat) (listed : Array Bool) (a : Act) (w : World), wpAnyX P md ops Q S R N fuel listed a w → wpAny P md ops Q fuel listed a w
  | 0, _, _, _, h => h
  | fuel + 1, listed, a, w, h => ⟨h.1, fun i hi => by
      cases hR : R i with
      | true => exact wpOp_of_stOp (fun a' h' => wpAny_of_X fuel _ a' w h') ((h.2 i hi).1 hR)
      | false => exact wpOp_mono (fun a' w' h' => wpAny_of_X fuel _ a' w' h'.2) ((h.2 i hi).2 hR)⟩

/-- None that is not of A comes up while i has not. -/
def Blk (md : Region.Mode) (ops : Array Oper) (A : Nat → Bool) (listed : Array Bool) (i : Nat) : Prop :=
  ∀ j oj, ops[j]? = some oj → A j = false → listed.getD j true = false → ∃ e ∈ oj.after, Region.binds md e = true ∧ (e.on = i ∨ (A e.on = false ∧ listed.getD e.on true = false))
def blkB (md : Region.Mode) (ops : Array Oper) (A : Nat → Bool) (listed : Array Bool) (i : Nat) : Bool :=
  (List.range ops.size).all fun j => A j || listed.getD j true || (match ops[j]? with | some oj => oj.after.any (fun e => Region.binds md e && (e.on == i || (!A e.on && !(listed.getD e.on true)))) | none => true)
theorem blk_of_B {A : Nat → Bool} {listed : Array Bool} {i : Nat} (h : blkB md ops A listed i = true) : Blk md ops A listed i := fun j oj hoj hA hl => by
  have hlt : j < ops.size := (Array.getElem?_eq_some_iff.1 hoj).1
  have h1 := List.all_eq_true.1 h j (List.mem_range.2 hlt)
  simp only [hA, hl, hoj, Bool.false_or] at h1
  obtain ⟨e, he, h2⟩ := Array.any_eq_true'.1 h1
  simp only [Bool.and_eq_true, Bool.or_eq_true, beq_iff_eq, Bool.not_eq_true'] at h2
  exact ⟨e, he, h2⟩
theorem Blk.not_ready {A : Nat → Bool} {listed : Array Bool} {i j : Nat} (h : Blk md ops A listed i) (hi : listed.getD i true = false) (hj : j ∈ Region.ready md ops listed) : A j = true := by
  cases hA : A j with
  | true => rfl
  | false =>
    obtain ⟨hun, oj, hoj, hall⟩ := mem_ready.1 hj
    obtain ⟨e, he, hb, h1⟩ := h j oj hoj hA hun
    have h2 := hall e he hb
    rcases h1 with h1 | ⟨_, h1⟩
    · rw [h1, getD_both hi] at h2; cases h2
    · rw [getD_both h1] at h2; cases h2
theorem Blk.set {A : Nat → Bool} {listed : Array Bool} {i k : Nat} (h : Blk md ops A listed i) (hk : A k = true) : Blk md ops A (listed.setIfInBounds k true) i := fun j oj hoj hA hl => by
  have hkj : k ≠ j := fun e => by rw [e, hA] at hk; cases hk
  rw [getD_set_ne true hkj] at hl
  obtain ⟨e, he, hb, h1⟩ := h j oj hoj hA hl
  refine ⟨e, he, hb, h1.imp id fun ⟨h2, h3⟩ => ⟨h2, ?_⟩⟩
  rw [getD_set_ne true (fun e' => by rw [e', h2] at hk; cases hk)]
  exact h3

/-- In every world that meets S the operation leaves v in its temporary and does nothing else: by itself, or by a call that leaves the world as it is. -/
def YieldsC (P : Program) (ops : Array Oper) (S : World → Prop) (o : Oper) (v : Value) (a : Act) : Prop :=
  (Region.wanted o (yielded ops a.tmps) = true ∧ ∀ w, S w → ((execOp a.eval o).run P w = .ok (.value v) w ∨
    ∃ f args, (execOp a.eval o).run P w = .ok (.enter f args) w ∧ Calls P f args w (fun e w'' => e = .returned v ∧ w'' = w))) ∨
  (Region.wanted o (yielded ops a.tmps) = false ∧ v = undef)
theorem YieldsC.of_same {o : Oper} {v : Value} {a a' : Act} (hy : YieldsC P ops S o v a) (he : execOp a'.eval o = execOp a.eval o)
    (hw : Region.wanted o (yielded ops a'.tmps) = Region.wanted o (yielded ops a.tmps)) : YieldsC P ops S o v a' := by
  unfold YieldsC at *
  rw [he, hw]
  exact hy
theorem YieldsC.at_world {w : World} {o : Oper} {v : Value} {a : Act} (h : YieldsC P ops S o v a) (hS : S w) : YieldsAt P ops w o v a :=
  h.imp (fun ⟨h1, h2⟩ => ⟨h1, (h2 w hS).imp id .inr⟩) id

theorem stOp_putC {w : World} {j : Nat} {oi oj : Oper} {v : Value} (hj : ops[j]? = some oj) (hap : oi.apart ops oj = true)
    (hsi : ∀ cs b, oi.op ≠ .select cs b) (hsj : ∀ cs b, oj.op ≠ .select cs b) {K : Act → Prop} {a : Act}
    (hy : YieldsC P ops S oi v a) (h : stOp P ops w j K (a.put oi.dst v)) :
    stOp P ops w j (fun a' => YieldsC P ops S oi v a' ∧ K (a'.put oi.dst v)) a := by
  obtain ⟨h1, h2, h3⟩ := Oper.apart_spec hap
  have keep : ∀ (a : Act), YieldsC P ops S oi v a → ∀ u, YieldsC P ops S oi v (a.put oj.dst u) := fun a hy u =>
    hy.of_same (execOp_put oi hsi a oj.dst u h3) (wanted_put oi a oj.dst u h3)
  unfold stOp at *
  simp only [hj] at *
  rw [wanted_put oj a oi.dst v h1] at h
  split
  · rename_i hw
    simp only [hw, if_true] at h
    unfold Oper.still at *
    rw [execOp_put oj hsj a oi.dst v h1] at h
    generalize (execOp a.eval oj).run P w = r at *
    cases r with
    | ok n w' =>
      cases n <;> simp only [Oper.stillUpon] at h ⊢
      case value u => exact ⟨h.1, keep a hy u, by rw [← Act.put_comm a v u h2]; exact h.2⟩
      case skip => exact ⟨h.1, keep a hy _, by rw [← Act.put_comm a v undef h2]; exact h.2⟩
      case enter f args => obtain ⟨hw', u, hc, hn⟩ := h; exact ⟨hw', u, hc, keep a hy u, by rw [← Act.put_comm a v u h2]; exact hn⟩
    | halt x w' => simp only [Oper.stillUpon] at h
  · rename_i hw
    simp only [hw] at h
    exact ⟨keep a hy _, by rw [← Act.put_comm a v undef h2]; exact h⟩
theorem wpOp_putC {j : Nat} {oi oj : Oper} {v : Value} (hj : ops[j]? = some oj) (hap : oi.apart ops oj = true)
    (hsi : ∀ cs b, oi.op ≠ .select cs b) (hsj : ∀ cs b, oj.op ≠ .select cs b)
    (hQ : ∀ c a w, Q (.panic c) (a.put oi.dst v) w → Q (.panic c) a w) {K : Act → World → Prop} {a : Act} {w : World}
    (hy : YieldsC P ops S oi v a) (h : wpOp P ops Q j K (a.put oi.dst v) w) :
    wpOp P ops Q j (fun a' w' => YieldsC P ops S oi v a' ∧ K (a'.put oi.dst v) w') a w := by
  obtain ⟨h1, h2, h3⟩ := Oper.apart_spec hap
  have keep : ∀ (a : Act), YieldsC P ops S oi v a → ∀ u, YieldsC P ops S oi v (a.put oj.dst u) := fun a hy u =>
    hy.of_same (execOp_put oi hsi a oj.dst u h3) (wanted_put oi a oj.dst u h3)
  have keepD : ∀ d, YieldsC P ops S oi v { a with defers := d :: a.defers } := fun d => hy.of_same rfl rfl
  unfold wpOp at *
  simp only [hj] at *
  rw [wanted_put oj a oi.dst v h1] at h
  split
  · rename_i hw
    simp only [hw, if_true] at h
    rcases h with h | ⟨hasks, hlets⟩
    case inr => exact .inr ⟨by unfold Oper.asks at *; rw [execOp_put oj hsj a oi.dst v h1] at hasks; exact hasks, hlets⟩
    refine .inl ?_
    unfold Oper.wp at *
    rw [execOp_put oj hsj a oi.dst v h1] at h
    generalize (execOp a.eval oj).run P w = r at *
    cases r with
    | ok n w' =>
      cases n <;> simp only [Oper.upon] at h ⊢
      case value u => exact ⟨keep a hy u, by rw [← Act.put_comm a v u h2]; exact h⟩
      case skip => exact ⟨keep a hy _, by rw [← Act.put_comm a v undef h2]; exact h⟩
      case defer d =>
        refine ⟨keep _ (keepD d) _, ?_⟩
        rw [← Act.put_comm _ v undef h2, ← Act.put_defers]
        exact h
      case enter f args =>
        refine Calls.mono h fun e w'' he => ?_
        cases e with
        | returned u => exact ⟨keep a hy u, by rw [← Act.put_comm a v u h2]; exact he⟩
        | panicked c => exact hQ _ _ _ he
        | outgrown => exact he
      case row row args => exact Rows.mono h fun u w'' he => ⟨keep a hy u, by rw [← Act.put_comm a v u h2]; exact he⟩
    | halt x w' =>
      cases x <;> simp only [Oper.upon] at h ⊢
      case panic u => exact hQ _ _ _ h
  · rename_i hw
    simp only [hw] at h
    exact ⟨keep a hy _, by rw [← Act.put_comm a v undef h2]; exact h⟩

theorem still_unlisted {A B : Nat → Bool} {listed : Array Bool} (h : ∀ j, listed.getD j true = false → A j = true → B j = true) (k : Nat) :
    ∀ j, (listed.setIfInBounds k true).getD j true = false → A j = true → B j = true := fun j hj hA => by
  refine h j ?_ hA
  by_cases hkj : k = j
  · subst hkj
    rcases Nat.lt_or_ge k listed.size with h' | h'
    · simp [h'] at hj
    · simp at hj
  · rw [getD_set_ne true hkj] at hj; exact hj

/-- A read that all that writes waits for may be taken first. -/
theorem X_takeR {i : Nat} {oi : Oper} {v : Value} (hi : ops[i]? = some oi) (hsel : ∀ (j : Nat) (o : Oper) cs b, ops[j]? = some o → o.op ≠ .select cs b) (hRi : R i = true) (A : Nat → Bool) :
    ∀ (fuel : Nat) (listed : Array Bool) (a : Act) (w : World), Blk md ops A listed i → (∀ j, listed.getD j true = false → A j = true → R j = true) →
      (∀ j oj, ops[j]? = some oj → j ≠ i → listed.getD j true = false → (∀ e ∈ oj.after, Region.binds md e = true → e.on ≠ i) → oi.apart ops oj = true) →
      i ∈ Region.ready md ops listed → YieldsAt P ops w oi v a →
      wpAnyX P md ops Q S R N fuel (listed.setIfInBounds i true) (a.put oi.dst v) w → wpAnyX P md ops Q S R N (fuel + 1) listed a w := by
  intro fuel
  induction fuel with
  | zero =>
    intro listed a w _ _ _ hr hy H
    refine ⟨fun h => (by rw [h] at hr; cases hr), fun j hj => ?_⟩
    by_cases hji : j = i
    · subst hji; exact ⟨fun _ => hy.stOp hi H, fun h => (by rw [hRi] at h; cases h)⟩
    · have := ready_mono hj hji
      rw [H.1] at this
      cases this
  | succ fuel ih =>
    intro listed a w hblk hAR hfree hr hy H
    have hun := (mem_ready.1 hr).1
    refine ⟨fun h => (by rw [h] at hr; cases hr), fun j hj => ?_⟩
    have hAj : A j = true := hblk.not_ready hun hj
    have hRj : R j = true := hAR j (mem_ready.1 hj).1 hAj
    refine ⟨fun _ => ?_, fun h => (by rw [hRj] at h; cases h)⟩
    by_cases hji : j = i
    · subst hji; exact hy.stOp hi H
    · have h1 := (H.2 j (ready_mono hj hji)).1 hRj
      obtain ⟨hjun, oj, hoj, hall⟩ := mem_ready.1 hj
      have hnot : ∀ e ∈ oj.after, Region.binds md e = true → e.on ≠ i := fun e he hb heq => by
        have h1 := hall e he hb
        rw [heq, getD_both hun] at h1
        cases h1
      have h2 := stOp_put hoj (hfree j oj hoj hji hjun hnot) (fun cs b => hsel i oi cs b hi) (fun cs b => hsel j oj cs b hoj) hy h1
      have hfree' : ∀ k ok, ops[k]? = some ok → k ≠ i → (listed.setIfInBounds j true).getD k true = false →
          (∀ e ∈ ok.after, Region.binds md e = true → e.on ≠ i) → oi.apart ops ok = true := fun k ok hk hki hun hno => by
        refine hfree k ok hk hki ?_ hno
        by_cases hjk : j = k
        · subst hjk; exact hjun
        · rw [getD_set_ne true hjk] at hun; exact hun
      refine stOp_mono (fun a' h3 => ih (listed.setIfInBounds j true) a' w (hblk.set hAj) (still_unlisted hAR j) hfree' (ready_mono hr (Ne.symm hji)) h3.1 ?_) h2
      rw [Array.setIfInBounds_comm _ _ hji]
      exact h3.2

/-- What yields in every world that meets S may be taken first, if S holds behind all that may come ahead of it. -/
theorem X_takeH {i : Nat} {oi : Oper} {v : Value} (hi : ops[i]? = some oi) (hsel : ∀ (j : Nat) (o : Oper) cs b, ops[j]? = some o → o.op ≠ .select cs b) (hRi : R i = true) (A : Nat → Bool)
    (hQ : ∀ c a w, Q (.panic c) (a.put oi.dst v) w → Q (.panic c) a w) :
    ∀ (fuel : Nat) (listed : Array Bool) (a : Act) (w : World), Blk md ops A listed i → (∀ j, listed.getD j true = false → A j = true → (R j || N j) = true) →
      (∀ j oj, ops[j]? = some oj → j ≠ i → listed.getD j true = false → (∀ e ∈ oj.after, Region.binds md e = true → e.on ≠ i) → oi.apart ops oj = true) →
      i ∈ Region.ready md ops listed → YieldsC P ops S oi v a → S w →
      wpAnyX P md ops Q S R N fuel (listed.setIfInBounds i true) (a.put oi.dst v) w → wpAnyX P md ops Q S R N (fuel + 1) listed a w := by
  intro fuel
  induction fuel with
  | zero =>
    intro listed a w _ _ _ hr hy hS H
    refine ⟨fun h => (by rw [h] at hr; cases hr), fun j hj => ?_⟩
    by_cases hji : j = i
    · subst hji; exact ⟨fun _ => (YieldsC.at_world hy hS).stOp hi H, fun h => (by rw [hRi] at h; cases h)⟩
    · have := ready_mono hj hji
      rw [H.1] at this
      cases this
  | succ fuel ih =>
    intro listed a w hblk hAR hfree hr hy hS H
    have hun := (mem_ready.1 hr).1
    refine ⟨fun h => (by rw [h] at hr; cases hr), fun j hj => ?_⟩
    have hAj : A j = true := hblk.not_ready hun hj
    have hRN : (R j || N j) = true := hAR j (mem_ready.1 hj).1 hAj
    by_cases hji : j = i
    · subst hji; exact ⟨fun _ => (YieldsC.at_world hy hS).stOp hi H, fun h => (by rw [hRi] at h; cases h)⟩
    · have h0 := H.2 j (ready_mono hj hji)
      obtain ⟨hjun, oj, hoj, hall⟩ := mem_ready.1 hj
      have hnot : ∀ e ∈ oj.after, Region.binds md e = true → e.on ≠ i := fun e he hb heq => by
        have h1 := hall e he hb
        rw [heq, getD_both hun] at h1
        cases h1
      have hap := hfree j oj hoj hji hjun hnot
      have hfree' : ∀ k ok, ops[k]? = some ok → k ≠ i → (listed.setIfInBounds j true).getD k true = false →
          (∀ e ∈ ok.after, Region.binds md e = true → e.on ≠ i) → oi.apart ops ok = true := fun k ok hk hki hun hno => by
        refine hfree k ok hk hki ?_ hno
        by_cases hjk : j = k
        · subst hjk; exact hjun
        · rw [getD_set_ne true hjk] at hun; exact hun
      refine ⟨fun hRj => ?_, fun hRj => ?_⟩
      · have h2 := stOp_putC hoj hap (fun cs b => hsel i oi cs b hi) (fun cs b => hsel j oj cs b hoj) hy (h0.1 hRj)
        refine stOp_mono (fun a' h3 => ih (listed.setIfInBounds j true) a' w (hblk.set hAj) (still_unlisted hAR j) hfree' (ready_mono hr (Ne.symm hji)) h3.1 hS ?_) h2
        rw [Array.setIfInBounds_comm _ _ hji]
        exact h3.2
      · have hNj : N j = true := by rw [hRj, Bool.false_or] at hRN; exact hRN
        have h2 := wpOp_putC hoj hap (fun cs b => hsel i oi cs b hi) (fun cs b => hsel j oj cs b hoj) hQ hy (h0.2 hRj)
        refine wpOp_mono (fun a' w' h3 => ⟨fun _ => h3.2.1 hNj, ih (listed.setIfInBounds j true) a' w' (hblk.set hAj) (still_unlisted hAR j) hfree' (ready_mono hr (Ne.symm hji)) h3.1 (h3.2.1 hNj) ?_⟩) h2
        rw [Array.setIfInBounds_comm _ _ hji]
        exact h3.2.2

theorem upon_then {o : Oper} {a : Act} {K next : Act → World → Prop} {r : Result Next} (h : o.upon P a next (Exit.then K Q) r) : o.upon P a next Q r := by
  cases r with
  | ok n w' =>
    cases n <;> simp only [Oper.upon] at h ⊢
    case enter f args => exact Calls.mono h fun e w'' he => by cases e <;> exact he
    all_goals exact h
  | halt x w' => cases x <;> simp only [Oper.upon] at h ⊢ <;> exact h
theorem wpOp_of_list {i : Nat} {K : Act → World → Prop} {a : Act} {w : World} {o : Oper} (ho : ops[i]? = some o) (h : wpList P ops (Exit.then K Q) [o] a w) : wpOp P ops Q i K a w := by
  unfold wpOp
  unfold wpList at h
  simp only [ho]
  split
  · rename_i hw
    simp only [hw, if_true] at h
    exact h.imp (fun h => upon_then h) (fun ⟨h1, h2⟩ => ⟨h1, h2⟩)
  · rename_i hw
    simp only [hw] at h
    exact h

def opOf (l : List Oper) (i : Nat) : Oper := l.getD i default
theorem opOf_some {l : List Oper} {i : Nat} {listed : Array Bool} (h : (Region.ready md l.toArray listed).contains i = true) : l.toArray[i]? = some (opOf l i) := by
  obtain ⟨_, o, ho, _⟩ := mem_ready.1 (by simpa using h : i ∈ Region.ready md l.toArray listed)
  have h2 : l[i]? = some o := by simpa using ho
  rw [ho]
  simp [opOf, List.getD_eq_getElem?_getD, h2]

/-- What waits for i, by itself or by another. -/
def waitsB (md : Region.Mode) (ops : Array Oper) : Nat → List Nat → List Nat
  | 0, l => l
  | f + 1, l => waitsB md ops f ((List.range ops.size).filter fun j => l.contains j || (match ops[j]? with | some oj => oj.after.any (fun e => Region.binds md e && l.contains e.on) | none => false))
def aheadB (md : Region.Mode) (ops : Array Oper) (i : Nat) : Nat → Bool :=
  let l := waitsB md ops ops.size [i]
  fun j => j == i || !l.contains j
def okB (ops : Array Oper) (A B : Nat → Bool) (listed : Array Bool) : Bool := (List.range ops.size).all fun j => !A j || listed.getD j true || B j
theorem ok_of_B {A B : Nat → Bool} {listed : Array Bool} (hl : listed.size = ops.size) (h : okB ops A B listed = true) : ∀ j, listed.getD j true = false → A j = true → B j = true := fun j hj hA => by
  have hlt : j < ops.size := by
    rcases Nat.lt_or_ge j listed.size with h' | h'
    · omega
    · simp [Array.getElem?_eq_none h'] at hj
  have h1 := List.all_eq_true.1 h j (List.mem_range.2 hlt)
  simpa [hA, hj] using h1
/-! Reads and writes in one list. The marks: 0, a read of the world at hand that all that writes waits for; 1, what yields in every world that meets S; 2, the one operation that may come up; 3, the same, and S holds behind it. -/
def wpMix (P : Program) (ops : Array Oper) (Q : Exit → Act → World → Prop) (S : World → Prop) : List (Oper × Nat) → Act → World → Prop
  | [], a, w => Q .normal a w
  | (o, 0) :: rest, a, w => if Region.wanted o (yielded ops a.tmps) then o.still P a w (fun a' => wpMix P ops Q S rest a' w) else wpMix P ops Q S rest (a.put o.dst undef) w
  | (o, 1) :: rest, a, w => S w ∧ ∃ v, YieldsC P ops S o v a ∧ wpMix P ops Q S rest (a.put o.dst v) w
  | (o, k + 2) :: rest, a, w => wpList P ops (Exit.then (fun a' w' => (k = 1 → S w') ∧ wpMix P ops Q S rest a' w') Q) [o] a w
def mixB (md : Region.Mode) (ops : Array Oper) (R N : Nat → Bool) : List (Nat × Nat) → Array Bool → Bool
  | [], listed => (Region.ready md ops listed).isEmpty
  | (i, 0) :: rest, listed => (Region.ready md ops listed).contains i && Region.free md ops listed i && R i && blkB md ops (aheadB md ops i) listed i && okB ops (aheadB md ops i) R listed && mixB md ops R N rest (listed.setIfInBounds i true)
  | (i, 1) :: rest, listed => (Region.ready md ops listed).contains i && Region.free md ops listed i && R i && blkB md ops (aheadB md ops i) listed i && okB ops (aheadB md ops i) (fun j => R j || N j) listed && mixB md ops R N rest (listed.setIfInBounds i true)
  | (i, k + 2) :: rest, listed => decide (Region.ready md ops listed = [i]) && !R i && (!N i || decide (k = 1)) && mixB md ops R N rest (listed.setIfInBounds i true)
theorem X_mix {l : List Oper} (hs : Region.noSelect l.toArray = true) (hQ : ∀ c a w d v, Q (.panic c) (a.put d v) w → Q (.panic c) a w) :
    ∀ (st : List (Nat × Nat)) (listed : Array Bool) (a : Act) (w : World), listed.size = l.toArray.size → mixB md l.toArray R N st listed = true →
    wpMix P l.toArray Q S (st.map fun x => (opOf l x.1, x.2)) a w → wpAnyX P md l.toArray Q S R N st.length listed a w
  | [], listed, a, w, _, hB, h => ⟨by simpa [mixB] using hB, h⟩
  | (i, 0) :: rest, listed, a, w, hz, hB, h => by
    simp only [mixB, Bool.and_eq_true] at hB
    obtain ⟨⟨⟨⟨⟨hr, hf⟩, hR⟩, hK⟩, hO⟩, hB⟩ := hB
    have hz' : (listed.setIfInBounds i true).size = l.toArray.size := by simpa using hz
    have ho := opOf_some hr
    have hri : i ∈ Region.ready md l.toArray listed := by simpa using hr
    have hst : stOp P l.toArray w i (fun a' => wpMix P l.toArray Q S (rest.map fun x => (opOf l x.1, x.2)) a' w) a := by
      unfold stOp; simp only [ho]; exact h
    obtain ⟨v, hy, h⟩ := yieldsAt_of_stOp ho hst
    exact X_takeR ho (Region.noSelect_spec hs) hR _ _ listed a w (blk_of_B hK) (ok_of_B hz hO) (Region.free_spec ho hf) hri hy (X_mix hs hQ rest _ _ w hz' hB h)
  | (i, 1) :: rest, listed, a, w, hz, hB, h => by
    simp only [mixB, Bool.and_eq_true] at hB
    obtain ⟨⟨⟨⟨⟨hr, hf⟩, hR⟩, hK⟩, hO⟩, hB⟩ := hB
    have hz' : (listed.setIfInBounds i true).size = l.toArray.size := by simpa using hz
    have ho := opOf_some hr
    have hri : i ∈ Region.ready md l.toArray listed := by simpa using hr
    obtain ⟨hS, v, hy, h⟩ := h
    exact X_takeH ho (Region.noSelect_spec hs) hR _ (fun c a w => hQ c a w _ _) _ listed a w (blk_of_B hK) (ok_of_B hz hO) (Region.free_spec ho hf) hri hy hS (X_mix hs hQ rest _ _ w hz' hB h)
  | (i, k + 2) :: rest, listed, a, w, hz, hB, h => by
    simp only [mixB, Bool.and_eq_true, decide_eq_true_eq, Bool.not_eq_true', Bool.or_eq_true] at hB
    obtain ⟨⟨⟨hr, hR⟩, hN⟩, hB⟩ := hB
    have hz' : (listed.setIfInBounds i true).size = l.toArray.size := by simpa using hz
    refine ⟨fun h1 => (by rw [hr] at h1; cases h1), fun j hj => ?_⟩
    rw [hr] at hj
    obtain rfl : j = i := by simpa using hj
    refine ⟨fun h1 => (by rw [hR] at h1; cases h1), fun _ => ?_⟩
    have ho : l.toArray[j]? = some (opOf l j) := opOf_some (md := md) (listed := listed) (by rw [hr]; simp)
    refine wpOp_mono (fun a' w' h' => ⟨fun hNj => h'.1 ?_, X_mix hs hQ rest _ a' w' hz' hB h'.2⟩) (wpOp_of_list ho h)
    rcases hN with hN | hN
    · rw [hN] at hNj; cases hNj
    · exact hN
/-- A region that draws, in the order 'st'. -/
theorem wp_region_mix {id : Nat} {a : Act} {w : World} {l : List Oper} (S : World → Prop) (st : List (Nat × Nat)) (hm : P.follows .mixedOrders = true)
    (hB : (Region.noSelect l.toArray && decide (st.length = l.length) && mixB .any l.toArray (fun j => st.any (fun x => x.1 == j && (x.2 == 0 || x.2 == 1))) (fun j => st.any (fun x => x.1 == j && x.2 == 3)) st (Array.replicate l.length false)) = true)
    (hQ : ∀ c a w t v, Q (.panic c) (a.put (some t) v) w → Q (.panic c) a w)
    (h : wpMix P l.toArray Q S (st.map fun x => (opOf l x.1, x.2)) a { w with drawn := w.drawn + 1 }) :
    (Code.region id l.toArray true).wp P Q a w := by
  simp only [Bool.and_eq_true, decide_eq_true_eq] at hB
  obtain ⟨⟨hs, hl⟩, hB⟩ := hB
  refine wp_region_any hm ?_
  have hQ' : ∀ c a w d v, Q (.panic c) (a.put d v) w → Q (.panic c) a w := fun c a w d v hh => by
    cases d with
    | none => exact hh
    | some t => exact hQ c a w t v hh
  have := wpAny_of_X _ _ _ _ (X_mix (Q := Q) hs hQ' st _ a _ (by simp) hB h)
  rw [hl] at this
  simpa using this
theorem wpMix_still {a : Act} {w : World} {o : Oper} {rest : List (Oper × Nat)}
    (h : ∀ K' : Act → Prop, (∀ a, wpMix P ops Q S rest a w → K' a) → if Region.wanted o (yielded ops a.tmps) then o.still P a w K' else K' (a.put o.dst undef)) : wpMix P ops Q S ((o, 0) :: rest) a w :=
  h _ (fun _ h => h)
theorem wpMix_held {a : Act} {w : World} {o : Oper} {rest : List (Oper × Nat)} (v : Value) (hw : Region.wanted o (yielded ops a.tmps) = true) (hS : S w) (hy : ∀ w', S w' → (execOp a.eval o).run P w' = .ok (.value v) w')
    (h : wpMix P ops Q S rest (a.put o.dst v) w) : wpMix P ops Q S ((o, 1) :: rest) a w := ⟨hS, v, .inl ⟨hw, fun w' hw' => .inl (hy w' hw')⟩, h⟩
theorem wpMix_call {a : Act} {w : World} {o : Oper} {rest : List (Oper × Nat)} {k : Nat} (h : wpList P ops (Exit.then (fun a' w' => (k = 1 → S w') ∧ wpMix P ops Q S rest a' w') Q) [o] a w) : wpMix P ops Q S ((o, k + 2) :: rest) a w := h
theorem wpMix_nil {a : Act} {w : World} (h : Q .normal a w) : wpMix P ops Q S [] a w := h
end
end Go.Proofs.Ytakaebjojgeehaa
