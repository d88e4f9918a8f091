/- What a processor's check says of two spoilt copies of a valid one: an instruction twice; an instruction with another mode. No function is named here. -/
import Derived.Test.YtnkplfimcehnmaaTabMade
namespace Go.Proofs.Ytnkplfimcehnmaa
open Go.RowKit

theorem instrsF_cons (done l : List In) (y : In) : instrsF done (y :: l) = if instrE done y = 0 then instrsF (done ++ [y]) l else instrE done y := rfl
theorem instrsF_app : ∀ (a done b : List In), instrsF done a = 0 → instrsF done (a ++ b) = instrsF (done ++ a) b
  | [], done, b, _ => by simp
  | y :: a, done, b, h => by
    rw [instrsF_cons] at h
    by_cases hy : instrE done y = 0
    · rw [if_pos hy] at h
      rw [List.cons_append, instrsF_cons, if_pos hy, instrsF_app a _ b h, List.append_assoc]
      rfl
    · rw [if_neg hy] at h
      exact absurd h hy
theorem instrsF_split : ∀ (a done b : List In), instrsF done (a ++ b) = 0 → instrsF done a = 0 ∧ instrsF (done ++ a) b = 0
  | [], done, b, h => ⟨rfl, by simpa using h⟩
  | y :: a, done, b, h => by
    rw [List.cons_append, instrsF_cons] at h
    by_cases hy : instrE done y = 0
    · rw [if_pos hy] at h
      obtain ⟨h1, h2⟩ := instrsF_split a _ b h
      refine ⟨?_, by simpa [List.append_assoc] using h2⟩
      rw [instrsF_cons, if_pos hy]
      exact h1
    · rw [if_neg hy] at h
      exact absurd h hy
theorem instrE_all {done : List In} {x : In} (h : instrE done x = 0) :
    ¬ (x.op < 0 ∨ 255 < x.op) ∧ ¬ (done ≠ [] ∧ x.op ≤ lastOp done) ∧ ¬ nameB x.name = false ∧ ¬ operand x.mode < 0 ∧ ¬ done.any (sameKey x) = true ∧ ¬ cyclesE x.cycles ≠ 0 ∧ ¬ reads x.cycles ≠ operand x.mode := by
  unfold instrE at h
  by_cases h1 : x.op < 0 ∨ 255 < x.op
  · rw [if_pos h1] at h; omega
  rw [if_neg h1] at h
  by_cases h2 : done ≠ [] ∧ x.op ≤ lastOp done
  · rw [if_pos h2] at h; omega
  rw [if_neg h2] at h
  by_cases h3 : nameB x.name = false
  · rw [if_pos h3] at h; omega
  rw [if_neg h3] at h
  by_cases h4 : operand x.mode < 0
  · rw [if_pos h4] at h; omega
  rw [if_neg h4] at h
  by_cases h5 : done.any (sameKey x) = true
  · rw [if_pos h5] at h; omega
  rw [if_neg h5] at h
  by_cases h6 : cyclesE x.cycles ≠ 0
  · rw [if_pos h6] at h; exact absurd h h6
  rw [if_neg h6] at h
  by_cases h7 : reads x.cycles ≠ operand x.mode
  · rw [if_pos h7] at h; omega
  exact ⟨h1, h2, h3, h4, h5, h6, h7⟩
theorem split_at {l : List In} {k : Nat} {x : In} (hx : l[k]? = some x) : l = l.take k ++ x :: l.drop (k + 1) ∧ l.drop k = x :: l.drop (k + 1) := by
  obtain ⟨x', hx', hd⟩ := drop_at (List.getElem?_eq_some_iff.1 hx).1
  rw [hx] at hx'
  cases hx'
  exact ⟨by rw [← hd, List.take_append_drop], hd⟩
theorem cpu_parts {c : Cp} (h : cpuE c = 0) : ¬ nameB c.name = false ∧ ¬ cyclesE c.res ≠ 0 ∧ ¬ cyclesE c.irq ≠ 0 ∧ cyclesE c.nmi = 0 := by
  have h0 := cpu_instrs h
  unfold cpuE at h
  by_cases h1 : nameB c.name = false
  · rw [if_pos h1] at h; omega
  rw [if_neg h1] at h
  by_cases h2 : 256 < c.instrs.length
  · rw [if_pos h2] at h; omega
  rw [if_neg h2, if_neg (by omega)] at h
  by_cases h3 : cyclesE c.res ≠ 0
  · rw [if_pos h3] at h; exact absurd h h3
  rw [if_neg h3] at h
  by_cases h4 : cyclesE c.irq ≠ 0
  · rw [if_pos h4] at h; exact absurd h h4
  rw [if_neg h4] at h
  exact ⟨h1, h3, h4, h⟩

/-- An instruction twice in a row. -/
theorem spoilt_double {c : Cp} (h : cpuE c = 0) (h8 : c.instrs.length ≤ 8) {k : Nat} {x : In} (hx : c.instrs[k]? = some x) :
    cpuE ⟨c.name, c.instrs.take k ++ x :: c.instrs.drop k, c.res, c.irq, c.nmi⟩ = 9 := by
  have hF := cpu_instrs h
  obtain ⟨hl, hd⟩ := split_at hx
  obtain ⟨hn, _⟩ := cpu_parts h
  have hk := (List.getElem?_eq_some_iff.1 hx).1
  rw [hl] at hF
  obtain ⟨h1, h2⟩ := instrsF_split _ _ _ hF
  rw [List.nil_append, instrsF_cons] at h2
  have hE : instrE (c.instrs.take k) x = 0 := by
    by_cases hy : instrE (c.instrs.take k) x = 0
    · exact hy
    · rw [if_neg hy] at h2; exact h2
  have hr := (instrE_all hE).1
  have h9 : instrE (c.instrs.take k ++ [x]) x = 9 := by
    unfold instrE
    rw [if_neg hr, if_pos ⟨by simp, by rw [lastOp_snoc]; exact Int.le_refl _⟩]
  have hI : instrsF [] (c.instrs.take k ++ x :: c.instrs.drop k) = 9 := by
    rw [instrsF_app _ _ _ h1, List.nil_append, instrsF_cons, if_pos hE, hd, instrsF_cons, h9, if_neg (by decide)]
  unfold cpuE
  dsimp only
  rw [if_neg hn, if_neg (by simp; omega), hI, if_pos (by decide)]

theorem lastOp_mid (a : List In) (x x' : In) (b : List In) (he : x.op = x'.op) : lastOp (a ++ x :: b) = lastOp (a ++ x' :: b) := by
  rcases List.eq_nil_or_concat b with rfl | ⟨b', z, rfl⟩
  · rw [lastOp_snoc, lastOp_snoc, he]
  · rw [List.concat_eq_append, ← List.cons_append, ← List.append_assoc, lastOp_snoc, ← List.cons_append, ← List.append_assoc, lastOp_snoc]
theorem instrE_mid {a b : List In} {x x' y : In} (he : x.op = x'.op) (hn : y.name ≠ x'.name) (h : instrE (a ++ x :: b) y = 0) : instrE (a ++ x' :: b) y = 0 := by
  obtain ⟨h1, h2, h3, h4, h5, h6, h7⟩ := instrE_all h
  have h5' : ¬ (a ++ x' :: b).any (sameKey y) = true := by
    intro h5'
    rw [List.any_append, List.any_cons] at h5 h5'
    have hs : sameKey y x' = false := by unfold sameKey; rw [decide_eq_false hn]; rfl
    rw [hs, Bool.false_or] at h5'
    apply h5
    rcases Bool.or_eq_true _ _ ▸ h5' with h | h
    · rw [h]; rfl
    · rw [h]; simp
  unfold instrE
  rw [if_neg h1, if_neg (by rw [← lastOp_mid a x x' b he]; intro hh; exact h2 ⟨by simp, hh.2⟩), if_neg h3, if_neg h4, if_neg h5', if_neg h6, if_neg h7]
theorem instrsF_mid {a : List In} {x x' : In} (he : x.op = x'.op) : ∀ (l b : List In), (∀ y ∈ l, y.name ≠ x'.name) → instrsF (a ++ x :: b) l = 0 → instrsF (a ++ x' :: b) l = 0
  | [], _, _, _ => rfl
  | y :: l, b, hn, h => by
    rw [instrsF_cons] at h
    by_cases hy : instrE (a ++ x :: b) y = 0
    · rw [if_pos hy] at h
      rw [instrsF_cons, if_pos (instrE_mid he (hn y (List.mem_cons_self ..)) hy), List.append_assoc, List.cons_append]
      rw [List.append_assoc, List.cons_append] at h
      exact instrsF_mid he l (b ++ [y]) (fun z hz => hn z (List.mem_cons_of_mem _ hz)) h
    · rw [if_neg hy] at h
      exact absurd h hy

/-- An instruction with another mode, where no two have one name. -/
theorem spoilt_mode {c : Cp} (h : cpuE c = 0) (h8 : c.instrs.length ≤ 8) (hN : ∀ (i j : Nat) (y z : In), c.instrs[i]? = some y → c.instrs[j]? = some z → i ≠ j → y.name ≠ z.name) {k : Nat} {x : In} (hx : c.instrs[k]? = some x) (m : Int) (hm : 0 ≤ operand m) :
    (cpuE ⟨c.name, c.instrs.take k ++ ⟨x.op, x.name, m, x.cycles⟩ :: c.instrs.drop (k + 1), c.res, c.irq, c.nmi⟩ = 0) ↔ operand m = operand x.mode := by
  have hF := cpu_instrs h
  obtain ⟨hl, hd⟩ := split_at hx
  obtain ⟨hn, hc1, hc2, hc3⟩ := cpu_parts h
  have hk := (List.getElem?_eq_some_iff.1 hx).1
  rw [hl] at hF
  obtain ⟨h1, h2⟩ := instrsF_split _ _ _ hF
  rw [List.nil_append, instrsF_cons] at h2
  have hE : instrE (c.instrs.take k) x = 0 := by
    by_cases hy : instrE (c.instrs.take k) x = 0
    · exact hy
    · rw [if_neg hy] at h2; exact h2
  rw [if_pos hE] at h2
  obtain ⟨q1, q2, q3, q4, q5, q6, q7⟩ := instrE_all hE
  have q5' : ¬ (c.instrs.take k).any (sameKey ⟨x.op, x.name, m, x.cycles⟩) = true := by
    intro hh
    obtain ⟨y, hy, hs⟩ := List.any_eq_true.1 hh
    obtain ⟨j, hj⟩ := List.mem_iff_getElem?.1 hy
    have hjk : j < k := by
      have := (List.getElem?_eq_some_iff.1 hj).1
      simp at this
      omega
    rw [List.getElem?_take, if_pos hjk] at hj
    unfold sameKey at hs
    rw [Bool.and_eq_true, decide_eq_true_eq] at hs
    exact hN k j x y hx hj (by omega) hs.1
  have hE' : instrE (c.instrs.take k) ⟨x.op, x.name, m, x.cycles⟩ = if operand m = operand x.mode then 0 else 3 := by
    unfold instrE
    dsimp only
    have q7' : reads x.cycles = operand x.mode := Decidable.byContradiction q7
    rw [if_neg q1, if_neg q2, if_neg q3, if_neg (by omega), if_neg q5', if_neg q6, q7']
    by_cases hm2 : operand m = operand x.mode
    · rw [if_pos hm2, if_neg (by rw [hm2]; simp)]
    · rw [if_neg hm2, if_pos (fun e => hm2 e.symm)]
  have hI : instrsF [] (c.instrs.take k ++ ⟨x.op, x.name, m, x.cycles⟩ :: c.instrs.drop (k + 1)) = if operand m = operand x.mode then 0 else 3 := by
    rw [instrsF_app _ _ _ h1, List.nil_append, instrsF_cons, hE']
    by_cases hm2 : operand m = operand x.mode
    · rw [if_pos hm2, if_pos rfl]
      refine instrsF_mid (a := c.instrs.take k) (x := x) (x' := ⟨x.op, x.name, m, x.cycles⟩) rfl _ [] (fun y hy => ?_) h2
      obtain ⟨j, hj⟩ := List.mem_iff_getElem?.1 hy
      rw [List.getElem?_drop] at hj
      exact hN _ k y x hj hx (by omega)
    · rw [if_neg hm2, if_neg (by decide)]
  unfold cpuE
  dsimp only
  rw [if_neg hn, if_neg (by simp; omega), hI]
  by_cases hm2 : operand m = operand x.mode
  · rw [if_pos hm2, if_neg (by decide), if_neg hc1, if_neg hc2, hc3]
    simp [hm2]
  · rw [if_neg hm2, if_pos (by decide)]
    simp [hm2]
end Go.Proofs.Ytnkplfimcehnmaa
