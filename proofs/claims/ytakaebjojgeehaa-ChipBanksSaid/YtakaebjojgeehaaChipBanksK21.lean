/- A part of the proof of ChipBanks: ArrOwn. -/
import Derived.Test.YtakaebjojgeehaaChipBanksK01
import Derived.Test.YtakaebjojgeehaaChipBanksK03
import Derived.Test.YtakaebjojgeehaaChipBanksK20
import Derived.Below
import Derived.BigQuiet
import Derived.ChangeMaps5
import Derived.Deep.DeepAppendWide
import Derived.Deep.Draws
import Derived.Deep.OwnRows
import Derived.Deep.QuietTactic
import Derived.Deep.Slices
import Derived.Laws.OwnMore
import Derived.Lib.Hide
import Derived.Lib.SmallJoins
import Derived.OpenShut
import Derived.OwnWalk
import Derived.RowKit3
import Derived.WalkKit
namespace Go.Proofs.Ytakaebjojgeehaa
open Go.RowKit
def flat (f : Nat → List Value) : Nat → List Value
  | 0 => []
  | n + 1 => flat f n ++ f n
theorem flat_length {k n : Nat} {f : Nat → List Value} (h : ∀ i, i < n → (f i).length = k) : (flat f n).length = n * k := by
  induction n with
  | zero => simp [flat]
  | succ n ih =>
    rw [flat, List.length_append, ih (fun i hi => h i (by omega)), h n (by omega), Nat.succ_mul]
theorem flat_get {k n : Nat} {f : Nat → List Value} (h : ∀ i, i < n → (f i).length = k) {i r : Nat} (hi : i < n) (hr : r < k) : (flat f n)[i * k + r]? = (f i)[r]? := by
  induction n with
  | zero => cases hi
  | succ n ih =>
    have hn := fun i hi => h i (Nat.lt_succ_of_lt hi)
    have hl := flat_length hn
    rw [flat]
    by_cases e : i < n
    · have hlt : i * k + r < (flat f n).length := by
        rw [hl]
        have : (i + 1) * k ≤ n * k := Nat.mul_le_mul_right k e
        rw [Nat.succ_mul] at this
        omega
      rw [List.getElem?_append_left hlt]
      exact ih hn e
    · obtain rfl : i = n := by omega
      rw [List.getElem?_append_right (by rw [hl]; omega), hl, Nat.add_sub_cancel_left]
theorem flat_mem {n : Nat} {f : Nat → List Value} {u : Value} (h : u ∈ flat f n) : ∃ i, i < n ∧ u ∈ f i := by
  induction n with
  | zero => cases h
  | succ n ih =>
    rw [flat, List.mem_append] at h
    rcases h with h | h
    · obtain ⟨i, hi, hu⟩ := ih h; exact ⟨i, by omega, hu⟩
    · exact ⟨n, by omega, h⟩
theorem flat_congr {n : Nat} {f g : Nat → List Value} (h : ∀ i, i < n → f i = g i) : flat f n = flat g n := by
  induction n with
  | zero => rfl
  | succ n ih => rw [flat, flat, ih (fun i hi => h i (by omega)), h n (by omega)]
/-- One family, then another. -/
def joinF (n : Nat) (f g : Nat → List Value) (i : Nat) : List Value := if i < n then f i else g (i - n)
theorem flat_join (n m : Nat) (f g : Nat → List Value) : flat (joinF n f g) (n + m) = flat f n ++ flat g m := by
  induction m with
  | zero =>
    rw [Nat.add_zero, flat, List.append_nil]
    exact flat_congr fun i hi => by unfold joinF; rw [if_pos hi]
  | succ m ih =>
    rw [Nat.add_succ, flat, ih, flat, List.append_assoc]
    unfold joinF
    rw [if_neg (by omega), Nat.add_sub_cancel_left]

/-- The slice v belongs to the call (its block has a number from B on) and holds the list: R tells what an element's cells are. -/
def ownArr {α : Type} (k : Nat) (R : List Value → α → Prop) (B : Nat) (e : TypeId) (w : World) (v : Value) (l : List α) : Prop :=
  ∃ f : Nat → List Value, (∀ i, i < l.length → (f i).length = k) ∧ w.ownsRow B e k v l.length (flat f l.length) ∧ ∀ i x, l[i]? = some x → R (f i) x

theorem ownArr_made {α : Type} (k : Nat) (R : List Value → α → Prop) (B : Nat) (e : TypeId) (w : World) (hB : B ≤ w.heap.size) : ownArr k R B e (w.alloc (.cells #[] e)) (.slice (some ⟨w.heap.size, 0, none⟩) 0 0) ([] : List α) :=
  ⟨fun _ => [], (fun i hi => by cases hi), ⟨by simp [flat], .inr ⟨w.heap.size, 0, #[], rfl, hB, heap_alloc_new w _, Nat.le_refl _, by decide, by simp, by simp [flat]⟩⟩, (fun i x hx => by simp at hx)⟩
end Go.Proofs.Ytakaebjojgeehaa
