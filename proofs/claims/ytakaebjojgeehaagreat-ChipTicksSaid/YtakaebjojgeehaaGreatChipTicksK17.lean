/- A part of the proof of ChipTicks: ArrOwn, Off. -/
import Derived.Test.YtakaebjojgeehaaGreatChipTicksK01
import Derived.Test.YtakaebjojgeehaaGreatChipTicksK02
import Derived.Test.YtakaebjojgeehaaGreatChipTicksK04
import Derived.Test.YtakaebjojgeehaaGreatChipTicksK16
import Derived.Below
import Derived.BigQuiet
import Derived.ChangeMaps5
import Derived.Deep.DeepAppendWide
import Derived.Deep.Draws
import Derived.Deep.MidRow
import Derived.Deep.OwnRows
import Derived.Deep.QuietTactic
import Derived.Deep.Slices
import Derived.Deep.WholeRow
import Derived.Laws.OwnMore
import Derived.Lib.Hide
import Derived.Lib.SmallJoins
import Derived.OpenShut
import Derived.OwnWalk
import Derived.RowKit3
import Derived.WalkKit
namespace Go.Proofs.YtakaebjojgeehaaGreat
open Go.RowKit
def flat (f : Nat → List Value) : Nat → List Value
  | 0 => []
  | n + 1 => flat f n ++ f n
theorem flat_length {k n : Nat} {f : Nat → List Value} (h : ∀ i, i < n → (f i).length = k) : (flat f n).length = n * k := by
  induction n with
  | zero => simp [flat]
  | succ n ih =>
    rw [flat, List.length_append, ih (fun i hi => h i (by omega)), h n (by omega), Nat.succ_mul]
theorem flat_get {k n : Nat} {f : Nat → List Value} (h : ∀ i, i < n → (f i).length = k) {i r : Nat} (hi : i < n) (hr : r < k) : (flat f n)[i * k + r]? = (f i)[r]? := by
  induction n with
  | zero => cases hi
  | succ n ih =>
    have hn := fun i hi => h i (Nat.lt_succ_of_lt hi)
    have hl := flat_length hn
    rw [flat]
    by_cases e : i < n
    · have hlt : i * k + r < (flat f n).length := by
        rw [hl]
        have : (i + 1) * k ≤ n * k := Nat.mul_le_mul_right k e
        rw [Nat.succ_mul] at this
        omega
      rw [List.getElem?_append_left hlt]
      exact ih hn e
    · obtain rfl : i = n := by omega
      rw [List.getElem?_append_right (by rw [hl]; omega), hl, Nat.add_sub_cancel_left]
theorem flat_mem {n : Nat} {f : Nat → List Value} {u : Value} (h : u ∈ flat f n) : ∃ i, i < n ∧ u ∈ f i := by
  induction n with
  | zero => cases h
  | succ n ih =>
    rw [flat, List.mem_append] at h
    rcases h with h | h
    · obtain ⟨i, hi, hu⟩ := ih h; exact ⟨i, by omega, hu⟩
    · exact ⟨n, by omega, h⟩
theorem flat_congr {n : Nat} {f g : Nat → List Value} (h : ∀ i, i < n → f i = g i) : flat f n = flat g n := by
  induction n with
  | zero => rfl
  | succ n ih => rw [flat, flat, ih (fun i hi => h i (by omega)), h n (by omega)]
/-- One family, then another. -/
def joinF (n : Nat) (f g : Nat → List Value) (i : Nat) : List Value := if i < n then f i else g (i - n)
theorem flat_join (n m : Nat) (f g : Nat → List Value) : flat (joinF n f g) (n + m) = flat f n ++ flat g m := by
  induction m with
  | zero =>
    rw [Nat.add_zero, flat, List.append_nil]
    exact flat_congr fun i hi => by unfold joinF; rw [if_pos hi]
  | succ m ih =>
    rw [Nat.add_succ, flat, ih, flat, List.append_assoc]
    unfold joinF
    rw [if_neg (by omega), Nat.add_sub_cancel_left]

/-- The slice v belongs to the call (its block has a number from B on) and holds the list: R tells what an element's cells are. -/
def ownArr {α : Type} (k : Nat) (R : List Value → α → Prop) (B : Nat) (e : TypeId) (w : World) (v : Value) (l : List α) : Prop :=
  ∃ f : Nat → List Value, (∀ i, i < l.length → (f i).length = k) ∧ w.ownsRow B e k v l.length (flat f l.length) ∧ ∀ i x, l[i]? = some x → R (f i) x

theorem ownArr_made {α : Type} (k : Nat) (R : List Value → α → Prop) (B : Nat) (e : TypeId) (w : World) (hB : B ≤ w.heap.size) : ownArr k R B e (w.alloc (.cells #[] e)) (.slice (some ⟨w.heap.size, 0, none⟩) 0 0) ([] : List α) :=
  ⟨fun _ => [], (fun i hi => by cases hi), ⟨by simp [flat], .inr ⟨w.heap.size, 0, #[], rfl, hB, heap_alloc_new w _, Nat.le_refl _, by decide, by simp, by simp [flat]⟩⟩, (fun i x hx => by simp at hx)⟩
end Go.Proofs.YtakaebjojgeehaaGreat
namespace Go.Proofs.YtakaebjojgeehaaGreat
open Go.RowKit
/-- Of the blocks that there were, just those of G may have changed. -/
structure Off (G : Nat → Prop) (w w' : World) : Prop where
  os : w'.os = w.os
  tape : w'.tape = w.tape
  output : w'.output = w.output
  size : w.heap.size ≤ w'.heap.size
  block : ∀ k, k < w.heap.size → ¬ G k → w'.heap[k]? = w.heap[k]?
section
variable {G : Nat → Prop} {w w' : World}
theorem Off.refl (G : Nat → Prop) (w : World) : Off G w w := ⟨rfl, rfl, rfl, Nat.le_refl _, fun _ _ _ => rfl⟩
theorem Off.trans {a b c : World} (h : Off G a b) (k : Off G b c) : Off G a c :=
  ⟨k.os.trans h.os, k.tape.trans h.tape, k.output.trans h.output, Nat.le_trans h.size k.size, fun i hi hg => (k.block i (Nat.lt_of_lt_of_le hi h.size) hg).trans (h.block i hi hg)⟩
theorem off_below (h : Below w.heap.size w w') : Off G w w' := ⟨h.os, h.tape, h.output, h.size, fun k hk _ => h.block k hk⟩
theorem Off.below {B : Nat} (h : Off G w w') (hB : B ≤ w.heap.size) (hG : ∀ g, G g → B ≤ g) : Below B w w' :=
  ⟨h.os, h.tape, h.output, h.size, fun k hk => h.block k (Nat.lt_of_lt_of_le hk hB) fun hg => by have := hG k hg; omega⟩
theorem rowB_off {g : Nat} {t : TypeId} {cs : Array Value} (h : rowB w g t cs) (ho : Off G w w') (hg : ¬ G g) : rowB w' g t cs := by
  have hlt := rowB_lt h
  unfold rowB at *
  rw [ho.block g hlt hg]; exact h
theorem off_drew (G : Nat → Prop) (w : World) : Off G w w.drew := ⟨rfl, rfl, rfl, Nat.le_refl _, fun _ _ _ => rfl⟩
theorem Off.alloc {w0 : World} (h : Off G w0 w) (o : Obj) : Off G w0 (w.alloc o) := h.trans (off_below ((Below.refl _ _).alloc (Nat.le_refl _) o))
theorem Off.call {w0 : World} (h : Off G w0 w) (hb : Below w.heap.size w w') : Off G w0 w' := h.trans (off_below hb)
/-- A store into one of them, or into a block that is new. -/
theorem Off.set {w0 : World} (h : Off G w0 w) {p : Addr} (hp : G p.block ∨ w0.heap.size ≤ p.block) (v : Value) : Off G w0 (w.setCell p v) :=
  ⟨h.os, h.tape, h.output, by simpa [World.setCell] using h.size, fun k hk hg => by
    rw [Below.heap_setCell w p v k (by rintro rfl; rcases hp with hp | hp; exact hg hp; omega)]
    exact h.block k hk hg⟩
theorem Off.row {w0 : World} (h : Off G w0 w) {g : Nat} (hp : G g ∨ w0.heap.size ≤ g) (cs : Array Value) : Off G w0 (w.setRow g cs) :=
  ⟨h.os, h.tape, h.output, by simpa [size_row] using h.size, fun k hk hg => by
    have e : (w.setRow g cs).heap[k]? = w.heap[k]? := by
      simp only [World.setRow, Array.getElem?_modify]
      rw [if_neg (by rintro rfl; rcases hp with hp | hp; exact hg hp; omega)]
    rw [e]; exact h.block k hk hg⟩
theorem Off.mono {G' : Nat → Prop} (h : Off G w w') (hG : ∀ g, g < w.heap.size → G g → G' g) : Off G' w w' := ⟨h.os, h.tape, h.output, h.size, fun k hk hg => h.block k hk fun h' => hg (hG k hk h')⟩
theorem Off.grown {w0 : World} {r : Option Nat} (h : Off G w0 w) (hg : w.grownBy w' r) (hr : ∀ k, r = some k → G k ∨ w0.heap.size ≤ k) : Off G w0 w' :=
  ⟨hg.os.trans h.os, hg.tape.trans h.tape, hg.output.trans h.output, Nat.le_trans h.size hg.size, fun k hk hn => (hg.block k (Nat.lt_of_lt_of_le hk h.size) fun e => by
    rcases hr k e.symm with h1 | h1
    · exact hn h1
    · omega).trans (h.block k hk hn)⟩
end
end Go.Proofs.YtakaebjojgeehaaGreat
