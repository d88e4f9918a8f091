/- A part of the proof of ChipBanks: Off. -/
import Derived.Test.YtakaebjojgeehaaChipBanksK01
import Derived.Test.YtakaebjojgeehaaChipBanksK03
import Derived.Test.YtakaebjojgeehaaChipBanksK04
import Derived.Test.YtakaebjojgeehaaChipBanksK20
import Derived.Test.YtakaebjojgeehaaChipBanksK21
import Derived.Below
import Derived.BigQuiet
import Derived.ChangeMaps5
import Derived.Deep.DeepAppendWide
import Derived.Deep.Draws
import Derived.Deep.MidRow
import Derived.Deep.OwnRows
import Derived.Deep.QuietTactic
import Derived.Deep.Slices
import Derived.Deep.WholeRow
import Derived.Laws.OwnMore
import Derived.Lib.Hide
import Derived.Lib.SmallJoins
import Derived.OpenShut
import Derived.OwnWalk
import Derived.RowKit3
import Derived.WalkKit
namespace Go.Proofs.Ytakaebjojgeehaa
open Go.RowKit
/-- Of the blocks that there were, just those of G may have changed. -/
structure Off (G : Nat → Prop) (w w' : World) : Prop where
  os : w'.os = w.os
  tape : w'.tape = w.tape
  output : w'.output = w.output
  size : w.heap.size ≤ w'.heap.size
  block : ∀ k, k < w.heap.size → ¬ G k → w'.heap[k]? = w.heap[k]?
section
variable {G : Nat → Prop} {w w' : World}
theorem Off.refl (G : Nat → Prop) (w : World) : Off G w w := ⟨rfl, rfl, rfl, Nat.le_refl _, fun _ _ _ => rfl⟩
theorem Off.trans {a b c : World} (h : Off G a b) (k : Off G b c) : Off G a c :=
  ⟨k.os.trans h.os, k.tape.trans h.tape, k.output.trans h.output, Nat.le_trans h.size k.size, fun i hi hg => (k.block i (Nat.lt_of_lt_of_le hi h.size) hg).trans (h.block i hi hg)⟩
theorem off_below (h : Below w.heap.size w w') : Off G w w' := ⟨h.os, h.tape, h.output, h.size, fun k hk _ => h.block k hk⟩
theorem Off.below {B : Nat} (h : Off G w w') (hB : B ≤ w.heap.size) (hG : ∀ g, G g → B ≤ g) : Below B w w' :=
  ⟨h.os, h.tape, h.output, h.size, fun k hk => h.block k (Nat.lt_of_lt_of_le hk hB) fun hg => by have := hG k hg; omega⟩
theorem Off.alloc {w0 : World} (h : Off G w0 w) (o : Obj) : Off G w0 (w.alloc o) := h.trans (off_below ((Below.refl _ _).alloc (Nat.le_refl _) o))
theorem Off.call {w0 : World} (h : Off G w0 w) (hb : Below w.heap.size w w') : Off G w0 w' := h.trans (off_below hb)
/-- A store into one of them, or into a block that is new. -/
theorem Off.set {w0 : World} (h : Off G w0 w) {p : Addr} (hp : G p.block ∨ w0.heap.size ≤ p.block) (v : Value) : Off G w0 (w.setCell p v) :=
  ⟨h.os, h.tape, h.output, by simpa [World.setCell] using h.size, fun k hk hg => by
    rw [Below.heap_setCell w p v k (by rintro rfl; rcases hp with hp | hp; exact hg hp; omega)]
    exact h.block k hk hg⟩
theorem Off.row {w0 : World} (h : Off G w0 w) {g : Nat} (hp : G g ∨ w0.heap.size ≤ g) (cs : Array Value) : Off G w0 (w.setRow g cs) :=
  ⟨h.os, h.tape, h.output, by simpa [size_row] using h.size, fun k hk hg => by
    have e : (w.setRow g cs).heap[k]? = w.heap[k]? := by
      simp only [World.setRow, Array.getElem?_modify]
      rw [if_neg (by rintro rfl; rcases hp with hp | hp; exact hg hp; omega)]
    rw [e]; exact h.block k hk hg⟩
theorem Off.mono {G' : Nat → Prop} (h : Off G w w') (hG : ∀ g, g < w.heap.size → G g → G' g) : Off G' w w' := ⟨h.os, h.tape, h.output, h.size, fun k hk hg => h.block k hk fun h' => hg (hG k hk h')⟩
theorem Off.grown {w0 : World} {r : Option Nat} (h : Off G w0 w) (hg : w.grownBy w' r) (hr : ∀ k, r = some k → G k ∨ w0.heap.size ≤ k) : Off G w0 w' :=
  ⟨hg.os.trans h.os, hg.tape.trans h.tape, hg.output.trans h.output, Nat.le_trans h.size hg.size, fun k hk hn => (hg.block k (Nat.lt_of_lt_of_le hk h.size) fun e => by
    rcases hr k e.symm with h1 | h1
    · exact hn h1
    · omega).trans (h.block k hk hn)⟩
end
end Go.Proofs.Ytakaebjojgeehaa
