/- What is asked of a memory that a processor reads and writes through an interface value. -/
import Derived.Test.YthhihmggaddlmaaChecked
import Derived.Test.YthhihmggaddlmaaOff
import Derived.Test.YthhihmggaddlmaaWholeMath
import Derived.Below
import Derived.BigQuiet
import Derived.ChangeMaps5
import Derived.Deep.CutBlock
import Derived.Deep.DeepAppendWide
import Derived.Deep.DeepCutAuto
import Derived.Deep.Draws
import Derived.Deep.MidRow
import Derived.Deep.OwnRows
import Derived.Deep.QuietTactic
import Derived.Deep.RegionHeld3
import Derived.Deep.RegionLaw
import Derived.Deep.RegionWith
import Derived.Deep.Slices
import Derived.Deep.WholeRow
import Derived.Laws.OwnMore
import Derived.Lib.Hide
import Derived.Lib.SmallJoins
import Derived.OpenShut
import Derived.OrdersHeld
import Derived.OwnWalk
import Derived.RowKit3
import Derived.SizedLaws
import Derived.StillTactics
import Derived.StillTail
import Derived.StillTailTactics
import Derived.WalkKit
namespace Go.Proofs.Ythhihmggaddlmaa
open Go.RowKit
set_option maxRecDepth 100000

/-- The interface value (T, v) is a memory: its Read and Write are the functions fr and fw; it lies in the blocks G. -/
structure memC (T : TypeId) (v : Value) (fr fw : Nat) (G : Nat → Prop) {M : Type} (F : MemF M) (inv : World → M → Prop) : Prop where
  mr : ∀ w : World, (method 260 T v "Read").run Try.prog w = .ok (fr, v) w
  mw : ∀ w : World, (method 260 T v "Write").run Try.prog w = .ok (fw, v) w
  er : ∀ (args : Array Value) (w : World), (callFunc fr args).run Try.prog w = .ok (.enter fr args) w
  ew : ∀ (args : Array Value) (w : World), (callFunc fw args).run Try.prog w = .ok (.enter fw args) w
  keep : ∀ (w w' : World) (m : M), inv w m → w.heap.size ≤ w'.heap.size → (∀ g, G g → w'.heap[g]? = w.heap[g]?) → inv w' m
  low : ∀ (w : World) (m : M) (g : Nat), inv w m → G g → g < w.heap.size
  rd : ∀ (w : World) (m : M) (a : Int), 0 ≤ a → a < 65792 → inv w m → Calls Try.prog fr #[v, .int .i64 a] w fun e w' => e = .returned (.int .i64 (F.rd m a)) ∧ Below w.heap.size w w'
  wr : ∀ (w : World) (m : M) (a d : Int), 0 ≤ a → a < 65792 → 0 ≤ d → d < 65536 → inv w m → Calls Try.prog fw #[v, .int .i64 a, .int .i64 d] w fun e w' => e = .returned (.tuple #[]) ∧ inv w' (F.wr m a d) ∧ Off G w w'
section
variable {T : TypeId} {v : Value} {fr fw : Nat} {G : Nat → Prop} {M : Type} {F : MemF M} {inv : World → M → Prop} {w w' : World} {m : M}
theorem memC.call (h : memC T v fr fw G F inv) (hi : inv w m) (hb : Below w.heap.size w w') : inv w' m := h.keep w w' m hi hb.size fun g hg => hb.block g (h.low w m g hi hg)
theorem memC.alloc (h : memC T v fr fw G F inv) (hi : inv w m) (o : Obj) : inv (w.alloc o) m := h.call hi ((Below.refl _ _).alloc (Nat.le_refl _) o)
theorem memC.row (h : memC T v fr fw G F inv) (hi : inv w m) {g : Nat} (hg : ¬ G g) (cs : Array Value) : inv (w.setRow g cs) m :=
  h.keep _ _ _ hi (by rw [size_row]; exact Nat.le_refl _) fun k hk => by
    simp only [World.setRow, Array.getElem?_modify]
    rw [if_neg (by rintro rfl; exact hg hk)]
theorem memC.set (h : memC T v fr fw G F inv) (hi : inv w m) {g j : Nat} (hg : ¬ G g) (x : Value) : inv (w.setCell ⟨g, j, none⟩ x) m :=
  h.keep _ _ _ hi (by simp [World.setCell]) fun k hk => Below.heap_setCell w ⟨g, j, none⟩ x k (by rintro rfl; exact hg hk)
theorem memC.drew (h : memC T v fr fw G F inv) (hi : inv w m) : inv w.drew m := h.keep _ _ _ hi (Nat.le_refl _) fun _ _ => rfl
end

/-- A part of a call's blocks: they are new, and none of the memory's. -/
structure cycW (G : Nat → Prop) {M : Type} (inv : World → M → Prop) (w0 w : World) (cpu ks zr zb : Array Value) (m : M) : Prop where
  hp : rowB w w0.heap.size 25 cpu
  hk : rowB w (w0.heap.size + 1) 29 ks
  hr : rowB w (w0.heap.size + 2) 29 zr
  hb : rowB w (w0.heap.size + 3) 34 zb
  off : Off G w0 w
  mem : inv w m
section
variable {T : TypeId} {v : Value} {fr fw : Nat} {G : Nat → Prop} {M : Type} {F : MemF M} {inv : World → M → Prop} {w0 w w' : World} {cpu ks zr zb : Array Value} {m : M}
theorem cycW.call (h : cycW G inv w0 w cpu ks zr zb m) (hC : memC T v fr fw G F inv) (hb : Below w.heap.size w w') : cycW G inv w0 w' cpu ks zr zb m :=
  ⟨rowB_below h.hp hb (rowB_lt h.hp), rowB_below h.hk hb (rowB_lt h.hk), rowB_below h.hr hb (rowB_lt h.hr), rowB_below h.hb hb (rowB_lt h.hb), h.off.call hb, hC.call h.mem hb⟩
theorem cycW.alloc (h : cycW G inv w0 w cpu ks zr zb m) (hC : memC T v fr fw G F inv) (o : Obj) : cycW G inv w0 (w.alloc o) cpu ks zr zb m := h.call hC ((Below.refl _ _).alloc (Nat.le_refl _) o)
theorem cycW.drew (h : cycW G inv w0 w cpu ks zr zb m) (hC : memC T v fr fw G F inv) : cycW G inv w0 w.drew cpu ks zr zb m := ⟨h.hp, h.hk, h.hr, h.hb, h.off.trans (off_drew _ _), hC.drew h.mem⟩
theorem cycW.wrote {m' : M} (h : cycW G inv w0 w cpu ks zr zb m) (hG : ∀ g, G g → g < w0.heap.size) (ho : Off G w w') (hi : inv w' m') : cycW G inv w0 w' cpu ks zr zb m' :=
  ⟨rowB_off h.hp ho fun hg => by have := hG _ hg; omega, rowB_off h.hk ho fun hg => by have := hG _ hg; omega, rowB_off h.hr ho fun hg => by have := hG _ hg; omega, rowB_off h.hb ho fun hg => by have := hG _ hg; omega, h.off.trans ho, hi⟩
theorem cycW.size (h : cycW G inv w0 w cpu ks zr zb m) : w0.heap.size + 3 < w.heap.size := rowB_lt h.hb
/-- The state is stored. -/
theorem cycW.state (h : cycW G inv w0 w cpu ks zr zb m) (hC : memC T v fr fw G F inv) (hG : ∀ g, G g → g < w0.heap.size) (cs : Array Value) : cycW G inv w0 (w.setRow (w0.heap.size + 1) cs) cpu cs zr zb m :=
  ⟨rowB_row_other h.hp cs (by omega), rowB_row h.hk cs, rowB_row_other h.hr cs (by omega), rowB_row_other h.hb cs (by omega), h.off.row (.inr (by omega)) cs, hC.row h.mem (fun hg => by have := hG _ hg; omega) cs⟩
theorem cycW.far (h : cycW G inv w0 w cpu ks zr zb m) (hC : memC T v fr fw G F inv) (hG : ∀ g, G g → g < w0.heap.size) {g : Nat} (hg : w0.heap.size + 3 < g) (cs : Array Value) : cycW G inv w0 (w.setRow g cs) cpu ks zr zb m :=
  ⟨rowB_row_other h.hp cs (by omega), rowB_row_other h.hk cs (by omega), rowB_row_other h.hr cs (by omega), rowB_row_other h.hb cs (by omega), h.off.row (.inr (by omega)) cs, hC.row h.mem (fun hg => by have := hG _ hg; omega) cs⟩
theorem cycW.farC (h : cycW G inv w0 w cpu ks zr zb m) (hC : memC T v fr fw G F inv) (hG : ∀ g, G g → g < w0.heap.size) {g j : Nat} (hg : w0.heap.size + 3 < g) (x : Value) : cycW G inv w0 (w.setCell ⟨g, j, none⟩ x) cpu ks zr zb m :=
  ⟨rowB_other h.hp _ _ (by show g ≠ _; omega), rowB_other h.hk _ _ (by show g ≠ _; omega), rowB_other h.hr _ _ (by show g ≠ _; omega), rowB_other h.hb _ _ (by show g ≠ _; omega), h.off.set (.inr (by show w0.heap.size ≤ g; omega)) x, hC.set h.mem (fun hg => by have := hG _ hg; omega) x⟩
theorem cycW.outR (h : cycW G inv w0 w cpu ks zr zb m) (hC : memC T v fr fw G F inv) (hG : ∀ g, G g → g < w0.heap.size) (cs : Array Value) : cycW G inv w0 (w.setRow (w0.heap.size + 2) cs) cpu ks cs zb m :=
  ⟨rowB_row_other h.hp cs (by omega), rowB_row_other h.hk cs (by omega), rowB_row h.hr cs, rowB_row_other h.hb cs (by omega), h.off.row (.inr (by omega)) cs, hC.row h.mem (fun hg => by have := hG _ hg; omega) cs⟩
theorem cycW.outB (h : cycW G inv w0 w cpu ks zr zb m) (hC : memC T v fr fw G F inv) (hG : ∀ g, G g → g < w0.heap.size) (cs : Array Value) : cycW G inv w0 (w.setRow (w0.heap.size + 3) cs) cpu ks zr cs m :=
  ⟨rowB_row_other h.hp cs (by omega), rowB_row_other h.hk cs (by omega), rowB_row_other h.hr cs (by omega), rowB_row h.hb cs, h.off.row (.inr (by omega)) cs, hC.row h.mem (fun hg => by have := hG _ hg; omega) cs⟩
end
theorem cycW.start {T : TypeId} {v : Value} {fr fw : Nat} {G : Nat → Prop} {M : Type} {F : MemF M} {inv : World → M → Prop} {m : M} (hC : memC T v fr fw G F inv) (w : World) (hi : inv w m) (cpu ks : Array Value) :
    cycW G inv w ((((w.alloc (.cells cpu 25)).alloc (.cells ks 29)).alloc (.cells (core12 (fun _ => 0) 0 0 false) 29)).alloc (.cells (bus3 0 0 0) 34)) cpu ks (core12 (fun _ => 0) 0 0 false) (bus3 0 0 0) m := by
  obtain ⟨k0, k1, k2, k3, b, s⟩ := boxes4 w (.cells cpu 25) (.cells ks 29) (.cells (core12 (fun _ => 0) 0 0 false) 29) (.cells (bus3 0 0 0) 34)
  exact ⟨k0, k1, k2, k3, off_below b, hC.call hi b⟩
theorem bus3_at {w : World} {g : Nat} {d a x : Int} (h : rowB w g 34 (bus3 d a x)) : w.cell? ⟨g, 0, none⟩ = some (.int .i64 d) ∧ w.cell? ⟨g, 1, none⟩ = some (.int .i64 a) ∧ w.cell? ⟨g, 2, none⟩ = some (.int .i64 x) := ⟨rowB_cell h 0 rfl, rowB_cell h 1 rfl, rowB_cell h 2 rfl⟩
theorem bus3_set {w : World} {g : Nat} {d a x : Int} (h : rowB w g 34 (bus3 d a x)) (y : Int) : rowB (w.setCell ⟨g, 2, none⟩ (.int .i64 y)) g 34 (bus3 d a y) := rowB_set h 2 _
end Go.Proofs.Ythhihmggaddlmaa
