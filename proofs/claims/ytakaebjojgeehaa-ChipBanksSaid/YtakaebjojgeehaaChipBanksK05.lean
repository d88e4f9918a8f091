/- A part of the proof of ChipBanks: Dev. -/
import Derived.Test.YtakaebjojgeehaaChipBanksK01
import Derived.Test.YtakaebjojgeehaaChipBanksK03
import Derived.Test.YtakaebjojgeehaaChipBanksK04
import Derived.Below
import Derived.BigQuiet
import Derived.ChangeMaps5
import Derived.Deep.DeepCutAuto
import Derived.Deep.Draws
import Derived.Deep.MidRow
import Derived.Deep.OwnRows
import Derived.Deep.QuietTactic
import Derived.Deep.RegionHeld3
import Derived.Deep.RegionWith
import Derived.Deep.Slices
import Derived.Deep.WholeRow
import Derived.Lib.Hide
import Derived.Lib.SmallJoins
import Derived.OpenShut
import Derived.OrdersHeld
import Derived.OwnWalk
import Derived.RowKit3
import Derived.StillTactics
import Derived.StillTail
import Derived.StillTailTactics
import Derived.Test.YtakaebjojgeehaaChecked
import Derived.WalkKit
namespace Go.Proofs.Ytakaebjojgeehaa
open Go.RowKit Go.ChangeShapes Go.WideShapes
set_option maxRecDepth 100000
theorem agDv : isAg Try.prog 34 2 := ⟨⟨_, Try.underlying34, rfl⟩, by kernel_rfl⟩
theorem dev2_one (a b : Option Addr) (n m c d : Nat) : (#[.slice a n c, .slice b m d] : Array Value).all (·.oneCell') = true := by simp [Value.oneCell']
/-- A slice of numbers that came in. -/
theorem isArg_form {w : World} {v : Value} {l : List Int} (h : isArg w v l) :
    ∃ a cap, v = .slice a l.length cap ∧ ∀ m, m < l.length → ∃ b off, a = some ⟨b, off, none⟩ ∧ b < w.heap.size ∧ l.length ≤ cap ∧ cap ≤ 9223372036854775807 ∧ w.cell? ⟨b, off + m, none⟩ = some (.int .i64 (l.getD m 0)) := by
  rcases h with ⟨a, cap, rfl, rfl⟩ | ⟨b, off, cap, rfl, h1, h2, h3, h4⟩
  · exact ⟨a, cap, rfl, fun m hm => absurd hm (Nat.not_lt_zero _)⟩
  · exact ⟨_, cap, rfl, fun m hm => ⟨b, off, rfl, h1, h2, h3, h4 m hm⟩⟩
/-- A state that a call has made: its numbers in a row of its own, no bytes. -/
def devO (lo : Nat) (w : World) (v : Value) (l : List Int) : Prop :=
  ∃ g, v = .agg #[.slice (some ⟨g, 0, none⟩) l.length l.length, .slice none 0 0] ∧ lo ≤ g ∧ rowB w g 3 (l.map (Value.int .i64)).toArray
theorem numB_arg {w : World} {g : Nat} {l : List Int} (h : rowB w g 3 (l.map (Value.int .i64)).toArray) (hl : l.length ≤ 9223372036854775807) : isArg w (.slice (some ⟨g, 0, none⟩) l.length l.length) l := by
  refine .inr ⟨g, 0, l.length, rfl, rowB_lt h, Nat.le_refl _, hl, fun j hj => ?_⟩
  rw [Nat.zero_add]
  refine rowB_cell h j ?_
  simp [List.getD_eq_getElem?_getD, List.getElem?_eq_getElem hj]
theorem devO.below {lo : Nat} {w w' : World} {v : Value} {l : List Int} (h : devO lo w v l) (hb : Below w.heap.size w w') : devO lo w' v l := by
  obtain ⟨g, e, hg, hr⟩ := h
  exact ⟨g, e, hg, rowB_below hr hb (rowB_lt hr)⟩
theorem devO.mono {lo hi : Nat} {w : World} {v : Value} {l : List Int} (h : devO lo w v l) (hl : hi ≤ lo) : devO hi w v l := by
  obtain ⟨g, e, hg, hr⟩ := h
  exact ⟨g, e, Nat.le_trans hl hg, hr⟩
/-- Two results, the first one a struct in a variable. -/
theorem resultsRT {P : Program} {fn : Func} {p q : Tmp} {ty : TypeId} (h : fn.results = #[.cell p ty, .tmp q])
    (g : Nat) (tmps : Array Value) (hp : tmps.getD p undef = .pointer (some ⟨g, 0, none⟩)) {w : World} {t : TypeId} {cs : Array Value} (hb : rowB w g t cs) (h9 : isAg P ty cs.size) {u : Value} (hq : tmps.getD q undef = u) :
    (results fn tmps).run P w = .ok (.tuple #[.agg cs, u]) w := by
  obtain ⟨⟨d, hu, hd⟩, hi⟩ := h9
  have hl := run_loadVar_row (P := P) w g t ty cs (0, 0) _ hb hu (by cases d <;> simp_all) hi
  rw [Array.getD_eq_getD_getElem?] at hp hq
  simp only [results, h]
  simp [hp, hq, asAddr, hl]
/-- The cells of a row of two, of four. -/
theorem dcells2 {w : World} {g : Nat} {t : TypeId} {a b : Value} (h : rowB w g t #[a, b]) : w.cell? ⟨g, 0, none⟩ = some a ∧ w.cell? ⟨g, 1, none⟩ = some b ∧ w.frozen? ⟨g, 0, none⟩ = false ∧ w.frozen? ⟨g, 1, none⟩ = false :=
  ⟨rowB_cell h 0 rfl, rowB_cell h 1 rfl, rowB_free h 0, rowB_free h 1⟩
end Go.Proofs.Ytakaebjojgeehaa
