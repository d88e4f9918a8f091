/- A part of the proof of ChipBanks: DrvA. -/
import Derived.Test.YtakaebjojgeehaaChipBanksK01
import Derived.Test.YtakaebjojgeehaaChipBanksK02
import Derived.Test.YtakaebjojgeehaaChipBanksK03
import Derived.Test.YtakaebjojgeehaaChipBanksK04
import Derived.Test.YtakaebjojgeehaaChipBanksK05
import Derived.Test.YtakaebjojgeehaaChipBanksK06
import Derived.Test.YtakaebjojgeehaaChipBanksK15
import Derived.Test.YtakaebjojgeehaaChipBanksK17
import Derived.Test.YtakaebjojgeehaaChipBanksK19
import Derived.Test.YtakaebjojgeehaaChipBanksK20
import Derived.Test.YtakaebjojgeehaaChipBanksK21
import Derived.Test.YtakaebjojgeehaaChipBanksK22
import Derived.Below
import Derived.BigQuiet
import Derived.ChangeMaps5
import Derived.Deep.DeepAppendWide
import Derived.Deep.DeepCutAuto
import Derived.Deep.Draws
import Derived.Deep.MidRow
import Derived.Deep.OwnRows
import Derived.Deep.QuietTactic
import Derived.Deep.RegionHeld3
import Derived.Deep.RegionWith
import Derived.Deep.Slices
import Derived.Deep.WholeRow
import Derived.Laws.CopyOwn
import Derived.Laws.OwnMore
import Derived.Lib.Hide
import Derived.Lib.SmallJoins
import Derived.Maps.AppendAt
import Derived.OpenShut
import Derived.OrdersHeld
import Derived.OwnWalk
import Derived.RowKit3
import Derived.StillTactics
import Derived.StillTail
import Derived.StillTailTactics
import Derived.Test.YtakaebjojgeehaaChecked
import Derived.WalkKit
namespace Go.Proofs.Ytakaebjojgeehaa
open Go.RowKit
set_option maxRecDepth 100000
/-- The value v reads as the state s. -/
def devA (w : World) (v : Value) (s : Dr) : Prop := ∃ vx vm, v = .agg #[vx, vm] ∧ isArg w vx s.ns ∧ isByt w vm s.m
theorem devA.below {w w' : World} {v : Value} {s : Dr} (h : devA w v s) (hb : Below w.heap.size w w') : devA w' v s := by
  obtain ⟨vx, vm, e, h1, h2⟩ := h
  exact ⟨vx, vm, e, isArg_below h1 hb (Nat.le_refl _), isByt_below h2 hb (Nat.le_refl _)⟩
theorem devA.open {w : World} {v : Value} {s : Dr} (h : devA w v s) : ∃ a c b d, v = .agg #[.slice a 10 c, .slice b s.m.length d] ∧ isArg w (.slice a 10 c) s.ns ∧ isByt w (.slice b s.m.length d) s.m := by
  obtain ⟨vx, vm, rfl, h1, h2⟩ := h
  obtain ⟨a, c, rfl, _⟩ := isArg_form h1
  obtain ⟨b, d, rfl, _⟩ := isByt_form h2
  exact ⟨a, c, b, d, rfl, h1, h2⟩
theorem isArg_one {w : World} {v : Value} {l : List Int} (h : isArg w v l) : v.oneCell' = true := by
  obtain ⟨a, cap, rfl, _⟩ := isArg_form h
  rfl
theorem isByt_one {w : World} {v : Value} {l : List Int} (h : isByt w v l) : v.oneCell' = true := by
  obtain ⟨a, cap, rfl, _⟩ := isByt_form h
  rfl
theorem two_one {a b : Value} (h : a.oneCell' = true) (h2 : b.oneCell' = true) : (#[a, b] : Array Value).all (·.oneCell') = true := by simp [h, h2]
/-- A box that holds two values which are no numbers may be written anew: what is read elsewhere stays. -/
theorem isArg_box {w : World} {B : Nat} {t : TypeId} {x y : Value} (hB : rowB w B t #[x, y]) (hx : ∀ n, x ≠ .int .i64 n) (hy : ∀ n, y ≠ .int .i64 n) {v : Value} {l : List Int} (h : isArg w v l) (c : Array Value) : isArg (w.setRow B c) v l := by
  rcases h with h | ⟨b, off, cap, rfl, h1, h2, h3, h4⟩
  · exact .inl h
  · have ho : Off (· = B) w (w.setRow B c) := (Off.refl (· = B) w).row (g := B) (.inl rfl) c
    refine .inr ⟨b, off, cap, rfl, by rw [size_row]; exact h1, h2, h3, fun j hj => ?_⟩
    have hc := h4 j hj
    by_cases hb : b = B
    · subst hb
      have : w.cell? ⟨b, off + j, none⟩ = #[x, y][off + j]? := cell_of_row w b _ _ t (0, 0) hB
      rw [this] at hc
      rcases (by omega : off + j = 0 ∨ off + j = 1 ∨ 2 ≤ off + j) with e | e | e
      · rw [e] at hc
        exact absurd (Option.some.inj hc) (hx _)
      · rw [e] at hc
        exact absurd (Option.some.inj hc) (hy _)
      · rw [Array.getElem?_eq_none (by simpa using e)] at hc
        cases hc
    · rw [← hc]
      show World.cell? _ _ = World.cell? _ _
      unfold World.cell?
      dsimp only
      rw [ho.block b h1 hb]
theorem isByt_box {w : World} {B : Nat} {t : TypeId} {x y : Value} (hB : rowB w B t #[x, y]) (hx : ∀ n, x ≠ .int .u8 n) (hy : ∀ n, y ≠ .int .u8 n) {v : Value} {l : List Int} (h : isByt w v l) (c : Array Value) : isByt (w.setRow B c) v l := by
  rcases h with h | ⟨b, off, cap, rfl, h1, h2, h3, h4⟩
  · exact .inl h
  · have ho : Off (· = B) w (w.setRow B c) := (Off.refl (· = B) w).row (g := B) (.inl rfl) c
    refine .inr ⟨b, off, cap, rfl, by rw [size_row]; exact h1, h2, h3, fun j hj => ?_⟩
    have hc := h4 j hj
    by_cases hb : b = B
    · subst hb
      have : w.cell? ⟨b, off + j, none⟩ = #[x, y][off + j]? := cell_of_row w b _ _ t (0, 0) hB
      rw [this] at hc
      rcases (by omega : off + j = 0 ∨ off + j = 1 ∨ 2 ≤ off + j) with e | e | e
      · rw [e] at hc
        exact absurd (Option.some.inj hc) (hx _)
      · rw [e] at hc
        exact absurd (Option.some.inj hc) (hy _)
      · rw [Array.getElem?_eq_none (by simpa using e)] at hc
        cases hc
    · rw [← hc]
      show World.cell? _ _ = World.cell? _ _
      unfold World.cell?
      dsimp only
      rw [ho.block b h1 hb]
theorem isArg_no {w : World} {v : Value} {l : List Int} (h : isArg w v l) (k : IntKind) (n : Int) : v ≠ .int k n := by
  obtain ⟨a, cap, rfl, _⟩ := isArg_form h
  intro e
  cases e
theorem isByt_no {w : World} {v : Value} {l : List Int} (h : isByt w v l) (k : IntKind) (n : Int) : v ≠ .int k n := by
  obtain ⟨a, cap, rfl, _⟩ := isByt_form h
  intro e
  cases e
/-- What a function gives back of a state lies in new blocks, or in those of the state that it was given. -/
def fromD (lo : Nat) (v vm x m : Value) : Prop := ∀ b, (x.ownBlock = some b ∨ m.ownBlock = some b) → lo ≤ b ∨ v.ownBlock = some b ∨ vm.ownBlock = some b
def devF (lo : Nat) (v vm : Value) (w : World) (u : Value) (s : Dr) : Prop := ∃ x m, u = .agg #[x, m] ∧ isArg w x s.ns ∧ isByt w m s.m ∧ fromD lo v vm x m
theorem devF.toA {lo : Nat} {v vm : Value} {w : World} {u : Value} {s : Dr} (h : devF lo v vm w u s) : devA w u s := by
  obtain ⟨x, m, e, h1, h2, _⟩ := h
  exact ⟨x, m, e, h1, h2⟩
theorem devF.open {lo : Nat} {v vm : Value} {w : World} {u : Value} {s : Dr} (h : devF lo v vm w u s) : ∃ a c b d, u = .agg #[.slice a 10 c, .slice b s.m.length d] ∧ isArg w (.slice a 10 c) s.ns ∧ isByt w (.slice b s.m.length d) s.m ∧ fromD lo v vm (.slice a 10 c) (.slice b s.m.length d) := by
  obtain ⟨vx, vm', rfl, h1, h2, h3⟩ := h
  obtain ⟨a, c, rfl, _⟩ := isArg_form h1
  obtain ⟨b, d, rfl, _⟩ := isByt_form h2
  exact ⟨a, c, b, d, rfl, h1, h2, h3⟩
end Go.Proofs.Ytakaebjojgeehaa
