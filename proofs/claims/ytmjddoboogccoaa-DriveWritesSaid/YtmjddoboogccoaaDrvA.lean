/- States of drives as they are read: what the laws need of a state that a function gives back. No function of a package is named here but the laws' comparison. -/
import Derived.Test.YtmjddoboogccoaaChecked
import Derived.Test.YtmjddoboogccoaaDrvD
import Derived.Test.YtmjddoboogccoaaOff
import Derived.Test.YtmjddoboogccoaaRefAppend2
import Derived.Below
import Derived.BigQuiet
import Derived.ChangeMaps5
import Derived.Deep.DeepAppendWide
import Derived.Deep.DeepCutAuto
import Derived.Deep.Draws
import Derived.Deep.MidRow
import Derived.Deep.OwnRows
import Derived.Deep.QuietTactic
import Derived.Deep.RegionHeld3
import Derived.Deep.RegionWith
import Derived.Deep.Slices
import Derived.Deep.WholeRow
import Derived.Laws.CopyOwn
import Derived.Laws.OwnMore
import Derived.Lib.Hide
import Derived.Lib.SmallJoins
import Derived.Maps.AppendAt
import Derived.OpenShut
import Derived.OrdersHeld
import Derived.OwnWalk
import Derived.RowKit3
import Derived.StillTactics
import Derived.StillTail
import Derived.StillTailTactics
import Derived.WalkKit
namespace Go.Proofs.Ytmjddoboogccoaa
open Go.RowKit
set_option maxRecDepth 100000

/-- The value v reads as the state s. -/
def devA (w : World) (v : Value) (s : Dr) : Prop := ∃ vx vm, v = .agg #[vx, vm] ∧ isArg w vx s.ns ∧ isByt w vm s.m
theorem devA.below {w w' : World} {v : Value} {s : Dr} (h : devA w v s) (hb : Below w.heap.size w w') : devA w' v s := by
  obtain ⟨vx, vm, e, h1, h2⟩ := h
  exact ⟨vx, vm, e, isArg_below h1 hb (Nat.le_refl _), isByt_below h2 hb (Nat.le_refl _)⟩
theorem devD.toA {lo : Nat} {w : World} {v : Value} {s : Dr} (h : devD lo w v s) (hm : s.m.length ≤ 9223372036854775807) : devA w v s := h.arg hm
theorem devA.open {w : World} {v : Value} {s : Dr} (h : devA w v s) : ∃ a c b d, v = .agg #[.slice a 10 c, .slice b s.m.length d] ∧ isArg w (.slice a 10 c) s.ns ∧ isByt w (.slice b s.m.length d) s.m := by
  obtain ⟨vx, vm, rfl, h1, h2⟩ := h
  obtain ⟨a, c, rfl, _⟩ := isArg_form h1
  obtain ⟨b, d, rfl, _⟩ := isByt_form h2
  exact ⟨a, c, b, d, rfl, h1, h2⟩
theorem isArg_one {w : World} {v : Value} {l : List Int} (h : isArg w v l) : v.oneCell' = true := by
  obtain ⟨a, cap, rfl, _⟩ := isArg_form h
  rfl
theorem isByt_one {w : World} {v : Value} {l : List Int} (h : isByt w v l) : v.oneCell' = true := by
  obtain ⟨a, cap, rfl, _⟩ := isByt_form h
  rfl
theorem two_one {a b : Value} (h : a.oneCell' = true) (h2 : b.oneCell' = true) : (#[a, b] : Array Value).all (·.oneCell') = true := by simp [h, h2]
/-- A box that holds two values which are no numbers may be written anew: what is read elsewhere stays. -/
theorem isArg_box {w : World} {B : Nat} {t : TypeId} {x y : Value} (hB : rowB w B t #[x, y]) (hx : ∀ n, x ≠ .int .i64 n) (hy : ∀ n, y ≠ .int .i64 n) {v : Value} {l : List Int} (h : isArg w v l) (c : Array Value) : isArg (w.setRow B c) v l := by
  rcases h with h | ⟨b, off, cap, rfl, h1, h2, h3, h4⟩
  · exact .inl h
  · have ho : Off (· = B) w (w.setRow B c) := (Off.refl (· = B) w).row (g := B) (.inl rfl) c
    refine .inr ⟨b, off, cap, rfl, by rw [size_row]; exact h1, h2, h3, fun j hj => ?_⟩
    have hc := h4 j hj
    by_cases hb : b = B
    · subst hb
      have : w.cell? ⟨b, off + j, none⟩ = #[x, y][off + j]? := cell_of_row w b _ _ t (0, 0) hB
      rw [this] at hc
      rcases (by omega : off + j = 0 ∨ off + j = 1 ∨ 2 ≤ off + j) with e | e | e
      · rw [e] at hc
        exact absurd (Option.some.inj hc) (hx _)
      · rw [e] at hc
        exact absurd (Option.some.inj hc) (hy _)
      · rw [Array.getElem?_eq_none (by simpa using e)] at hc
        cases hc
    · rw [← hc]
      show World.cell? _ _ = World.cell? _ _
      unfold World.cell?
      dsimp only
      rw [ho.block b h1 hb]
theorem isByt_box {w : World} {B : Nat} {t : TypeId} {x y : Value} (hB : rowB w B t #[x, y]) (hx : ∀ n, x ≠ .int .u8 n) (hy : ∀ n, y ≠ .int .u8 n) {v : Value} {l : List Int} (h : isByt w v l) (c : Array Value) : isByt (w.setRow B c) v l := by
  rcases h with h | ⟨b, off, cap, rfl, h1, h2, h3, h4⟩
  · exact .inl h
  · have ho : Off (· = B) w (w.setRow B c) := (Off.refl (· = B) w).row (g := B) (.inl rfl) c
    refine .inr ⟨b, off, cap, rfl, by rw [size_row]; exact h1, h2, h3, fun j hj => ?_⟩
    have hc := h4 j hj
    by_cases hb : b = B
    · subst hb
      have : w.cell? ⟨b, off + j, none⟩ = #[x, y][off + j]? := cell_of_row w b _ _ t (0, 0) hB
      rw [this] at hc
      rcases (by omega : off + j = 0 ∨ off + j = 1 ∨ 2 ≤ off + j) with e | e | e
      · rw [e] at hc
        exact absurd (Option.some.inj hc) (hx _)
      · rw [e] at hc
        exact absurd (Option.some.inj hc) (hy _)
      · rw [Array.getElem?_eq_none (by simpa using e)] at hc
        cases hc
    · rw [← hc]
      show World.cell? _ _ = World.cell? _ _
      unfold World.cell?
      dsimp only
      rw [ho.block b h1 hb]
theorem isArg_no {w : World} {v : Value} {l : List Int} (h : isArg w v l) (k : IntKind) (n : Int) : v ≠ .int k n := by
  obtain ⟨a, cap, rfl, _⟩ := isArg_form h
  intro e
  cases e
theorem isByt_no {w : World} {v : Value} {l : List Int} (h : isByt w v l) (k : IntKind) (n : Int) : v ≠ .int k n := by
  obtain ⟨a, cap, rfl, _⟩ := isByt_form h
  intro e
  cases e
/-- A box with the state s of a chip. -/
def boxA (w : World) (B : Nat) (s : Dr) : Prop := ∃ vx vm, rowB w B 25 #[vx, vm] ∧ isArg w vx s.ns ∧ isByt w vm s.m
theorem boxA.below {w w' : World} {B : Nat} {s : Dr} (h : boxA w B s) (hb : Below w.heap.size w w') : boxA w' B s := by
  obtain ⟨vx, vm, h0, h1, h2⟩ := h
  exact ⟨vx, vm, rowB_below h0 hb (rowB_lt h0), isArg_below h1 hb (Nat.le_refl _), isByt_below h2 hb (Nat.le_refl _)⟩
theorem boxA.store {w : World} {B : Nat} {s t : Dr} {vx vm : Value} (h : boxA w B s) (h1 : isArg w vx t.ns) (h2 : isByt w vm t.m) : boxA (w.setRow B #[vx, vm]) B t := by
  obtain ⟨ux, um, h0, k1, k2⟩ := h
  exact ⟨vx, vm, rowB_row h0 _, isArg_box h0 (isArg_no k1 _) (isByt_no k2 _) h1 _, isByt_box h0 (isArg_no k1 _) (isByt_no k2 _) h2 _⟩
theorem Dr.read_m (s : Dr) (a : Int) : (s.read a).m = s.m := by
  unfold Dr.read
  split
  · rfl
  · split <;> rfl
theorem Dr.change_m (s : Dr) (x : Int) : (s.change x).m = s.m := by
  unfold Dr.change
  split <;> rfl
theorem Dr.fit_mem {s : Dr} (hs : s.fit) : ∀ x ∈ s.m, 0 ≤ x ∧ x < 256 := hs.y
theorem sameA_any (v u : Value) (s : Dr) (w : World) (h : devA w v s) (g : devA w u s) :
    Calls Try.prog 10 #[v, u] w fun e w' => e = .returned (.bool true) ∧ Below w.heap.size w w' := by
  obtain ⟨vx, vm, rfl, h1, h2⟩ := h
  obtain ⟨ux, um, rfl, h3, h4⟩ := g
  have := sameDv_any _ _ _ _ s.ns s.ns s.m s.m w h1 h2 h3 h4
  rw [decide_eq_true (rfl : s.ns = s.ns), decide_eq_true (rfl : s.m = s.m)] at this
  exact this
/-- What a function gives back of a state lies in new blocks, or in those of the state that it was given. -/
def fromD (lo : Nat) (v vm x m : Value) : Prop := ∀ b, (x.ownBlock = some b ∨ m.ownBlock = some b) → lo ≤ b ∨ v.ownBlock = some b ∨ vm.ownBlock = some b
def devF (lo : Nat) (v vm : Value) (w : World) (u : Value) (s : Dr) : Prop := ∃ x m, u = .agg #[x, m] ∧ isArg w x s.ns ∧ isByt w m s.m ∧ fromD lo v vm x m
theorem devF.toA {lo : Nat} {v vm : Value} {w : World} {u : Value} {s : Dr} (h : devF lo v vm w u s) : devA w u s := by
  obtain ⟨x, m, e, h1, h2, _⟩ := h
  exact ⟨x, m, e, h1, h2⟩
theorem devF.open {lo : Nat} {v vm : Value} {w : World} {u : Value} {s : Dr} (h : devF lo v vm w u s) : ∃ a c b d, u = .agg #[.slice a 10 c, .slice b s.m.length d] ∧ isArg w (.slice a 10 c) s.ns ∧ isByt w (.slice b s.m.length d) s.m ∧ fromD lo v vm (.slice a 10 c) (.slice b s.m.length d) := by
  obtain ⟨vx, vm', rfl, h1, h2, h3⟩ := h
  obtain ⟨a, c, rfl, _⟩ := isArg_form h1
  obtain ⟨b, d, rfl, _⟩ := isByt_form h2
  exact ⟨a, c, b, d, rfl, h1, h2, h3⟩
theorem apart_from {B : Nat} {w : World} {o v vm x m : Value} {l : List Int} (ho : own B w o l) (h1 : apart o v) (h2 : apart o vm) (hf : fromD w.heap.size v vm x m) : apart o x ∧ apart o m := by
  have h : ∀ y : Value, (∀ b, y.ownBlock = some b → x.ownBlock = some b ∨ m.ownBlock = some b) → apart o y := fun y hy g hg he => by
    have hlt := (own_lt ho hg).2
    rcases hf g (hy g he) with h3 | h3 | h3
    · omega
    · exact h1 g hg h3
    · exact h2 g hg h3
  exact ⟨h x fun b hb => .inl hb, h m fun b hb => .inr hb⟩
theorem block_kept {w w' : World} {row : Option Nat} (hg : w.grownBy w' row) {b : Nat} (hb : b < w.heap.size) (hne : row ≠ some b) (k : Nat) : w'.cell? ⟨b, k, none⟩ = w.cell? ⟨b, k, none⟩ := by
  show World.cell? _ _ = World.cell? _ _
  unfold World.cell?
  dsimp only
  rw [hg.block b hb (fun e => hne e.symm)]
theorem isArg_kept {w w' : World} {row : Option Nat} {v : Value} {l : List Int} (h : isArg w v l) (hg : w.grownBy w' row) (hne : ∀ g, row = some g → v.ownBlock ≠ some g) : isArg w' v l := by
  rcases h with h | ⟨b, off, cap, rfl, h1, h2, h3, h4⟩
  · exact .inl h
  · refine .inr ⟨b, off, cap, rfl, Nat.lt_of_lt_of_le h1 hg.size, h2, h3, fun j hj => ?_⟩
    rw [block_kept hg h1 (fun e => hne b e rfl)]
    exact h4 j hj
theorem isByt_kept {w w' : World} {row : Option Nat} {v : Value} {l : List Int} (h : isByt w v l) (hg : w.grownBy w' row) (hne : ∀ g, row = some g → v.ownBlock ≠ some g) : isByt w' v l := by
  rcases h with h | ⟨b, off, cap, rfl, h1, h2, h3, h4⟩
  · exact .inl h
  · refine .inr ⟨b, off, cap, rfl, Nat.lt_of_lt_of_le h1 hg.size, h2, h3, fun j hj => ?_⟩
    rw [block_kept hg h1 (fun e => hne b e rfl)]
    exact h4 j hj
theorem own_setRow {lo B : Nat} {w : World} {o : Value} {l : List Int} (h : own lo w o l) (hB : B < lo) (c : Array Value) : own lo (w.setRow B c) o l := by
  have hg : w.grownBy (w.setRow B c) (some B) := ⟨rfl, rfl, rfl, by simp [World.setRow], fun k _ hk => setRow_other w B k _ (fun e => hk (by simp [e]))⟩
  refine World.ownsRow.kept h hg ?_
  cases e : o.ownBlock with
  | none => exact .inl rfl
  | some g =>
    refine .inr (fun he => ?_)
    have := (own_lt h e).1
    cases he
    omega
theorem arg_block {w : World} {v : Value} {l : List Int} (h : isArg w v l) (hl : 0 < l.length) : ∀ b, v.ownBlock = some b → b < w.heap.size := by
  rcases h with ⟨_, _, _, rfl⟩ | ⟨b, off, cap, rfl, h1, _⟩
  · simp at hl
  · intro g hg
    simp only [Value.ownBlock, Option.some.injEq] at hg
    omega
theorem byt_block {w : World} {v : Value} {l : List Int} (h : isByt w v l) (hl : 0 < l.length) : ∀ b, v.ownBlock = some b → b < w.heap.size := by
  rcases h with ⟨_, _, _, rfl⟩ | ⟨b, off, cap, rfl, h1, _⟩
  · simp at hl
  · intro g hg
    simp only [Value.ownBlock, Option.some.injEq] at hg
    omega
theorem apart_grow {n : Nat} {o o' x : Value} (ha : apart o x) (hat : o'.ownBlock = o.ownBlock ∨ o'.ownBlock = some n) (hx : ∀ b, x.ownBlock = some b → b < n) : apart o' x := fun g hg he => by
  rcases hat with h | h
  · exact ha g (h ▸ hg) he
  · rw [h] at hg
    cases hg
    have := hx _ he
    omega
end Go.Proofs.Ytmjddoboogccoaa
