/- Worlds between which blocks of some kinds stay as they are; slices of steps, cycles and instructions in memory that stays. No function is named here. -/
import Derived.Test.YtmjddoboogccoaaArrOwn
import Derived.Test.YtmjddoboogccoaaTabMath
import Derived.Below
import Derived.BigQuiet
import Derived.ChangeMaps5
import Derived.Deep.DeepAppendWide
import Derived.Deep.Draws
import Derived.Deep.OwnRows
import Derived.Deep.QuietTactic
import Derived.Deep.Slices
import Derived.Laws.OwnMore
import Derived.Lib.Hide
import Derived.Lib.SmallJoins
import Derived.OpenShut
import Derived.OwnWalk
import Derived.RowKit3
import Derived.WalkKit
namespace Go.Proofs.Ytmjddoboogccoaa
set_option maxRecDepth 100000
open Go.RowKit

/-- Blocks of the kinds T stay as they are. -/
def Safe (T : TypeId → Prop) (w w' : World) : Prop := w.heap.size ≤ w'.heap.size ∧ ∀ (g : Nat) (c : Array Value) (e : TypeId) (fz : Nat × Nat), w.heap[g]? = some (.cells c e fz) → T e → w'.heap[g]? = some (.cells c e fz)
theorem Safe.refl (T : TypeId → Prop) (w : World) : Safe T w w := ⟨Nat.le_refl _, fun _ _ _ _ h _ => h⟩
theorem Safe.trans {T : TypeId → Prop} {a b c : World} (h : Safe T a b) (g : Safe T b c) : Safe T a c :=
  ⟨Nat.le_trans h.1 g.1, fun k d e fz h1 h2 => g.2 k d e fz (h.2 k d e fz h1 h2) h2⟩
theorem safe_below {T : TypeId → Prop} {w w' : World} (h : Below w.heap.size w w') : Safe T w w' :=
  ⟨h.size, fun g c e fz h1 _ => by rw [h.block g (Array.getElem?_eq_some_iff.1 h1).1]; exact h1⟩
theorem safe_drew (T : TypeId → Prop) (w : World) : Safe T w w.drew := ⟨Nat.le_refl _, fun _ _ _ _ h _ => h⟩
theorem safe_alloc (T : TypeId → Prop) (w : World) (o : Obj) : Safe T w (w.alloc o) := safe_below ((Below.refl _ _).alloc (Nat.le_refl _) o)
theorem safe_grown {T : TypeId → Prop} {w w' : World} {r : Option Nat} (h : w.grownBy w' r) (hr : ∀ (g : Nat) (c : Array Value) (e : TypeId) (fz : Nat × Nat), r = some g → w.heap[g]? = some (.cells c e fz) → ¬ T e) : Safe T w w' :=
  ⟨h.size, fun g c e fz h1 h2 => by
    rw [h.block g (Array.getElem?_eq_some_iff.1 h1).1 (fun e' => hr g c e fz e'.symm h1 h2)]; exact h1⟩
theorem safe_set {T : TypeId → Prop} {w : World} {b j : Nat} {c : Array Value} {e : TypeId} {fz : Nat × Nat} (h : w.heap[b]? = some (.cells c e fz)) (hT : ¬ T e) (v : Value) : Safe T w (w.setCell ⟨b, j, none⟩ v) :=
  safe_grown (r := some b) ⟨rfl, rfl, rfl, by simp, fun k _ hk => Below.heap_setCell _ _ _ k (fun e => hk (by rw [e]))⟩ fun g c' e' fz' hg h' hT' => by
    cases hg
    rw [h] at h'
    cases h'
    exact hT hT'
section
variable {α : Type} {k : Nat} {R : List Value → α → Prop} {B : Nat} {e : TypeId} {w w' : World} {v : Value} {l : List α}
theorem own_tag (h : ownArr k R B e w v l) {g : Nat} {c : Array Value} {e' : TypeId} {fz : Nat × Nat} (hv : v.ownBlock = some g) (hg : w.heap[g]? = some (.cells c e' fz)) : e' = e := by
  obtain ⟨f, _, ho, _⟩ := h
  rcases ho.2 with ⟨rfl, _⟩ | ⟨b, cap, cur, rfl, _, hb, _⟩
  · cases hv
  · obtain rfl : b = g := by simpa [Value.ownBlock] using hv
    rw [hb] at hg
    cases hg
    rfl
theorem own_safe {T : TypeId → Prop} (h : ownArr k R B e w v l) (hg : w.grownBy w' v.ownBlock) (hT : ¬ T e) : Safe T w w' :=
  safe_grown hg fun _ _ _ _ hv h1 h2 => hT (own_tag h hv h1 ▸ h2)
theorem ownArr_safe {T : TypeId → Prop} (h : ownArr k R B e w v l) (hs : Safe T w w') (hT : T e) : ownArr k R B e w' v l := by
  obtain ⟨f, hf, ⟨h1, h2⟩, hR⟩ := h
  refine ⟨f, hf, ⟨h1, ?_⟩, hR⟩
  rcases h2 with hn | ⟨g, cap, cur, hv, hB, hg, r⟩
  · exact .inl hn
  · exact .inr ⟨g, cap, cur, hv, hB, hs.2 g cur e (0, 0) hg hT, r⟩
theorem ownArr_imp {R' : List Value → α → Prop} (h : ownArr k R B e w v l) (hR : ∀ cs x, R cs x → R' cs x) : ownArr k R' B e w v l := by
  obtain ⟨f, hf, ho, h2⟩ := h
  exact ⟨f, hf, ho, fun i x hx => hR _ _ (h2 i x hx)⟩
/-- A slice that has just been written, element by element. -/
def litR (k : Nat) (R : List Value → α → Prop) : List (List Value) → List α → Prop
  | [], [] => True
  | r :: rs, x :: xs => r.length = k ∧ R r x ∧ litR k R rs xs
  | _, _ => False
theorem litR_len : ∀ {rs : List (List Value)} {l : List α}, litR k R rs l → rs.length = l.length
  | [], [], _ => rfl
  | _ :: _, _ :: _, h => by simp [litR_len h.2.2]
  | [], _ :: _, h => h.elim
  | _ :: _, [], h => h.elim
theorem litR_row : ∀ {rs : List (List Value)} {l : List α}, litR k R rs l → ∀ i, i < l.length → ((rs[i]?).getD []).length = k
  | [], [], _, _, hi => by cases hi
  | _ :: _, _ :: _, h, 0, _ => h.1
  | _ :: _, _ :: _, h, i + 1, hi => litR_row h.2.2 i (by simpa using hi)
  | [], _ :: _, h, _, _ => h.elim
  | _ :: _, [], h, _, _ => h.elim
theorem litR_get : ∀ {rs : List (List Value)} {l : List α}, litR k R rs l → ∀ (i : Nat) (x : α), l[i]? = some x → R ((rs[i]?).getD []) x
  | [], [], _, i, x, hx => by simp at hx
  | _ :: _, _ :: _, h, 0, x, hx => by cases hx; exact h.2.1
  | _ :: _, _ :: _, h, i + 1, x, hx => litR_get h.2.2 i x (by simpa using hx)
  | [], _ :: _, h, _, _, _ => h.elim
  | _ :: _, [], h, _, _, _ => h.elim
theorem flat_take (rs : List (List Value)) : ∀ n, flat (fun i => (rs[i]?).getD []) n = (rs.take n).flatten := by
  intro n
  induction n with
  | zero => simp [flat]
  | succ n ih =>
    rw [flat, ih, List.take_add_one, List.flatten_append]
    cases rs[n]? <;> simp
theorem flat_rows (rs : List (List Value)) : flat (fun i => (rs[i]?).getD []) rs.length = rs.flatten := by
  rw [flat_take, List.take_length]
theorem own_lit {B : Nat} (rs : List (List Value)) (l : List α) (h : litR k R rs l) (hs : l.length * k = rs.flatten.length) (cells : Array Value) (hc : cells.toList = rs.flatten) (n : Nat) (hn : n = l.length) (hm : n ≤ 1000) (w : World) (hB : B ≤ w.heap.size) (e : TypeId) (b : Nat) (hb : b = w.heap.size) :
    ownArr k R B e (w.alloc (.cells cells e)) (.slice (some ⟨b, 0, none⟩) n n) l := by
  subst hb hn
  refine ⟨fun i => (rs[i]?).getD [], litR_row h, ⟨?_, .inr ⟨w.heap.size, l.length, cells, rfl, hB, heap_alloc_new w _, Nat.le_refl _, by simp [maxLen]; omega, ?_, ?_⟩⟩, litR_get h⟩
  · rw [← litR_len h, flat_rows, litR_len h, hs]
  · rw [← Array.length_toList, hc, hs]
  · rw [hc, ← litR_len h, flat_rows, litR_len h, hs, List.take_length]
end

/-- What the cells of an element are, the memory behind them staying. -/
def stepQ (cs : List Value) (s : St) : Prop := cs = [.int .i64 s.d, .int .i64 s.t, .int .i64 s.f, .int .i64 s.n]
section
end
theorem stepQ_one : ∀ cs s, stepQ cs s → ∀ u ∈ cs, u.oneCell' = true := by
  rintro cs s rfl u hu
  simp only [List.mem_cons, List.not_mem_nil, or_false] at hu
  rcases hu with rfl | rfl | rfl | rfl <;> rfl
theorem own_slice {α : Type} {k : Nat} {R : List Value → α → Prop} {B : Nat} {e : TypeId} {w : World} {v : Value} {l : List α} (h : ownArr k R B e w v l) : ∃ a cap, v = .slice a l.length cap := by
  obtain ⟨f, _, ho, _⟩ := h
  rcases ho.2 with ⟨rfl, hn⟩ | ⟨b, cap, cur, rfl, _⟩
  · exact ⟨none, 0, by rw [hn]⟩
  · exact ⟨_, _, rfl⟩
end Go.Proofs.Ytmjddoboogccoaa
