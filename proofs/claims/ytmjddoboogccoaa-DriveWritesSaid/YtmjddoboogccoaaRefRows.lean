/- Slices of numbers that a call makes or reads: what is said of them, and how it is carried on. No function is named here. -/
import Derived.Test.YtmjddoboogccoaaBitLists
import Derived.Below
import Derived.BigQuiet
import Derived.Deep.Draws
import Derived.Deep.OwnRows
import Derived.Deep.QuietTactic
import Derived.Lib.Hide
import Derived.OwnWalk
import Derived.RowKit3
import Derived.WalkKit
namespace Go.Proofs.Ytmjddoboogccoaa
open Go.RowKit

/-- The slice v of numbers belongs to the call (its block has a number from B on) and holds the list. -/
def own (B : Nat) (w : World) (v : Value) (l : List Int) : Prop := w.ownsRow B 3 1 v l.length (l.map (Value.int .i64))

/-- The slice v reads as the list. -/
def isRow (w : World) (v : Value) (l : List Int) : Prop :=
  (v = .slice none 0 0 ∧ l = []) ∨
  ∃ b off cap, v = .slice (some ⟨b, off, none⟩) l.length cap ∧ b < w.heap.size ∧ l.length ≤ cap ∧ cap ≤ 9223372036854775807 ∧ ∀ j, j < l.length → w.cell? ⟨b, off + j, none⟩ = some (.int .i64 (l.getD j 0))

theorem own_row {B : Nat} {w : World} {v : Value} {l : List Int} (h : own B w v l) : isRow w v l := by
  rcases h.2 with ⟨rfl, h2⟩ | ⟨g, cap, cur, rfl, hb, hg, hn, hc, hs, ht⟩
  · exact .inl ⟨rfl, List.eq_nil_of_length_eq_zero h2⟩
  · refine .inr ⟨g, 0, cap, rfl, (Array.getElem?_eq_some_iff.1 hg).1, hn, by simpa [maxLen] using hc, fun j hj => ?_⟩
    have e : (l.map (Value.int .i64))[j]? = some (.int .i64 (l.getD j 0)) := by
      rw [List.getElem?_map, List.getD_eq_getElem?_getD, List.getElem?_eq_getElem hj]; rfl
    have := World.ownsRow.cells (g := g) h rfl j _ e
    have ha : (⟨g, 0, none⟩ : Addr).add j = ⟨g, 0 + j, none⟩ := by unfold Addr.add; split <;> simp_all
    rw [← ha]; exact this

/-- A part of a slice. -/
theorem isRow_sub {w : World} {b off cap : Nat} {l : List Int} (a c : Nat) (h1 : b < w.heap.size) (h2 : l.length ≤ cap) (h3 : cap ≤ 9223372036854775807)
    (h4 : ∀ j, j < l.length → w.cell? ⟨b, off + j, none⟩ = some (.int .i64 (l.getD j 0))) (h : a + c ≤ l.length) :
    isRow w (.slice (some ⟨b, off + a, none⟩) c (cap - a)) ((l.drop a).take c) := by
  have hl : ((l.drop a).take c).length = c := by rw [List.length_take, List.length_drop]; omega
  refine .inr ⟨b, off + a, cap - a, by rw [hl], h1, by omega, by omega, fun j hj => ?_⟩
  have e : ((l.drop a).take c).getD j 0 = l.getD (a + j) 0 := by
    simp only [List.getD_eq_getElem?_getD]
    rw [List.getElem?_take_of_lt (by omega), List.getElem?_drop]
  rw [e, Nat.add_assoc]
  exact h4 (a + j) (by omega)

theorem isRow_below {B : Nat} {w w' : World} {v : Value} {l : List Int} (h : isRow w v l) (hb : Below B w w') (hB : w.heap.size ≤ B) : isRow w' v l := by
  rcases h with h | ⟨b, off, cap, rfl, h1, h2, h3, h4⟩
  · exact .inl h
  · refine .inr ⟨b, off, cap, rfl, Nat.lt_of_lt_of_le h1 hb.size, h2, h3, fun j hj => ?_⟩
    rw [hb.cell (p := ⟨b, off + j, none⟩) (by show b < B; omega)]; exact h4 j hj

/-- One bit of a number, as the reference takes it. -/
theorem ref_bit (n : Int) (k : Nat) (h : k ≤ 62) : bits .and .u64 (IntKind.u64.wrap n / 2 ^ k) 1 = bitOf n k := by
  rw [IntKind.wrap_u64]
  have h0 : 0 ≤ n % 18446744073709551616 := Int.emod_nonneg _ (by decide)
  have h1 : n % 18446744073709551616 < 18446744073709551616 := Int.emod_lt_of_pos _ (by decide)
  have hp := p2_pos k
  have a0 : 0 ≤ n % 18446744073709551616 / 2 ^ k := Int.ediv_nonneg h0 (Int.le_of_lt hp)
  have a1 : n % 18446744073709551616 / 2 ^ k < 18446744073709551616 := Int.lt_of_le_of_lt (Int.ediv_le_self _ h0) h1
  rw [u64_and _ _ a0 a1 (by decide) (by decide)]
  show (((n % 18446744073709551616 / 2 ^ k).toNat &&& 1 : Nat) : Int) = _
  rw [nat_mask1, Int.natCast_emod, Int.toNat_of_nonneg a0]
  unfold bitOf
  have e := lo_div n k (64 - k)
  have e64 : (2 : Int) ^ (k + (64 - k)) = 18446744073709551616 := by rw [show k + (64 - k) = 64 from by omega]; rfl
  unfold lo at e
  rw [e64] at e
  rw [e]
  exact Int.emod_emod_of_dvd _ ⟨2 ^ (63 - k), by show (2 : Int) ^ (64 - k) = 2 * 2 ^ (63 - k); rw [← p2_succ]; congr 1; omega⟩

theorem own_snoc {B : Nat} {w : World} {v : Value} {l : List Int} {x : Int} {k : Nat} (hk : l.length = k)
    (h : w.ownsRow B 3 1 v (k + 1) (l.map (Value.int .i64) ++ [.int .i64 x])) : own B w v (l ++ [x]) := by
  subst hk
  unfold own
  rw [List.map_append, List.length_append]
  exact h
theorem one_new (w : World) (x : Int) : ∀ j u, [Value.int .i64 x][j]? = some u → (w.alloc (.cells #[.int .i64 x] 3)).cell? ((⟨w.heap.size, 0, none⟩ : Addr).add j) = some u := by
  intro j u h
  match j, h with
  | 0, h =>
    have hu : Value.int .i64 x = u := by simpa using h
    subst hu
    have ha : (⟨w.heap.size, 0, none⟩ : Addr).add 0 = ⟨w.heap.size, 0, none⟩ := rfl
    rw [ha, World.cell?_alloc_at _ _ _ _ rfl]; rfl
  | j + 1, h => simp at h
theorem one_cell (x : Int) : ∀ u ∈ [Value.int .i64 x], u.oneCell' = true := fun u hu => by
  have : u = .int .i64 x := by simpa using hu
  subst this; rfl

theorem info_int {P : Program} (h : (P.info? 3).map (fun i => (i.zero, i.size, i.bytes)) = some (some (.int .i64 0), 1, 8)) :
    ∃ i, P.info? 3 = some i ∧ i.zero = some (.int .i64 0) ∧ i.size = 1 ∧ i.bytes = 8 := by
  obtain ⟨i, a, b, c, d⟩ := info_parts h
  exact ⟨i, a, b, c, d⟩
end Go.Proofs.Ytmjddoboogccoaa
