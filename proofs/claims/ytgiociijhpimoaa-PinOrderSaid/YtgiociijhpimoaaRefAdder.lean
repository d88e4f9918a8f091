/- Contracts of the reference's functions Adder and Inverse, and of slices.Clone on slices of numbers. -/
import Derived.Test.YtgiociijhpimoaaRefWalks
import Derived.Test.YtgiociijhpimoaaRefAppend
import Derived.Test.YtgiociijhpimoaaBitWalksC
import Derived.Deep.DeepCutAuto
import Derived.WalkSpells
namespace Go.Proofs.Ytgiociijhpimoaa
open Go.RowKit

theorem of2_take_succ (l : List Int) (i : Nat) (h : i < l.length) : of2 (l.take (i + 1)) = of2 (l.take i) + l.getD i 0 * 2 ^ i := by
  have e : l.take (i + 1) = l.take i ++ [l.getD i 0] := by
    rw [List.take_succ_eq_append_getElem h, List.getD_eq_getElem?_getD, List.getElem?_eq_getElem h]; rfl
  rw [e, of2_snoc, List.length_take, Nat.min_eq_left (Nat.le_of_lt h)]

/-- What has been added after i bits. -/
def partSum (l m : List Int) (c : Int) (i : Nat) : Int := of2 (l.take i) + of2 (m.take i) + c
theorem partSum_succ (l m : List Int) (c : Int) (i : Nat) (hl : i < l.length) (hm : i < m.length) :
    partSum l m c (i + 1) = partSum l m c i + (l.getD i 0 + m.getD i 0) * 2 ^ i := by
  unfold partSum
  rw [of2_take_succ l i hl, of2_take_succ m i hm, Int.add_mul]
  omega
theorem partSum_bd (l m : List Int) (c : Int) (i : Nat) (hl : areBits l) (hm : areBits m) (hi : i ≤ l.length) (hj : i ≤ m.length) (hc : isBit c) : 0 ≤ partSum l m c i ∧ partSum l m c i < 2 * 2 ^ i := by
  have h1 := of2_bd (take_bits hl i)
  have h2 := of2_bd (take_bits hm i)
  rw [List.length_take, Nat.min_eq_left hi] at h1
  rw [List.length_take, Nat.min_eq_left hj] at h2
  unfold partSum
  unfold isBit at hc
  omega
theorem carry_bit (l m : List Int) (c : Int) (i : Nat) (hl : areBits l) (hm : areBits m) (hi : i ≤ l.length) (hj : i ≤ m.length) (hc : isBit c) : isBit (partSum l m c i / 2 ^ i) := by
  have h := partSum_bd l m c i hl hm hi hj hc
  have hp := p2_pos i
  exact ⟨Int.ediv_nonneg h.1 (by omega), by have := Int.ediv_lt_of_lt_mul hp h.2; omega⟩
theorem digits_add (T q : Int) (i : Nat) : digits (T + q * 2 ^ i) i = digits T i := by
  unfold digits
  refine List.map_congr_left fun j hj => ?_
  have hji : j < i := List.mem_range.1 hj
  unfold bitOf
  have hp := p2_pos j
  have e : q * 2 ^ i = 2 ^ j * (2 * (q * 2 ^ (i - j - 1))) := by
    have : (2 : Int) ^ i = 2 ^ j * (2 * 2 ^ (i - j - 1)) := by rw [← p2_succ, ← p2_add]; congr 1; omega
    rw [this, Int.mul_left_comm, Int.mul_left_comm q]
  rw [e, Int.add_mul_ediv_left _ _ (by omega), Int.add_mul_emod_self_left]
theorem add_step (l m : List Int) (c : Int) (i : Nat) (hl : i < l.length) (hm : i < m.length) :
    (l.getD i 0 + m.getD i 0 + partSum l m c i / 2 ^ i) = partSum l m c (i + 1) / 2 ^ i := by
  have hp := p2_pos i
  rw [partSum_succ l m c i hl hm, Int.mul_comm _ (2 ^ i), Int.add_mul_ediv_left _ _ (by omega)]
  omega
theorem add_digits (l m : List Int) (c : Int) (i : Nat) (hl : i < l.length) (hm : i < m.length) :
    digits (partSum l m c (i + 1)) (i + 1) = digits (partSum l m c i) i ++ [(l.getD i 0 + m.getD i 0 + partSum l m c i / 2 ^ i) % 2] := by
  rw [digits_snoc, add_step l m c i hl hm]
  congr 1
  rw [partSum_succ l m c i hl hm, digits_add]
theorem add_carry (l m : List Int) (c : Int) (i : Nat) (hl : i < l.length) (hm : i < m.length) :
    (l.getD i 0 + m.getD i 0 + partSum l m c i / 2 ^ i) / 2 = partSum l m c (i + 1) / 2 ^ (i + 1) := by
  rw [add_step l m c i hl hm, Int.ediv_ediv_of_nonneg (Int.le_of_lt (p2_pos i)), Int.pow_succ]

/-- The bits turned round. -/
def inv (l : List Int) : List Int := l.map fun x => 1 - x
theorem inv_len (l : List Int) : (inv l).length = l.length := List.length_map _
theorem inv_bits {l : List Int} (h : areBits l) : areBits (inv l) := fun x hx => by
  obtain ⟨y, hy, rfl⟩ := List.mem_map.1 hx
  have := h y hy
  unfold isBit at *
  omega
theorem of2_inv (l : List Int) : of2 (inv l) = 2 ^ l.length - 1 - of2 l := by
  induction l with
  | nil => rfl
  | cons x l ih =>
    have e : inv (x :: l) = (1 - x) :: inv l := rfl
    rw [e]
    simp only [of2, ih, List.length_cons]
    rw [p2_succ]
    omega
theorem inv_take_succ (l : List Int) (i : Nat) (h : i < l.length) : inv (l.take (i + 1)) = inv (l.take i) ++ [1 - l.getD i 0] := by
  have e : l.take (i + 1) = l.take i ++ [l.getD i 0] := by
    rw [List.take_succ_eq_append_getElem h, List.getD_eq_getElem?_getD, List.getElem?_eq_getElem h]; rfl
  rw [e]; unfold inv; rw [List.map_append]; rfl

theorem ret_tup {a b : Value} {c d : Value} (h : a = b) (g : c = d) : Ending.returned (.tuple #[a, c]) = .returned (.tuple #[b, d]) := by rw [h, g]

theorem clone_any (v : Value) (l : List Int) (w : World) (h : isRow w v l) (hl : l.length ≤ 17592186044416) :
    Calls Try.prog 22 #[v] w fun e w' => ∃ u, e = .returned u ∧ own w.heap.size w' u l ∧ Below w.heap.size w w' := by
  rcases h with ⟨rfl, rfl⟩ | ⟨b, off, cap, rfl, h1, h2, h3, hc⟩
  · have hn := @Lib.run_eql_slice_nil Try.prog
    go_enter Try.func22, Try.ntmps22
    go_wp2
    go_ret
    exact ⟨_, rfl, own_nil _ _, Below.refl _ _⟩
  · have hn := @Lib.run_eql_slice_nil Try.prog
    have hr : isRow (w.alloc (.cells #[] 3)) (.slice (some ⟨b, off, none⟩) l.length cap) l :=
      isRow_below (.inr ⟨b, off, cap, rfl, h1, h2, h3, hc⟩) ((Below.refl w.heap.size w).alloc (Nat.le_refl _) _) (Nat.le_refl _)
    have ho : own w.heap.size (w.alloc (.cells #[] 3)) (.slice (some ⟨w.heap.size, 0, none⟩) 0 0) [] :=
      ⟨rfl, .inr ⟨w.heap.size, 0, #[], rfl, Nat.le_refl _, heap_alloc_new w _, Nat.le_refl _, by decide, rfl, rfl⟩⟩
    clear hc
    go_enter Try.func22, Try.ntmps22
    go_wp2_with (at_builtin; refine wpList_append_row rfl _ _ 22 rfl Try.underlying22 infoI w.heap.size _ _ rfl rfl [] l ho hr ?c1 ?c2 ?_)
    case c1 => simp; omega
    case c2 => simp
    intro v' w1 hown1 hbel1
    have hb1 := ((Below.refl w.heap.size w).alloc (Nat.le_refl _) (.cells #[] 3)).trans hbel1
    clear hbel1
    go_wp2
    go_ret
    exact ⟨_, rfl, hown1, hb1⟩
end Go.Proofs.Ytgiociijhpimoaa
