/- Contracts of the reference's functions Adder and Inverse, and of slices.Clone on slices of numbers. -/
import Derived.Test.YtciedmpmjhnnpaaRefWalks
import Derived.Test.YtciedmpmjhnnpaaRefAppend
import Derived.Test.YtciedmpmjhnnpaaBitWalksC
import Derived.Deep.DeepCutAuto
import Derived.WalkSpells
namespace Go.Proofs.Ytciedmpmjhnnpaa
open Go.RowKit

theorem of2_take_succ (l : List Int) (i : Nat) (h : i < l.length) : of2 (l.take (i + 1)) = of2 (l.take i) + l.getD i 0 * 2 ^ i := by
  have e : l.take (i + 1) = l.take i ++ [l.getD i 0] := by
    rw [List.take_succ_eq_append_getElem h, List.getD_eq_getElem?_getD, List.getElem?_eq_getElem h]; rfl
  rw [e, of2_snoc, List.length_take, Nat.min_eq_left (Nat.le_of_lt h)]

/-- What has been added after i bits. -/
def partSum (l m : List Int) (c : Int) (i : Nat) : Int := of2 (l.take i) + of2 (m.take i) + c
theorem partSum_succ (l m : List Int) (c : Int) (i : Nat) (hl : i < l.length) (hm : i < m.length) :
    partSum l m c (i + 1) = partSum l m c i + (l.getD i 0 + m.getD i 0) * 2 ^ i := by
  unfold partSum
  rw [of2_take_succ l i hl, of2_take_succ m i hm, Int.add_mul]
  omega
theorem partSum_bd (l m : List Int) (c : Int) (i : Nat) (hl : areBits l) (hm : areBits m) (hi : i ≤ l.length) (hj : i ≤ m.length) (hc : isBit c) : 0 ≤ partSum l m c i ∧ partSum l m c i < 2 * 2 ^ i := by
  have h1 := of2_bd (take_bits hl i)
  have h2 := of2_bd (take_bits hm i)
  rw [List.length_take, Nat.min_eq_left hi] at h1
  rw [List.length_take, Nat.min_eq_left hj] at h2
  unfold partSum
  unfold isBit at hc
  omega
theorem carry_bit (l m : List Int) (c : Int) (i : Nat) (hl : areBits l) (hm : areBits m) (hi : i ≤ l.length) (hj : i ≤ m.length) (hc : isBit c) : isBit (partSum l m c i / 2 ^ i) := by
  have h := partSum_bd l m c i hl hm hi hj hc
  have hp := p2_pos i
  exact ⟨Int.ediv_nonneg h.1 (by omega), by have := Int.ediv_lt_of_lt_mul hp h.2; omega⟩
theorem digits_add (T q : Int) (i : Nat) : digits (T + q * 2 ^ i) i = digits T i := by
  unfold digits
  refine List.map_congr_left fun j hj => ?_
  have hji : j < i := List.mem_range.1 hj
  unfold bitOf
  have hp := p2_pos j
  have e : q * 2 ^ i = 2 ^ j * (2 * (q * 2 ^ (i - j - 1))) := by
    have : (2 : Int) ^ i = 2 ^ j * (2 * 2 ^ (i - j - 1)) := by rw [← p2_succ, ← p2_add]; congr 1; omega
    rw [this, Int.mul_left_comm, Int.mul_left_comm q]
  rw [e, Int.add_mul_ediv_left _ _ (by omega), Int.add_mul_emod_self_left]
theorem add_step (l m : List Int) (c : Int) (i : Nat) (hl : i < l.length) (hm : i < m.length) :
    (l.getD i 0 + m.getD i 0 + partSum l m c i / 2 ^ i) = partSum l m c (i + 1) / 2 ^ i := by
  have hp := p2_pos i
  rw [partSum_succ l m c i hl hm, Int.mul_comm _ (2 ^ i), Int.add_mul_ediv_left _ _ (by omega)]
  omega
theorem add_digits (l m : List Int) (c : Int) (i : Nat) (hl : i < l.length) (hm : i < m.length) :
    digits (partSum l m c (i + 1)) (i + 1) = digits (partSum l m c i) i ++ [(l.getD i 0 + m.getD i 0 + partSum l m c i / 2 ^ i) % 2] := by
  rw [digits_snoc, add_step l m c i hl hm]
  congr 1
  rw [partSum_succ l m c i hl hm, digits_add]
theorem add_carry (l m : List Int) (c : Int) (i : Nat) (hl : i < l.length) (hm : i < m.length) :
    (l.getD i 0 + m.getD i 0 + partSum l m c i / 2 ^ i) / 2 = partSum l m c (i + 1) / 2 ^ (i + 1) := by
  rw [add_step l m c i hl hm, Int.ediv_ediv_of_nonneg (Int.le_of_lt (p2_pos i)), Int.pow_succ]

/-- The bits turned round. -/
def inv (l : List Int) : List Int := l.map fun x => 1 - x
theorem inv_len (l : List Int) : (inv l).length = l.length := List.length_map _
theorem inv_bits {l : List Int} (h : areBits l) : areBits (inv l) := fun x hx => by
  obtain ⟨y, hy, rfl⟩ := List.mem_map.1 hx
  have := h y hy
  unfold isBit at *
  omega
theorem of2_inv (l : List Int) : of2 (inv l) = 2 ^ l.length - 1 - of2 l := by
  induction l with
  | nil => rfl
  | cons x l ih =>
    have e : inv (x :: l) = (1 - x) :: inv l := rfl
    rw [e]
    simp only [of2, ih, List.length_cons]
    rw [p2_succ]
    omega
theorem inv_take_succ (l : List Int) (i : Nat) (h : i < l.length) : inv (l.take (i + 1)) = inv (l.take i) ++ [1 - l.getD i 0] := by
  have e : l.take (i + 1) = l.take i ++ [l.getD i 0] := by
    rw [List.take_succ_eq_append_getElem h, List.getD_eq_getElem?_getD, List.getElem?_eq_getElem h]; rfl
  rw [e]; unfold inv; rw [List.map_append]; rfl

theorem inverse_any (v : Value) (l : List Int) (w : World) (h : isRow w v l) (hb : areBits l) (hl : l.length ≤ 62) :
    Calls Try.prog 23 #[v] w fun e w' => ∃ u, e = .returned u ∧ own w.heap.size w' u (inv l) ∧ Below w.heap.size w w' := by
  rcases h with ⟨rfl, rfl⟩ | ⟨b, off, cap, rfl, h1, h2, h3, hc⟩
  · go_enter Try.func23, Try.ntmps23
    go_wp2
    go_loop [3, 8] (fun t i => i = .int .i64 0 ∧ t = .slice none 0 0) (fun _ i => 0)
    case atStart => exact ⟨rfl, rfl⟩
    case round =>
      obtain ⟨rfl, rfl⟩ := hrel
      go_wp2
      go_ret
      exact ⟨_, rfl, own_nil _ _, Below.refl _ _⟩
  · go_enter Try.func23, Try.ntmps23
    go_wp2
    go_loopw [3, 8] (fun t i wr => ∃ k : Nat, k ≤ l.length ∧ i = .int .i64 k ∧ own w.heap.size wr t (inv (l.take k)) ∧ Below w.heap.size w wr) (fun _ i _ => l.length - (intOf i).toNat)
    case atStart => exact ⟨0, Nat.zero_le _, rfl, own_nil _ _, Below.refl _ _⟩
    case round =>
      obtain ⟨k, hk, rfl, hown, hbel⟩ := hrel
      by_cases hlt : k < l.length
      · have hcell : wr.cell? ⟨b, off + k, none⟩ = some (.int .i64 (l.getD k 0)) := by rw [hbel.cell (p := ⟨b, off + k, none⟩) h1]; exact hc k hlt
        have hbit := getD_bit hb k hlt
        have hsz := hbel.size
        have hs := inv_take_succ l k hlt
        have htl : (inv (l.take k)).length ≤ 62 := by rw [inv_len, List.length_take]; omega
        unfold isBit at hbit
        generalize l.getD k 0 = x at *
        have Hs := Lib.hid hs
        clear hs hc
        go_wp2_with (at_builtin; refine wpList_append_row rfl _ _ 25 rfl Try.underlying25 infoI w.heap.size _ _ rfl rfl (inv (l.take k)) [1 - x] (own_alloc hown _) (row_one _ _) ?c1 ?c2 ?_)
        case c1 => show _ + 1 ≤ _; omega
        case c2 => simp; omega
        intro v' w1 hown1 hbel1
        have hb1 := (hbel.alloc hsz (.cells #[.int .i64 (1 - x)] 3)).trans hbel1
        rw [← Hs.out] at hown1
        clear hbel1 hcell
        go_wp2
        go_roundw
        case rel => exact ⟨k + 1, by omega, by go_num, hown1, hb1⟩
        case measure => simp [intOf]; omega
      · have e : k = l.length := by omega
        subst e
        rw [List.take_length] at hown
        go_wp2
        go_ret
        exact ⟨_, rfl, hown, hbel⟩

theorem ret_tup {a b : Value} {c d : Value} (h : a = b) (g : c = d) : Ending.returned (.tuple #[a, c]) = .returned (.tuple #[b, d]) := by rw [h, g]

theorem adder_zero (a : Option Addr) (cap : Nat) (y : Value) (c : Int) (w : World) :
    Calls Try.prog 22 #[.slice a 0 cap, y, .int .i64 c] w fun e w' => e = .returned (.tuple #[.slice none 0 0, .int .i64 c]) ∧ w = w' := by
  go_enter Try.func22, Try.ntmps22
  go_wp2
  go_loop [2, 8, 13] (fun q t i => i = .int .i64 0 ∧ t = .slice none 0 0 ∧ q = .int .i64 c) (fun _ _ i => 0)
  case atStart => exact ⟨rfl, rfl, rfl⟩
  case round =>
    obtain ⟨rfl, rfl, rfl⟩ := hrel
    go_wp2
    go_ret2
    exact ⟨rfl, rfl⟩

theorem adder_some (b off cap b' off' cap' : Nat) (l m : List Int) (c : Int) (w : World) (h1 : b < w.heap.size) (h1' : b' < w.heap.size) (hc : ∀ j, j < l.length → w.cell? ⟨b, off + j, none⟩ = some (.int .i64 (l.getD j 0)))
    (hc' : ∀ j, j < l.length → w.cell? ⟨b', off' + j, none⟩ = some (.int .i64 (m.getD j 0))) (hm : m.length = l.length) (hl : l.length ≤ 62) (hb : areBits l) (hb' : areBits m) (hcar : isBit c) :
    Calls Try.prog 22 #[.slice (some ⟨b, off, none⟩) l.length cap, .slice (some ⟨b', off', none⟩) l.length cap', .int .i64 c] w fun e w' => ∃ u, e = .returned (.tuple #[u, .int .i64 (partSum l m c l.length / 2 ^ l.length)]) ∧
      own w.heap.size w' u (digits (partSum l m c l.length) l.length) ∧ Below w.heap.size w w' := by
  have Hm := Lib.hid hm
  clear hm
  go_enter Try.func22, Try.ntmps22
  go_wp2
  go_loopw [2, 8, 13] (fun q t i wr => ∃ k : Nat, k ≤ l.length ∧ i = .int .i64 k ∧ q = .int .i64 (partSum l m c k / 2 ^ k) ∧ own w.heap.size wr t (digits (partSum l m c k) k) ∧ Below w.heap.size w wr) (fun _ _ i _ => l.length - (intOf i).toNat)
  case atStart => exact ⟨0, Nat.zero_le _, rfl, by unfold partSum; simp [of2], own_nil _ _, Below.refl _ _⟩
  case round =>
    obtain ⟨k, hk, rfl, rfl, hown, hbel⟩ := hrel
    by_cases hlt : k < l.length
    · have hcell : wr.cell? ⟨b, off + k, none⟩ = some (.int .i64 (l.getD k 0)) := by rw [hbel.cell (p := ⟨b, off + k, none⟩) h1]; exact hc k hlt
      have hcell' : wr.cell? ⟨b', off' + k, none⟩ = some (.int .i64 (m.getD k 0)) := by rw [hbel.cell (p := ⟨b', off' + k, none⟩) h1']; exact hc' k hlt
      have hbit := getD_bit hb k hlt
      have hbit' := getD_bit hb' k (by rw [Hm.out]; exact hlt)
      have hcb := carry_bit l m c k hb hb' (by omega) (by rw [Hm.out]; omega) hcar
      have hsz := hbel.size
      have Hs := Lib.hid (add_digits l m c k hlt (by rw [Hm.out]; exact hlt))
      have Hq := Lib.hid (add_carry l m c k hlt (by rw [Hm.out]; exact hlt))
      have htl : (digits (partSum l m c k) k).length ≤ 62 := by rw [digits_len]; omega
      unfold isBit at hbit hbit' hcb
      generalize l.getD k 0 = x at *
      generalize m.getD k 0 = y at *
      generalize partSum l m c k / 2 ^ k = z at *
      clear hc hc'
      go_upto_region 5 with fail
      go_cut [10] (fun s wx => s = .int .i64 (x + y + z) ∧ own w.heap.size wx u8 (digits (partSum l m c k) k) ∧ Below w.heap.size w wx)
      case first =>
        go_quiet (fail)
        go_wp2_with fail
        go_meet
        case rel => exact ⟨by go_num, own_below hown (below_drewN _ _ _) (Nat.le_refl _), hbel.trans (below_drewN _ _ _)⟩
      case rest =>
        obtain ⟨rfl, hown2, hbel2⟩ := hcut
        have hsz2 := hbel2.size
        clear hown hbel hcell hcell' hsz
        go_wp2_with (at_builtin; refine wpList_append_row rfl _ _ 25 rfl Try.underlying25 infoI w.heap.size _ _ rfl rfl (digits (partSum l m c k) k) [(x + y + z) % 2] (own_alloc hown2 _) (row_one _ _) ?c1 ?c2 ?_)
        case c1 => show _ + 1 ≤ _; omega
        case c2 => simp; omega
        intro v' w1 hown1 hbel1
        have hb1 := (hbel2.alloc hsz2 (.cells #[.int .i64 ((x + y + z) % 2)] 3)).trans hbel1
        rw [← Hs.out] at hown1
        clear hbel1
        go_wp2
        go_roundw
        case rel => exact ⟨k + 1, by omega, by go_num, by rw [← Hq.out], hown1, hb1⟩
        case measure => simp [intOf]; omega
    · have e : k = l.length := by omega
      subst e
      go_wp2
      go_ret2
      exact ⟨_, rfl, hown, hbel⟩

theorem adder_any (v u : Value) (l m : List Int) (c : Int) (w : World) (h : isRow w v l) (g : isRow w u m) (hm : m.length = l.length) (hl : l.length ≤ 62) (hb : areBits l) (hb' : areBits m) (hcar : isBit c) :
    Calls Try.prog 22 #[v, u, .int .i64 c] w fun e w' => ∃ r, e = .returned (.tuple #[r, .int .i64 (partSum l m c l.length / 2 ^ l.length)]) ∧
      own w.heap.size w' r (digits (partSum l m c l.length) l.length) ∧ Below w.heap.size w w' := by
  have zero : ∀ (a : Option Addr) (cap : Nat), l = [] → v = .slice a 0 cap → Calls Try.prog 22 #[v, u, .int .i64 c] w fun e w' => ∃ r, e = .returned (.tuple #[r, .int .i64 (partSum l m c l.length / 2 ^ l.length)]) ∧
      own w.heap.size w' r (digits (partSum l m c l.length) l.length) ∧ Below w.heap.size w w' := by
    rintro a cap rfl rfl
    refine (adder_zero a cap u c w).mono fun e w' ⟨he, hw⟩ => ?_
    subst hw
    have hq : c = partSum [] m c 0 / 2 ^ 0 := by unfold partSum; simp [of2]
    exact ⟨_, he.trans (ret_tup rfl (congrArg (Value.int .i64) hq)), own_nil _ _, Below.refl _ _⟩
  rcases h with ⟨hv, hn⟩ | ⟨b, off, cap, hv, h1, h2, h3, hc⟩
  · exact zero none 0 hn hv
  · by_cases hz : l.length = 0
    · exact zero _ cap (List.eq_nil_of_length_eq_zero hz) (by rw [hv, hz])
    · rcases g with ⟨_, hn⟩ | ⟨b', off', cap', hu, h1', h2', h3', hc'⟩
      · rw [hn] at hm; exact absurd hm.symm hz
      · rw [hm] at hu hc'
        rw [hv, hu]
        exact adder_some b off cap b' off' cap' l m c w h1 h1' hc hc' hm hl hb hb' hcar

theorem clone_any (v : Value) (l : List Int) (w : World) (h : isRow w v l) (hl : l.length ≤ 536870912) :
    Calls Try.prog 14 #[v] w fun e w' => ∃ u, e = .returned u ∧ own w.heap.size w' u l ∧ Below w.heap.size w w' := by
  rcases h with ⟨rfl, rfl⟩ | ⟨b, off, cap, rfl, h1, h2, h3, hc⟩
  · have hn := @Lib.run_eql_slice_nil Try.prog
    go_enter Try.func14, Try.ntmps14
    go_wp2
    go_ret
    exact ⟨_, rfl, own_nil _ _, Below.refl _ _⟩
  · have hn := @Lib.run_eql_slice_nil Try.prog
    have hr : isRow (w.alloc (.cells #[] 3)) (.slice (some ⟨b, off, none⟩) l.length cap) l :=
      isRow_below (.inr ⟨b, off, cap, rfl, h1, h2, h3, hc⟩) ((Below.refl w.heap.size w).alloc (Nat.le_refl _) _) (Nat.le_refl _)
    have ho : own w.heap.size (w.alloc (.cells #[] 3)) (.slice (some ⟨w.heap.size, 0, none⟩) 0 0) [] :=
      ⟨rfl, .inr ⟨w.heap.size, 0, #[], rfl, Nat.le_refl _, heap_alloc_new w _, Nat.le_refl _, by decide, rfl, rfl⟩⟩
    clear hc
    go_enter Try.func14, Try.ntmps14
    go_wp2_with (at_builtin; refine wpList_append_row rfl _ _ 25 rfl Try.underlying25 infoI w.heap.size _ _ rfl rfl [] l ho hr ?c1 ?c2 ?_)
    case c1 => simp; omega
    case c2 => simp
    intro v' w1 hown1 hbel1
    have hb1 := ((Below.refl w.heap.size w).alloc (Nat.le_refl _) (.cells #[] 3)).trans hbel1
    clear hbel1
    go_wp2
    go_ret
    exact ⟨_, rfl, hown1, hb1⟩
end Go.Proofs.Ytciedmpmjhnnpaa
