/- The walk of the statement PinBytes: two bytes on a bus. -/
import Derived.Test.YtgiociijhpimoaaPinBus2
namespace Go.Proofs.Ytgiociijhpimoaa
open Go.RowKit

theorem nat_xor2 (p q m n : Nat) (hp : p < 2) (hq : q < 2) : (p + 2 * m) ^^^ (q + 2 * n) = (p ^^^ q) + 2 * (m ^^^ n) := by
  have h1 : ((p + 2 * m) ^^^ (q + 2 * n)) / 2 = m ^^^ n := by
    rw [Nat.xor_div_two, show (p + 2 * m) / 2 = m by omega, show (q + 2 * n) / 2 = n by omega]
  have h2 : ((p + 2 * m) ^^^ (q + 2 * n)) % 2 ^ 1 = p ^^^ q := by
    rw [Nat.xor_mod_two_pow, show (p + 2 * m) % 2 ^ 1 = p by omega, show (q + 2 * n) % 2 ^ 1 = q by omega]
  omega
theorem nat_or2 (p q m n : Nat) (hp : p < 2) (hq : q < 2) : (p + 2 * m) ||| (q + 2 * n) = (p ||| q) + 2 * (m ||| n) := by
  have h1 : ((p + 2 * m) ||| (q + 2 * n)) / 2 = m ||| n := by
    rw [Nat.or_div_two, show (p + 2 * m) / 2 = m by omega, show (q + 2 * n) / 2 = n by omega]
  have h2 : ((p + 2 * m) ||| (q + 2 * n)) % 2 ^ 1 = p ||| q := by
    rw [Nat.or_mod_two_pow, show (p + 2 * m) % 2 ^ 1 = p by omega, show (q + 2 * n) % 2 ^ 1 = q by omega]
  omega

def xb (p q : Int) : Int := if p = q then 0 else 1
def ob (p q : Int) : Int := if p = 0 ∧ q = 0 then 0 else 1
theorem of2_cons (x : Int) (l : List Int) : of2 (x :: l) = x + 2 * of2 l := rfl
theorem xor_of2 : ∀ l m : List Int, areBits l → areBits m → l.length = m.length → (((of2 l).toNat ^^^ (of2 m).toNat : Nat) : Int) = of2 (List.zipWith xb l m)
  | [], [], _, _, _ => by simp [of2]
  | [], _ :: _, _, _, h => by simp at h
  | _ :: _, [], _, _, h => by simp at h
  | p :: l, q :: m, hl, hm, h => by
    have ih := xor_of2 l m (fun x hx => hl x (.tail _ hx)) (fun x hx => hm x (.tail _ hx)) (by simpa using h)
    have b1 := of2_bd (l := l) (fun x hx => hl x (.tail _ hx))
    have b2 := of2_bd (l := m) (fun x hx => hm x (.tail _ hx))
    have hp := hl p (.head _)
    have hq := hm q (.head _)
    unfold isBit at hp hq
    rw [of2_cons, of2_cons, List.zipWith_cons_cons, of2_cons, ← ih, show (p + 2 * of2 l).toNat = p.toNat + 2 * (of2 l).toNat by omega, show (q + 2 * of2 m).toNat = q.toNat + 2 * (of2 m).toNat by omega, nat_xor2 _ _ _ _ (by omega) (by omega)]
    rcases (by omega : p = 0 ∨ p = 1) with rfl | rfl <;> rcases (by omega : q = 0 ∨ q = 1) with rfl | rfl <;> simp [xb]
theorem or_of2 : ∀ l m : List Int, areBits l → areBits m → l.length = m.length → (((of2 l).toNat ||| (of2 m).toNat : Nat) : Int) = of2 (List.zipWith ob l m)
  | [], [], _, _, _ => by simp [of2]
  | [], _ :: _, _, _, h => by simp at h
  | _ :: _, [], _, _, h => by simp at h
  | p :: l, q :: m, hl, hm, h => by
    have ih := or_of2 l m (fun x hx => hl x (.tail _ hx)) (fun x hx => hm x (.tail _ hx)) (by simpa using h)
    have b1 := of2_bd (l := l) (fun x hx => hl x (.tail _ hx))
    have b2 := of2_bd (l := m) (fun x hx => hm x (.tail _ hx))
    have hp := hl p (.head _)
    have hq := hm q (.head _)
    unfold isBit at hp hq
    rw [of2_cons, of2_cons, List.zipWith_cons_cons, of2_cons, ← ih, show (p + 2 * of2 l).toNat = p.toNat + 2 * (of2 l).toNat by omega, show (q + 2 * of2 m).toNat = q.toNat + 2 * (of2 m).toNat by omega, nat_or2 _ _ _ _ (by omega) (by omega)]
    rcases (by omega : p = 0 ∨ p = 1) with rfl | rfl <;> rcases (by omega : q = 0 ∨ q = 1) with rfl | rfl <;> simp [ob]

theorem zip_bits (f : Int → Int → Int) (a b : Int) (k : Nat) : List.zipWith f (digits a k) (digits b k) = bitsL (fun j => f (bitOf a j) (bitOf b j)) k := by
  unfold digits bitsL
  induction k with
  | zero => rfl
  | succ k ih => rw [List.range_succ, List.map_append, List.map_append, List.map_append, List.zipWith_append (by simp), ih]; rfl
theorem i64_xor (x y : Int) (h0 : 0 ≤ x) (h1 : x < 256) (g0 : 0 ≤ y) (g1 : y < 256) : bits .xor .i64 x y = ((x.toNat ^^^ y.toNat : Nat) : Int) := by
  obtain ⟨a, rfl⟩ := Int.eq_ofNat_of_zero_le h0
  obtain ⟨b, rfl⟩ := Int.eq_ofNat_of_zero_le g0
  show IntKind.i64.wrap ((BitVec.ofInt 64 (a : Int) ^^^ BitVec.ofInt 64 (b : Int)).toNat : Int) = _
  rw [BitVec.toNat_xor, nat_ofInt _ (by omega), nat_ofInt _ (by omega)]
  have : a ^^^ b < 2 ^ 8 := Nat.xor_lt_two_pow (by omega) (by omega)
  exact IntWalk.i64_in _ (by omega)
theorem i64_or (x y : Int) (h0 : 0 ≤ x) (h1 : x < 256) (g0 : 0 ≤ y) (g1 : y < 256) : bits .or .i64 x y = ((x.toNat ||| y.toNat : Nat) : Int) := by
  obtain ⟨a, rfl⟩ := Int.eq_ofNat_of_zero_le h0
  obtain ⟨b, rfl⟩ := Int.eq_ofNat_of_zero_le g0
  show IntKind.i64.wrap ((BitVec.ofInt 64 (a : Int) ||| BitVec.ofInt 64 (b : Int)).toNat : Int) = _
  rw [BitVec.toNat_or, nat_ofInt _ (by omega), nat_ofInt _ (by omega)]
  have : a ||| b < 2 ^ 8 := Nat.or_lt_two_pow (by omega) (by omega)
  exact IntWalk.i64_in _ (by omega)

/-- Two that drive the bits of two numbers. -/
def two (a b : Int) (i j : Nat) : Int := if i = 0 then bitOf a j else bitOf b j
theorem two_joined (a b : Int) (j : Nat) : joined (two a b) 2 j = jn (jn 2 (bitOf a j)) (bitOf b j) := rfl
theorem two_cases (a b : Int) (j : Nat) : joined (two a b) 2 j = if bitOf a j = bitOf b j then bitOf a j else 3 := by
  rw [two_joined]
  have hp := bitOf_bit a j
  have hq := bitOf_bit b j
  unfold isBit at hp hq
  rcases (by omega : bitOf a j = 0 ∨ bitOf a j = 1) with h | h <;> rcases (by omega : bitOf b j = 0 ∨ bitOf b j = 1) with g | g <;> rw [h, g] <;> decide
theorem two_float (a b : Int) : tell (fOf (joined (two a b) 2)) 8 = 0 := by
  have e : bitsL (fOf (joined (two a b) 2)) 8 = bitsL (fun _ => 0) 8 := bitsL_congr fun j _ => by
    unfold fOf
    rw [two_cases]
    have hp := bitOf_bit a j
    unfold isBit at hp
    rw [if_neg (by split <;> omega)]
  unfold tell
  rw [e]; rfl
theorem two_clash (a b : Int) : tell (cOf (joined (two a b) 2)) 8 = bits .xor .i64 (lo a 8) (lo b 8) := by
  rw [i64_xor _ _ (lo_nonneg _ _) (lo_lt a 8) (lo_nonneg _ _) (lo_lt b 8), ← of2_digits, ← of2_digits, xor_of2 _ _ (digits_bits _ _) (digits_bits _ _) (by rw [digits_len, digits_len]), zip_bits]
  unfold tell
  congr 1
  refine bitsL_congr fun j _ => ?_
  unfold cOf xb
  rw [two_cases]
  have hp := bitOf_bit a j
  unfold isBit at hp
  by_cases h : bitOf a j = bitOf b j
  · rw [if_pos h, if_pos h, if_neg (by omega)]
  · rw [if_neg h, if_neg h, if_pos rfl]
theorem two_data (a b : Int) : tell (dOf (joined (two a b) 2)) 8 = bits .or .i64 (lo a 8) (lo b 8) := by
  rw [i64_or _ _ (lo_nonneg _ _) (lo_lt a 8) (lo_nonneg _ _) (lo_lt b 8), ← of2_digits, ← of2_digits, or_of2 _ _ (digits_bits _ _) (digits_bits _ _) (by rw [digits_len, digits_len]), zip_bits]
  unfold tell
  congr 1
  refine bitsL_congr fun j _ => ?_
  unfold dOf ob
  rw [two_cases]
  have hp := bitOf_bit a j
  have hq := bitOf_bit b j
  unfold isBit at hp hq
  by_cases h : bitOf a j = bitOf b j
  · rw [if_pos h]
    by_cases h0 : bitOf a j = 0
    · rw [if_pos h0, if_pos ⟨h0, by omega⟩]
    · rw [if_neg h0, if_neg (fun h => h0 h.1)]
  · rw [if_neg h, if_neg (by decide), if_neg (fun g => h (by rw [g.1, g.2]))]

theorem grid_two (w : World) (a b : Int) :
    isGrid (w.alloc (.cells #[.int .i64 (bitOf a 0), .int .i64 (bitOf a 1), .int .i64 (bitOf a 2), .int .i64 (bitOf a 3), .int .i64 (bitOf a 4), .int .i64 (bitOf a 5), .int .i64 (bitOf a 6), .int .i64 (bitOf a 7),
      .int .i64 (bitOf b 0), .int .i64 (bitOf b 1), .int .i64 (bitOf b 2), .int .i64 (bitOf b 3), .int .i64 (bitOf b 4), .int .i64 (bitOf b 5), .int .i64 (bitOf b 6), .int .i64 (bitOf b 7)] 33)) (.slice (some ⟨w.heap.size, 0, none⟩) 2 2) 2 (two a b) := by
  refine .inr ⟨w.heap.size, 0, 2, rfl, by simp, Nat.le_refl _, by decide, fun i hi j hj => ?_⟩
  rw [World.cell?_alloc_at _ _ _ _ rfl]
  rcases (by omega : j = 0 ∨ j = 1 ∨ j = 2 ∨ j = 3 ∨ j = 4 ∨ j = 5 ∨ j = 6 ∨ j = 7) with rfl | rfl | rfl | rfl | rfl | rfl | rfl | rfl <;>
    rcases (by omega : i = 0 ∨ i = 1) with rfl | rfl <;> rfl
theorem none_low (F : Nat → Nat → Int) : tell (dOf (joined F 0)) 8 = 255 := rfl
theorem none_float (F : Nat → Nat → Int) : tell (fOf (joined F 0)) 8 = 255 := rfl

theorem lines_keep (w : World) :
    Calls Try.prog 25 #[] w fun e w' => e = .returned (.bool true) ∧ w = w' := by
  have e1 : jn 0 1 = 3 := by decide
  go_enter Try.func25, Try.ntmps25
  go_wp2_with (go_at_call 12; refine (join_any _ _ _).mono ?_; rintro e w' ⟨rfl, rfl⟩)
  go_ret
  exact ⟨rfl, rfl⟩

theorem pinBytes_walk (a b : Int) (w : World) :
    Calls Try.prog 6 #[.int .i64 a, .int .i64 b] w fun e w' => e = .returned (.bool true) ∧ Below w.heap.size w w' := by
  have ew : wd 8 = 8 := rfl
  go_enter Try.func6, Try.ntmps6
  go_wp2_with (first
    | (go_at_call 26; refine (low_any _ _ _).mono ?_; rintro e w' ⟨rfl, rfl⟩))
  refine (drives_any _ _).mono ?_
  rintro e w1 ⟨rfl, hb1⟩
  go_wp2_with fail
  refine (drives_any _ _).mono ?_
  rintro e w2 ⟨rfl, hb2⟩
  unfold arr8
  have h1 := two_float a b
  have h2 := two_clash a b
  have h3 := two_data a b
  have h4 := none_low (two a b)
  have h5 := none_float (two a b)
  go_wp2_with fail
  refine (bus_any _ 2 (two a b) _ (grid_two _ a b)).mono ?_
  rintro e w3 ⟨rfl, hb3⟩
  go_wp2_with fail
  refine (bus_any _ 0 (two a b) _ (.inl ⟨_, _, rfl, rfl⟩)).mono ?_
  rintro e w4 ⟨rfl, hb4⟩
  go_wp2_with (go_at_call 25; refine (lines_keep _).mono ?_; rintro e w' ⟨rfl, rfl⟩)
  go_ret
  refine ⟨rfl, ?_⟩
  have s1 := hb1.size
  have s2 := hb2.size
  have s3 := hb3.size
  simp only [World.size_alloc] at s3 hb3
  exact (((hb1.trans (hb2.mono s1)).alloc (by omega) _).trans (hb3.mono (by omega))).trans (hb4.mono (by omega))
end Go.Proofs.Ytgiociijhpimoaa
