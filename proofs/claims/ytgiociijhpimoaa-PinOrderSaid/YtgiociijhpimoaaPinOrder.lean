/- The walk of the statement PinOrder. -/
import Derived.Test.YtgiociijhpimoaaInsert
import Derived.Test.YtgiociijhpimoaaArgFacts
import Derived.Test.YtgiociijhpimoaaPinBytes
import Derived.Test.YtgiociijhpimoaaRefLows
import Derived.Test.YtgiociijhpimoaaRefWalks
import Derived.Test.YtgiociijhpimoaaBitWalksB
namespace Go.Proofs.Ytgiociijhpimoaa
open Go.RowKit

theorem reverse_mine (B : Nat) (v : Value) (l : List Int) (w : World) (h : own B w v l) (hl : l.length ≤ 17592186044416) :
    Calls Try.prog 23 #[v] w fun e w' => e = .returned (.tuple #[]) ∧ own B w' v l.reverse ∧ Below B w w' := by
  by_cases hz : l.length = 0
  · have hv : ∃ a cap, v = .slice a 0 cap := by
      obtain ⟨a, cap, hv, _⟩ := own_form h
      rw [hz] at hv
      exact ⟨a, cap, hv⟩
    obtain rfl := List.eq_nil_of_length_eq_zero hz
    obtain ⟨a, cap, rfl⟩ := hv
    refine (reverse_zero a cap w).mono fun e w' ⟨he, hw⟩ => ?_
    subst hw
    exact ⟨he, h, Below.refl _ _⟩
  · obtain ⟨g, cap, Y, rfl, hB, hgs, hg, hcap, hm⟩ := own_open h (by omega)
    refine (reverse_any g cap l.length l Y w rfl hg hl).mono fun e w' ⟨he, hg', hb⟩ => ⟨he, ?_, hb.mono hB⟩
    refine ⟨by simp, .inr ⟨g, cap, _, by rw [List.length_reverse], hB, hg', by rw [List.length_reverse]; omega, by unfold maxLen; omega, by simp; omega, ?_⟩⟩
    simp

def mods (l : List Int) : List Int := l.map (· % 4)
theorem mods_snoc (l : List Int) (k : Nat) (h : k < l.length) : mods (l.take (k + 1)) = mods (l.take k) ++ [l.getD k 0 % 4] := by
  unfold mods
  rw [take_snoc l k h, List.map_append]; rfl
theorem lob_perm (l : List Int) (i : Nat) : lob (ins l.reverse i 2) = lob l := by
  unfold lob ins
  rw [List.any_append, List.any_cons, show dlo 2 = false from rfl, Bool.false_or, ← List.any_append, List.take_append_drop, List.any_reverse]
theorem hib_perm (l : List Int) (i : Nat) : hib (ins l.reverse i 2) = hib l := by
  unfold hib ins
  rw [List.any_append, List.any_cons, show dhi 2 = false from rfl, Bool.false_or, ← List.any_append, List.take_append_drop, List.any_reverse]
theorem all_perm (l : List Int) (i : Nat) : allL (ins l.reverse i 2) = allL l := by
  rw [all_ref, all_ref]
  unfold refL
  rw [lob_perm, hib_perm]

set_option maxHeartbeats 1000000 in
theorem pinOrder_walk (v : Value) (l : List Int) (k tq : Int) (w : World) (h : isArg w v l) (hl : l.length ≤ 17592186043904) (hw : ∀ x, x ∈ l → -9223372036854775808 ≤ x ∧ x ≤ 9223372036854775807)
    (hk : -9223372036854775808 ≤ k ∧ k ≤ 9223372036854775807) (htq : -9223372036854775808 ≤ tq ∧ tq ≤ 9223372036854775807) :
    Calls Try.prog 5 #[v, .int .i64 k, .int .i64 tq] w fun e w' => e = .returned (.bool true) ∧ Below w.heap.size w w' := by
  have hform : ∃ a cap, v = .slice a l.length cap ∧ ∀ m, m < l.length → ∃ b off, a = some ⟨b, off, none⟩ ∧ b < w.heap.size ∧ l.length ≤ cap ∧ cap ≤ 9223372036854775807 ∧ w.cell? ⟨b, off + m, none⟩ = some (.int .i64 (l.getD m 0)) := by
    rcases h with ⟨a, cap, rfl, rfl⟩ | ⟨b, off, cap, rfl, h1, h2, h3, h4⟩
    · exact ⟨a, cap, rfl, fun m hm => absurd hm (Nat.not_lt_zero _)⟩
    · exact ⟨_, cap, rfl, fun m hm => ⟨b, off, rfl, h1, h2, h3, h4 m hm⟩⟩
  obtain ⟨a, cap, rfl, hform⟩ := hform
  go_enter Try.func5, Try.ntmps5
  go_wp2_with fail
  go_loopw [7, 14] (fun q i wr => ∃ m : Nat, m ≤ l.length ∧ i = .int .i64 m ∧ own w.heap.size wr q (mods (l.take m)) ∧ Below w.heap.size w wr) (fun _ i _ => l.length - (intOf i).toNat)
  case atStart => exact ⟨0, Nat.zero_le _, rfl, own_nil _ _, Below.refl _ _⟩
  case round =>
    obtain ⟨m, hm, rfl, hown, hbel⟩ := hrel
    have hsz := hbel.size
    by_cases hlt : m < l.length
    · obtain ⟨b, off, rfl, hb, hcap, hcap2, hc⟩ := hform m hlt
      have hcell : wr.cell? ⟨b, off + m, none⟩ = some (.int .i64 (l.getD m 0)) := by
        rw [hbel.cell (p := ⟨b, off + m, none⟩) hb]; exact hc
      have hs := Lib.hid (mods_snoc l m hlt)
      have hx := hw (l.getD m 0) (by rw [List.getD_eq_getElem?_getD, List.getElem?_eq_getElem hlt]; exact List.getElem_mem hlt)
      have hlen : (mods (l.take m)).length = m := by unfold mods; rw [List.length_map, List.length_take]; omega
      generalize l.getD m 0 = x at *
      clear hform h hw hc
      go_wp2_with (first
        | (go_at_call 21; refine (below_any _ _ hx (by omega) _).mono ?_; rintro e w' ⟨rfl, rfl⟩)
        | (at_builtin; refine wpList_append_row rfl _ _ 22 rfl Try.underlying22 infoI w.heap.size _ _ rfl rfl _ [_] (own_alloc hown _) (row_at _ _ _ (by simp)) (by rw [List.length_singleton]; omega) (by simp; omega) ?_))
      intro v' w1 hown1 hbel1
      go_wp2
      go_roundw
      case rel => exact ⟨m + 1, by omega, by go_num, by rw [hs.out]; exact hown1, (hbel.alloc hsz _).trans hbel1⟩
      case measure => simp [intOf]; omega
    · obtain rfl : m = l.length := by omega
      rw [List.take_length] at hown
      have hlen : (mods l).length = l.length := by unfold mods; rw [List.length_map]
      have hrow := own_row hown
      obtain ⟨i, hi, hi2⟩ : ∃ i : Nat, k % ((l.length : Int) + 1) = i ∧ i ≤ l.length := by
        have h0 := Int.emod_nonneg k (b := (l.length : Int) + 1) (by omega)
        have h1 := Int.emod_lt_of_pos k (b := (l.length : Int) + 1) (by omega)
        exact ⟨(k % ((l.length : Int) + 1)).toNat, by omega, by omega⟩
      have hperm := all_perm (mods l) i
      have hV := all_bd (mods l)
      have ht0 := Int.emod_nonneg tq (b := 4) (by decide)
      have ht1 := Int.emod_lt_of_pos tq (b := 4) (by decide)
      have hp : pl (allL (mods l)) (tq % 4) = if allL (mods l) = 2 then tq % 4 else allL (mods l) := by
        unfold pl ln
        split <;> rw [if_neg (by omega)]
      have hrl : ((mods l).reverse).length = l.length := by rw [List.length_reverse, hlen]
      clear hform h hw hown
      go_wp2_with (first
        | (go_at_call_of 21 (Value.int .i64 tq); refine (below_any _ _ htq (by omega) _).mono ?_; rintro e w' ⟨rfl, rfl⟩))
      refine (clone_any _ _ _ hrow (by omega)).mono ?_
      rintro e w1 ⟨u, rfl, ho1, hb1⟩
      obtain ⟨sp, sCap, rfl, _⟩ := own_form ho1
      rw [hlen] at ho1 ⊢
      go_wp2_with fail
      refine (reverse_mine _ _ _ _ ho1 (by omega)).mono ?_
      rintro e w2 ⟨rfl, ho2, hb2⟩
      clear ho1
      go_wp2_with (first
        | (go_at_call_of 21 (Value.int .i64 k); refine (below_any _ _ hk (by omega) _).mono ?_; rintro e w' ⟨rfl, rfl⟩; rw [hi]))
      have s1 := hb1.size
      have s2 := hb2.size
      refine (insert_own wr.heap.size w2 _ _ i 2 ho2 (by omega) (by omega) (by omega) _ rfl).mono ?_
      rintro e w3 ⟨r, rfl, hr3, hb3⟩
      have hx3 := isRow_below hrow ((hb1.trans hb2).trans hb3) (Nat.le_refl _)
      have hB := hbel.trans (((hb1.trans hb2).trans hb3).mono hsz)
      clear ho2 hb1 hb2 hb3 hrow hbel
      obtain ⟨V, hVe⟩ : ∃ V, allL (mods l) = V := ⟨_, rfl⟩
      rw [hVe] at hperm hV hp
      have hpV : V = 2 ∧ pl V (tq % 4) = tq % 4 ∨ V ≠ 2 ∧ pl V (tq % 4) = V := by
        by_cases h2 : V = 2
        · exact .inl ⟨h2, by rw [hp, if_pos h2]⟩
        · exact .inr ⟨h2, by rw [hp, if_neg h2]⟩
      clear hp
      rcases hpV with ⟨h2, hp⟩ | ⟨h2, hp⟩
      · subst h2
        by_cases ht2 : tq % 4 = 2
        · rw [ht2] at hp ⊢
          go_wp2_with (first
            | (go_at_call_of 13 u7; refine (all_any _ _ _ (isArg_row hx3)).mono ?_; rintro e w' ⟨rfl, rfl⟩)
            | (go_at_call_of 13 r; refine (all_any _ _ _ (isArg_row hr3)).mono ?_; rintro e w' ⟨rfl, rfl⟩)
            | (go_at_call 14; refine (pull_any _ _ _).mono ?_; rintro e w' ⟨rfl, rfl⟩)
            | (go_at_call 25; refine (lines_keep _).mono ?_; rintro e w' ⟨rfl, rfl⟩))
          go_ret
          exact ⟨rfl, hB⟩
        · have hb : (tq % 4 == 2) = false := by simpa using ht2
          go_wp2_with (first
            | (go_at_call_of 13 u7; refine (all_any _ _ _ (isArg_row hx3)).mono ?_; rintro e w' ⟨rfl, rfl⟩)
            | (go_at_call_of 13 r; refine (all_any _ _ _ (isArg_row hr3)).mono ?_; rintro e w' ⟨rfl, rfl⟩)
            | (go_at_call 14; refine (pull_any _ _ _).mono ?_; rintro e w' ⟨rfl, rfl⟩)
            | (go_at_call 25; refine (lines_keep _).mono ?_; rintro e w' ⟨rfl, rfl⟩))
          go_ret
          exact ⟨rfl, hB⟩
      · have hb : (V == 2) = false := by simpa using h2
        have hb2 : (V != 2) = true := by simpa using h2
        go_wp2_with (first
          | (go_at_call_of 13 u7; refine (all_any _ _ _ (isArg_row hx3)).mono ?_; rintro e w' ⟨rfl, rfl⟩)
          | (go_at_call_of 13 r; refine (all_any _ _ _ (isArg_row hr3)).mono ?_; rintro e w' ⟨rfl, rfl⟩)
          | (go_at_call 14; refine (pull_any _ _ _).mono ?_; rintro e w' ⟨rfl, rfl⟩)
          | (go_at_call 25; refine (lines_keep _).mono ?_; rintro e w' ⟨rfl, rfl⟩))
        go_ret
        exact ⟨rfl, hB⟩
end Go.Proofs.Ytgiociijhpimoaa
