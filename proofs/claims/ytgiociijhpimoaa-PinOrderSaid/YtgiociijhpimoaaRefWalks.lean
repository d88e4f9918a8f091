/- Contracts of the reference's functions Digits2 and Of2. -/
import Derived.Test.YtgiociijhpimoaaBitWalksB
import Derived.Test.YtgiociijhpimoaaRefRows
namespace Go.Proofs.Ytgiociijhpimoaa
open Go.RowKit

theorem infoI : (Try.prog.info? 3).map (fun i => (i.zero, i.size, i.bytes)) = some (some (.int .i64 0), 1, 8) := by kernel_rfl

theorem limit_any (n a b : Int) (h : a ≤ b) (w : World) :
    Calls Try.prog 34 #[.int .i64 n, .int .i64 a, .int .i64 b] w fun e w' => e = .returned (.int .i64 (near n a b)) ∧ w = w' := by
  go_enter Try.func34, Try.ntmps34
  go_wp2
  all_goals
    go_ret
    refine ⟨ret_int ?_, rfl⟩
    unfold near
    omega

theorem digits2_any (n b : Int) (w : World) :
    Calls Try.prog 20 #[.int .i64 n, .int .i64 b] w fun e w' => ∃ v, e = .returned v ∧ own w.heap.size w' v (digits n (wd b)) ∧ Below w.heap.size w w' := by
  have hw := wd_le b
  have en := near_wd b
  obtain ⟨i0, hi, hz0, hz1, hz2⟩ := info_int infoI
  go_enter Try.func20, Try.ntmps20
  go_wp2_with (go_at_call 34; refine (limit_any _ _ _ (by decide) _).mono ?_; rintro e w' ⟨rfl, rfl⟩)
  clear en
  go_loopw [5, 9] (fun v i wr => ∃ k : Nat, k ≤ wd b ∧ i = .int .i64 k ∧ own w.heap.size wr v (digits n k) ∧ Below w.heap.size w wr) (fun _ i _ => wd b - (intOf i).toNat)
  case atStart => exact ⟨0, Nat.zero_le _, rfl, World.ownsRow_nil _ _ _ _, Below.refl _ _⟩
  case round =>
    obtain ⟨k, hk, rfl, hown, hbel⟩ := hrel
    by_cases hlt : k < wd b
    · have hown' : wr.ownsRow w.heap.size 3 1 u5 (digits n k).length ((digits n k).map (Value.int .i64)) := hown
      have hlen := digits_len n k
      have hbit := ref_bit n k (by omega)
      have hb01 := bitOf_bit n k
      unfold isBit at hb01
      have hsz := hbel.size
      clear hown
      rw [hlen] at hown'
      clear hlen
      go_wp2_with (at_builtin; refine wpList_append_own _ rfl _ _ 22 rfl w.heap.size 3 i0 (.int .i64 0) 1 8 Try.underlying22 hi hz0 hz1 hz2 rfl (by decide) _ _ _ rfl (hown'.alloc _) ⟨wr.heap.size, 0, none⟩ 1 1 [.int .i64 (bitOf n k)] rfl rfl ?c1 ?c2 ?c3 ?c4 ?c5 ?_)
      case c1 => exact one_new _ _
      case c2 => exact one_cell _
      case c3 => unfold maxLen; omega
      case c4 => omega
      case c5 => simp; omega
      intro v' w1 hown1 hgrow _
      have hl1 := hown'.lt
      have hb1 := (hbel.alloc hsz (.cells #[.int .i64 (bitOf n k)] 3)).grown hgrow (by simp; omega) (fun j hj => (hl1 j hj).1)
      have ho1 := own_snoc (digits_len n k) hown1
      rw [← digits_snoc] at ho1
      clear hown1 hgrow hl1 hown' hbit
      go_wp2
      go_roundw
      case rel => exact ⟨k + 1, by omega, by go_num, ho1, hb1⟩
      case measure => simp [intOf]; omega
    · have e : k = wd b := by omega
      subst e
      go_wp2
      go_ret
      exact ⟨_, rfl, hown, hbel⟩

theorem of2_any (v : Value) (l : List Int) (w : World) (h : isRow w v l) (hb : areBits l) (hl : l.length ≤ 62) :
    Calls Try.prog 18 #[v] w fun e w' => e = .returned (.int .i64 (of2 l)) ∧ w = w' := by
  rcases h with ⟨rfl, rfl⟩ | ⟨b, off, cap, rfl, h1, h2, h3, hc⟩
  · go_enter Try.func18, Try.ntmps18
    go_wp2
    go_loop [3, 4] (fun t i => i = .int .i64 (-1) ∧ t = .int .i64 0) (fun _ i => 0)
    case atStart => exact ⟨rfl, rfl⟩
    case round =>
      obtain ⟨rfl, rfl⟩ := hrel
      go_wp2
      go_ret
      exact ⟨rfl, rfl⟩
  · go_enter Try.func18, Try.ntmps18
    go_wp2
    go_loop [3, 4] (fun t i => ∃ j : Nat, j ≤ l.length ∧ i = .int .i64 ((j : Int) - 1) ∧ t = .int .i64 (of2 (l.drop j))) (fun _ i => (intOf i + 1).toNat)
    case atStart => exact ⟨l.length, Nat.le_refl _, rfl, by rw [List.drop_length]; rfl⟩
    case round =>
      obtain ⟨j, hj, rfl, rfl⟩ := hrel
      by_cases hz : j = 0
      · subst hz
        go_wp2
        go_ret
        exact ⟨rfl, rfl⟩
      · obtain ⟨q, rfl⟩ : ∃ q, j = q + 1 := ⟨j - 1, by omega⟩
        have hq : q < l.length := by omega
        have ec : (((q + 1 : Nat) : Int) - 1) = (q : Int) := by omega
        rw [ec]
        have hcell := hc q hq
        have hbd := of2_drop_bd hb hl q hq
        have hbit := getD_bit hb q hq
        unfold isBit at hbit
        have He := Lib.hid (of2_drop l q hq)
        generalize l.getD q 0 = x at *
        clear hc ec
        go_wp2
        go_round
        case rel => exact ⟨q, by omega, by go_num, by rw [He.out, Int.add_comm]⟩
        case measure => simp [intOf]
end Go.Proofs.Ytgiociijhpimoaa
