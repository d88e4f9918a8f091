/- The walk of the statement PinBuses. -/
import Derived.Test.YtgiociijhpimoaaPinJoins
import Derived.Test.YtgiociijhpimoaaPinBus2
import Derived.Test.YtgiociijhpimoaaRefAppend2
import Derived.Test.YtgiociijhpimoaaRefWalks
namespace Go.Proofs.Ytgiociijhpimoaa
open Go.RowKit

theorem isGrid_form {w : World} {v : Value} {n : Nat} {F : Nat → Nat → Int} (h : isGrid w v n F) :
    ∃ a cap, v = .slice a n cap ∧ ∀ m, m < n → ∃ b off, a = some ⟨b, off, none⟩ ∧ b < w.heap.size ∧ n ≤ cap ∧ cap ≤ 9223372036854775807 ∧ ∀ j, j < 8 → w.cell? ⟨b, off + m * 8 + j, none⟩ = some (.int .i64 (F m j)) := by
  rcases h with ⟨a, cap, rfl, rfl⟩ | ⟨b, off, cap, rfl, h1, h2, h3, h4⟩
  · exact ⟨a, cap, rfl, fun m hm => absurd hm (Nat.not_lt_zero _)⟩
  · exact ⟨_, cap, rfl, fun m hm => ⟨b, off, rfl, h1, h2, h3, h4 m hm⟩⟩

theorem isRow_drew {w : World} {v : Value} {l : List Int} (h : isRow w v l) : isRow w.drew v l := isRow_below h (Below.refl w.heap.size w).drew (Nat.le_refl _)
/-- Two slices with the same numbers. -/
theorem equal_rows (v u : Value) (l : List Int) (w : World) (h : isRow w v l) (g : isRow w u l) :
    Calls Try.prog 19 #[v, u] w fun e w' => e = .returned (.bool true) ∧ Below w.heap.size w w' := by
  rcases h with ⟨rfl, rfl⟩ | ⟨b, off, cap, rfl, h1, h2, h3, hc⟩
  · rcases g with ⟨rfl, _⟩ | ⟨c, off, cap, rfl, g1, g2, g3, gc⟩
    · exact (Try.slices_Equal_int_empty none none 0 0 0 w (by decide)).mono fun e w' ⟨he, hw⟩ => by subst hw; exact ⟨he, Below.refl _ _⟩
    · exact (Try.slices_Equal_int_empty none (some ⟨c, off, none⟩) 0 0 cap w (by decide)).mono fun e w' ⟨he, hw⟩ => by subst hw; exact ⟨he, Below.refl _ _⟩
  · rcases g with ⟨rfl, hl⟩ | ⟨c, off2, cap2, rfl, g1, g2, g3, gc⟩
    · subst hl
      exact (Try.slices_Equal_int_empty (some ⟨b, off, none⟩) none cap 0 0 w (by decide)).mono fun e w' ⟨he, hw⟩ => by subst hw; exact ⟨he, Below.refl _ _⟩
    · refine (Try.slices_Equal_int b off l.length cap c off2 l.length cap2 l l w (Nat.le_refl _) (Nat.le_refl _) (by omega) (by omega) hc gc).mono fun e w' ⟨he, m, hw⟩ => ⟨?_, ?_⟩
      · rw [he]; simp
      · subst hw; exact below_drewN w m _
theorem row8 {w : World} {g : Nat} {t : TypeId} {d : Int} (h : blk8 w g t (bitOf d)) : isRow w (.slice (some ⟨g, 0, none⟩) 8 8) (digits d 8) := by
  refine .inr ⟨g, 0, 8, by rw [digits_len], blk8_lt h, by rw [digits_len]; exact Nat.le_refl _, by decide, fun j hj => ?_⟩
  rw [digits_len] at hj
  rw [Nat.zero_add, blk8_cell h j hj, List.getD_eq_getElem?_getD, List.getElem?_eq_getElem (by rw [digits_len]; exact hj), digits_get]
  rfl

set_option maxHeartbeats 4000000 in
theorem pinBuses_walk (v : Value) (n : Nat) (F : Nat → Nat → Int) (data : Int) (w : World) (h : isGrid w v n F) (hn : n ≤ 2199023255552) :
    Calls Try.prog 4 #[v, .int .i64 data] w fun e w' => e = .returned (.bool true) ∧ Below w.heap.size w w' := by
  obtain ⟨a, cap, rfl, hform⟩ := isGrid_form h
  go_enter Try.func4, Try.ntmps4
  go_wp2_with (go_at_call 7; refine (lines_law _).mono ?_; rintro e w' ⟨rfl, rfl⟩)
  go_loopw [5, 6, 7, 19] (fun d f c i wr => ∃ k : Nat, k ≤ 8 ∧ i = .int .i64 k ∧ trio w.heap.size wr d f c (bitsL (dOf (joined F n)) k) (bitsL (fOf (joined F n)) k) (bitsL (cOf (joined F n)) k) ∧ Below w.heap.size w wr) (fun _ _ _ i _ => 8 - (intOf i).toNat)
  case atStart => exact ⟨0, Nat.zero_le _, rfl, trio_nil _ _, Below.refl _ _⟩
  case round =>
    obtain ⟨k, hk, rfl, hT, hbel⟩ := hrel
    obtain ⟨wo, rfl⟩ : ∃ wo, wo = wr := ⟨_, rfl⟩
    have hsz := hbel.size
    by_cases hk8 : k < 8
    · have hdk : decide ((k : Int) < 8) = true := decide_eq_true (by omega)
      go_wp2_with fail
      go_loopw [9, 24] (fun q i w2 => ∃ m : Nat, m ≤ n ∧ i = .int .i64 m ∧ own wo.heap.size w2 q (col F m k) ∧ Below wo.heap.size wo w2) (fun _ i _ => n - (intOf i).toNat)
      case atStart => exact ⟨0, Nat.zero_le _, rfl, own_nil _ _, Below.refl _ _⟩
      case round =>
        obtain ⟨m, hm, rfl, hown, hb2⟩ := hrel
        have hsz2 := hb2.size
        by_cases hlt : m < n
        · obtain ⟨b, off, rfl, hb, hcap, hcap2, hc⟩ := hform m hlt
          have hcs : ∀ j, j < 8 → wr.cell? ⟨b, off + m * 8 + j, none⟩ = some (.int .i64 (F m j)) := fun j hj => by
            rw [(hbel.trans (hb2.mono hsz)).cell (p := ⟨b, off + m * 8 + j, none⟩) hb]; exact hc j hj
          have c0 : wr.cell? ⟨b, off + m * 8, none⟩ = some (.int .i64 (F m 0)) := hcs 0 (by decide)
          have c1 := hcs 1 (by decide)
          have c2 := hcs 2 (by decide)
          have c3 := hcs 3 (by decide)
          have c4 := hcs 4 (by decide)
          have c5 := hcs 5 (by decide)
          have c6 := hcs 6 (by decide)
          have c7 := hcs 7 (by decide)
          have hk8' := blk8_cell (blk8_new wr 33 (F m)) k hk8
          unfold arr8 at hk8'
          have hl := col_len F m k
          have hs := Lib.hid (col_succ F m k)
          have ho := own_alloc (own_alloc hown (.cells (arr8 (F m)) 33)) (.cells #[.int .i64 (F m k)] 3)
          have hr := row_at (wr.alloc (.cells (arr8 (F m)) 33)) (F m k) (wr.heap.size + 1) (by simp)
          have hB := (hb2.alloc hsz2 (.cells (arr8 (F m)) 33)).alloc (by simp; omega) (.cells #[.int .i64 (F m k)] 3)
          unfold arr8 at ho hr hB
          have Ho := Lib.hid ho
          have Hr := Lib.hid hr
          have HB := Lib.hid hB
          clear hc hcs hform h hown hb2 ho hr hB
          go_wp2_with (at_builtin; refine wpList_append_row rfl _ _ 22 rfl Try.underlying22 infoI wo.heap.size _ _ rfl rfl _ _ Ho.out Hr.out ?c1 ?c2 ?_)
          case c1 => rw [hl]; simp; omega
          case c2 => simp; omega
          intro v' w1 hown1 hbel1
          go_wp2
          go_roundw
          case rel => exact ⟨m + 1, by omega, by go_num, by rw [hs.out]; exact hown1, HB.out.trans hbel1⟩
          case measure => simp [intOf]; omega
        · obtain rfl : m = n := by omega
          have eJ : refL (col F m k) = joined F m k := (all_ref _).symm
          have hT2 := hT.below hb2 (Nat.le_refl _)
          have hB2 := hbel.trans (hb2.mono hsz)
          have hrow := isArg_row (own_row hown)
          have sd := Lib.hid (bitsL_succ (dOf (joined F m)) k)
          have sf := Lib.hid (bitsL_succ (fOf (joined F m)) k)
          have sc := Lib.hid (bitsL_succ (cOf (joined F m)) k)
          have hld := bitsL_len (dOf (joined F m)) k
          have hlf := bitsL_len (fOf (joined F m)) k
          have hlc := bitsL_len (cOf (joined F m)) k
          clear hT hbel hb2 hown hform
          have hy := joined_bd F m k
          have hsw := hB2.size
          have m0 : min (0 : Int) 1 = 0 := rfl
          have m2 : min (2 : Int) 1 = 1 := rfl
          have m3 : min (3 : Int) 1 = 1 := rfl
          have hd : dOf (joined F m) k = if joined F m k = 0 then 0 else 1 := rfl
          have hf : fOf (joined F m) k = if joined F m k = 2 then 1 else 0 := rfl
          have hc : cOf (joined F m) k = if joined F m k = 3 then 1 else 0 := rfl
          rcases (by omega : joined F m k = 0 ∨ joined F m k = 1 ∨ joined F m k = 2 ∨ joined F m k = 3) with hj | hj | hj | hj <;> rw [hj] at eJ hd hf hc
          all_goals
            simp only [Int.reduceEq, if_true, if_false] at hd hf hc
            have Hd := Lib.hid (hd.symm ▸ sd.out)
            have Hf := Lib.hid (hf.symm ▸ sf.out)
            have Hc := Lib.hid (hc.symm ▸ sc.out)
            clear hy hd hf hc hj sd sf sc
            go_wp2_with (first
              | (go_at_call 8; refine (lineOf_any _ _ _ hrow).mono ?_; rintro e w' ⟨rfl, rfl⟩)
              | (at_builtin; refine wpList_append_at rfl _ _ 22 rfl Try.underlying22 infoI w.heap.size _ _ rfl rfl _ [_] (hT2.alloc _).od (row_at _ _ _ (by simp)) (Nat.zero_lt_one) (by rw [List.length_singleton]; omega) (by simp; omega) ?_))
            intro d' w1 ho hg hat
            have B1 := below_grown (hB2.alloc hsw _) (hT2.alloc _).od hg (by simp; omega)
            have T1 := ((hT2.alloc _).first' ho hg hat (by simp)).rot
            have s1 := B1.size
            clear ho hg hat hT2 hrow
            go_wp2_with ((at_builtin; refine wpList_append_at rfl _ _ 22 rfl Try.underlying22 infoI w.heap.size _ _ rfl rfl _ [_] (T1.alloc _).od (row_at _ _ _ (by simp)) (Nat.zero_lt_one) (by rw [List.length_singleton]; omega) (by simp; omega) ?_))
            intro f' w2 ho hg hat
            have B2 := below_grown (B1.alloc s1 _) (T1.alloc _).od hg (by simp; omega)
            have T2 := ((T1.alloc _).first' ho hg hat (by simp)).rot
            have s2 := B2.size
            clear ho hg hat T1 B1
            go_wp2_with ((at_builtin; refine wpList_append_at rfl _ _ 22 rfl Try.underlying22 infoI w.heap.size _ _ rfl rfl _ [_] (T2.alloc _).od (row_at _ _ _ (by simp)) (Nat.zero_lt_one) (by rw [List.length_singleton]; omega) (by simp; omega) ?_))
            intro c' w3 ho hg hat
            have B3 := below_grown (B2.alloc s2 _) (T2.alloc _).od hg (by simp; omega)
            have T3 := ((T2.alloc _).first' ho hg hat (by simp)).rot
            have s3 := B3.size
            clear ho hg hat T2 B2
          · go_wp2_with fail
            go_roundw
            case rel => exact ⟨k + 1, by omega, by go_num, by rw [Hd.out, Hf.out, Hc.out]; exact T3, B3⟩
            case measure => simp [intOf]; omega
          · go_wp2_with fail
            go_roundw
            case rel => exact ⟨k + 1, by omega, by go_num, by rw [Hd.out, Hf.out, Hc.out]; exact T3, B3⟩
            case measure => simp [intOf]; omega
          · obtain ⟨g, gcap, rfl, hB, hc, hf, hs⟩ := T3.rot.store
            have S := (hs 1).rot.rot
            rw [hlf] at hc hf S
            simp only [hlf]
            have BS := B3.setCell (p := ⟨g, k, none⟩) hB (.int .i64 1)
            clear hs T3 B3
            go_wp2_with fail
            go_roundw
            case rel => exact ⟨k + 1, by omega, by go_num, by rw [Hd.out, Hf.out, Hc.out]; exact S, BS⟩
            case measure => simp [intOf]; omega
          · obtain ⟨g, gcap, rfl, hB, hc, hf, hs⟩ := T3.rot.rot.store
            have S := (hs 1).rot
            rw [hlc] at hc hf S
            simp only [hlc]
            have BS := B3.setCell (p := ⟨g, k, none⟩) hB (.int .i64 1)
            clear hs T3 B3
            go_wp2_with fail
            go_roundw
            case rel => exact ⟨k + 1, by omega, by go_num, by rw [Hd.out, Hf.out, Hc.out]; exact S, BS⟩
            case measure => simp [intOf]; omega
    · obtain rfl : k = 8 := by omega
      go_wp2_with (first
        | (go_at_call 16; refine (bus_any _ n F _ (isGrid_below h hbel (Nat.le_refl _))).mono ?_; rintro e w1 ⟨rfl, hb1⟩)
        | (go_at_call 17; refine (drives_any _ _).mono ?_; rintro e w2 ⟨rfl, hb2⟩; unfold arr8))
      have s1 := hb1.size
      have s2 := hb2.size
      have hB := (((hbel.trans (hb1.mono hsz)).trans (hb2.mono (by omega))).alloc (by omega) (.cells (arr8 (bitOf data)) 33))
      have hb := blk8_new w2 33 (bitOf data)
      have hx := isRow_below (own_row hT.od) ((hb1.trans (hb2.mono s1)).alloc (by omega) (.cells (arr8 (bitOf data)) 33)) (Nat.le_refl _)
      have hy := isRow_below (own_row hT.of) ((hb1.trans (hb2.mono s1)).alloc (by omega) (.cells (arr8 (bitOf data)) 33)) (Nat.le_refl _)
      have hz := isRow_below (own_row hT.oc) ((hb1.trans (hb2.mono s1)).alloc (by omega) (.cells (arr8 (bitOf data)) 33)) (Nat.le_refl _)
      unfold arr8 at hB hb hx hy hz
      have e8 : wd 8 = 8 := rfl
      have ed : of2 (bitsL (dOf (joined F n)) 8) = tell (dOf (joined F n)) 8 := rfl
      have ef : of2 (bitsL (fOf (joined F n)) 8) = tell (fOf (joined F n)) 8 := rfl
      have ec : of2 (bitsL (cOf (joined F n)) 8) = tell (cOf (joined F n)) 8 := rfl
      clear hT hbel hb1 hb2 h hform
      go_region_with (first
        | (go_at_call_of 18 u5; refine (of2_any _ _ _ (by repeat (first | exact hx | apply isRow_drew)) (bitsL_bits (dOf_bit _) 8) (by rw [bitsL_len]; decide)).mono ?_; rintro e w' ⟨rfl, rfl⟩)
        | (go_at_call_of 18 u6; refine (of2_any _ _ _ (by repeat (first | exact hy | apply isRow_drew)) (bitsL_bits (fOf_bit _) 8) (by rw [bitsL_len]; decide)).mono ?_; rintro e w' ⟨rfl, rfl⟩)
        | (go_at_call_of 18 u7; refine (of2_any _ _ _ (by repeat (first | exact hz | apply isRow_drew)) (bitsL_bits (cOf_bit _) 8) (by rw [bitsL_len]; decide)).mono ?_; rintro e w' ⟨rfl, rfl⟩)
        | (go_at_call 20; refine (digits2_any _ _ _).mono ?_; rintro e w3 ⟨r, rfl, hr, hb3⟩; have hq := isRow_below (by repeat (first | exact row8 hb | apply isRow_drew)) hb3 (Nat.le_refl _); have hr2 := own_row hr; rw [e8] at hr2; have hB3 := hB.drew.trans (hb3.mono hB.size); have s3 := hB3.size)
        | (go_at_call 19; refine (equal_rows _ _ (digits data 8) _ (by repeat (first | exact hq | apply isRow_drew)) (by repeat (first | exact hr2 | apply isRow_drew))).mono ?_; rintro e w4 ⟨rfl, hb4⟩))
      all_goals
        go_wp2_with fail
        go_ret
        exact ⟨rfl, hB3.trans (hb4.mono s3)⟩
end Go.Proofs.Ytgiociijhpimoaa
