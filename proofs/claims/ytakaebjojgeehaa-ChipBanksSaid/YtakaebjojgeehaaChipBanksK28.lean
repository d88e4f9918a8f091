/- A part of the proof of ChipBanks: ChMemb. -/
import Derived.Test.YtakaebjojgeehaaChipBanksK01
import Derived.Test.YtakaebjojgeehaaChipBanksK02
import Derived.Test.YtakaebjojgeehaaChipBanksK03
import Derived.Test.YtakaebjojgeehaaChipBanksK04
import Derived.Test.YtakaebjojgeehaaChipBanksK05
import Derived.Test.YtakaebjojgeehaaChipBanksK06
import Derived.Test.YtakaebjojgeehaaChipBanksK08
import Derived.Test.YtakaebjojgeehaaChipBanksK09
import Derived.Test.YtakaebjojgeehaaChipBanksK11
import Derived.Test.YtakaebjojgeehaaChipBanksK15
import Derived.Test.YtakaebjojgeehaaChipBanksK16
import Derived.Test.YtakaebjojgeehaaChipBanksK17
import Derived.Test.YtakaebjojgeehaaChipBanksK18
import Derived.Below
import Derived.BigQuiet
import Derived.ChangeMaps5
import Derived.Deep.AppendSrc
import Derived.Deep.DeepAppendWide
import Derived.Deep.DeepCutAuto
import Derived.Deep.Draws
import Derived.Deep.MidRow
import Derived.Deep.OwnRows
import Derived.Deep.QuietTactic
import Derived.Deep.RegionHeld3
import Derived.Deep.RegionWith
import Derived.Deep.Slices
import Derived.Deep.WholeRow
import Derived.Laws.CopyOwn
import Derived.Laws.OwnMore
import Derived.Lib.Hide
import Derived.Lib.SmallJoins
import Derived.Maps.AppendAt
import Derived.OpenShut
import Derived.OrdersHeld
import Derived.OwnWalk
import Derived.RowKit3
import Derived.StillTactics
import Derived.StillTail
import Derived.StillTailTactics
import Derived.Test.YtakaebjojgeehaaChecked
import Derived.WalkKit
namespace Go.Proofs.Ytakaebjojgeehaa
open Go.RowKit
set_option maxRecDepth 100000
set_option linter.unusedVariables false
/-- The cells of a memory: its chip, its bank, n bytes in the block q. -/
def mmCs (nm : ByteArray) (k b z : Int) (da : Option Addr) (nd dc : Nat) (bk : Int) (q n : Nat) : Array Value := #[.string nm, .int .i64 k, .int .i64 b, .int .i64 z, .slice da nd dc, .int .i64 bk, .slice (some ⟨q, 0, none⟩) n n]
/-- A memory in the box y; its bytes lie in the row q. -/
structure stM (lo : Nat) (w : World) (y q : Nat) (nm : ByteArray) (k b z : Int) (da : Option Addr) (nd dc : Nat) (bk : Int) (m : List Int) : Prop where
  row : rowB w y 58 (mmCs nm k b z da nd dc bk q m.length)
  bts : rowB w q 5 (byts m)
  ne : q ≠ y
  ly : lo ≤ y
  lq : lo ≤ q
  len : m.length = memSize k z nd
  bk0 : 0 ≤ bk ∧ (bk < if k = 2 then mbank nd (mwin z) else 1)
section
variable {lo y q : Nat} {nm : ByteArray} {k b z : Int} {da : Option Addr} {nd dc : Nat} {bk : Int} {m : List Int} {w w' : World}
theorem stM.below (h : stM lo w y q nm k b z da nd dc bk m) (hb : Below w.heap.size w w') : stM lo w' y q nm k b z da nd dc bk m :=
  ⟨rowB_below h.row hb (rowB_lt h.row), rowB_below h.bts hb (rowB_lt h.bts), h.ne, h.ly, h.lq, h.len, h.bk0⟩
theorem stM.drew (h : stM lo w y q nm k b z da nd dc bk m) : stM lo w.drew y q nm k b z da nd dc bk m :=
  ⟨h.row, h.bts, h.ne, h.ly, h.lq, h.len, h.bk0⟩
theorem stM.bank (h : stM lo w y q nm k b z da nd dc bk m) (x : Int) (hx : 0 ≤ x ∧ (x < if k = 2 then mbank nd (mwin z) else 1)) : stM lo (w.setCell ⟨y, 5, none⟩ (.int .i64 x)) y q nm k b z da nd dc x m :=
  ⟨rowB_set h.row 5 (.int .i64 x), rowB_other h.bts ⟨y, 5, none⟩ _ (fun e => h.ne e.symm), h.ne, h.ly, h.lq, h.len, hx⟩
theorem stM.put (h : stM lo w y q nm k b z da nd dc bk m) (i : Nat) (x : Int) : stM lo (w.setCell ⟨q, i, none⟩ (.int .u8 x)) y q nm k b z da nd dc bk (m.set i x) := by
  refine ⟨?_, ?_, h.ne, h.ly, h.lq, by rw [List.length_set]; exact h.len, h.bk0⟩
  · rw [List.length_set]
    exact rowB_other h.row ⟨q, i, none⟩ _ h.ne
  · have := rowB_set h.bts i (.int .u8 x)
    rw [byts_set] at this
    exact this
theorem stM.cells (h : stM lo w y q nm k b z da nd dc bk m) : (w.cell? ⟨y, 0, none⟩ = some (.string nm) ∧ w.cell? ⟨y, 1, none⟩ = some (.int .i64 k) ∧ w.cell? ⟨y, 2, none⟩ = some (.int .i64 b) ∧ w.cell? ⟨y, 3, none⟩ = some (.int .i64 z) ∧ w.cell? ⟨y, 4, none⟩ = some (.slice da nd dc) ∧ w.cell? ⟨y, 5, none⟩ = some (.int .i64 bk) ∧ w.cell? ⟨y, 6, none⟩ = some (.slice (some ⟨q, 0, none⟩) m.length m.length)) ∧ w.frozen? ⟨y, 5, none⟩ = false :=
  ⟨⟨rowB_cell h.row 0 rfl, rowB_cell h.row 1 rfl, rowB_cell h.row 2 rfl, rowB_cell h.row 3 rfl, rowB_cell h.row 4 rfl, rowB_cell h.row 5 rfl, rowB_cell h.row 6 rfl⟩, rowB_free h.row 5⟩
theorem stM.byte (h : stM lo w y q nm k b z da nd dc bk m) (i : Nat) (hi : i < m.length) : w.cell? ⟨q, i, none⟩ = some (.int .u8 (m.getD i 0)) ∧ w.frozen? ⟨q, i, none⟩ = false := by
  refine ⟨rowB_cell h.bts i ?_, rowB_free h.bts i⟩
  rw [byts_get, List.getD_eq_getElem?_getD, List.getElem?_eq_getElem hi]
  rfl
end
theorem mmHead (nm : ByteArray) (k b z : Int) (da : Option Addr) (nd dc : Nat) (bk : Int) (q n : Nat) (j : Nat) (v : Value) (h : (#[.string nm, .int .i64 k, .int .i64 b, .int .i64 z, .slice da nd dc] : Array Value)[j]? = some v) : (mmCs nm k b z da nd dc bk q n)[j]? = some v := by
  rcases (by omega : j = 0 ∨ j = 1 ∨ j = 2 ∨ j = 3 ∨ j = 4 ∨ 5 ≤ j) with rfl | rfl | rfl | rfl | rfl | h5
  · exact h
  · exact h
  · exact h
  · exact h
  · exact h
  · rw [Array.getElem?_eq_none (by simpa using h5)] at h
    cases h
theorem mmBankedT_any {lo y q : Nat} {nm : ByteArray} {b z : Int} {da : Option Addr} {nd dc : Nat} {bk : Int} {m : List Int} {w : World} (h : stM lo w y q nm 2 b z da nd dc bk m) :
    Calls Try.prog 54 #[.pointer (some ⟨y, 0, none⟩)] w fun e w' => e = .returned (.bool true) ∧ w = w' := by
  obtain ⟨⟨e0, e1, e2, e3, e4, e5, e6⟩, z5⟩ := h.cells
  go_enter Try.func54, Try.ntmps54
  go_wp2_with fail
  go_ret
  exact ⟨rfl, rfl⟩
theorem mmBankedF_any {lo y q : Nat} {nm : ByteArray} {k b z : Int} {da : Option Addr} {nd dc : Nat} {bk : Int} {m : List Int} {w : World} (h : stM lo w y q nm k b z da nd dc bk m) (hk : k ≠ 2) :
    Calls Try.prog 54 #[.pointer (some ⟨y, 0, none⟩)] w fun e w' => e = .returned (.bool false) ∧ w = w' := by
  obtain ⟨⟨e0, e1, e2, e3, e4, e5, e6⟩, z5⟩ := h.cells
  have q2 : (k == 2) = false := beq_eq_false_iff_ne.2 hk
  go_enter Try.func54, Try.ntmps54
  go_wp2_with fail
  go_ret
  exact ⟨rfl, rfl⟩
/-- The bank is chosen. -/
theorem mmChoose_any {lo y q : Nat} {nm : ByteArray} {b z : Int} {da : Option Addr} {nd dc : Nat} {bk : Int} {m : List Int} {w : World} (h : stM lo w y q nm 2 b z da nd dc bk m) (x : Int) (hx : -9223372036854775808 ≤ x ∧ x ≤ 9223372036854775807) (hd : nd ≤ 140737488351232) (hz : -9223372036854775808 ≤ z ∧ z ≤ 9223372036854775807) :
    Calls Try.prog 55 #[.pointer (some ⟨y, 0, none⟩), .int .i64 x] w fun e w' => e = .returned (.tuple #[]) ∧ stM lo w' y q nm 2 b z da nd dc (x % mbank nd (mwin z)) m ∧ Below lo w w' := by
  have hbk := fun w => chBanks_any nm 2 b z da nd dc w hd hz
  have hK := mbank_bd nd (mwin z) (mwin_bd z).1
  have hl := h.len
  have hrow := h.row
  obtain ⟨K, e⟩ : ∃ K, mbank nd (mwin z) = K := ⟨_, rfl⟩
  simp only [e] at hbk hK
  have hE := tmod_form x K (by omega)
  have h1 := Int.lt_tmod_of_pos x (show 0 < K by omega)
  have h2 := Int.tmod_lt_of_pos x (show 0 < K by omega)
  have hmK : 0 ≤ x % K ∧ x % K < K := ⟨Int.emod_nonneg _ (by omega), Int.emod_lt_of_pos _ (by omega)⟩
  have hfin : stM lo w y q nm 2 b z da nd dc bk m → ∀ w', Below lo w w' → rowB w' y 58 (mmCs nm 2 b z da nd dc bk q m.length) → True := fun _ _ _ _ => trivial
  clear hfin
  dsimp only [chip5] at hbk
  obtain ⟨R, hR⟩ : ∃ R, Int.tmod x K = R := ⟨_, rfl⟩
  rw [hR] at hE h1 h2
  have hw : wrap64 (R + K) = R + K := IntWalk.wrap64_in _ (by omega)
  have hw2 : wrap64 R = R := IntWalk.wrap64_in _ (by omega)
  have hq0 : (K == 0) = false := beq_eq_false_iff_ne.2 (by omega)
  obtain ⟨E, hE2⟩ : ∃ E, x % K = E := ⟨_, rfl⟩
  rw [hE2] at hE hmK
  have HE := Lib.hid hE
  have hE3 : Int.tmod (R + K) K = E := hE
  have hw3 : wrap64 E = E := IntWalk.wrap64_in _ (by omega)
  rw [e, hE2]
  have HP := Lib.hid e
  clear hE e hE2
  have hne : ¬ (K = 0) := by omega
  go_enter Try.func55, Try.ntmps55
  go_upto_region 1 with (first
    | (refine wpList_loadH rfl 24 _ rfl y rfl #[.string nm, .int .i64 2, .int .i64 b, .int .i64 z, .slice da nd dc] 58 (mmCs nm 2 b z da nd dc bk q m.length) ?_ (mmHead _ _ _ _ _ _ _ _ _ _) agCh ?_; with_reducible exact hrow)
    | (go_at_call 9; refine (hbk _).mono ?_; rintro e w3 ⟨rfl, hb⟩))
  have h3 := h.below hb
  have bX := hb.mono (show lo ≤ w.heap.size from Nat.le_of_lt (Nat.lt_of_le_of_lt h.ly (rowB_lt h.row)))
  obtain ⟨⟨e0, e1, e2, e3, e4, e5, e6⟩, z5⟩ := h3.cells
  clear hb hbk hrow hl
  go_wp2_with fail
  first | refine bodyPost_end (results_none rfl _ _ _) rfl ?_ | refine bodyPost_ret (results_none rfl _ _ _) rfl ?_
  refine ⟨rfl, ?_, bX.setCell (p := ⟨y, 5, none⟩) h.ly _⟩
  exact h3.bank E ⟨hmK.1, by rw [if_pos rfl, HP.out]; exact hmK.2⟩
/-- Where the byte of an address is, or -1. -/
def memAt (k z bk : Int) (n : Nat) (a : Int) : Int := if k = 2 then (if 1 ≤ a ∧ a ≤ mwin z then bk * mwin z + (a - 1) else -1) else (if 0 ≤ a ∧ a < n then a else -1)
theorem memAt_bd {lo y q : Nat} {nm : ByteArray} {k b z : Int} {da : Option Addr} {nd dc : Nat} {bk : Int} {m : List Int} {w : World} (h : stM lo w y q nm k b z da nd dc bk m) (a : Int) : memAt k z bk m.length a = -1 ∨ (0 ≤ memAt k z bk m.length a ∧ memAt k z bk m.length a < m.length) := by
  have hl := h.len
  have hb := h.bk0
  have hW := mwin_bd z
  unfold memAt
  split
  · rename_i hk
    subst hk
    have hs := memSize_bank z nd
    rw [if_pos rfl] at hb
    split
    · refine .inr ?_
      have h1 : (bk + 1) * mwin z ≤ mbank nd (mwin z) * mwin z := Int.mul_le_mul_of_nonneg_right (by omega) (by omega)
      have h2 := Int.mul_nonneg hb.1 (show 0 ≤ mwin z by omega)
      rw [Int.add_mul, Int.one_mul] at h1
      rw [hl]
      omega
    · exact .inl rfl
  · split
    · exact .inr (by omega)
    · exact .inl rfl
set_option maxHeartbeats 1000000 in
theorem mmPlace_any {lo y q : Nat} {nm : ByteArray} {k b z : Int} {da : Option Addr} {nd dc : Nat} {bk : Int} {m : List Int} {w : World} (h : stM lo w y q nm k b z da nd dc bk m) (a : Int) (ha : -1 ≤ a ∧ a ≤ 4611686018427387904) (hd : nd ≤ 140737488351232) (hz : -9223372036854775808 ≤ z ∧ z ≤ 9223372036854775807) :
    Calls Try.prog 65 #[.pointer (some ⟨y, 0, none⟩), .int .i64 a] w fun e w' => e = .returned (.int .i64 (memAt k z bk m.length a)) ∧ Below w.heap.size w w' := by
  have hl := h.len
  have hb := h.bk0
  have hsz := memSize_bd k z nd
  have hmb := memAt_bd h a
  obtain ⟨N, hN⟩ : ∃ N, m.length = N := ⟨_, rfl⟩
  obtain ⟨P, hP⟩ : ∃ P, memAt k z bk m.length a = P := ⟨_, rfl⟩
  have hP0 := hP
  rw [hP] at hmb
  rw [hP]
  unfold memAt at hP
  rw [hN] at hP hl hmb
  have hNb : (N : Int) ≤ 140737488420864 := by omega
  obtain ⟨⟨e0, e1, e2, e3, e4, e5, e6⟩, z5⟩ := h.cells
  rw [hN] at e6
  by_cases hk : k = 2
  · subst hk
    rw [if_pos rfl] at hP hb
    have hwin := fun w => chWindow_any nm 2 b z (.slice da nd dc) w hz
    have hW := mwin_bd z
    have hrow := h.row
    rw [hN] at hrow
    obtain ⟨W, hWW⟩ : ∃ W, mwin z = W := ⟨_, rfl⟩
    rw [hWW] at hW hP
    simp only [hWW] at hwin
    dsimp only [chip5] at hwin
    have wa : wrap64 (a - 1) = a - 1 := IntWalk.wrap64_in _ (by omega)
    have hB := fun w' (hb : Below w.heap.size w w') => h.below hb
    clear hWW hz hd hP0 hl
    rcases (by omega : a < 1 ∨ W < a ∨ (1 ≤ a ∧ a ≤ W)) with h1 | h1 | h1
    · rw [if_neg (by omega)] at hP
      subst hP
      have d1 : decide (a - 1 < 0) = true := decide_eq_true (by omega)
      go_enter Try.func65, Try.ntmps65
      go_wp2_with (first
        | (go_at_call 54; refine (mmBankedT_any h).mono ?_; rintro e w' ⟨rfl, rfl⟩)
        | (refine wpList_loadH rfl 24 _ rfl y rfl #[.string nm, .int .i64 2, .int .i64 b, .int .i64 z, .slice da nd dc] 58 (mmCs nm 2 b z da nd dc bk q N) ?_ (mmHead _ _ _ _ _ _ _ _ _ _) agCh ?_; with_reducible exact hrow)
        | (go_at_call 23; refine (hwin _).mono ?_; rintro e w3 ⟨rfl, hb2⟩; obtain ⟨⟨e0, e1, e2, e3, e4, e5, e6⟩, z5⟩ := (hB _ hb2).cells; rw [hN] at e6))
      go_ret
      exact ⟨rfl, hb2⟩
    · rw [if_neg (by omega)] at hP
      subst hP
      have d1 : decide (a - 1 < 0) = false := decide_eq_false (by omega)
      have d2 : decide (W ≤ a - 1) = true := decide_eq_true (by omega)
      go_enter Try.func65, Try.ntmps65
      go_wp2_with (first
        | (go_at_call 54; refine (mmBankedT_any h).mono ?_; rintro e w' ⟨rfl, rfl⟩)
        | (refine wpList_loadH rfl 24 _ rfl y rfl #[.string nm, .int .i64 2, .int .i64 b, .int .i64 z, .slice da nd dc] 58 (mmCs nm 2 b z da nd dc bk q N) ?_ (mmHead _ _ _ _ _ _ _ _ _ _) agCh ?_; with_reducible exact hrow)
        | (go_at_call 23; refine (hwin _).mono ?_; rintro e w3 ⟨rfl, hb2⟩; obtain ⟨⟨e0, e1, e2, e3, e4, e5, e6⟩, z5⟩ := (hB _ hb2).cells; rw [hN] at e6))
      go_ret
      exact ⟨rfl, hb2⟩
    · rw [if_pos h1] at hP
      have hP1 : bk * W + (a - 1) = P := hP
      obtain ⟨V, hV⟩ : ∃ V, bk * W = V := ⟨_, rfl⟩
      rw [hV] at hP1
      have hV0 : 0 ≤ V := by rw [← hV]; exact Int.mul_nonneg hb.1 (by omega)
      have wV : wrap64 (bk * W) = V := by rw [hV]; exact IntWalk.wrap64_in _ (by omega)
      have wP : wrap64 (V + (a - 1)) = P := by rw [hP1]; exact IntWalk.wrap64_in _ (by omega)
      have d1 : decide (a - 1 < 0) = false := decide_eq_false (by omega)
      have d2 : decide (W ≤ a - 1) = false := decide_eq_false (by omega)
      clear hP hV hP1
      go_enter Try.func65, Try.ntmps65
      go_wp2_with (first
        | (go_at_call 54; refine (mmBankedT_any h).mono ?_; rintro e w' ⟨rfl, rfl⟩)
        | (refine wpList_loadH rfl 24 _ rfl y rfl #[.string nm, .int .i64 2, .int .i64 b, .int .i64 z, .slice da nd dc] 58 (mmCs nm 2 b z da nd dc bk q N) ?_ (mmHead _ _ _ _ _ _ _ _ _ _) agCh ?_; with_reducible exact hrow)
        | (go_at_call 23; refine (hwin _).mono ?_; rintro e w3 ⟨rfl, hb2⟩; obtain ⟨⟨e0, e1, e2, e3, e4, e5, e6⟩, z5⟩ := (hB _ hb2).cells; rw [hN] at e6))
      go_ret
      exact ⟨ret_int wP, hb2⟩
  · rw [if_neg hk] at hP hb
    obtain rfl : bk = 0 := by omega
    have hbf := mmBankedF_any h hk
    have q2 : (k == 2) = false := beq_eq_false_iff_ne.2 hk
    clear hz hd hP0 hl
    rcases (by omega : a < 0 ∨ N ≤ a ∨ (0 ≤ a ∧ a < N)) with h1 | h1 | h1
    · rw [if_neg (by omega)] at hP
      subst hP
      have d1 : decide (a < 0) = true := decide_eq_true (by omega)
      go_enter Try.func65, Try.ntmps65
      go_wp2_with (go_at_call 54; refine hbf.mono ?_; rintro e w' ⟨rfl, rfl⟩)
      go_ret
      exact ⟨rfl, Below.refl _ _⟩
    · rw [if_neg (by omega)] at hP
      subst hP
      have d1 : decide (a < 0) = false := decide_eq_false (by omega)
      have d2 : decide ((N : Int) ≤ a) = true := decide_eq_true (by omega)
      go_enter Try.func65, Try.ntmps65
      go_wp2_with (go_at_call 54; refine hbf.mono ?_; rintro e w' ⟨rfl, rfl⟩)
      go_ret
      exact ⟨rfl, Below.refl _ _⟩
    · rw [if_pos h1] at hP
      subst hP
      have d1 : decide (a < 0) = false := decide_eq_false (by omega)
      have d2 : decide ((N : Int) ≤ a) = false := decide_eq_false (by omega)
      have wV : wrap64 (0 * (N : Int)) = 0 := by rw [Int.zero_mul]; exact IntWalk.wrap64_in _ (by omega)
      have wP : wrap64 (0 + a) = a := by rw [Int.zero_add]; exact IntWalk.wrap64_in _ (by omega)
      go_enter Try.func65, Try.ntmps65
      go_wp2_with (go_at_call 54; refine hbf.mono ?_; rintro e w' ⟨rfl, rfl⟩)
      go_ret
      exact ⟨ret_int (by first | rfl | exact wP | omega), Below.refl _ _⟩
end Go.Proofs.Ytakaebjojgeehaa
