/- A part of the proof of ChipTicks: NameMath, TabNameT. -/
import Derived.Below
import Derived.BigQuiet
import Derived.Deep.QuietTactic
import Derived.Lib.Bytealg
import Derived.Lib.Hide
import Derived.Lib.IndexAny
import Derived.Lib.Walk
import Derived.RowKit3
import Derived.Test.YtakaebjojgeehaaGreatChecked
import Derived.WalkKit
namespace Go.Proofs.YtakaebjojgeehaaGreat
open Go.RowKit
def lowB (n : Nat) : Bool := decide (97 ≤ n) && decide (n ≤ 122)
def chB (n : Nat) : Bool := lowB n || (decide (48 ≤ n) && decide (n ≤ 57)) || n == 45
/-- The first k bytes are such as a name may have. -/
def okName (s : ByteArray) (k : Nat) : Bool := (s.data.toList.take k).all fun b => chB b.toNat
def nameB (s : ByteArray) : Bool := decide (1 ≤ s.size) && decide (s.size ≤ 20) && lowB (s.data.toList.headD 0).toNat && okName s s.size

theorem name_none (s : ByteArray) (h : s.size < 1) : nameB s = false := by unfold nameB; rw [show decide (1 ≤ s.size) = false from decide_eq_false (by omega)]; rfl
theorem name_long (s : ByteArray) (h : 20 < s.size) : nameB s = false := by
  unfold nameB; rw [show decide (s.size ≤ 20) = false from decide_eq_false (by omega)]; simp
theorem byte_at (s : ByteArray) (k : Nat) (h : k < s.size) : s.data.toList[k]? = some s[k] := by
  have h' : k < s.data.toList.length := by simpa using h
  rw [List.getElem?_eq_getElem h']; rfl
theorem head_at (s : ByteArray) (h : 0 < s.size) : s.data.toList.headD 0 = s[0] := by
  have := byte_at s 0 h
  cases e : s.data.toList with
  | nil => rw [e] at this; simp at this
  | cons b l => rw [e] at this; simpa using this
theorem name_first (s : ByteArray) (h : 0 < s.size) (hl : lowB s[0].toNat = false) : nameB s = false := by
  unfold nameB; rw [head_at s h, hl]; simp
theorem name_rest (s : ByteArray) (h : 0 < s.size) (h2 : s.size ≤ 20) (hl : lowB s[0].toNat = true) : nameB s = okName s s.size := by
  unfold nameB; rw [head_at s h, hl, decide_eq_true h2, show decide (1 ≤ s.size) = true from decide_eq_true (by omega)]; simp
theorem okB_succ (s : ByteArray) (k : Nat) (h : k < s.size) : okName s (k + 1) = (okName s k && chB s[k].toNat) := by
  unfold okName
  rw [List.take_add_one, byte_at s k h, List.all_append]; simp
theorem okB_false (s : ByteArray) (k : Nat) (h : k < s.size) (hc : chB s[k].toNat = false) : okName s s.size = false := by
  unfold okName
  rw [Bool.eq_false_iff]
  intro hh
  rw [List.all_eq_true] at hh
  have hm : s[k] ∈ s.data.toList.take s.size := by
    have := byte_at s k h
    rw [List.take_of_length_le (by simp)]
    exact List.mem_of_getElem? this
  have := hh _ hm
  rw [hc] at this
  cases this

end Go.Proofs.YtakaebjojgeehaaGreat
namespace Go.Proofs.YtakaebjojgeehaaGreat
open Go.RowKit
theorem ret_boolT {a b : Bool} (h : a = b) : Ending.returned (.bool a) = Ending.returned (.bool b) := by rw [h]
theorem small_any (b : UInt8) (w : World) :
    Calls Tryz.prog 122 #[.int .u8 (b.toNat : Nat)] w fun e w' => e = .returned (.bool (lowB b.toNat)) ∧ w = w' := by
  have hb := b.toNat_lt
  go_enter Tryz.func122, Tryz.ntmps122
  go_wp2
  all_goals
    go_ret
    refine ⟨ret_boolT ?_, rfl⟩
    rw [Bool.eq_iff_iff]
    simp [lowB]
    omega
theorem digit_any (b : UInt8) (w : World) :
    Calls Tryz.prog 123 #[.int .u8 (b.toNat : Nat)] w fun e w' => e = .returned (.bool (decide (48 ≤ b.toNat) && decide (b.toNat ≤ 57))) ∧ w = w' := by
  have hb := b.toNat_lt
  go_enter Tryz.func123, Tryz.ntmps123
  go_wp2
  all_goals
    go_ret
    refine ⟨ret_boolT ?_, rfl⟩
    rw [Bool.eq_iff_iff]
    simp
    omega

theorem byte_bne (b : UInt8) : ((b.toNat : Int) != 45) = !(b.toNat == 45) := by
  rw [Bool.eq_iff_iff]; simp; omega
theorem no_bytes (s : ByteArray) (h : s.size < 1) : s = ⟨#[]⟩ := by
  obtain ⟨⟨l⟩⟩ := s
  cases l with
  | nil => rfl
  | cons x l => exfalso; simp [ByteArray.size] at h
theorem some_bytes (s : ByteArray) (h : 0 < s.size) : ¬ s.toList = [] := by
  rw [ByteArray.toList_eq]
  obtain ⟨⟨l⟩⟩ := s
  cases l with
  | nil => simp [ByteArray.size] at h
  | cons x l => simp

set_option maxHeartbeats 1000000 in
theorem name_is (s : ByteArray) (w : World) (hs : s.size ≤ 9223372036854775807) :
    Calls Tryz.prog 74 #[.string s] w fun e w' => e = .returned (.bool (nameB s)) ∧ w = w' := by
  by_cases h0 : s.size < 1
  · have e := name_none s h0
    rw [e]
    clear e
    obtain rfl := no_bytes s h0
    go_enter Tryz.func74, Tryz.ntmps74
    go_wp2_with fail
    go_ret
    exact ⟨rfl, rfl⟩
  have p0 : 0 < s.size := by omega
  have hz := some_bytes s p0
  have hz2 : s.toList.isEmpty = false := by cases e : s.toList with | nil => exact absurd e hz | cons _ _ => rfl
  by_cases h20 : 20 < s.size
  · have e := name_long s h20
    rw [e]
    go_enter Tryz.func74, Tryz.ntmps74
    go_wp2_with fail
    go_ret
    exact ⟨rfl, rfl⟩
  cases hlow : lowB (s[0]'p0).toNat
  · have e := name_first s p0 hlow
    rw [e]
    go_enter Tryz.func74, Tryz.ntmps74
    go_wp2_with (go_at_call 122; refine (small_any _ _).mono ?_; rintro e w' ⟨rfl, rfl⟩; rw [hlow])
    go_ret
    exact ⟨rfl, rfl⟩
  · have He := Lib.hid (name_rest s p0 (by omega) hlow)
    go_enter Tryz.func74, Tryz.ntmps74
    go_wp2_with (go_at_call 122; refine (small_any _ _).mono ?_; rintro e w' ⟨rfl, rfl⟩; rw [hlow])
    go_loop [19] (fun i => ∃ k : Nat, k ≤ s.size ∧ i = .int .i64 k ∧ okName s k = true) (fun i => s.size - (intOf i).toNat)
    case atStart => exact ⟨0, Nat.zero_le _, rfl, rfl⟩
    case round =>
      obtain ⟨k, hk, rfl, hok⟩ := hrel
      by_cases hlt : k < s.size
      · have Hs := Lib.hid (okB_succ s k hlt)
        have Ho := Lib.hid hok
        have Hf := Lib.hid (okB_false s k hlt)
        clear hok
        have hC : chB (s[k]'hlt).toNat = (lowB (s[k]'hlt).toNat || (decide (48 ≤ (s[k]'hlt).toNat) && decide ((s[k]'hlt).toNat ≤ 57)) || (s[k]'hlt).toNat == 45) := rfl
        have hbn := byte_bne (s[k]'hlt)
        cases f1 : lowB (s[k]'hlt).toNat <;> cases f2 : (decide (48 ≤ (s[k]'hlt).toNat) && decide ((s[k]'hlt).toNat ≤ 57)) <;> cases f3 : ((s[k]'hlt).toNat == 45)
        all_goals
          rw [f1, f2, f3] at hC
          rw [f3] at hbn
          simp only [Bool.or_true, Bool.or_false, Bool.or_self, Bool.not_true, Bool.not_false] at hC hbn
        case false.false.false =>
          have HR := Lib.hid (show nameB s = false by rw [He.out]; exact Hf.out hC)
          clear hC
          go_wp2_with (first
            | (go_at_call 122; refine (small_any _ _).mono ?_; rintro e w' ⟨rfl, rfl⟩; rw [f1])
            | (go_at_call 123; refine (digit_any _ _).mono ?_; rintro e w' ⟨rfl, rfl⟩; rw [f2]))
          go_ret
          exact ⟨by rw [HR.out]; rfl, rfl⟩
        all_goals
          have HC := Lib.hid hC
          clear hC
          go_wp2_with (first
            | (go_at_call 122; refine (small_any _ _).mono ?_; rintro e w' ⟨rfl, rfl⟩; rw [f1])
            | (go_at_call 123; refine (digit_any _ _).mono ?_; rintro e w' ⟨rfl, rfl⟩; rw [f2]))
          go_round
          case rel => exact ⟨k + 1, by omega, by go_num, by rw [Hs.out, Ho.out, HC.out]; rfl⟩
          case measure => simp [intOf]; omega
      · obtain rfl : k = s.size := by omega
        have HR := Lib.hid (show nameB s = true by rw [He.out]; exact hok)
        clear hok
        go_wp2_with fail
        go_ret
        exact ⟨by rw [HR.out]; rfl, rfl⟩
theorem name_any (s : ByteArray) (w : World) (hs : s.size ≤ 9223372036854775807) :
    Calls Tryz.prog 74 #[.string s] w fun e w' => e = .returned (.bool (nameB s)) ∧ Below w.heap.size w w' :=
  (name_is s w hs).mono fun _ _ ⟨he, hw⟩ => ⟨he, hw ▸ Below.refl _ _⟩
end Go.Proofs.YtakaebjojgeehaaGreat
