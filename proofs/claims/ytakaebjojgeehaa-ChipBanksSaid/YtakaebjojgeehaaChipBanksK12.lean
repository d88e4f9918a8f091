/- A part of the proof of ChipBanks: NameMath. -/
import Derived.Below
import Derived.BigQuiet
import Derived.Deep.QuietTactic
import Derived.Lib.Bytealg
import Derived.Lib.IndexAny
import Derived.RowKit3
import Derived.WalkKit
namespace Go.Proofs.Ytakaebjojgeehaa
open Go.RowKit
def lowB (n : Nat) : Bool := decide (97 ≤ n) && decide (n ≤ 122)
def chB (n : Nat) : Bool := lowB n || (decide (48 ≤ n) && decide (n ≤ 57)) || n == 45
/-- The first k bytes are such as a name may have. -/
def okName (s : ByteArray) (k : Nat) : Bool := (s.data.toList.take k).all fun b => chB b.toNat
def nameB (s : ByteArray) : Bool := decide (1 ≤ s.size) && decide (s.size ≤ 20) && lowB (s.data.toList.headD 0).toNat && okName s s.size

theorem name_none (s : ByteArray) (h : s.size < 1) : nameB s = false := by unfold nameB; rw [show decide (1 ≤ s.size) = false from decide_eq_false (by omega)]; rfl
theorem name_long (s : ByteArray) (h : 20 < s.size) : nameB s = false := by
  unfold nameB; rw [show decide (s.size ≤ 20) = false from decide_eq_false (by omega)]; simp
theorem byte_at (s : ByteArray) (k : Nat) (h : k < s.size) : s.data.toList[k]? = some s[k] := by
  have h' : k < s.data.toList.length := by simpa using h
  rw [List.getElem?_eq_getElem h']; rfl
theorem head_at (s : ByteArray) (h : 0 < s.size) : s.data.toList.headD 0 = s[0] := by
  have := byte_at s 0 h
  cases e : s.data.toList with
  | nil => rw [e] at this; simp at this
  | cons b l => rw [e] at this; simpa using this
theorem name_first (s : ByteArray) (h : 0 < s.size) (hl : lowB s[0].toNat = false) : nameB s = false := by
  unfold nameB; rw [head_at s h, hl]; simp
theorem name_rest (s : ByteArray) (h : 0 < s.size) (h2 : s.size ≤ 20) (hl : lowB s[0].toNat = true) : nameB s = okName s s.size := by
  unfold nameB; rw [head_at s h, hl, decide_eq_true h2, show decide (1 ≤ s.size) = true from decide_eq_true (by omega)]; simp
theorem okB_succ (s : ByteArray) (k : Nat) (h : k < s.size) : okName s (k + 1) = (okName s k && chB s[k].toNat) := by
  unfold okName
  rw [List.take_add_one, byte_at s k h, List.all_append]; simp
theorem okB_false (s : ByteArray) (k : Nat) (h : k < s.size) (hc : chB s[k].toNat = false) : okName s s.size = false := by
  unfold okName
  rw [Bool.eq_false_iff]
  intro hh
  rw [List.all_eq_true] at hh
  have hm : s[k] ∈ s.data.toList.take s.size := by
    have := byte_at s k h
    rw [List.take_of_length_le (by simp)]
    exact List.mem_of_getElem? this
  have := hh _ hm
  rw [hc] at this
  cases this

end Go.Proofs.Ytakaebjojgeehaa
