/- When a text is a name. No function is named here. -/
import Derived.Test.YtbgjnegojoaimaaGreatDoorQuiet
import Derived.Lib.Bytealg
import Derived.Lib.IndexAny
namespace Go.Proofs.YtbgjnegojoaimaaGreatDoor
open Go.RowKit

def lowB (n : Nat) : Bool := decide (97 ≤ n) && decide (n ≤ 122)
def chB (n : Nat) : Bool := lowB n || (decide (48 ≤ n) && decide (n ≤ 57)) || n == 45
/-- The first k bytes are such as a name may have. -/
def okName (s : ByteArray) (k : Nat) : Bool := (s.data.toList.take k).all fun b => chB b.toNat
def nameB (s : ByteArray) : Bool := decide (1 ≤ s.size) && decide (s.size ≤ 20) && lowB (s.data.toList.headD 0).toNat && okName s s.size

theorem name_none (s : ByteArray) (h : s.size < 1) : nameB s = false := by unfold nameB; rw [show decide (1 ≤ s.size) = false from decide_eq_false (by omega)]; rfl
theorem name_long (s : ByteArray) (h : 20 < s.size) : nameB s = false := by
  unfold nameB; rw [show decide (s.size ≤ 20) = false from decide_eq_false (by omega)]; simp
theorem byte_at (s : ByteArray) (k : Nat) (h : k < s.size) : s.data.toList[k]? = some s[k] := by
  have h' : k < s.data.toList.length := by simpa using h
  rw [List.getElem?_eq_getElem h']; rfl
theorem head_at (s : ByteArray) (h : 0 < s.size) : s.data.toList.headD 0 = s[0] := by
  have := byte_at s 0 h
  cases e : s.data.toList with
  | nil => rw [e] at this; simp at this
  | cons b l => rw [e] at this; simpa using this
theorem name_first (s : ByteArray) (h : 0 < s.size) (hl : lowB s[0].toNat = false) : nameB s = false := by
  unfold nameB; rw [head_at s h, hl]; simp
theorem name_rest (s : ByteArray) (h : 0 < s.size) (h2 : s.size ≤ 20) (hl : lowB s[0].toNat = true) : nameB s = okName s s.size := by
  unfold nameB; rw [head_at s h, hl, decide_eq_true h2, show decide (1 ≤ s.size) = true from decide_eq_true (by omega)]; simp
theorem okB_succ (s : ByteArray) (k : Nat) (h : k < s.size) : okName s (k + 1) = (okName s k && chB s[k].toNat) := by
  unfold okName
  rw [List.take_add_one, byte_at s k h, List.all_append]; simp
theorem okB_false (s : ByteArray) (k : Nat) (h : k < s.size) (hc : chB s[k].toNat = false) : okName s s.size = false := by
  unfold okName
  rw [Bool.eq_false_iff]
  intro hh
  rw [List.all_eq_true] at hh
  have hm : s[k] ∈ s.data.toList.take s.size := by
    have := byte_at s k h
    rw [List.take_of_length_le (by simp)]
    exact List.mem_of_getElem? this
  have := hh _ hm
  rw [hc] at this
  cases this

theorem byte_all {p q : UInt8 → Bool} (h : ∀ n : Fin 256, p (UInt8.ofNat n) = q (UInt8.ofNat n)) (b : UInt8) : p b = q b := by
  have := h ⟨b.toNat, b.toNat_lt⟩
  simpa using this
theorem at_letters (b : UInt8) : decide (0 ≤ Lib.indexByte [97, 98, 99, 100, 101, 102, 103, 104, 105, 106, 107, 108, 109, 110, 111, 112, 113, 114, 115, 116, 117, 118, 119, 120, 121, 122] ((b.toNat : Int)).toNat.toUInt8) = lowB b.toNat := by
  have e : ((b.toNat : Int)).toNat.toUInt8 = b := by simp
  rw [e, ← Lib.contains_iff_indexByte]
  exact byte_all (p := fun b => List.contains [97, 98, 99, 100, 101, 102, 103, 104, 105, 106, 107, 108, 109, 110, 111, 112, 113, 114, 115, 116, 117, 118, 119, 120, 121, 122] b) (q := fun b => lowB b.toNat) (by decide +kernel) b
theorem at_signs (b : UInt8) : decide (0 ≤ Lib.indexByte [97, 98, 99, 100, 101, 102, 103, 104, 105, 106, 107, 108, 109, 110, 111, 112, 113, 114, 115, 116, 117, 118, 119, 120, 121, 122, 48, 49, 50, 51, 52, 53, 54, 55, 56, 57, 45] ((b.toNat : Int)).toNat.toUInt8) = chB b.toNat := by
  have e : ((b.toNat : Int)).toNat.toUInt8 = b := by simp
  rw [e, ← Lib.contains_iff_indexByte]
  exact byte_all (p := fun b => List.contains [97, 98, 99, 100, 101, 102, 103, 104, 105, 106, 107, 108, 109, 110, 111, 112, 113, 114, 115, 116, 117, 118, 119, 120, 121, 122, 48, 49, 50, 51, 52, 53, 54, 55, 56, 57, 45] b) (q := fun b => chB b.toNat) (by decide +kernel) b
end Go.Proofs.YtbgjnegojoaimaaGreatDoor
