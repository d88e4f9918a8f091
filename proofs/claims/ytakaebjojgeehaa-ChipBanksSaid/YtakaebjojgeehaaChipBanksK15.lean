/- A part of the proof of ChipBanks: DevB. -/
import Derived.Test.YtakaebjojgeehaaChipBanksK01
import Derived.Test.YtakaebjojgeehaaChipBanksK02
import Derived.Test.YtakaebjojgeehaaChipBanksK03
import Derived.Test.YtakaebjojgeehaaChipBanksK04
import Derived.Test.YtakaebjojgeehaaChipBanksK05
import Derived.Test.YtakaebjojgeehaaChipBanksK06
import Derived.Below
import Derived.BigQuiet
import Derived.ChangeMaps5
import Derived.Deep.DeepCutAuto
import Derived.Deep.Draws
import Derived.Deep.MidRow
import Derived.Deep.OwnRows
import Derived.Deep.QuietTactic
import Derived.Deep.RegionHeld3
import Derived.Deep.RegionWith
import Derived.Deep.Slices
import Derived.Deep.WholeRow
import Derived.Laws.CopyOwn
import Derived.Lib.Hide
import Derived.Lib.SmallJoins
import Derived.OpenShut
import Derived.OrdersHeld
import Derived.OwnWalk
import Derived.RowKit3
import Derived.StillTactics
import Derived.StillTail
import Derived.StillTailTactics
import Derived.Test.YtakaebjojgeehaaChecked
import Derived.WalkKit
namespace Go.Proofs.Ytakaebjojgeehaa
open Go.RowKit
set_option maxRecDepth 100000
/-- A row of bytes. -/
def byts (m : List Int) : Array Value := (m.map (Value.int .u8)).toArray
/-- The first k bytes, zeros where there are none. -/
def pad (k : Nat) (m : List Int) : List Int := (List.range k).map fun i => m.getD i 0
theorem pad_len (k : Nat) (m : List Int) : (pad k m).length = k := by simp [pad]
theorem pad_get (k : Nat) (m : List Int) (i : Nat) : (pad k m).getD i 0 = if i < k then m.getD i 0 else 0 := by
  unfold pad
  rw [List.getD_eq_getElem?_getD, List.getElem?_map]
  by_cases h : i < k
  · rw [List.getElem?_range h, if_pos h]; rfl
  · rw [List.getElem?_eq_none (by simpa using h), if_neg h]; rfl
theorem pad_self {k : Nat} {m : List Int} (h : m.length = k) : pad k m = m := by
  refine List.ext_getElem? fun i => ?_
  unfold pad
  rw [List.getElem?_map]
  by_cases hi : i < k
  · rw [List.getElem?_range hi, List.getElem?_eq_getElem (by omega : i < m.length)]
    simp [List.getD_eq_getElem?_getD, List.getElem?_eq_getElem (by omega : i < m.length)]
  · rw [List.getElem?_eq_none (by simpa using hi), List.getElem?_eq_none (by omega)]; rfl
theorem byts_get (m : List Int) (k : Nat) : (byts m)[k]? = (m[k]?).map (Value.int .u8) := by simp [byts]
theorem byts_set (m : List Int) (k : Nat) (x : Int) : (byts m).setIfInBounds k (.int .u8 x) = byts (m.set k x) := by simp [byts]
theorem made_byts (n : Nat) : madeCells #[.int .u8 0] n = byts (List.replicate n 0) := by
  refine Array.ext_getElem? fun i => ?_
  rw [byts_get]
  unfold madeCells
  by_cases h : i < n
  · rw [Array.getElem?_map, Array.getElem?_range, if_pos h, List.getElem?_replicate, if_pos h]
    simp [Nat.mod_one]
  · rw [Array.getElem?_eq_none (by simp; omega), List.getElem?_eq_none (by simp; omega)]
    rfl
/-- Bytes copied over zeros. -/
theorem splice_pad (k : Nat) (m : List Int) : (splice ((List.replicate k (0 : Int)).map (Value.int .u8)) 0 ((m.take k).map (Value.int .u8))).toArray = byts (pad k m) := by
  unfold byts
  congr 1
  unfold splice
  rw [List.take_zero, List.nil_append, Nat.zero_add, List.length_map]
  refine List.ext_getElem? fun i => ?_
  rw [List.getElem?_append, List.length_map]
  unfold pad
  simp only [List.getElem?_map, List.getElem?_drop, List.getElem?_take, List.length_take]
  by_cases hi : i < k
  · rw [List.getElem?_range hi]
    by_cases hm : i < m.length
    · rw [if_pos (by omega), if_pos hi, List.getElem?_eq_getElem hm, Option.map_some, Option.map_some, Option.map_some, List.getD_eq_getElem?_getD, List.getElem?_eq_getElem hm]; rfl
    · rw [if_neg (by omega), List.getElem?_replicate, if_pos (by omega), Option.map_some, Option.map_some, Option.map_some, List.getD_eq_getElem?_getD, List.getElem?_eq_none (by omega)]; rfl
  · rw [List.getElem?_eq_none (l := List.range k) (by simpa using hi), if_neg (by omega), List.getElem?_replicate, if_neg (by omega)]; rfl
theorem bytB_arg {w : World} {g : Nat} {l : List Int} (h : rowB w g 5 (byts l)) (hl : l.length ≤ 9223372036854775807) : isByt w (.slice (some ⟨g, 0, none⟩) l.length l.length) l := by
  refine .inr ⟨g, 0, l.length, rfl, rowB_lt h, Nat.le_refl _, hl, fun j hj => ?_⟩
  rw [Nat.zero_add]
  refine rowB_cell h j ?_
  rw [byts_get, List.getElem?_eq_getElem hj, List.getD_eq_getElem?_getD, List.getElem?_eq_getElem hj]
  rfl
theorem infoBt : ∃ i, Try.prog.info? 5 = some i ∧ i.zero = some (.int .u8 0) ∧ i.size = 1 ∧ i.bytes = 1 := by
  have h : (Try.prog.info? 5).map (fun i => (i.zero, i.size, i.bytes)) = some (some (.int .u8 0), 1, 1) := by kernel_rfl
  cases hh : Try.prog.info? 5 with
  | none => rw [hh] at h; cases h
  | some i => rw [hh] at h; simp only [Option.map_some, Option.some.injEq, Prod.mk.injEq] at h; exact ⟨i, rfl, h⟩
theorem isByt_src {w : World} {v : Value} {m : List Int} (h : isByt w v m) (k : Nat) :
    ∃ sp sCap, v = .slice sp m.length sCap ∧ (0 < ((m.take k).map (Value.int .u8)).length → ∃ ad, sp = some ad ∧ ∀ j x, ((m.take k).map (Value.int .u8))[j]? = some x → w.cell? (ad.add j) = some x) := by
  rcases h with ⟨a, cap, rfl, rfl⟩ | ⟨b, off, cap, rfl, h1, h2, h3, h4⟩
  · exact ⟨a, cap, rfl, fun h => absurd h (by simp)⟩
  · refine ⟨_, cap, rfl, fun _ => ⟨_, rfl, fun j x hx => ?_⟩⟩
    rw [List.getElem?_map, List.getElem?_take] at hx
    split at hx
    · cases hm : m[j]? with
      | none => rw [hm] at hx; cases hx
      | some y =>
        rw [hm] at hx
        cases hx
        have hj := (List.getElem?_eq_some_iff.1 hm).1
        have := h4 j hj
        rw [List.getD_eq_getElem?_getD, hm] at this
        rw [Addr.add_lit]
        exact this
    · cases hx
end Go.Proofs.Ytakaebjojgeehaa
