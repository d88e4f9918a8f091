/- A part of the proof of ChipBanks: DevR, DevEq. -/
import Derived.Test.YtakaebjojgeehaaChipBanksK01
import Derived.Test.YtakaebjojgeehaaChipBanksK02
import Derived.Test.YtakaebjojgeehaaChipBanksK03
import Derived.Test.YtakaebjojgeehaaChipBanksK04
import Derived.Test.YtakaebjojgeehaaChipBanksK05
import Derived.Below
import Derived.BigQuiet
import Derived.ChangeMaps5
import Derived.Deep.DeepCutAuto
import Derived.Deep.Draws
import Derived.Deep.MidRow
import Derived.Deep.OwnRows
import Derived.Deep.QuietTactic
import Derived.Deep.RegionHeld3
import Derived.Deep.RegionWith
import Derived.Deep.Slices
import Derived.Deep.WholeRow
import Derived.Lib.Hide
import Derived.Lib.SmallJoins
import Derived.OpenShut
import Derived.OrdersHeld
import Derived.OwnWalk
import Derived.RowKit3
import Derived.StillTactics
import Derived.StillTail
import Derived.StillTailTactics
import Derived.Test.YtakaebjojgeehaaChecked
import Derived.WalkKit
namespace Go.Proofs.Ytakaebjojgeehaa
open Go.RowKit
set_option maxRecDepth 100000
theorem tmod_form (n m : Int) (h : 0 < m) : (Int.tmod n m + m).tmod m = n % m := by
  have h1 := Int.lt_tmod_of_pos n h
  have h2 := Int.tmod_add_mul_tdiv n m
  rw [Int.tmod_eq_emod_of_nonneg (by omega), Int.add_emod_right]
  generalize n.tmod m = x at *
  generalize n.tdiv m = y at *
  rw [← h2, Int.add_mul_emod_self_left]
/-- A row of numbers. -/
def nums (l : List Int) : Array Value := (l.map (Value.int .i64)).toArray
theorem nums_get (l : List Int) (k : Nat) : (nums l)[k]? = (l[k]?).map (Value.int .i64) := by simp [nums]
theorem made_nums (n : Nat) : madeCells #[.int .i64 0] n = nums (List.replicate n 0) := by
  refine Array.ext_getElem? fun i => ?_
  rw [nums_get]
  unfold madeCells
  by_cases h : i < n
  · rw [Array.getElem?_map, Array.getElem?_range, if_pos h, List.getElem?_replicate, if_pos h]
    simp [Nat.mod_one]
  · rw [Array.getElem?_eq_none (by simp; omega), List.getElem?_eq_none (by simp; omega)]
    rfl
theorem infoNm : ∃ i, Try.prog.info? 3 = some i ∧ i.zero = some (.int .i64 0) ∧ i.size = 1 ∧ i.bytes = 8 := by
  have h : (Try.prog.info? 3).map (fun i => (i.zero, i.size, i.bytes)) = some (some (.int .i64 0), 1, 8) := by kernel_rfl
  cases hh : Try.prog.info? 3 with
  | none => rw [hh] at h; cases h
  | some i => rw [hh] at h; simp only [Option.map_some, Option.some.injEq, Prod.mk.injEq] at h; exact ⟨i, rfl, h⟩
end Go.Proofs.Ytakaebjojgeehaa
namespace Go.Proofs.Ytakaebjojgeehaa
open Go.RowKit
set_option maxRecDepth 100000
/-- The slice v of bytes reads as the list; of an empty one nothing more is known. -/
def isByt (w : World) (v : Value) (l : List Int) : Prop :=
  (∃ a cap, v = .slice a 0 cap ∧ l = []) ∨
  ∃ b off cap, v = .slice (some ⟨b, off, none⟩) l.length cap ∧ b < w.heap.size ∧ l.length ≤ cap ∧ cap ≤ 9223372036854775807 ∧ ∀ j, j < l.length → w.cell? ⟨b, off + j, none⟩ = some (.int .u8 (l.getD j 0))
theorem isByt_below {B : Nat} {w w' : World} {v : Value} {l : List Int} (h : isByt w v l) (hb : Below B w w') (hB : w.heap.size ≤ B) : isByt w' v l := by
  rcases h with h | ⟨b, off, cap, rfl, h1, h2, h3, h4⟩
  · exact .inl h
  · refine .inr ⟨b, off, cap, rfl, Nat.lt_of_lt_of_le h1 hb.size, h2, h3, fun j hj => ?_⟩
    rw [hb.cell (p := ⟨b, off + j, none⟩) (by show b < B; omega)]; exact h4 j hj
theorem isByt_form {w : World} {v : Value} {l : List Int} (h : isByt w v l) :
    ∃ a cap, v = .slice a l.length cap ∧ ∀ m, m < l.length → ∃ b off, a = some ⟨b, off, none⟩ ∧ b < w.heap.size ∧ l.length ≤ cap ∧ cap ≤ 9223372036854775807 ∧ w.cell? ⟨b, off + m, none⟩ = some (.int .u8 (l.getD m 0)) := by
  rcases h with ⟨a, cap, rfl, rfl⟩ | ⟨b, off, cap, rfl, h1, h2, h3, h4⟩
  · exact ⟨a, cap, rfl, fun m hm => absurd hm (Nat.not_lt_zero _)⟩
  · exact ⟨_, cap, rfl, fun m hm => ⟨b, off, rfl, h1, h2, h3, h4 m hm⟩⟩
end Go.Proofs.Ytakaebjojgeehaa
