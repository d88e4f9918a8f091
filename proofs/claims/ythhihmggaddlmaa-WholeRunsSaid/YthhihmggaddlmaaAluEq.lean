/- Registers compared with themselves. -/
import Derived.Test.YthhihmggaddlmaaChecked
import Derived.Test.YthhihmggaddlmaaRegs
import Derived.Below
import Derived.BigQuiet
import Derived.ChangeKeysEq
import Derived.Deep.DeepCutAuto
import Derived.Deep.Draws
import Derived.Deep.OwnRows
import Derived.Deep.QuietTactic
import Derived.Deep.RegionHeld3
import Derived.Deep.RegionWith
import Derived.Deep.WholeRow
import Derived.Laws.StructEq
import Derived.Lib.Hide
import Derived.OwnWalk
import Derived.RowKit3
import Derived.WalkKit
namespace Go.Proofs.Ythhihmggaddlmaa
set_option maxRecDepth 100000
open Go.RowKit

theorem cellsI : Try.prog.cellsOf 3 = 1 := by kernel_rfl
theorem infoInt : ∃ i, Try.prog.info? 3 = some i := by
  have h : (Try.prog.info? 3).isSome = true := by kernel_rfl
  cases e : Try.prog.info? 3 with
  | none => rw [e] at h; cases h
  | some i => exact ⟨i, rfl⟩
theorem equal9 (d : Nat) (f : Nat → Int) (w : World) : (Op.equalIn (d + 2) 27 (.agg (arr9 f)) (.agg (arr9 f))).run Try.prog w = .ok true w := by
  obtain ⟨i, hi⟩ := infoInt
  rw [run_equalIn_array w (d + 1) _ _ Try.underlying27 hi, cellsI]
  simp [List.range_succ, Op.eqItems, arr9, Try.isAgg3, Try.sizeOf3, go_sem]
theorem eql9 (f : Nat → Int) (w : World) : (binOp .eql 27 (.agg (arr9 f)) (.agg (arr9 f))).run Try.prog w = .ok (.bool true) w := by
  rw [run_eql_struct, equal9 9998]; rfl
theorem neq9 (f : Nat → Int) (w : World) : (binOp .neq 27 (.agg (arr9 f)) (.agg (arr9 f))).run Try.prog w = .ok (.bool false) w := by
  rw [run_neq_struct, equal9 9998]; rfl
end Go.Proofs.Ythhihmggaddlmaa
