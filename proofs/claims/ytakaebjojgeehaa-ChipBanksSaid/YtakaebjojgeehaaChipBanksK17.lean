/- A part of the proof of ChipBanks: DevFormM, DevFormN, RefAppend2. -/
import Derived.Test.YtakaebjojgeehaaChipBanksK01
import Derived.Test.YtakaebjojgeehaaChipBanksK02
import Derived.Test.YtakaebjojgeehaaChipBanksK03
import Derived.Test.YtakaebjojgeehaaChipBanksK04
import Derived.Test.YtakaebjojgeehaaChipBanksK05
import Derived.Test.YtakaebjojgeehaaChipBanksK06
import Derived.Test.YtakaebjojgeehaaChipBanksK08
import Derived.Test.YtakaebjojgeehaaChipBanksK11
import Derived.Test.YtakaebjojgeehaaChipBanksK15
import Derived.Test.YtakaebjojgeehaaChipBanksK16
import Derived.Below
import Derived.BigQuiet
import Derived.ChangeMaps5
import Derived.Deep.AppendSrc
import Derived.Deep.DeepCutAuto
import Derived.Deep.Draws
import Derived.Deep.MidRow
import Derived.Deep.OwnRows
import Derived.Deep.QuietTactic
import Derived.Deep.RegionHeld3
import Derived.Deep.RegionWith
import Derived.Deep.Slices
import Derived.Deep.WholeRow
import Derived.Laws.CopyOwn
import Derived.Laws.OwnMore
import Derived.Lib.Hide
import Derived.Lib.SmallJoins
import Derived.Maps.AppendAt
import Derived.OpenShut
import Derived.OrdersHeld
import Derived.OwnWalk
import Derived.RowKit3
import Derived.StillTactics
import Derived.StillTail
import Derived.StillTailTactics
import Derived.Test.YtakaebjojgeehaaChecked
import Derived.WalkKit
namespace Go.Proofs.Ytakaebjojgeehaa
open Go.RowKit
set_option maxRecDepth 100000
/-- Addresses of a bank; banks of so many bytes. -/
def mwin (z : Int) : Int := near (max z 1 - 1) 1 4096
def mbank (n : Nat) (W : Int) : Int := if n = 0 then 1 else (n + W - 1) / W
theorem mwin_bd (z : Int) : 1 ≤ mwin z ∧ mwin z ≤ 4096 := by
  unfold mwin near
  omega
/-- A value that reads as numbers and bytes. -/
def memR (w : World) (u : Value) (ns m : List Int) : Prop := ∃ vx vm, u = .agg #[vx, vm] ∧ isArg w vx ns ∧ isByt w vm m
end Go.Proofs.Ytakaebjojgeehaa
namespace Go.Proofs.Ytakaebjojgeehaa
open Go.RowKit
set_option maxRecDepth 100000
theorem mbank_bd (n : Nat) (W : Int) (hW : 1 ≤ W) : 1 ≤ mbank n W ∧ mbank n W ≤ n + 1 ∧ mbank n W * W ≤ n + W := by
  unfold mbank
  by_cases hn : n = 0
  · subst hn
    rw [if_pos rfl]
    omega
  · rw [if_neg hn]
    have h1 : 1 ≤ ((n : Int) + W - 1) / W := Int.le_ediv_of_mul_le (by omega) (by omega)
    have h2 := Int.ediv_mul_le ((n : Int) + W - 1) (show W ≠ 0 by omega)
    have h3 : ((n : Int) + W - 1) / W ≤ n := by
      have h4 : ((n : Int) + W - 1) / W < n + 1 := Int.ediv_lt_of_lt_mul (by omega) (by
        have := Int.mul_le_mul_of_nonneg_left (c := (n : Int)) hW (by omega)
        rw [Int.mul_one] at this
        rw [Int.add_mul, Int.one_mul]
        omega)
      omega
    exact ⟨h1, by omega, by omega⟩
end Go.Proofs.Ytakaebjojgeehaa
namespace Go.Proofs.Ytakaebjojgeehaa
open Go.RowKit
/-- Two slices of the call's own in two blocks. -/
def apart (u v : Value) : Prop := ∀ g, u.ownBlock = some g → v.ownBlock ≠ some g
theorem apart.symm {u v : Value} (h : apart u v) : apart v u := fun g hv hu => h g hu hv
end Go.Proofs.Ytakaebjojgeehaa
