/- States of a processor, and what is done on the bus, compared with themselves. -/
import Derived.Test.YthhihmggaddlmaaAluEq
import Derived.Test.YthhihmggaddlmaaChecked
import Derived.Test.YthhihmggaddlmaaCoreMath
import Derived.Below
import Derived.BigQuiet
import Derived.ChangeKeysEq
import Derived.ChangeMaps5
import Derived.Deep.DeepCutAuto
import Derived.Deep.Draws
import Derived.Deep.MidRow
import Derived.Deep.OwnRows
import Derived.Deep.QuietTactic
import Derived.Deep.RegionHeld3
import Derived.Deep.RegionWith
import Derived.Deep.Slices
import Derived.Deep.WholeRow
import Derived.Laws.StructEq
import Derived.Lib.Hide
import Derived.Lib.SmallJoins
import Derived.OpenShut
import Derived.OrdersHeld
import Derived.OwnWalk
import Derived.RowKit3
import Derived.StillTactics
import Derived.StillTail
import Derived.StillTailTactics
import Derived.WalkKit
namespace Go.Proofs.Ythhihmggaddlmaa
open Go.RowKit
set_option maxRecDepth 100000

theorem core_regs (f : Nat → Int) (op pl : Int) (n : Bool) : (core12 f op pl n).extract 0 (0 + 9) = arr9 f := by
  simp [core12, arr9]
theorem equal12 (f : Nat → Int) (op pl : Int) (n : Bool) (w : World) : (Op.equalIn 10000 29 (.agg (core12 f op pl n)) (.agg (core12 f op pl n))).run Try.prog w = .ok true w := by
  have hf : ∃ a b c d e g h i, Try.prog.fieldsOf 29 = #[⟨"R", 27, 0, false, a, b, 0⟩, ⟨"Op", 3, 9, false, c, d, 72⟩, ⟨"At", 3, 10, false, e, g, 80⟩, ⟨"Nmi", 4, 11, false, h, i, 88⟩] := by
    unfold Program.fieldsOf
    rw [Try.underlying29]
    exact ⟨_, _, _, _, _, _, _, _, rfl⟩
  obtain ⟨a, b, c, d, e, g, h, i, hf⟩ := hf
  have hs : (Try.prog.info? 27).map (·.size) = some 9 := by kernel_rfl
  rw [run_equalIn_struct _ _ _ _ _ (by unfold Program.fieldsOf; rw [Try.underlying29]) Try.stoodInHeld29, hf]
  have hp : ∀ w, (part 27 (core12 f op pl n) 0).run Try.prog w = .ok (.agg (arr9 f)) w := fun w => by
    unfold part
    simp [Try.isAgg27, Try.sizeOf27]
    exact core_regs f op pl n
  simp only [Op.eqFields]
  simp [hp, equal9 9997 f]
  simp [part, core12, run_equalIn_int _ _ _ _ _ _ _ Try.underlying3, run_equalIn_bool _ _ _ _ _ Try.underlying4]
theorem equal3 (x y z : Int) (w : World) : (Op.equalIn 10000 34 (.agg (bus3 x y z)) (.agg (bus3 x y z))).run Try.prog w = .ok true w := by
  rw [run_equalIn_struct _ _ _ _ _ (by unfold Program.fieldsOf; rw [Try.underlying34]) Try.stoodInHeld34]
  unfold Program.fieldsOf
  rw [Try.underlying34]
  simp only [Op.eqFields]
  simp [part, bus3, run_equalIn_int _ _ _ _ _ _ _ Try.underlying3]
end Go.Proofs.Ythhihmggaddlmaa
