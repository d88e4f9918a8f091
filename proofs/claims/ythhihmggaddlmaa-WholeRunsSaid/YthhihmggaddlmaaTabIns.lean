/- What the cells of an instruction that comes in are. No function is named here. -/
import Derived.Test.YthhihmggaddlmaaTabMath
import Derived.Below
import Derived.BigQuiet
import Derived.ChangeMaps5
import Derived.Deep.Draws
import Derived.Deep.OwnRows
import Derived.Deep.QuietTactic
import Derived.Deep.Slices
import Derived.Lib.Hide
import Derived.Lib.SmallJoins
import Derived.OpenShut
import Derived.OwnWalk
import Derived.RowKit3
import Derived.WalkKit
namespace Go.Proofs.Ythhihmggaddlmaa
open Go.RowKit

def goodIn (x : In) : Prop := x.name.size ≤ 9223372036854775807 ∧ (Lit.int .i64 x.mode).wf = true
def insR (w : World) (cs : List Value) (x : In) : Prop := ∃ v, cs = [.int .i64 x.op, .string x.name, .int .i64 x.mode, v] ∧ isArr 4 cycleR w v x.cycles ∧ goodIn x
theorem ins_keeps : keeps insR := fun _ _ _ hb hB _ _ ⟨v, h, g, q⟩ => ⟨v, h, isArr_below cycle_keeps g hb hB, q⟩
end Go.Proofs.Ythhihmggaddlmaa
