/- An operation of a region that is not wanted, among those that yield in every world. No function is named here. -/
import Derived.Test.YtambggbmkeemnaaLin
import Derived.OrdersHeld
import Derived.StillTactics
import Derived.StillTail
namespace Go.Proofs.Ytambggbmkeemnaa
open Go
theorem wpMix_off {P : Program} {ops : Array Oper} {Q : Exit → Act → World → Prop} {S : World → Prop} {a : Act} {w : World} {o : Oper} {rest : List (Oper × Nat)} (hw : Region.wanted o (yielded ops a.tmps) = false) (hS : S w)
    (h : wpMix P ops Q S rest (a.put o.dst undef) w) : wpMix P ops Q S ((o, 1) :: rest) a w := ⟨hS, undef, .inr ⟨hw, rfl⟩, h⟩
end Go.Proofs.Ytambggbmkeemnaa
