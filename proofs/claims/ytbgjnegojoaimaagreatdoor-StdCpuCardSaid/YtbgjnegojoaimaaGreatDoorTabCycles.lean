/- The contract of the reference's CyclesErr. -/
import Derived.Test.YtbgjnegojoaimaaGreatDoorTabRefs
namespace Go.Proofs.YtbgjnegojoaimaaGreatDoor
open Go.RowKit

end Go.Proofs.YtbgjnegojoaimaaGreatDoor
