/- Contracts of the reference's functions on descriptions of processors. -/
import Derived.Test.YtbgjnegojoaimaaGreatDoorChecked
import Derived.Test.YtbgjnegojoaimaaGreatDoorTabMath
import Derived.Deep.RegionWith
import Derived.Deep.QuietTactic
import Derived.BigQuiet
import Derived.Deep.DeepCutAuto
namespace Go.Proofs.YtbgjnegojoaimaaGreatDoor
open Go.RowKit

end Go.Proofs.YtbgjnegojoaimaaGreatDoor
