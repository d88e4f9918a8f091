/- The contract of the reference's Named: is a text a name? -/
import Derived.Test.YtbgjnegojoaimaaGreatDoorChecked
import Derived.Test.YtbgjnegojoaimaaGreatDoorShelf
import Derived.Test.YtbgjnegojoaimaaGreatDoorNameMath
import Derived.Lib.Walk
import Derived.Lib.Hide
namespace Go.Proofs.YtbgjnegojoaimaaGreatDoor
open Go.RowKit

end Go.Proofs.YtbgjnegojoaimaaGreatDoor
