/- The contracts of the laws' own helpers on rows of gears: szGearS, toGear, toGearS, eqGear, eqGearS, markGearS, heldGearS. No condition. Made by mk_gears.py. -/
import Derived.Test.YtcbdoldcdgaooaaTuneOpen
import Derived.Test.YtcbdoldcdgaooaaWalkKit
import Derived.Lib.SmallJoins
namespace Go.Proofs.Ytcbdoldcdgaooaa
open Go.ChangeShapes Go.WideShapes Go.ChangeAt Go.RowKit

end Go.Proofs.Ytcbdoldcdgaooaa
