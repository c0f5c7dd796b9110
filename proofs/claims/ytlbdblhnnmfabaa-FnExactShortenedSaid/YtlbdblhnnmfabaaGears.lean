/- The contracts of the laws' own helpers on rows of gears: szGearS, toGear, toGearS, eqGear, eqGearS, markGearS, heldGearS. No condition. Made by mk_gears.py. -/
import Derived.Test.YtlbdblhnnmfabaaTuneOpen
import Derived.Test.YtlbdblhnnmfabaaWalkKit
import Derived.Lib.SmallJoins
namespace Go.Proofs.Ytlbdblhnnmfabaa
open Go.ChangeShapes Go.WideShapes Go.ChangeAt Go.RowKit

end Go.Proofs.Ytlbdblhnnmfabaa
