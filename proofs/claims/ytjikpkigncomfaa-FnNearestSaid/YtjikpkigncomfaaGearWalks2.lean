/- The walks of FnExactGearOk and FnExactGearsFor: THE PROGRAM'S OWN CONTRACT IS A PREMISE (hI). -/
import Derived.Test.YtjikpkigncomfaaGearSpec2
namespace Go.Proofs.Ytjikpkigncomfaa
open Go.ChangeShapes Go.WideShapes Go.ChangeAt Go.RowKit

end Go.Proofs.Ytjikpkigncomfaa
