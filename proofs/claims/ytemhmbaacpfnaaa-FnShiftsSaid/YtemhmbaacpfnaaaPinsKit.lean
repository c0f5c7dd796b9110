/- Helpers of the law FnPins: at, has, sameInts. No condition. -/
import Derived.Test.YtemhmbaacpfnaaaCylDraw
import Derived.Test.YtemhmbaacpfnaaaIntsArg
namespace Go.Proofs.Ytemhmbaacpfnaaa
open Go.ChangeShapes Go.WideShapes Go.ChangeAt Go.RowKit

end Go.Proofs.Ytemhmbaacpfnaaa
