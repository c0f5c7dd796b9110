/- A gear appended to a row of gears, in a drawn region. No condition. -/
import Derived.Test.YtcbdoldcdgaooaaGears
import Derived.Test.YtcbdoldcdgaooaaSortSpec
namespace Go.Proofs.Ytcbdoldcdgaooaa
open Go.ChangeShapes Go.WideShapes Go.ChangeAt Go.RowKit

end Go.Proofs.Ytcbdoldcdgaooaa
