/- A gear appended to a row of gears, in a drawn region. No condition. -/
import Derived.Test.YtlbdblhnnmfabaaGears
import Derived.Test.YtlbdblhnnmfabaaSortSpec
namespace Go.Proofs.Ytlbdblhnnmfabaa
open Go.ChangeShapes Go.WideShapes Go.ChangeAt Go.RowKit

end Go.Proofs.Ytlbdblhnnmfabaa
