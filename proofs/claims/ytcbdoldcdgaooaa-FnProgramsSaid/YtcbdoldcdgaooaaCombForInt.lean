/- A new row of ints and a Bool. -/
import Derived.Test.YtcbdoldcdgaooaaTuneSpec2
namespace Go.Proofs.Ytcbdoldcdgaooaa
open Go.ChangeShapes Go.WideShapes Go.ChangeAt Go.RowKit
def NewIntsB (w : World) (l : List Int) (b : Bool) (e : Ending) (w' : World) : Prop :=
  ∃ v, e = .returned (.tuple #[v, .bool b]) ∧ w'.ownsRow w.heap.size 3 1 v l.length (l.map intV) ∧ Below w.heap.size w w'
end Go.Proofs.Ytcbdoldcdgaooaa
