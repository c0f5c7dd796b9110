/- The contracts of slices.Index and slices.Contains at rows of notes and of ints. No condition. -/
import Derived.Test.YtcbdoldcdgaooaaCmp
import Derived.Test.YtcbdoldcdgaooaaSortSpec
import Derived.Test.YtcbdoldcdgaooaaInts
namespace Go.Proofs.Ytcbdoldcdgaooaa
open Go.ChangeShapes Go.WideShapes Go.ChangeAt Go.RowKit

def memB (l : List (Int × Int)) (x : Int × Int) : Bool := decide (x ∈ l)
theorem memB_true {l : List (Int × Int)} {x : Int × Int} : memB l x = true ↔ x ∈ l := by unfold memB; simp
theorem memB_false {l : List (Int × Int)} {x : Int × Int} : memB l x = false ↔ x ∉ l := by unfold memB; simp
def IdxPost (w : World) (l : List (Int × Int)) (x : Int × Int) (e : Ending) (w' : World) : Prop :=
  ∃ r : Int, e = .returned (.int .i64 r) ∧ decide (0 ≤ r) = memB l x ∧ Below w.heap.size w w'

/-- Where x stands in a row of ints: at 0 or later just if it is there. -/
def IdxPostI (w : World) (l : List Int) (x : Int) (e : Ending) (w' : World) : Prop :=
  ∃ r : Int, e = .returned (.int .i64 r) ∧ decide (0 ≤ r) = decide (x ∈ l) ∧ Below w.heap.size w w'
end Go.Proofs.Ytcbdoldcdgaooaa
