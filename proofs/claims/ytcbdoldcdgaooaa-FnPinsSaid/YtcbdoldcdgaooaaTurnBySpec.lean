/- The contract of the model's TurnBy. No condition but the row's length. -/
import Derived.Test.YtcbdoldcdgaooaaBoxKit
namespace Go.Proofs.Ytcbdoldcdgaooaa
open Go.ChangeShapes Go.WideShapes Go.ChangeAt Go.RowKit

noncomputable def turnM (s t : Int) (l : List (Int × Int)) (d : Int) : List (Int × Int) := if cylB s t l = true ∧ (-1000000 ≤ d ∧ d ≤ 1000000) then turnL s d l else l
theorem turnM_le (s t : Int) (l : List (Int × Int)) (d : Int) (h : l.length ≤ 1048576) : (turnM s t l d).length ≤ 1048576 := by
  unfold turnM; split
  · exact Nat.le_trans (foldP_le _ _) h
  · exact h

end Go.Proofs.Ytcbdoldcdgaooaa
