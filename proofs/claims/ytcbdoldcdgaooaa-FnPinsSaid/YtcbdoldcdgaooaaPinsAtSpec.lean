/- The contract of the model's PinsAt. No condition. -/
import Derived.Test.YtcbdoldcdgaooaaBoxKit
namespace Go.Proofs.Ytcbdoldcdgaooaa
open Go.ChangeShapes Go.WideShapes Go.ChangeAt Go.RowKit

noncomputable def pinsM (s t : Int) (l : List (Int × Int)) (a : Int) : List Int := if cylB s t l = true ∧ (-1000000 ≤ a ∧ a ≤ 1000000) then pinsL l (a % s) else []
theorem pinsM_len (s t : Int) (l : List (Int × Int)) (a : Int) : (pinsM s t l a).length ≤ 100 := by
  unfold pinsM
  split
  · rename_i h; exact Nat.le_trans (pinsL_len _ _) ((cylB_true.1 h.1).2.2.1)
  · simp

end Go.Proofs.Ytcbdoldcdgaooaa
