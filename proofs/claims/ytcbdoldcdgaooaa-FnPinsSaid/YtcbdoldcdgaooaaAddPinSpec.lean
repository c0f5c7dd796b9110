/- The contract of the model's AddPin. No condition but the row's length. -/
import Derived.Test.YtcbdoldcdgaooaaBoxKit
namespace Go.Proofs.Ytcbdoldcdgaooaa
open Go.ChangeShapes Go.WideShapes Go.ChangeAt Go.RowKit

noncomputable def addP (s t : Int) (l : List (Int × Int)) (x : Int × Int) : List (Int × Int) × Bool := if cylB s t l = true ∧ (putP l x).2 = true ∧ cylB s t (putP l x).1 = true then ((putP l x).1, true) else (l, false)
theorem addP_yes {s t : Int} {l : List (Int × Int)} {x : Int × Int} (h1 : cylB s t l = true) (h2 : (putP l x).2 = true) (h3 : cylB s t (putP l x).1 = true) : addP s t l x = ((putP l x).1, true) := if_pos ⟨h1, h2, h3⟩
theorem addP_no {s t : Int} {l : List (Int × Int)} {x : Int × Int} (h : ¬ (cylB s t l = true ∧ (putP l x).2 = true ∧ cylB s t (putP l x).1 = true)) : addP s t l x = (l, false) := if_neg h
theorem addP_le (s t : Int) (l : List (Int × Int)) (x : Int × Int) (h : l.length ≤ 1048576) : (addP s t l x).1.length ≤ 1048576 := by
  unfold addP; split
  · rename_i k; have := (cylB_true.1 k.2.2).2.2.1; exact Nat.le_trans this (by omega)
  · exact h

end Go.Proofs.Ytcbdoldcdgaooaa
