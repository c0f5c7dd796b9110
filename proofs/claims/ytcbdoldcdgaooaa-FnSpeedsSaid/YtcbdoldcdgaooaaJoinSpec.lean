/- The contract of chapter 3's model: JoinTunes. No condition. -/
import Derived.Test.YtcbdoldcdgaooaaSortSpec
namespace Go.Proofs.Ytcbdoldcdgaooaa
open Go.ChangeShapes Go.WideShapes Go.ChangeAt Go.RowKit

def hasB (l : List (Int × Int)) (x : Int × Int) : Bool := decide (x ∈ l)
theorem hasB_succ {l : List (Int × Int)} {i : Nat} {q : Int × Int} (p : Int × Int) (h : l[i]? = some q) : hasB (l.take (i + 1)) p = (hasB (l.take i) p || decide (q = p)) := by
  unfold hasB; rw [List.take_add_one, h]
  by_cases hq : q = p
  · subst hq; simp
  · have hq' : ¬ p = q := fun e => hq e.symm
    simp [hq, hq']
/-- a, and of l what a does not hold. -/
def joinL (a l : List (Int × Int)) : List (Int × Int) := a ++ l.filter fun p => !hasB a p
theorem joinL_nil (a : List (Int × Int)) : joinL a [] = a := by unfold joinL; simp
theorem joinL_yes {a l : List (Int × Int)} {k : Nat} {p : Int × Int} (h : l[k]? = some p) (hp : hasB a p = true) : joinL a (l.take (k + 1)) = joinL a (l.take k) := by
  unfold joinL; rw [List.take_add_one, h, List.filter_append]; simp [hp]
theorem joinL_no {a l : List (Int × Int)} {k : Nat} {p : Int × Int} (h : l[k]? = some p) (hp : hasB a p = false) : joinL a (l.take (k + 1)) = joinL a (l.take k) ++ [p] := by
  unfold joinL; rw [List.take_add_one, h, List.filter_append]; simp [hp]
theorem joinL_len (a l : List (Int × Int)) : (joinL a l).length ≤ a.length + l.length := by
  unfold joinL; rw [List.length_append]; have := List.length_filter_le (fun p => !hasB a p) l; omega
open Classical in
noncomputable def joinM (a b : List (Int × Int)) : List (Int × Int) × Bool := if tuneB a = true ∧ tuneB b = true ∧ (joinL a b).length ≤ 40 then (sortM (joinL a b), true) else ([], false)
theorem joinM_yes {a b : List (Int × Int)} (h1 : tuneB a = true) (h2 : tuneB b = true) (h3 : (joinL a b).length ≤ 40) : joinM a b = (sortM (joinL a b), true) := if_pos ⟨h1, h2, h3⟩
theorem joinM_no {a b : List (Int × Int)} (h : ¬ (tuneB a = true ∧ tuneB b = true ∧ (joinL a b).length ≤ 40)) : joinM a b = ([], false) := if_neg h

end Go.Proofs.Ytcbdoldcdgaooaa
