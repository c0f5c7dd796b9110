/- The contracts of chapter 3's model: Backward, UpsideDown. No condition. -/
import Derived.Test.YtcbdoldcdgaooaaSortSpec
namespace Go.Proofs.Ytcbdoldcdgaooaa
open Go.ChangeShapes Go.WideShapes Go.ChangeAt Go.RowKit

/-- Each time from s. -/
def turnL (s : Int) (l : List (Int × Int)) : List (Int × Int) := l.map fun p => (s - p.1, p.2)
theorem turnL_len (s : Int) (l : List (Int × Int)) : (turnL s l).length = l.length := by unfold turnL; simp
theorem turnL_succ {s : Int} {l : List (Int × Int)} {k : Nat} {p : Int × Int} (h : l[k]? = some p) : turnL s (l.take (k + 1)) = turnL s (l.take k) ++ [(s - p.1, p.2)] := by
  unfold turnL; rw [List.take_add_one, h]; simp
/-- Each pitch from s. -/
def flipL (s : Int) (l : List (Int × Int)) : List (Int × Int) := l.map fun p => (p.1, s - p.2)
theorem flipL_len (s : Int) (l : List (Int × Int)) : (flipL s l).length = l.length := by unfold flipL; simp
theorem flipL_succ {s : Int} {l : List (Int × Int)} {k : Nat} {p : Int × Int} (h : l[k]? = some p) : flipL s (l.take (k + 1)) = flipL s (l.take k) ++ [(p.1, s - p.2)] := by
  unfold flipL; rw [List.take_add_one, h]; simp
/-- The first and the last time together. -/
def endsS (l : List (Int × Int)) : Int := match l.head?, l.getLast? with | some a, some b => a.1 + b.1 | _, _ => 0
theorem endsS_eq {l : List (Int × Int)} {a b : Int × Int} (h1 : l[0]? = some a) (h2 : l[l.length - 1]? = some b) : endsS l = a.1 + b.1 := by
  unfold endsS; rw [List.head?_eq_getElem?, List.getLast?_eq_getElem?, h1, h2]
noncomputable def backM (l : List (Int × Int)) : List (Int × Int) := sortM (if tuneB l = true then turnL (endsS l) l else [])
theorem backM_yes {l : List (Int × Int)} (h : tuneB l = true) : backM l = sortM (turnL (endsS l) l) := by unfold backM; rw [if_pos h]
theorem backM_no {l : List (Int × Int)} (h : tuneB l = false) : backM l = sortM [] := by unfold backM; rw [h]; rfl

end Go.Proofs.Ytcbdoldcdgaooaa
