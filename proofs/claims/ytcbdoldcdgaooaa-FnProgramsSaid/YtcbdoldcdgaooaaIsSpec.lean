/- The contract of chapter 5's model: IsAssigned. No condition. -/
import Derived.Test.YtcbdoldcdgaooaaCombSpec
namespace Go.Proofs.Ytcbdoldcdgaooaa
open Go.ChangeShapes Go.WideShapes Go.ChangeAt Go.RowKit

/-- A tooth that is well assigned to note k. -/
def ToothAt (c : List Int) (t : List (Int × Int)) (r : Int) (a : List Int) (k : Nat) : Prop :=
  ∀ x q, a[k]? = some x → t[k]? = some q → (0 ≤ x ∧ x ≤ (c.length : Int) - 1) ∧ c[x.toNat]? = some q.2 ∧ ∀ i y s, i < k → a[i]? = some y → t[i]? = some s → ¬ (y = x ∧ q.1 - s.1 < r)
def AssP (c : List Int) (t : List (Int × Int)) (r : Int) (a : List Int) : Prop := a.length = t.length ∧ ∀ k, k < t.length → ToothAt c t r a k
open Classical in
noncomputable def isM (c : List Int) (t : List (Int × Int)) (r : Int) (a : List Int) : Bool := combB c && tuneB t && inB r 1 100 && decide (AssP c t r a)
theorem isM_yes {c : List Int} {t : List (Int × Int)} {r : Int} {a : List Int} (h1 : combB c = true) (h2 : tuneB t = true) (h3 : inB r 1 100 = true) (h : AssP c t r a) : isM c t r a = true := by unfold isM; simp [h1, h2, h3, h]
theorem isM_no {c : List Int} {t : List (Int × Int)} {r : Int} {a : List Int} (h : ¬ (combB c = true ∧ tuneB t = true ∧ inB r 1 100 = true ∧ AssP c t r a)) : isM c t r a = false := by
  rw [← Bool.not_eq_true]; intro hh
  unfold isM at hh
  simp only [Bool.and_eq_true, decide_eq_true_eq] at hh
  exact h ⟨hh.1.1.1, hh.1.1.2, hh.1.2, hh.2⟩

end Go.Proofs.Ytcbdoldcdgaooaa
