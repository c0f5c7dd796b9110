/- The contract of chapter 3's model: SameTune. No condition. -/
import Derived.Test.YtcbdoldcdgaooaaSortSpec
namespace Go.Proofs.Ytcbdoldcdgaooaa
open Go.ChangeShapes Go.WideShapes Go.ChangeAt Go.RowKit

/-- Each note less the first one. -/
def offL (l : List (Int × Int)) : List (Int × Int) := l.map fun p => (p.1 - (l.headD (0, 0)).1, p.2 - (l.headD (0, 0)).2)
theorem offL_len (l : List (Int × Int)) : (offL l).length = l.length := by unfold offL; simp
theorem offL_at {l : List (Int × Int)} {k : Nat} {a p : Int × Int} (h0 : l[0]? = some a) (h : l[k]? = some p) : (offL l)[k]? = some (p.1 - a.1, p.2 - a.2) := by
  unfold offL
  cases l with
  | nil => simp at h0
  | cons x r =>
    obtain rfl : x = a := by simpa using h0
    rw [List.getElem?_map, h]; rfl
noncomputable def sameM (a b : List (Int × Int)) : Bool := tuneB a && tuneB b && decide (offL a = offL b)
theorem sameM_a {a b : List (Int × Int)} (h : tuneB a = false) : sameM a b = false := by unfold sameM; rw [h]; rfl
theorem sameM_b {a b : List (Int × Int)} (h : tuneB b = false) : sameM a b = false := by unfold sameM; rw [h]; simp
theorem sameM_ne {a b : List (Int × Int)} (h : ¬ offL a = offL b) : sameM a b = false := by unfold sameM; simp [h]
theorem sameM_yes {a b : List (Int × Int)} (h1 : tuneB a = true) (h2 : tuneB b = true) (h : offL a = offL b) : sameM a b = true := by unfold sameM; simp [h1, h2, h]
theorem sameM_len {a b : List (Int × Int)} (h : ¬ a.length = b.length) : sameM a b = false := sameM_ne fun e => h (by rw [← offL_len a, ← offL_len b, e])
theorem off_zero {a b : List (Int × Int)} (h : a.length = b.length) : (offL a)[0]? = (offL b)[0]? := by
  cases a with
  | nil => cases b with
    | nil => rfl
    | cons y s => simp at h
  | cons x r => cases b with
    | nil => simp at h
    | cons y s => simp [offL]
theorem off_all {a b : List (Int × Int)} {k : Nat} (h : a.length = b.length) (hk : a.length ≤ k) (hj : ∀ j, j < k → (offL a)[j]? = (offL b)[j]?) : offL a = offL b := by
  apply List.ext_getElem?
  intro j
  rcases Nat.lt_or_ge j k with hl | hl
  · exact hj j hl
  · rw [List.getElem?_eq_none (by rw [offL_len]; omega), List.getElem?_eq_none (by rw [offL_len]; omega)]
theorem off_next {a b : List (Int × Int)} {k : Nat} {x y p q : Int × Int} (hx : a[0]? = some x) (hy : b[0]? = some y) (hp : a[k]? = some p) (hq : b[k]? = some q)
    (h1 : p.1 - x.1 = q.1 - y.1) (h2 : p.2 - x.2 = q.2 - y.2) (hj : ∀ j, j < k → (offL a)[j]? = (offL b)[j]?) : ∀ j, j < k + 1 → (offL a)[j]? = (offL b)[j]? := fun j hl => by
  rcases Nat.lt_or_ge j k with h | h
  · exact hj j h
  · obtain rfl : j = k := by omega
    rw [offL_at hx hp, offL_at hy hq, h1, h2]
theorem off_ne {a b : List (Int × Int)} {k : Nat} {x y p q : Int × Int} (hx : a[0]? = some x) (hy : b[0]? = some y) (hp : a[k]? = some p) (hq : b[k]? = some q)
    (h : ¬ (p.1 - x.1 = q.1 - y.1 ∧ p.2 - x.2 = q.2 - y.2)) : ¬ offL a = offL b := fun e => h (by
  have h1 := offL_at hx hp
  rw [e, offL_at hy hq] at h1
  simp only [Option.some.injEq, Prod.mk.injEq] at h1
  exact ⟨h1.1.symm, h1.2.symm⟩)

end Go.Proofs.Ytcbdoldcdgaooaa
