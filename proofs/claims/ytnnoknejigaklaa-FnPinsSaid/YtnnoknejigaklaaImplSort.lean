/- The contracts of the program's SortNotes: slices.Clone, slices.SortFunc, slices.Compact at rows of notes. No condition. -/
import Derived.Test.YtnnoknejigaklaaRowLaws
import Derived.Test.YtnnoknejigaklaaSortShelf
namespace Go.Proofs.Ytnnoknejigaklaa
open Go.ChangeShapes Go.WideShapes Go.ChangeAt Go.RowKit

theorem lt_eq : ltOf cmpN = lessB := by
  funext x y
  unfold ltOf
  by_cases h : lessB x y = true
  · rw [h]; exact decide_eq_true (cmpN_lt.2 h)
  · have h' : lessB x y = false := by simpa using h
    rw [h']; exact decide_eq_false (fun k => h (cmpN_lt.1 k))
theorem swoN : Sort.SWO (ltOf cmpN) where
  irrefl x := by rw [lt_eq]; exact less_irrefl x
  trans x y z h k := by rw [lt_eq] at *; exact less_trans h k
  ntrans x y z h k := by rw [lt_eq] at *; rw [← Bool.not_eq_true, less_iff] at *; omega
theorem totN : ∀ x y, ltOf cmpN x y = false → ltOf cmpN y x = false → x = y := by
  rw [lt_eq]; intro x y h k; exact less_total h k

theorem flat2_set (l : List (Int × Int)) (k : Nat) (q : Int × Int) : ((flat2 l).set (k * 2) (.int .i64 q.1)).set (k * 2 + 1) (.int .i64 q.2) = flat2 (l.set k q) := by
  induction l generalizing k with
  | nil => simp [flat2]
  | cons p l ih =>
    have e : ∀ (p : Int × Int) (l : List (Int × Int)), flat2 (p :: l) = intV p.1 :: intV p.2 :: flat2 l := fun p l => by simp [flat2]
    cases k with
    | zero => rw [e]; show intV q.1 :: intV q.2 :: flat2 l = _; rw [List.set_cons_zero, e]
    | succ k =>
      rw [e, List.set_cons_succ, e, ← ih k, show (k + 1) * 2 = k * 2 + 1 + 1 by omega]
      rfl
theorem set_app (D s : List (Int × Int)) (q : Int × Int) (h : D.length < s.length) : (D ++ s.drop D.length).set D.length q = (D ++ [q]) ++ s.drop (D.length + 1) := by
  rw [List.set_append_right _ _ (Nat.le_refl _), Nat.sub_self, List.drop_eq_getElem_cons h, List.set_cons_zero, List.append_assoc]; rfl
theorem dedM_take' {l : List (Int × Int)} {k : Nat} {p q : Int × Int} (hk : 1 ≤ k) (hp : l[k - 1]? = some p) (hq : l[k]? = some q) : dedM (l.take (k + 1)) = dedM (l.take k) ++ (if q = p then [] else [q]) := by
  obtain ⟨j, rfl⟩ : ∃ j, k = j + 1 := ⟨k - 1, by omega⟩
  exact dedM_take (by simpa using hp) hq
theorem at_app {D s : List (Int × Int)} {j : Nat} (h : D.length ≤ j) : (D ++ s.drop D.length)[j]? = s[j]? := by
  rw [List.getElem?_append_right h, List.getElem?_drop]; congr 1; omega

end Go.Proofs.Ytnnoknejigaklaa
