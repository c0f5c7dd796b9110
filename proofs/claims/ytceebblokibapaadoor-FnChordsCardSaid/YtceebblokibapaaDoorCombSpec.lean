/- The contracts of chapter 4's model: CombOk, TeethOf, MissingPitches, CanPlay. No condition. -/
import Derived.Test.YtceebblokibapaaDoorSortSpec
import Derived.Test.YtceebblokibapaaDoorInts
namespace Go.Proofs.YtceebblokibapaaDoor
open Go.ChangeShapes Go.WideShapes Go.ChangeAt Go.RowKit

/-- A pitch that stands well at place k of a comb. -/
def ToothOk (l : List Int) (k : Nat) (p : Int) : Prop := (0 ≤ p ∧ p ≤ 60) ∧ ∀ i q, k = i + 1 → l[i]? = some q → q ≤ p
def CombP (l : List Int) : Prop := (1 ≤ l.length ∧ l.length ≤ 24) ∧ ∀ k p, l[k]? = some p → ToothOk l k p
open Classical in
noncomputable def combB (l : List Int) : Bool := decide (CombP l)
theorem combB_true {l : List Int} : combB l = true ↔ CombP l := by unfold combB; simp
theorem combB_false {l : List Int} : combB l = false ↔ ¬ CombP l := by unfold combB; simp

/-- The places below k with a pitch. -/
def teethTo (k : Nat) (l : List Int) (x : Int) : List Int := ((List.range k).filter fun i => decide (l[i]? = some x)).map Int.ofNat
noncomputable def teethM (l : List Int) (x : Int) : List Int := if combB l = true then teethTo l.length l x else []
theorem teethTo_yes {l : List Int} {k : Nat} {x : Int} (h : l[k]? = some x) : teethTo (k + 1) l x = teethTo k l x ++ [(k : Int)] := by
  unfold teethTo; rw [List.range_succ, List.filter_append, List.map_append]; simp [h]
theorem teethTo_no {l : List Int} {k : Nat} {x p : Int} (h : l[k]? = some p) (hp : ¬ p = x) : teethTo (k + 1) l x = teethTo k l x := by
  unfold teethTo; rw [List.range_succ, List.filter_append, List.map_append]; simp [h, hp]
theorem teethTo_len (k : Nat) (l : List Int) (x : Int) : (teethTo k l x).length ≤ k := by
  unfold teethTo; rw [List.length_map]; exact Nat.le_trans (List.length_filter_le _ _) (by simp)
theorem teethTo_nil {l : List Int} {x : Int} : (teethTo l.length l x).length = 0 ↔ x ∉ l := by
  unfold teethTo
  rw [List.length_map, List.length_eq_zero_iff, List.filter_eq_nil_iff]
  constructor
  · intro h hx
    obtain ⟨k, hk⟩ := List.mem_iff_getElem?.1 hx
    exact h k (List.mem_range.2 (List.getElem?_eq_some_iff.1 hk).1) (decide_eq_true hk)
  · intro h k _ hd
    exact h (List.mem_iff_getElem?.2 ⟨k, of_decide_eq_true hd⟩)

/-- The pitches from 0 to k - 1 in a comb, counted. -/
def tsum (k : Nat) (c : List Int) : Nat := (c.filter fun x => decide (0 ≤ x ∧ x < (k : Int))).length
theorem teethTo_count (c : List Int) (x : Int) : ∀ k, k ≤ c.length → (teethTo k c x).length = ((c.take k).filter fun y => decide (y = x)).length
  | 0, _ => rfl
  | k + 1, h => by
    have ih := teethTo_count c x k (by omega)
    have hk : c[k]? = some c[k] := List.getElem?_eq_getElem (by omega)
    rw [List.take_add_one, hk, List.filter_append, List.length_append, ← ih]
    by_cases hx : c[k] = x
    · rw [teethTo_yes (by rw [hk, hx]), List.length_append]; simp [hx]
    · rw [teethTo_no hk hx]; simp [hx]
theorem tsum_filter (k : Nat) : ∀ c : List Int, tsum (k + 1) c = tsum k c + (c.filter fun y => decide (y = (k : Int))).length
  | [] => rfl
  | x :: r => by
    have ih := tsum_filter k r
    unfold tsum at ih ⊢
    simp only [List.filter_cons]
    by_cases h1 : 0 ≤ x ∧ x < (k : Int)
    · have h2 : 0 ≤ x ∧ x < ((k + 1 : Nat) : Int) := by omega
      have h3 : ¬ x = (k : Int) := by omega
      simp only [h1, h2, h3, decide_true, decide_false, if_true, and_self, Bool.false_eq_true, if_false, List.length_cons]; omega
    · by_cases h3 : x = (k : Int)
      · have h2 : 0 ≤ x ∧ x < ((k + 1 : Nat) : Int) := by omega
        rw [if_pos (decide_eq_true h2), if_neg (by simpa using h1), if_pos (decide_eq_true h3), List.length_cons, List.length_cons]; omega
      · have h2 : ¬ (0 ≤ x ∧ x < ((k + 1 : Nat) : Int)) := by omega
        simp only [h1, h2, h3, decide_false, Bool.false_eq_true, if_false]; exact ih
end Go.Proofs.YtceebblokibapaaDoor
