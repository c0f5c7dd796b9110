/- The contracts of chapter 5's model: LeastComb, LongestRest. No condition. -/
import Derived.Test.YtcbdoldcdgaooaaAssignSpec2
import Derived.Test.YtcbdoldcdgaooaaTeethSpec
namespace Go.Proofs.Ytcbdoldcdgaooaa
open Go.ChangeShapes Go.WideShapes Go.ChangeAt Go.RowKit

/-- The teeth of the first k pitches. -/
def combTo : Nat → List Int → List Int
  | 0, _ => []
  | k + 1, n => combTo k n ++ List.replicate (n.getD k 0).toNat (k : Int)
def leastL (n : List Int) : List Int := combTo n.length n
noncomputable def leastM (r : Int) (t : List (Int × Int)) : List Int × Bool := if combB (leastL (needM r t)) = true then (leastL (needM r t), true) else ([], false)
theorem leastM_yes {r : Int} {t : List (Int × Int)} (h : combB (leastL (needM r t)) = true) : leastM r t = (leastL (needM r t), true) := if_pos h
theorem leastM_no {r : Int} {t : List (Int × Int)} (h : ¬ combB (leastL (needM r t)) = true) : leastM r t = ([], false) := if_neg h
theorem combTo_succ (k : Nat) (n : List Int) : combTo (k + 1) n = combTo k n ++ List.replicate (n.getD k 0).toNat (k : Int) := rfl
theorem combTo_le {n : List Int} {m : Nat} (h : ∀ x ∈ n, x ≤ (m : Int)) : ∀ k, (combTo k n).length ≤ k * m
  | 0 => Nat.zero_le _
  | k + 1 => by
    have ih := combTo_le h k
    rw [combTo_succ, List.length_append, List.length_replicate, Nat.add_mul]
    have : (n.getD k 0).toNat ≤ m := by
      rw [List.getD_eq_getElem?_getD]
      cases hk : n[k]? with
      | none => simp
      | some x => have := h x (List.mem_of_getElem? hk); simp; omega
    omega
theorem needM_le (r : Int) (t : List (Int × Int)) : ∀ x ∈ needM r t, 0 ≤ x ∧ x ≤ 40 := by
  intro x hx
  unfold needM at hx
  split at hx
  · rename_i h
    unfold needL at hx
    obtain ⟨p, -, rfl⟩ := List.mem_map.1 hx
    have h1 := needTo_le r t t.length (p : Int)
    have h2 := (tuneB_true.1 h.1).1
    omega
  · simp at hx
theorem leastL_le (r : Int) (t : List (Int × Int)) : (leastL (needM r t)).length ≤ 2440 := by
  have h1 := combTo_le (n := needM r t) (m := 40) (fun x hx => (needM_le r t x hx).2) (needM r t).length
  have h2 := needM_len r t
  unfold leastL
  have : (needM r t).length * 40 ≤ 61 * 40 := Nat.mul_le_mul_right _ h2
  omega
theorem leastM_len (r : Int) (t : List (Int × Int)) : (leastM r t).1.length ≤ 24 := by
  unfold leastM; split
  · rename_i h; exact (combB_true.1 h).1.2
  · simp

/-- The greatest rest from r down with which the teeth are assigned. -/
noncomputable def restTo (c : List Int) (t : List (Int × Int)) : Nat → Nat
  | 0 => 0
  | r + 1 => if (assignM c t ((r + 1 : Nat) : Int)).2 = true then r + 1 else restTo c t r
noncomputable def restM (c : List Int) (t : List (Int × Int)) : Nat := restTo c t 100
theorem restTo_yes {c : List Int} {t : List (Int × Int)} {r : Nat} (h : (assignM c t ((r + 1 : Nat) : Int)).2 = true) : restTo c t (r + 1) = r + 1 := if_pos h
theorem restTo_no {c : List Int} {t : List (Int × Int)} {r : Nat} (h : ¬ (assignM c t ((r + 1 : Nat) : Int)).2 = true) : restTo c t (r + 1) = restTo c t r := if_neg h

end Go.Proofs.Ytcbdoldcdgaooaa
