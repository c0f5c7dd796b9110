/- The contract of chapter 9's model: MostTunes. No condition. -/
import Derived.Test.YtcbdoldcdgaooaaExtraSpec
namespace Go.Proofs.Ytcbdoldcdgaooaa
open Go.ChangeShapes Go.WideShapes Go.ChangeAt Go.RowKit

open Classical in
noncomputable def mostStep (r : Int) (ll : List (List (Int × Int))) (teeth : Int) (st : List Int × Int) (S : Nat) : List Int × Int :=
  if teeth < allS r ll S ∨ (bitsTo S 8).length < st.1.length then st
  else if st.1.length < (bitsTo S 8).length ∨ allS r ll S < st.2 ∨ (allS r ll S = st.2 ∧ rowLess (bitsTo S 8) st.1 = true) then (bitsTo S 8, allS r ll S) else st
theorem mostStep_skip {r : Int} {ll : List (List (Int × Int))} {teeth : Int} {st : List Int × Int} {S : Nat} (h : teeth < allS r ll S ∨ (bitsTo S 8).length < st.1.length) : mostStep r ll teeth st S = st := if_pos h
theorem mostStep_take {r : Int} {ll : List (List (Int × Int))} {teeth : Int} {st : List Int × Int} {S : Nat} (h : ¬ (teeth < allS r ll S ∨ (bitsTo S 8).length < st.1.length)) (h2 : st.1.length < (bitsTo S 8).length ∨ allS r ll S < st.2 ∨ (allS r ll S = st.2 ∧ rowLess (bitsTo S 8) st.1 = true)) : mostStep r ll teeth st S = (bitsTo S 8, allS r ll S) := by
  unfold mostStep; rw [if_neg h, if_pos h2]
theorem mostStep_keep {r : Int} {ll : List (List (Int × Int))} {teeth : Int} {st : List Int × Int} {S : Nat} (h : ¬ (teeth < allS r ll S ∨ (bitsTo S 8).length < st.1.length)) (h2 : ¬ (st.1.length < (bitsTo S 8).length ∨ allS r ll S < st.2 ∨ (allS r ll S = st.2 ∧ rowLess (bitsTo S 8) st.1 = true))) : mostStep r ll teeth st S = st := by
  unfold mostStep; rw [if_neg h, if_neg h2]
/-- The best of the sets from 1 to k. -/
noncomputable def mostTo (r : Int) (ll : List (List (Int × Int))) (teeth : Int) : Nat → List Int × Int
  | 0 => ([], 0)
  | k + 1 => mostStep r ll teeth (mostTo r ll teeth k) (k + 1)
theorem mostTo_succ (r : Int) (ll : List (List (Int × Int))) (teeth : Int) (k : Nat) : mostTo r ll teeth (k + 1) = mostStep r ll teeth (mostTo r ll teeth k) (k + 1) := rfl
open Classical in
noncomputable def mostM (r : Int) (ll : List (List (Int × Int))) (teeth : Int) : List Int × Bool :=
  if progB ll r = true ∧ (0 ≤ teeth ∧ teeth ≤ 100) then ((mostTo r ll teeth (2 ^ ll.length - 1)).1, true) else ([], false)
theorem mostM_yes {r : Int} {ll : List (List (Int × Int))} {teeth : Int} (h : progB ll r = true) (h2 : 0 ≤ teeth ∧ teeth ≤ 100) : mostM r ll teeth = ((mostTo r ll teeth (2 ^ ll.length - 1)).1, true) := if_pos ⟨h, h2⟩
theorem mostM_no {r : Int} {ll : List (List (Int × Int))} {teeth : Int} (h : ¬ (progB ll r = true ∧ (0 ≤ teeth ∧ teeth ≤ 100))) : mostM r ll teeth = ([], false) := if_neg h
theorem shl_all : ∀ n : Fin 9, wrap64 (2 ^ n.1) = ((2 ^ n.1 : Nat) : Int) ∧ IntKind.i64.wrap (2 ^ n.1) = ((2 ^ n.1 : Nat) : Int) ∧ 2 ^ n.1 ≤ 256 ∧ 1 ≤ 2 ^ n.1 := by decide +kernel
theorem shl_len {n M : Nat} (h : n ≤ 8) (hM : 2 ^ n = M) : wrap64 (2 ^ n) = (M : Int) ∧ IntKind.i64.wrap (2 ^ n) = (M : Int) ∧ M ≤ 256 ∧ 1 ≤ M := by
  subst hM; exact shl_all ⟨n, by omega⟩

end Go.Proofs.Ytcbdoldcdgaooaa
