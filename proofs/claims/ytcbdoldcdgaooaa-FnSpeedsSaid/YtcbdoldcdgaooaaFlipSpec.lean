/- The contract of chapter 3's model: UpsideDown. No condition. -/
import Derived.Test.YtcbdoldcdgaooaaTurnSpec
namespace Go.Proofs.Ytcbdoldcdgaooaa
open Go.ChangeShapes Go.WideShapes Go.ChangeAt Go.RowKit

theorem minP_bd (l : List (Int × Int)) (x : Int) (hx : 0 ≤ x ∧ x ≤ 60) (h : ∀ p ∈ l, 0 ≤ p.2 ∧ p.2 ≤ 60) : 0 ≤ minP x l ∧ minP x l ≤ 60 := by
  unfold minP
  induction l generalizing x with
  | nil => exact hx
  | cons q r ih =>
    refine ih _ ?_ (fun p hp => h p (List.mem_cons_of_mem _ hp))
    have := h q (List.mem_cons_self ..)
    dsimp only; split <;> omega
theorem maxP_bd (l : List (Int × Int)) (x : Int) (hx : 0 ≤ x ∧ x ≤ 60) (h : ∀ p ∈ l, 0 ≤ p.2 ∧ p.2 ≤ 60) : 0 ≤ maxP x l ∧ maxP x l ≤ 60 := by
  unfold maxP
  induction l generalizing x with
  | nil => exact hx
  | cons q r ih =>
    refine ih _ ?_ (fun p hp => h p (List.mem_cons_of_mem _ hp))
    have := h q (List.mem_cons_self ..)
    dsimp only; split <;> omega
theorem pitch_bd {l : List (Int × Int)} (h : tuneB l = true) (h0 : 0 < l.length) : (0 ≤ (pitchM l).1 ∧ (pitchM l).1 ≤ 60) ∧ (0 ≤ (pitchM l).2 ∧ (pitchM l).2 ≤ 60) := by
  obtain ⟨a, ha⟩ : ∃ a, l[0]? = some a := ⟨_, List.getElem?_eq_getElem h0⟩
  rw [pitchM_yes h ha]
  have tp := tuneB_true.1 h
  have hall : ∀ p ∈ l, 0 ≤ p.2 ∧ p.2 ≤ 60 := fun p hp => by
    obtain ⟨i, hi⟩ := List.mem_iff_getElem?.1 hp
    exact (tp.2 _ _ hi).2.1
  have h1 := (tp.2 _ _ ha).2.1
  exact ⟨minP_bd l _ h1 hall, maxP_bd l _ h1 hall⟩
noncomputable def upM (l : List (Int × Int)) : List (Int × Int) := sortM (if 0 ≤ (pitchM l).1 then flipL ((pitchM l).1 + (pitchM l).2) l else [])
theorem upM_yes {l : List (Int × Int)} (h : 0 ≤ (pitchM l).1) : upM l = sortM (flipL ((pitchM l).1 + (pitchM l).2) l) := by unfold upM; rw [if_pos h]
theorem upM_no {l : List (Int × Int)} (h : ¬ 0 ≤ (pitchM l).1) : upM l = sortM [] := by unfold upM; rw [if_neg h]
theorem pitch_cases (l : List (Int × Int)) : (tuneB l = true ∧ 0 < l.length) ∨ (pitchM l = (-1, -1)) := by
  by_cases ht : tuneB l = true
  · rcases Nat.eq_zero_or_pos l.length with hz | hz
    · obtain rfl := List.length_eq_zero_iff.1 hz
      exact Or.inr pitchM_nil
    · exact Or.inl ⟨ht, hz⟩
  · exact Or.inr (pitchM_no (by simpa using ht))

end Go.Proofs.Ytcbdoldcdgaooaa
