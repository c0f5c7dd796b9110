/- Chapter 18, pure: what FnMotifs asks. No condition. -/
import Derived.Test.YtglehmffmailkaaMotifMath
import Derived.Test.YtglehmffmailkaaChangeSpec2
namespace Go.Proofs.Ytglehmffmailkaa
open Go.ChangeShapes Go.WideShapes Go.ChangeAt Go.RowKit

theorem off_shift (b c : Int) (l : List (Int × Int)) : offL (shiftL 1 b c l) = offL l := by
  unfold offL shiftL
  rw [List.map_map]
  refine List.map_congr_left fun p hp => ?_
  cases l with
  | nil => simp at hp
  | cons a r => simp only [Function.comp_apply, List.map_cons, List.headD_cons]; exact Prod.ext (by simp only; omega) (by simp only; omega)
theorem ss_shift {b c : Int} {l : List (Int × Int)} (h : SS l) : SS (shiftL 1 b c l) := by
  unfold SS shiftL
  refine List.pairwise_map.2 (List.Pairwise.imp (fun {p q} hab => ?_) h)
  unfold lessB at hab ⊢
  have := of_decide_eq_true hab
  refine decide_eq_true ?_
  simp only
  omega
/-- A drawn tune and the same some steps later: they join. -/
theorem twice_of {t : List (Int × Int)} (h : TuneDrawn t) {d : Int} (hd : 0 ≤ d ∧ d ≤ 900) : ∃ u x, laterM d t = (u, true) ∧ u.length = t.length ∧ joinM t u = (x, true) ∧ tuneB x = true ∧ x.length ≤ 22 := by
  obtain ⟨hl, ht, hr⟩ := h
  have hs : SS t := tune_ss (tuneB_true.1 ht)
  have hu : tuneB (shiftL 1 d 0 t) = true := tuneB_true.2 (tuneP_of (ss_shift hs) (by rw [shiftL_len]; omega) fun p hp => by
    obtain ⟨q, hq, rfl⟩ := List.mem_map.1 hp
    have := hr q hq
    simp only
    omega)
  have hj : (joinL t (shiftL 1 d 0 t)).length ≤ 22 := by have := joinL_len t (shiftL 1 d 0 t); rw [shiftL_len] at this; omega
  refine ⟨shiftL 1 d 0 t, sortM (joinL t (shiftL 1 d 0 t)), changeM_yes (inB_true (by omega)) ht hu, shiftL_len _ _ _ _, joinM_yes ht hu (by omega), ?_, ?_⟩
  · refine tuneB_true.2 (tuneP_of (sortM_ss (by omega)) (Nat.le_trans (sortM_le _) (by omega)) fun p hp => ?_)
    rw [sortM_mem (by omega)] at hp
    unfold joinL at hp
    rw [List.mem_append, List.mem_filter] at hp
    rcases hp with hp | ⟨hp, _⟩
    · have := hr p hp; omega
    · obtain ⟨i, hi⟩ := List.mem_iff_getElem?.1 hp
      have := (tuneB_true.1 hu).2 i p hi
      exact ⟨this.1, this.2.1⟩
  · exact Nat.le_trans (sortM_le _) hj
/-- A part one step higher, where it can be moved. -/
theorem higher_off {p : List (Int × Int)} : (higherM 1 p).2 = true → tuneB (higherM 1 p).1 = true ∧ offL (higherM 1 p).1 = offL p := by
  unfold higherM changeM
  split
  · rename_i h
    intro _
    exact ⟨h.2.2, off_shift _ _ _⟩
  · intro h; cases h
theorem higher_len (p : List (Int × Int)) : (higherM 1 p).1.length = p.length := by
  unfold higherM changeM
  split
  · exact shiftL_len _ _ _ _
  · rfl
def fourL : List (Int × Int) := [(0, 3), (2, 4), (4, 3), (6, 4)]
theorem four_tune : tuneB fourL = true := by
  refine tuneB_true.2 (tuneP_of ?_ (by decide) ?_)
  · unfold SS fourL lessB; decide
  · unfold fourL; decide
theorem four_off : ∀ i k n, offL (sub18 fourL i n) = offL (sub18 fourL k n) → i < k → k + n ≤ 4 → n ≤ 2 := by
  intro i k n h hik hkn
  have h4 : (k = 1 ∧ i = 0 ∧ n = 3) ∨ n ≤ 2 := by omega
  rcases h4 with ⟨rfl, rfl, rfl⟩ | h4
  · exact absurd h (by unfold offL sub18 fourL; decide)
  · exact h4
theorem four_long : longI fourL = 2 := by
  rw [longI_yes four_tune]
  have e : longN fourL fourL.length = 2 := by
    refine longN_eq (by decide) (Or.inr ⟨0, 2, by omega, by decide, ?_⟩) ?_
    · rw [samT_is four_tune]; unfold offL sub18 fourL; decide
    · rintro n hn hl ⟨i, k, hik, hkn, hs⟩
      rw [samT_is four_tune] at hs
      have := four_off i k n hs hik hkn
      omega
  rw [e]; rfl
end Go.Proofs.Ytglehmffmailkaa
