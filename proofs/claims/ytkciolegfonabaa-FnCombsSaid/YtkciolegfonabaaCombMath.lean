/- What chapter 4's models keep: the best move, the teeth counted, the comb for one tune. -/
import Derived.Test.YtkciolegfonabaaBestSpec
import Derived.Test.YtkciolegfonabaaCombForSpec
import Derived.Test.YtkciolegfonabaaCombDraw
import Derived.Test.YtkciolegfonabaaChangeMath
namespace Go.Proofs.Ytkciolegfonabaa
open Go.ChangeShapes Go.WideShapes Go.ChangeAt Go.RowKit

theorem higher_zero {t : List (Int × Int)} (h : tuneB t = true) : higherM 0 t = (t, true) := by
  have e : shiftL 1 0 0 t = t := by
    unfold shiftL
    conv => rhs; rw [← List.map_id t]
    exact List.map_congr_left fun p _ => by simp
  have := changeM_yes (ok := inB 0 (-60) 60) (a := 1) (b := 0) (c := 0) (l := t) (by decide) h (by rw [e]; exact h)
  rw [e] at this; exact this
theorem bestTo_down (c : List Int) (t : List (Int × Int)) (i : Nat) : (bestTo c t (i + 1)).2 ≤ (bestTo c t i).2 := by
  show (bestStep c t (bestTo c t i) (moveAt i)).2 ≤ _
  unfold bestStep; split
  · rename_i h; exact Nat.le_of_lt h.2
  · exact Nat.le_refl _
theorem bestTo_start (c : List Int) (t : List (Int × Int)) : ∀ i, (bestTo c t i).2 ≤ (missM c t).length
  | 0 => Nat.le_refl _
  | i + 1 => Nat.le_trans (bestTo_down c t i) (bestTo_start c t i)
theorem bestTo_inv (c : List Int) {t : List (Int × Int)} (h : tuneB t = true) : ∀ i, (higherM (bestTo c t i).1 t).2 = true ∧ missAt c t (bestTo c t i).1 = (bestTo c t i).2
  | 0 => by
    show (higherM 0 t).2 = true ∧ missAt c t 0 = (missM c t).length
    unfold missAt; rw [higher_zero h]; exact ⟨rfl, rfl⟩
  | i + 1 => by
    have ih := bestTo_inv c h i
    show (higherM (bestStep c t (bestTo c t i) (moveAt i)).1 t).2 = true ∧ missAt c t (bestStep c t (bestTo c t i) (moveAt i)).1 = (bestStep c t (bestTo c t i) (moveAt i)).2
    unfold bestStep
    by_cases hh : (higherM (moveAt i) t).2 = true ∧ missAt c t (moveAt i) < (bestTo c t i).2
    · rw [if_pos hh]; exact ⟨hh.1, rfl⟩
    · rw [if_neg hh]; exact ih
theorem bestTo_least (c : List Int) (t : List (Int × Int)) : ∀ (i j : Nat), j < i → (higherM (moveAt j) t).2 = true → (bestTo c t i).2 ≤ missAt c t (moveAt j)
  | 0, j, h, _ => by omega
  | i + 1, j, h, ho => by
    by_cases hj : j = i
    · subst hj
      show (bestStep c t (bestTo c t j) (moveAt j)).2 ≤ _
      unfold bestStep
      by_cases hh : (higherM (moveAt j) t).2 = true ∧ missAt c t (moveAt j) < (bestTo c t j).2
      · rw [if_pos hh]; exact Nat.le_refl _
      · rw [if_neg hh]; exact Nat.le_of_not_lt fun k => hh ⟨ho, k⟩
    · exact Nat.le_trans (bestTo_down c t i) (bestTo_least c t i j (by omega) ho)
theorem best_least (c : List Int) {t : List (Int × Int)} (h : tuneB t = true) (d : Int) (h1 : -12 ≤ d) (h2 : d ≤ 12) (ho : (higherM d t).2 = true) : (bestTo c t 24).2 ≤ missAt c t d := by
  by_cases h0 : d = 0
  · subst h0
    have := bestTo_start c t 24
    unfold missAt; rw [higher_zero h]; exact this
  · by_cases hp : 0 < d
    · obtain ⟨m, rfl⟩ := Int.eq_ofNat_of_zero_le (by omega : 0 ≤ d)
      have e := move_even m (by omega)
      rw [← e] at ho ⊢
      exact bestTo_least c t 24 _ (by omega) ho
    · obtain ⟨m, hm⟩ := Int.eq_ofNat_of_zero_le (by omega : 0 ≤ -d)
      have e := move_odd m (by omega)
      have hd : d = -(m : Int) := by omega
      rw [hd, ← e] at ho ⊢
      exact bestTo_least c t 24 _ (by omega) ho

theorem tsum_succ {c : List Int} (hc : combB c = true) (k : Nat) : tsum (k + 1) c = tsum k c + (teethM c (k : Int)).length := by
  have e : teethM c (k : Int) = teethTo c.length c (k : Int) := by unfold teethM; rw [if_pos hc]
  rw [tsum_filter, e, teethTo_count c _ _ (Nat.le_refl _), List.take_length]
theorem tsum_all {c : List Int} (hc : combB c = true) : tsum 61 c = c.length := by
  unfold tsum
  rw [List.filter_eq_self.2 fun x hx => ?_]
  obtain ⟨k, hk⟩ := List.mem_iff_getElem?.1 hx
  have := ((combB_true.1 hc).2 k x hk).1
  exact decide_eq_true (by omega)
theorem tsum_le (k : Nat) (c : List Int) : tsum k c ≤ c.length := List.length_filter_le _ _

theorem miss_mem {c : List Int} {t : List (Int × Int)} (hc : combB c = true) (ht : tuneB t = true) {q : Int × Int} (hq : q ∈ t) : q.2 ∈ missM c t ↔ q.2 ∉ c := by
  have hr := ((tune_parts ht).2.2 q hq).2
  obtain ⟨p, hp⟩ := Int.eq_ofNat_of_zero_le hr.1
  have hh : hasP t q.2 = true := hasP_iff.2 ⟨q, hq, rfl⟩
  unfold missM missTo
  rw [if_pos ⟨hc, ht⟩, List.mem_map]
  constructor
  · rintro ⟨x, hx, e⟩
    have h2 := (List.mem_filter.1 hx).2
    simp only [Bool.and_eq_true, Bool.not_eq_true', decide_eq_false_iff_not] at h2
    have e' : (x : Int) = q.2 := e
    rw [← e']; exact h2.2
  · intro h
    refine ⟨p, List.mem_filter.2 ⟨List.mem_range.2 (by omega), ?_⟩, hp.symm⟩
    simp only [Bool.and_eq_true, Bool.not_eq_true', decide_eq_false_iff_not]
    have e' : (p : Int) = q.2 := hp.symm
    rw [e']; exact ⟨hh, h⟩
theorem teeth_nil {c : List Int} (hc : combB c = true) (x : Int) : (teethM c x).length = 0 ↔ x ∉ c := by
  have e : teethM c x = teethTo c.length c x := by unfold teethM; rw [if_pos hc]
  rw [e]; exact teethTo_nil

theorem used_one (t : List (Int × Int)) (x : Int) : usedN [t] x = hasP t x := by unfold usedN; simp
theorem for_mem {t : List (Int × Int)} {x : Int} : x ∈ forTo 61 [t] ↔ ∃ p : Nat, p < 61 ∧ hasP t (p : Int) = true ∧ x = (p : Int) := by
  unfold forTo
  rw [List.mem_map]
  constructor
  · rintro ⟨p, hp, e⟩
    obtain ⟨h1, h2⟩ := List.mem_filter.1 hp
    rw [used_one] at h2
    exact ⟨p, List.mem_range.1 h1, h2, e.symm⟩
  · rintro ⟨p, h1, h2, rfl⟩
    exact ⟨p, List.mem_filter.2 ⟨List.mem_range.2 h1, by rw [used_one]; exact h2⟩, rfl⟩
theorem for_asc (t : List (Int × Int)) : (forTo 61 [t]).Pairwise fun a b => a < b := by
  unfold forTo
  refine List.pairwise_map.2 ((List.pairwise_lt_range (n := 61)).filter _ |>.imp fun h => ?_)
  exact Int.ofNat_lt.2 h
theorem for_comb {t : List (Int × Int)} (h : TuneDrawn t) : combB (forTo 61 [t]) = decide (0 < t.length) := by
  by_cases h0 : 0 < t.length
  · rw [decide_eq_true h0]
    refine combB_true.2 ⟨⟨?_, ?_⟩, fun k p hp => ⟨?_, fun i q hi hq => ?_⟩⟩
    · obtain ⟨q, hq⟩ := List.exists_mem_of_length_pos h0
      have hr := (h.2.2 q hq).2
      obtain ⟨p, hp⟩ := Int.eq_ofNat_of_zero_le (by omega : 0 ≤ q.2)
      exact List.length_pos_of_mem (for_mem.2 ⟨p, by omega, hasP_iff.2 ⟨q, hq, hp⟩, rfl⟩)
    · unfold forTo
      rw [List.length_map, ← List.countP_eq_length_filter]
      refine Nat.le_trans (List.countP_mono_left (q := fun p => decide (10 ≤ p ∧ p ≤ 19)) fun x _ hx => ?_) (by decide)
      rw [used_one] at hx
      obtain ⟨q, hq, e⟩ := hasP_iff.1 hx
      have hr := (h.2.2 q hq).2
      exact decide_eq_true (by omega)
    · obtain ⟨x, hx, -, e⟩ := for_mem.1 (List.mem_of_getElem? hp)
      omega
    · subst hi
      have hpw := for_asc t
      rw [List.pairwise_iff_getElem] at hpw
      obtain ⟨hk, ek⟩ := List.getElem?_eq_some_iff.1 hp
      obtain ⟨hi', ei⟩ := List.getElem?_eq_some_iff.1 hq
      have := hpw i (i + 1) hi' hk (by omega)
      rw [ek, ei] at this; omega
  · rw [decide_eq_false h0]
    have : t = [] := List.length_eq_zero_iff.1 (by omega)
    subst this
    refine combB_false.2 fun hc => ?_
    have e : forTo 61 [[]] = [] := List.eq_nil_iff_forall_not_mem.2 fun x hx => by
      obtain ⟨p, -, hp, -⟩ := for_mem.1 hx
      obtain ⟨q, hq, -⟩ := hasP_iff.1 hp
      simp at hq
    rw [e] at hc
    have := hc.1.1
    simp at this
theorem for_one {t : List (Int × Int)} (h : TuneDrawn t) : (forM [t]).2 = decide (0 < t.length) ∧ (0 < t.length → combB (forM [t]).1 = true ∧ playM (forM [t]).1 t = true) := by
  have hc := for_comb h
  have ha : ∀ s ∈ [t], tuneB s = true := fun s hs => by rw [List.mem_singleton.1 hs]; exact h.2.1
  by_cases h0 : 0 < t.length
  · rw [decide_eq_true h0] at hc
    rw [forM_yes ha hc]
    refine ⟨(decide_eq_true h0).symm, fun _ => ⟨hc, ?_⟩⟩
    unfold playM
    rw [hc, h.2.1]
    have e : missM (forTo 61 [t]) t = [] := by
      unfold missM
      rw [if_pos ⟨hc, h.2.1⟩]
      unfold missTo
      rw [List.map_eq_nil_iff, List.filter_eq_nil_iff]
      intro p hp hh
      simp only [Bool.and_eq_true, Bool.not_eq_true', decide_eq_false_iff_not] at hh
      exact hh.2 (for_mem.2 ⟨p, List.mem_range.1 hp, hh.1, rfl⟩)
    simp [e]
  · rw [decide_eq_false h0] at hc
    rw [forM_no (ll := [t]) fun k => by rw [hc] at k; cases k.2]
    exact ⟨(decide_eq_false h0).symm, fun k => absurd k h0⟩
end Go.Proofs.Ytkciolegfonabaa
