/- What the law FnSeams asks of the model's answers: the closest, the pairs too close, the quiet angle, the angles with pins, the sample at the seam. No program. -/
import Derived.Test.YtpdjceafjdlknaaPairsMath
namespace Go.Proofs.Ytpdjceafjdlknaa
open Go.ChangeShapes Go.WideShapes Go.ChangeAt Go.RowKit

theorem near_ex (s : Int) (l : List (Int × Int)) : ∀ i, i ≤ l.length → ∃ n, Near s l i 0 n
  | 0, _ => ⟨s, near_0 s l⟩
  | i + 1, hi => by
    have key : ∀ k, k ≤ i → ∃ n, Near s l i k n := fun k => by
      induction k with
      | zero => exact fun _ => near_ex s l i (by omega)
      | succ k ih =>
        intro hk
        obtain ⟨n, hn⟩ := ih (by omega)
        obtain ⟨p, hp⟩ : ∃ p, l[i]? = some p := ⟨_, List.getElem?_eq_getElem (by omega)⟩
        obtain ⟨q, hq⟩ : ∃ q, l[k]? = some q := ⟨_, List.getElem?_eq_getElem (by omega)⟩
        by_cases h : p.1 = q.1
        · exact ⟨_, near_take hn (by omega) hp hq h⟩
        · exact ⟨n, near_skip hn hp hq h⟩
    obtain ⟨n, hn⟩ := key i (Nat.le_refl _)
    exact ⟨n, near_row hn⟩
theorem clos_ex {s t : Int} {l : List (Int × Int)} (h : CylP s t l) : ∃ n, Closest s l n := by
  obtain ⟨n, hn⟩ := near_ex s l l.length (Nat.le_refl _)
  exact ⟨n, near_closest (sp_nodup (cyl_sp h)) hn⟩
theorem closM_ok {s t : Int} {l : List (Int × Int)} (h : CylP s t l) : Closest s l (closM s t l) := by
  obtain ⟨n, hn⟩ := clos_ex h
  rw [show closM s t l = n from (if_pos (cylB_true.2 h)).trans (closN_eq hn)]; exact hn
theorem closM_turn {s t : Int} (d : Int) {l : List (Int × Int)} (h : CylP s t l) : closM s t (turnL s d l) = closM s t l :=
  ((if_pos (cylB_true.2 (turn_cyl d h))).trans (closN_eq (closest_turn d h (closM_ok h))))
theorem closM_pos {s t : Int} {l : List (Int × Int)} (h : CylP s t l) : 1 ≤ closM s t l ∧ closM s t l ≤ s := ⟨closest_pos h (closM_ok h), (closM_ok h).1⟩
theorem tooM_at {s t r : Int} {l : List (Int × Int)} (h : CylP s t l) (hr : 1 ≤ r ∧ r ≤ 96) : (tooM s t l r).length = pairsN (closeF s r) l := by
  rw [tooM_yes (cylB_true.2 h) hr, tooN_all]
theorem tooM_turn {s t r : Int} (d : Int) {l : List (Int × Int)} (h : CylP s t l) (hr : 1 ≤ r ∧ r ≤ 96) : (tooM s t (turnL s d l) r).length = (tooM s t l r).length := by
  rw [tooM_at (turn_cyl d h) hr, tooM_at h hr, close_turn d r h]
theorem tooM_zero {s t r : Int} {l : List (Int × Int)} (h : CylP s t l) (hr : 1 ≤ r ∧ r ≤ 96) : (tooM s t l r).length = 0 ↔ (r ≤ closM s t l ∨ closM s t l = s) := by
  rw [tooM_at h hr]; exact close_zero h (closM_ok h)
theorem playM_len {s t r : Int} {l : List (Int × Int)} (h : CylP s t l) (hr : 1 ≤ r ∧ r ≤ 96) : playM s t l r = decide ((tooM s t l r).length = 0) := by
  unfold playM
  rw [cylB_true.2 h, decide_eq_true hr, Bool.true_and, Bool.true_and]
  cases tooM s t l r <;> simp

/-! ### the quiet angle -/
theorem run_ex (s a : Int) (S : Nat) (hS : (S : Int) = s) (l : List (Int × Int)) : ∃ n, IsRun s l a n := by
  have key : ∀ k, k ≤ S → (∃ n, IsRun s l a n) ∨ ∀ j : Nat, j < k → pinsL l ((a + (j : Int)) % s) = [] := fun k => by
    induction k with
    | zero => exact fun _ => Or.inr fun j hj => by omega
    | succ k ih =>
      intro hk
      rcases ih (by omega) with h | h
      · exact Or.inl h
      · by_cases e : pinsL l ((a + (k : Int)) % s) = []
        · refine Or.inr fun j hj => ?_
          by_cases hjk : j < k
          · exact h j hjk
          · obtain rfl : j = k := by omega
            exact e
        · exact Or.inl ⟨k, by omega, h, Or.inr e⟩
  rcases key S (Nat.le_refl _) with h | h
  · exact h
  · exact ⟨S, by omega, h, Or.inl hS⟩
theorem quiet_ex (s : Int) (S : Nat) (hS : (S : Int) = s) (l : List (Int × Int)) : ∀ b : Nat, b ≤ S → ∃ q n, Quiet s l (b : Int) q n
  | 0, _ => ⟨-1, 0, quiet_0 s l⟩
  | b + 1, hb => by
    obtain ⟨q, n, h⟩ := quiet_ex s S hS l b (by omega)
    obtain ⟨m, hm⟩ := run_ex s (b : Int) S hS l
    by_cases e : n < m
    · exact ⟨(b : Int), m, by have := quiet_more h (by omega) hm e; rw [show ((b + 1 : Nat) : Int) = (b : Int) + 1 by omega]; exact this⟩
    · exact ⟨q, n, by have := quiet_same h hm e; rw [show ((b + 1 : Nat) : Int) = (b : Int) + 1 by omega]; exact this⟩
/-- How many of the first k angles have pins. -/
def usedN (l : List (Int × Int)) (k : Nat) : Nat := ((List.range k).filter fun a : Nat => decide (0 < (pinsL l (a : Int)).length)).length
theorem usedN_zero (l : List (Int × Int)) : usedN l 0 = 0 := rfl
theorem usedN_yes {l : List (Int × Int)} {k : Nat} (h : 0 < (pinsL l (k : Int)).length) : usedN l (k + 1) = usedN l k + 1 := by
  unfold usedN; rw [List.range_succ, List.filter_append]; simp [h]
theorem usedN_no {l : List (Int × Int)} {k : Nat} (h : ¬ 0 < (pinsL l (k : Int)).length) : usedN l (k + 1) = usedN l k := by
  unfold usedN; rw [List.range_succ, List.filter_append]; simp at h; simp [h]
theorem usedN_le (l : List (Int × Int)) (k : Nat) : usedN l k ≤ k := by
  unfold usedN; exact Nat.le_trans (List.length_filter_le _ _) (by simp)
theorem usedN_all {l : List (Int × Int)} : ∀ {k : Nat}, usedN l k = k ↔ ∀ a : Nat, a < k → 0 < (pinsL l (a : Int)).length
  | 0 => by simp [usedN]
  | k + 1 => by
    have ih := usedN_all (l := l) (k := k)
    have hle := usedN_le l k
    by_cases h : 0 < (pinsL l (k : Int)).length
    · rw [usedN_yes h]
      constructor
      · intro e a ha
        by_cases hk : a < k
        · exact ih.1 (by omega) a hk
        · obtain rfl : a = k := by omega
          exact h
      · intro e
        rw [ih.2 fun a ha => e a (by omega)]
    · rw [usedN_no h]
      constructor
      · intro e; omega
      · intro e; exact absurd (e k (by omega)) h
theorem usedN_none {l : List (Int × Int)} : ∀ {k : Nat}, (∀ a : Nat, a < k → ¬ 0 < (pinsL l (a : Int)).length) → usedN l k = 0
  | 0, _ => rfl
  | k + 1, h => by rw [usedN_no (h k (by omega))]; exact usedN_none fun a ha => h a (by omega)
theorem quiet_facts {S : Nat} {t q : Int} {l : List (Int × Int)} {n : Nat} (hc : CylP (S : Int) t l) (h : Quiet (S : Int) l (S : Int) q n) :
    (q = -1 ↔ usedN l S = S) ∧ (-1 ≤ q ∧ q < (S : Int)) ∧ (0 ≤ q → pinsL l q = []) ∧ (0 < q → 0 < (pinsL l (q - 1)).length ∨ usedN l S = 0) := by
  have h4 := hc.1
  have hmod : ∀ a : Int, 0 ≤ a → a < (S : Int) → a % (S : Int) = a := fun a h0 h1 => Int.emod_eq_of_lt h0 h1
  have e0 : ∀ a : Int, a + ((0 : Nat) : Int) = a := fun a => by simp
  have pos : ∀ {x : Int}, ¬ pinsL l x = [] → 0 < (pinsL l x).length := fun {x} hx => by
    rcases Nat.eq_zero_or_pos (pinsL l x).length with e | e
    · exact absurd (List.length_eq_zero_iff.1 e) hx
    · exact e
  rcases h.2 with ⟨rfl, rfl⟩ | ⟨h1, h2, h3, h5⟩
  · refine ⟨⟨fun _ => usedN_all.2 fun a ha => pos fun e => ?_, fun _ => rfl⟩, by omega, fun k => by omega, fun k => by omega⟩
    obtain ⟨m, hm⟩ := run_ex (S : Int) (a : Int) S rfl l
    have hm0 := (h.1 (a : Int) m (by omega) (by omega) hm).1
    obtain rfl : m = 0 := by omega
    rcases hm.2.2 with k | k
    · omega
    · rw [e0, hmod _ (by omega) (by omega)] at k; exact k e
  · obtain ⟨b, rfl⟩ := Int.eq_ofNat_of_zero_le h1
    have hq0 : pinsL l (b : Int) = [] := by
      have := h5.2.1 0 h3
      rw [e0, hmod _ h1 h2] at this; exact this
    refine ⟨⟨fun k => by omega, fun k => ?_⟩, by omega, fun _ => hq0, fun hq => ?_⟩
    · have := usedN_all.1 k b (by omega)
      rw [hq0] at this; exact absurd this (by simp)
    · by_cases e : pinsL l ((b : Int) - 1) = []
      · right
        by_cases hn : (n : Int) = (S : Int)
        · refine usedN_none fun a ha => ?_
          -- the run covers all angles
          by_cases hab : b ≤ a
          · have := h5.2.1 (a - b) (by omega)
            rw [show (b : Int) + ((a - b : Nat) : Int) = (a : Int) by omega, hmod _ (by omega) (by omega)] at this
            rw [this]; simp
          · have := h5.2.1 (a + S - b) (by omega)
            rw [show (b : Int) + ((a + S - b : Nat) : Int) = (a : Int) + (S : Int) by omega, Int.add_emod_right, hmod _ (by omega) (by omega)] at this
            rw [this]; simp
        · exfalso
          have hrun : IsRun (S : Int) l ((b : Int) - 1) (n + 1) := by
            have hn1 := h5.1
            refine ⟨by omega, fun j hj => ?_, Or.inr ?_⟩
            · rcases Nat.eq_zero_or_pos j with rfl | hj0
              · rw [e0, hmod _ (by omega) (by omega)]; exact e
              · have := h5.2.1 (j - 1) (by omega)
                rw [show (b : Int) + ((j - 1 : Nat) : Int) = (b : Int) - 1 + (j : Int) by omega] at this
                exact this
            · rcases h5.2.2 with k | k
              · exact absurd k hn
              · rw [show (b : Int) - 1 + ((n + 1 : Nat) : Int) = (b : Int) + (n : Int) by omega]; exact k
          have := (h.1 ((b : Int) - 1) (n + 1) (by omega) (by omega) hrun).2 (by omega)
          omega
      · exact Or.inl (pos e)
theorem quietM_facts {S : Nat} {t : Int} {l : List (Int × Int)} (hc : CylP (S : Int) t l) :
    (quietM (S : Int) t l = -1 ↔ usedN l S = S) ∧ (-1 ≤ quietM (S : Int) t l ∧ quietM (S : Int) t l < (S : Int)) ∧ (0 ≤ quietM (S : Int) t l → pinsL l (quietM (S : Int) t l) = []) ∧ (0 < quietM (S : Int) t l → 0 < (pinsL l (quietM (S : Int) t l - 1)).length ∨ usedN l S = 0) := by
  have h4 := hc.1
  by_cases hl : l = []
  · subst hl
    have hq : quietM (S : Int) t [] = 0 := by unfold quietM; rw [if_pos (cylB_true.2 hc), if_pos rfl]
    have hu : usedN [] S = 0 := usedN_none fun a _ => by simp [pinsL]
    rw [hq, hu]
    refine ⟨⟨fun k => by omega, fun k => by omega⟩, by omega, fun _ => rfl, fun k => by omega⟩
  · obtain ⟨q, n, h⟩ := quiet_ex (S : Int) S rfl l S (Nat.le_refl _)
    have e : quietM (S : Int) t l = q := by unfold quietM; rw [if_pos (cylB_true.2 hc), if_neg hl, quietN_eq h]
    rw [e]
    exact quiet_facts hc h

/-! ### the sample at the seam -/
theorem seam_cyl : CylP 12 1 [(0, 0), (0, 11)] := by
  refine cyl_of (by omega) (by omega) (by decide) ?_ ?_
  · rw [sp_pw]
    refine List.Pairwise.cons (fun a ha => ?_) (List.Pairwise.cons (fun a ha => by cases ha) List.Pairwise.nil)
    obtain rfl := List.mem_singleton.1 ha
    rw [pless_iff]; left; decide
  · intro p hp
    rcases List.mem_cons.1 hp with rfl | hp
    · decide
    · obtain rfl := List.mem_singleton.1 hp; decide
theorem seam_too : tooM 12 1 [(0, 0), (0, 11)] 2 = [[0, 1]] := by
  rw [tooM_yes (cylB_true.2 seam_cyl) (by omega)]; decide +kernel
theorem seam_play : playM 12 1 [(0, 0), (0, 11)] 2 = false := by rw [playM_len seam_cyl (by omega), seam_too]; rfl
theorem seam_onlyP : onlyP [(0, 0), (0, 11)] 2 [[0, 1]] := fun i k p q hx hp hq => by
  have := List.mem_singleton.1 hx
  simp only [List.cons.injEq, and_true] at this
  obtain ⟨h1, h2⟩ := this
  obtain rfl : i = 0 := by omega
  obtain rfl : k = 1 := by omega
  obtain rfl : (0, 0) = p := Option.some.inj hp
  obtain rfl : (0, 11) = q := Option.some.inj hq
  decide
open Classical in
theorem seam_only : onlyM 12 1 [(0, 0), (0, 11)] 2 = true := by
  unfold onlyM; rw [seam_too]; exact decide_eq_true ⟨by simp, seam_onlyP⟩
end Go.Proofs.Ytpdjceafjdlknaa
