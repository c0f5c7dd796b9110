/- UpsideDown twice; what FnChanges asks of a drawn tune. -/
import Derived.Test.YtglehmffmailkaaChangeMath
namespace Go.Proofs.Ytglehmffmailkaa
open Go.ChangeShapes Go.WideShapes Go.ChangeAt Go.RowKit

theorem minP_spec : ∀ (l : List (Int × Int)) (x : Int), minP x l ≤ x ∧ (∀ p ∈ l, minP x l ≤ p.2) ∧ (minP x l = x ∨ ∃ p ∈ l, p.2 = minP x l)
  | [], x => ⟨Int.le_refl _, fun p hp => by simp at hp, Or.inl rfl⟩
  | q :: r, x => by
    have e : minP x (q :: r) = minP (if q.2 < x then q.2 else x) r := rfl
    obtain ⟨h1, h2, h3⟩ := minP_spec r (if q.2 < x then q.2 else x)
    rw [e]
    refine ⟨?_, fun p hp => ?_, ?_⟩
    · split at h1 <;> rename_i hc <;> simp only [hc, if_true, if_false] <;> omega
    · rcases List.mem_cons.1 hp with rfl | hm
      · split at h1 <;> rename_i hc <;> simp only [hc, if_true, if_false] <;> omega
      · exact h2 p hm
    · rcases h3 with h3 | ⟨p, hp, h3⟩
      · by_cases hc : q.2 < x
        · rw [if_pos hc] at h3 ⊢; exact Or.inr ⟨q, by simp, h3.symm⟩
        · rw [if_neg hc] at h3 ⊢; exact Or.inl h3
      · exact Or.inr ⟨p, by simp [hp], h3⟩
theorem maxP_spec : ∀ (l : List (Int × Int)) (x : Int), x ≤ maxP x l ∧ (∀ p ∈ l, p.2 ≤ maxP x l) ∧ (maxP x l = x ∨ ∃ p ∈ l, p.2 = maxP x l)
  | [], x => ⟨Int.le_refl _, fun p hp => by simp at hp, Or.inl rfl⟩
  | q :: r, x => by
    have e : maxP x (q :: r) = maxP (if x < q.2 then q.2 else x) r := rfl
    obtain ⟨h1, h2, h3⟩ := maxP_spec r (if x < q.2 then q.2 else x)
    rw [e]
    refine ⟨?_, fun p hp => ?_, ?_⟩
    · split at h1 <;> rename_i hc <;> simp only [hc, if_true, if_false] <;> omega
    · rcases List.mem_cons.1 hp with rfl | hm
      · split at h1 <;> rename_i hc <;> simp only [hc, if_true, if_false] <;> omega
      · exact h2 p hm
    · rcases h3 with h3 | ⟨p, hp, h3⟩
      · by_cases hc : x < q.2
        · rw [if_pos hc] at h3 ⊢; exact Or.inr ⟨q, by simp, h3.symm⟩
        · rw [if_neg hc] at h3 ⊢; exact Or.inl h3
      · exact Or.inr ⟨p, by simp [hp], h3⟩
/-- The least and the greatest pitch of a tune with notes. -/
theorem tune_pitch {t : List (Int × Int)} (h : tuneB t = true) (h0 : 0 < t.length) : (∀ p ∈ t, (pitchM t).1 ≤ p.2 ∧ p.2 ≤ (pitchM t).2) ∧ (∃ p ∈ t, p.2 = (pitchM t).1) ∧ (∃ p ∈ t, p.2 = (pitchM t).2) := by
  obtain ⟨a, ha⟩ : ∃ a, t[0]? = some a := ⟨_, List.getElem?_eq_getElem h0⟩
  have hm : a ∈ t := List.mem_iff_getElem?.2 ⟨_, ha⟩
  rw [pitchM_yes h ha]
  obtain ⟨-, h2, h3⟩ := minP_spec t a.2
  obtain ⟨-, k2, k3⟩ := maxP_spec t a.2
  refine ⟨fun p hp => ⟨h2 p hp, k2 p hp⟩, ?_, ?_⟩
  · rcases h3 with h3 | h3
    · exact ⟨a, hm, h3.symm⟩
    · exact h3
  · rcases k3 with k3 | k3
    · exact ⟨a, hm, k3.symm⟩
    · exact k3
theorem up_nil : upM [] = [] := by
  rw [upM_no (by rw [pitchM_nil]; decide)]
  exact List.length_eq_zero_iff.1 (Nat.le_zero.1 (sortM_len []))
theorem up_eq {t : List (Int × Int)} (h : tuneB t = true) (h0 : 0 < t.length) : upM t = sortM (flipL ((pitchM t).1 + (pitchM t).2) t) := upM_yes (pitch_bd h h0).1.1
theorem up_len {t : List (Int × Int)} (h : tuneB t = true) : (upM t).length = t.length := by
  rcases Nat.eq_zero_or_pos t.length with hz | h0
  · obtain rfl := List.length_eq_zero_iff.1 hz
    rw [up_nil]
  · obtain ⟨hl, hs, -⟩ := tune_parts h
    rw [up_eq h h0, sortM_nodup (by rw [flipL_len]; exact hl) (flip_nodup (ss_nodup hs)), flipL_len]
theorem up_mem {t : List (Int × Int)} (h : tuneB t = true) (h0 : 0 < t.length) {p : Int × Int} : p ∈ upM t ↔ (p.1, (pitchM t).1 + (pitchM t).2 - p.2) ∈ t := by
  rw [up_eq h h0, sortM_mem (by rw [flipL_len]; exact (tune_parts h).1), flip_mem]
theorem up_tune {t : List (Int × Int)} (h : tuneB t = true) : tuneB (upM t) = true := by
  rcases Nat.eq_zero_or_pos t.length with hz | h0
  · obtain rfl := List.length_eq_zero_iff.1 hz
    rw [up_nil]; exact h
  · obtain ⟨hl, hs, hr⟩ := tune_parts h
    refine tune_of (by rw [up_len h]; exact hl) (by rw [up_eq h h0]; exact sortM_ss (by rw [flipL_len]; exact hl)) fun p hp => ?_
    have hm := (up_mem h h0).1 hp
    obtain ⟨h1, ⟨q, hq, h2⟩, r, hr', h3⟩ := tune_pitch h h0
    have a1 := h1 _ hm
    have a2 := hr _ hm
    have a3 := hr _ hq
    have a4 := hr _ hr'
    simp only at a1 a2
    omega
theorem up_pitch {t : List (Int × Int)} (h : tuneB t = true) (h0 : 0 < t.length) : (pitchM (upM t)).1 + (pitchM (upM t)).2 = (pitchM t).1 + (pitchM t).2 := by
  obtain ⟨h1, ⟨q, hq, h2⟩, r, hr, h3⟩ := tune_pitch h h0
  obtain ⟨k1, ⟨q', hq', k2⟩, r', hr', k3⟩ := tune_pitch (up_tune h) (by rw [up_len h]; exact h0)
  have e1 := h1 _ ((up_mem h h0).1 hq')
  have e2 := h1 _ ((up_mem h h0).1 hr')
  have f1 := k1 (q.1, (pitchM t).1 + (pitchM t).2 - q.2) ((up_mem h h0).2 (by
    have : (pitchM t).1 + (pitchM t).2 - ((pitchM t).1 + (pitchM t).2 - q.2) = q.2 := by omega
    simp only [this]; exact hq))
  have f2 := k1 (r.1, (pitchM t).1 + (pitchM t).2 - r.2) ((up_mem h h0).2 (by
    have : (pitchM t).1 + (pitchM t).2 - ((pitchM t).1 + (pitchM t).2 - r.2) = r.2 := by omega
    simp only [this]; exact hr))
  simp only at e1 e2 f1 f2
  omega
theorem up_up {t : List (Int × Int)} (h : tuneB t = true) : upM (upM t) = t := by
  rcases Nat.eq_zero_or_pos t.length with hz | h0
  · obtain rfl := List.length_eq_zero_iff.1 hz
    rw [up_nil, up_nil]
  · refine ss_unique (tune_parts (up_tune (up_tune h))).2.1 (tune_parts h).2.1 fun x => ?_
    rw [up_mem (up_tune h) (by rw [up_len h]; exact h0), up_pitch h h0, up_mem h h0]
    have : (pitchM t).1 + (pitchM t).2 - ((pitchM t).1 + (pitchM t).2 - x.2) = x.2 := by omega
    simp only [this]
/-- What moves keep of a drawn tune. -/
theorem drawn_moves {t : List (Int × Int)} (h : TuneDrawn t) :
    higherM 3 t = (shiftL 1 0 3 t, true) ∧ laterM 5 (shiftL 1 0 3 t) = (shiftL 1 5 3 t, true) ∧ slowerM 2 t = (shiftL 2 0 0 t, true) ∧ laterM (-5) (shiftL 1 5 3 t) = (shiftL 1 0 3 t, true) ∧ sameM t (shiftL 1 5 3 t) = true ∧ higherM 61 t = (t, false) := by
  obtain ⟨-, ht, hd⟩ := h
  have t1 : tuneB (shiftL 1 0 3 t) = true := shift_tune (by omega) ht fun p hp => by have := hd p hp; omega
  have t2 : tuneB (shiftL 1 5 3 t) = true := shift_tune (by omega) ht fun p hp => by have := hd p hp; omega
  have t3 : tuneB (shiftL 2 0 0 t) = true := shift_tune (by omega) ht fun p hp => by have := hd p hp; omega
  have s1 : shiftL 1 5 0 (shiftL 1 0 3 t) = shiftL 1 5 3 t := shift_shift 0 3 5 0 t
  have s2 : shiftL 1 (-5) 0 (shiftL 1 5 3 t) = shiftL 1 0 3 t := shift_shift 5 3 (-5) 0 t
  refine ⟨changeM_yes (by decide) ht t1, ?_, changeM_yes (by decide) ht t3, ?_, sameM_yes ht t2 (off_shift 5 3 t).symm, ?_⟩
  · have := changeM_yes (ok := inB 5 (-1000) 1000) (a := 1) (b := 5) (c := 0) (by decide) t1 (by rw [s1]; exact t2)
    rw [s1] at this; exact this
  · have := changeM_yes (ok := inB (-5) (-1000) 1000) (a := 1) (b := -5) (c := 0) (by decide) t2 (by rw [s2]; exact t1)
    rw [s2] at this; exact this
  · exact changeM_off 1 0 61 t
end Go.Proofs.Ytglehmffmailkaa
