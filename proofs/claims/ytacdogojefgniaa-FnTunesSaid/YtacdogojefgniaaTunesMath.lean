/- Plain facts for the law FnTunes: a tune twice, its notes at each time, its pitches, a note put in. No condition. -/
import Derived.Test.YtacdogojefgniaaTuneDraw
import Derived.Test.YtacdogojefgniaaAddNote
namespace Go.Proofs.Ytacdogojefgniaa

theorem sort_twice {t : List (Int × Int)} (h : SS t) (hl : t.length ≤ 20) : sortM (t ++ t) = t := by
  unfold sortM
  rw [if_pos (by simp; omega)]
  exact ss_unique (fold_ss _ [] List.Pairwise.nil) h fun x => by rw [fold_mem]; simp

theorem at_pw {t : List (Int × Int)} (h : SS t) (k : Int) : (atM t k).Pairwise (· < ·) := by
  unfold atM
  rw [List.pairwise_map]
  refine (List.Pairwise.filter _ h).imp_of_mem fun {a b} ha hb hab => ?_
  have h1 : a.1 = k := by simpa using (List.mem_filter.1 ha).2
  have h2 : b.1 = k := by simpa using (List.mem_filter.1 hb).2
  rw [less_iff] at hab; omega
theorem at_adj {l : List Int} (h : l.Pairwise (· < ·)) {i : Nat} {x y : Int} (hi : 1 ≤ i) (hx : l[i - 1]? = some x) (hy : l[i]? = some y) : x < y := by
  obtain ⟨h1, e1⟩ := List.getElem?_eq_some_iff.1 hx
  obtain ⟨h2, e2⟩ := List.getElem?_eq_some_iff.1 hy
  have := List.pairwise_iff_getElem.1 h (i - 1) i h1 h2 (by omega)
  rw [e1, e2] at this; exact this

/-- How many notes lie at the times below k. -/
def cntM (t : List (Int × Int)) : Nat → Nat
  | 0 => 0
  | k + 1 => cntM t k + (atM t (k : Int)).length
theorem cnt_eq : ∀ (t : List (Int × Int)) (k : Nat), (∀ p ∈ t, 0 ≤ p.1) → cntM t k = (t.filter fun p => decide (p.1 < (k : Int))).length
  | t, 0, h => by
    show 0 = _
    rw [List.filter_eq_nil_iff.2 fun p hp => by have := h p hp; simp; omega]; rfl
  | t, k + 1, h => by
    show cntM t k + (atM t (k : Int)).length = _
    rw [cnt_eq t k h]
    unfold atM
    rw [List.length_map]
    clear h
    induction t with
    | nil => rfl
    | cons p t ih =>
      rw [List.filter_cons, List.filter_cons, List.filter_cons]
      by_cases h1 : p.1 < (k : Int)
      · have h2 : ¬ (p.1 == (k : Int)) = true := by simp; omega
        have h3 : decide (p.1 < ((k + 1 : Nat) : Int)) = true := decide_eq_true (by omega)
        rw [if_pos (by simpa using h1), if_neg h2, if_pos h3]
        simp only [List.length_cons]; omega
      · by_cases h4 : p.1 = (k : Int)
        · have h2 : (p.1 == (k : Int)) = true := by simpa using h4
          have h3 : decide (p.1 < ((k + 1 : Nat) : Int)) = true := decide_eq_true (by omega)
          rw [if_neg (by simpa using h1), if_pos h2, if_pos h3]
          simp only [List.length_cons]; omega
        · have h2 : ¬ (p.1 == (k : Int)) = true := by simpa using h4
          have h3 : ¬ decide (p.1 < ((k + 1 : Nat) : Int)) = true := by simp; omega
          rw [if_neg (by simpa using h1), if_neg h2, if_neg h3]
          exact ih
theorem cnt_all {t : List (Int × Int)} (h : DrawnNotes t) : cntM t 17 = t.length := by
  rw [cnt_eq t 17 fun p hp => (h p hp).1.1, List.filter_eq_self.2 fun p hp => by have := (h p hp).1.2; simp; omega]
theorem cnt_le : ∀ (t : List (Int × Int)) (k : Nat), cntM t k ≤ k * t.length
  | t, 0 => by simp [cntM]
  | t, k + 1 => by
    have := cnt_le t k
    have := atM_length t (k : Int)
    show cntM t k + _ ≤ _
    rw [Nat.add_mul]; omega

theorem minP_cons (x : Int) (p : Int × Int) (l : List (Int × Int)) : minP x (p :: l) = minP (if p.2 < x then p.2 else x) l := rfl
theorem maxP_cons (x : Int) (p : Int × Int) (l : List (Int × Int)) : maxP x (p :: l) = maxP (if x < p.2 then p.2 else x) l := rfl
theorem minP_le : ∀ (l : List (Int × Int)) (x : Int), minP x l ≤ x ∧ ∀ p ∈ l, minP x l ≤ p.2
  | [], x => ⟨Int.le_refl _, fun p hp => by cases hp⟩
  | q :: l, x => by
    obtain ⟨h1, h2⟩ := minP_le l (if q.2 < x then q.2 else x)
    rw [minP_cons]
    have h3 : (if q.2 < x then q.2 else x) ≤ x := by split <;> omega
    have h4 : (if q.2 < x then q.2 else x) ≤ q.2 := by split <;> omega
    refine ⟨Int.le_trans h1 h3, fun p hp => ?_⟩
    rcases List.mem_cons.1 hp with rfl | hp
    · exact Int.le_trans h1 h4
    · exact h2 p hp
theorem maxP_ge : ∀ (l : List (Int × Int)) (x : Int), x ≤ maxP x l ∧ ∀ p ∈ l, p.2 ≤ maxP x l
  | [], x => ⟨Int.le_refl _, fun p hp => by cases hp⟩
  | q :: l, x => by
    obtain ⟨h1, h2⟩ := maxP_ge l (if x < q.2 then q.2 else x)
    rw [maxP_cons]
    have h3 : x ≤ (if x < q.2 then q.2 else x) := by split <;> omega
    have h4 : q.2 ≤ (if x < q.2 then q.2 else x) := by split <;> omega
    refine ⟨Int.le_trans h3 h1, fun p hp => ?_⟩
    rcases List.mem_cons.1 hp with rfl | hp
    · exact Int.le_trans h4 h1
    · exact h2 p hp
theorem minP_ge : ∀ (l : List (Int × Int)) (x z : Int), z ≤ x → (∀ p ∈ l, z ≤ p.2) → z ≤ minP x l
  | [], _, _, h, _ => h
  | q :: l, x, z, h, hl => by
    rw [minP_cons]
    refine minP_ge l _ z ?_ fun p hp => hl p (List.mem_cons_of_mem _ hp)
    have := hl q (by simp)
    split <;> omega
/-- The range of the pitches of a drawn tune that has notes. -/
theorem pitch_drawn {t : List (Int × Int)} (h : TuneDrawn t) (h0 : 0 < t.length) : 0 ≤ (pitchM t).1 ∧ (pitchM t).1 ≤ 19 ∧ ∀ p ∈ t, (pitchM t).1 ≤ p.2 ∧ p.2 ≤ (pitchM t).2 := by
  obtain ⟨a, ha⟩ : ∃ a, t[0]? = some a := ⟨_, List.getElem?_eq_getElem h0⟩
  have hm : a ∈ t := List.mem_iff_getElem?.2 ⟨0, ha⟩
  rw [pitchM_yes h.2.1 ha]
  have hb := (h.2.2 a hm).2
  refine ⟨minP_ge t a.2 0 (by omega) fun p hp => by have := (h.2.2 p hp).2; omega, by have := (minP_le t a.2).1; omega, fun p hp => ⟨(minP_le t a.2).2 p hp, (maxP_ge t a.2).2 p hp⟩⟩

theorem add_in {t : List (Int × Int)} {n : Int × Int} (h : memB t n = true) : addM t n = (t, false) :=
  addM_no fun hh => by rw [h] at hh; cases hh.2.1
theorem add_out {t : List (Int × Int)} {n : Int × Int} (h : TuneDrawn t) (hn : memB t n = false) (h1 : 0 ≤ n.1 ∧ n.1 ≤ 29) (h2 : 0 ≤ n.2 ∧ n.2 ≤ 60) : addM t n = (insM t n, true) ∧ (insM t n).length = t.length + 1 ∧ tuneB (insM t n) = true := by
  have hni := memB_false.1 hn
  have hs := tune_ss (tuneB_true.1 h.2.1)
  have hlen := ins_out_len hni
  have ht : tuneB (insM t n) = true := tuneB_true.2 (tuneP_of (ins_ss n hs) (by have := h.1; omega) fun p hp => by
    rcases (ins_mem t n p).1 hp with rfl | hp
    · omega
    · have := h.2.2 p hp; omega)
  exact ⟨addM_yes h.2.1 hn ht, hlen, ht⟩
end Go.Proofs.Ytacdogojefgniaa
