/- Chapter 18, pure: where a motif occurs, parts, the longest repeat, the forms of parts. No condition. -/
import Derived.Test.YtglehmffmailkaaSameSpec
import Derived.Test.YtglehmffmailkaaJoinSpec
import Derived.Test.YtglehmffmailkaaTuneDraw
namespace Go.Proofs.Ytglehmffmailkaa
open Go.ChangeShapes Go.WideShapes Go.ChangeAt Go.RowKit

/-- The part of n notes from note i on. -/
def sub18 (t : List (Int × Int)) (i n : Nat) : List (Int × Int) := (t.drop i).take n
theorem sub_len {t : List (Int × Int)} {i n : Nat} (h : i + n ≤ t.length) : (sub18 t i n).length = n := by
  unfold sub18; rw [List.length_take, List.length_drop]; omega
theorem sub_at {t : List (Int × Int)} {i n j : Nat} (h : j < n) : (sub18 t i n)[j]? = t[i + j]? := by
  unfold sub18
  rw [List.getElem?_take, if_pos h, List.getElem?_drop]
theorem sub_take {t : List (Int × Int)} {i n m : Nat} (h : m ≤ n) : (sub18 t i n).take m = sub18 t i m := by
  unfold sub18
  rw [List.take_take, Nat.min_eq_left h]
theorem sub_tune {t : List (Int × Int)} (h : tuneB t = true) (i n : Nat) : tuneB (sub18 t i n) = true := by
  have hp := tuneB_true.1 h
  refine tuneB_true.2 ⟨?_, ?_⟩
  · unfold sub18; rw [List.length_take, List.length_drop]; have := hp.1; omega
  · intro k p hk
    have hkn : k < n := by
      have := (List.getElem?_eq_some_iff.1 hk).1
      unfold sub18 at this; rw [List.length_take] at this; omega
    rw [sub_at hkn] at hk
    obtain ⟨h1, h2, h3⟩ := hp.2 _ p hk
    refine ⟨h1, h2, fun j q hj hq => h3 (i + j) q (by omega) ?_⟩
    rw [sub_at (by omega)] at hq
    exact hq
theorem off_take {l : List (Int × Int)} {m : Nat} (h : 1 ≤ m) : offL (l.take m) = (offL l).take m := by
  unfold offL
  rw [List.map_take]
  congr 1
  cases l with
  | nil => rfl
  | cons a r =>
    cases m with
    | zero => omega
    | succ m => rfl

/-- Parts i and k of n notes are one form. -/
noncomputable def samT (t : List (Int × Int)) (i k n : Nat) : Bool := sameM (sub18 t i n) (sub18 t k n)
theorem samT_is {t : List (Int × Int)} (h : tuneB t = true) {i k n : Nat} : samT t i k n = true ↔ offL (sub18 t i n) = offL (sub18 t k n) := by
  unfold samT sameM
  rw [sub_tune h, sub_tune h, Bool.true_and, Bool.true_and, decide_eq_true_iff]
theorem samT_mono {t : List (Int × Int)} (h : tuneB t = true) {i k n m : Nat} (hs : samT t i k n = true) (hm : m ≤ n) (h1 : 1 ≤ m) : samT t i k m = true := by
  rw [samT_is h] at hs ⊢
  rw [← sub_take hm, ← sub_take hm, off_take h1, off_take h1, hs]
theorem samT_one {t : List (Int × Int)} (h : tuneB t = true) {i k : Nat} (hi : i < t.length) (hk : k < t.length) : samT t i k 1 = true := by
  rw [samT_is h]
  have e : ∀ j, j < t.length → offL (sub18 t j 1) = [(0, 0)] := fun j hj => by
    have e0 : sub18 t j 1 = [t[j]] := by unfold sub18; rw [List.drop_eq_getElem_cons hj]; rfl
    rw [e0]
    simp [offL]
  rw [e i hi, e k hk]

/-- Two parts of n notes are one form. -/
def RepP (t : List (Int × Int)) (n : Nat) : Prop := ∃ i k, i < k ∧ k + n ≤ t.length ∧ samT t i k n = true
theorem rep_mono {t : List (Int × Int)} (h : tuneB t = true) {n m : Nat} (hr : RepP t n) (hm : m ≤ n) (h1 : 1 ≤ m) : RepP t m := by
  obtain ⟨i, k, a, b, c⟩ := hr
  exact ⟨i, k, a, by omega, samT_mono h c hm h1⟩
open Classical in
noncomputable def longN (t : List (Int × Int)) : Nat → Nat
  | 0 => 0
  | c + 1 => if RepP t (c + 1) then c + 1 else longN t c
theorem longN_le (t : List (Int × Int)) : ∀ c, longN t c ≤ c
  | 0 => Nat.le_refl _
  | c + 1 => by
    have ih := longN_le t c
    unfold longN
    split <;> omega
theorem longN_rep (t : List (Int × Int)) : ∀ c, longN t c = 0 ∨ RepP t (longN t c)
  | 0 => Or.inl rfl
  | c + 1 => by
    have ih := longN_rep t c
    unfold longN
    split
    · rename_i h; exact Or.inr h
    · exact ih
theorem longN_max (t : List (Int × Int)) : ∀ c n, longN t c < n → n ≤ c → ¬ RepP t n
  | 0, n, h1, h2 => by omega
  | c + 1, n, h1, h2 => by
    have ih := longN_max t c n
    unfold longN at h1
    split at h1
    · omega
    · rename_i h
      by_cases hn : n = c + 1
      · subst hn; exact h
      · exact ih h1 (by omega)
theorem longN_eq {t : List (Int × Int)} {c r : Nat} (h0 : r ≤ c) (h1 : r = 0 ∨ RepP t r) (h2 : ∀ n, r < n → n ≤ c → ¬ RepP t n) : longN t c = r := by
  have a1 := longN_le t c
  have a2 := longN_rep t c
  have a3 := longN_max t c
  rcases Nat.lt_trichotomy (longN t c) r with h | h | h
  · rcases h1 with h1 | h1
    · omega
    · exact absurd h1 (a3 r h h0)
  · exact h
  · rcases a2 with a2 | a2
    · omega
    · exact absurd a2 (h2 _ h a1)
noncomputable def longI (t : List (Int × Int)) : Int := if tuneB t then ((longN t t.length : Nat) : Int) else -1
theorem longI_yes {t : List (Int × Int)} (h : tuneB t = true) : longI t = ((longN t t.length : Nat) : Int) := by unfold longI; rw [h]; rfl
theorem longI_no {t : List (Int × Int)} (h : tuneB t = false) : longI t = -1 := by unfold longI; rw [h]; rfl
theorem long_ge {t : List (Int × Int)} (h : tuneB t = true) {m : Nat} (h1 : 1 ≤ m) (hm : m ≤ t.length) : m ≤ longN t t.length ↔ RepP t m := by
  constructor
  · intro hle
    rcases longN_rep t t.length with h0 | h0
    · omega
    · exact rep_mono h h0 hle h1
  · intro hr
    by_cases hle : m ≤ longN t t.length
    · exact hle
    · exact absurd hr (longN_max t _ m (by omega) hm)
theorem long_lt {t : List (Int × Int)} (h : 0 < t.length) : longN t t.length < t.length := by
  have a := longN_le t t.length
  rcases longN_rep t t.length with h0 | ⟨i, k, h1, h2, _⟩
  · omega
  · omega
theorem long_pos {t : List (Int × Int)} (ht : tuneB t = true) (h : 1 < t.length) : 1 ≤ longN t t.length :=
  (long_ge ht (Nat.le_refl _) (by omega)).2 ⟨0, 1, by omega, by omega, samT_one ht (by omega) (by omega)⟩

/-- No part ahead of k has the form of part k. -/
noncomputable def freshB (t : List (Int × Int)) (n k : Nat) : Bool := (List.range k).all fun i => !samT t i k n
theorem fresh_true {t : List (Int × Int)} {n k : Nat} : freshB t n k = true ↔ ∀ i, i < k → samT t i k n = false := by
  unfold freshB
  rw [List.all_eq_true]
  constructor
  · intro h i hi; have := h i (List.mem_range.2 hi); simpa using this
  · intro h i hi; have := h i (List.mem_range.1 hi); simp [this]
theorem fresh_false {t : List (Int × Int)} {n k : Nat} : freshB t n k = false ↔ ∃ i, i < k ∧ samT t i k n = true := by
  rw [← Bool.not_eq_true, fresh_true]
  constructor
  · intro h
    refine Classical.byContradiction fun hc => h fun i hi => ?_
    cases hs : samT t i k n with
    | false => rfl
    | true => exact absurd ⟨i, hi, hs⟩ hc
  · rintro ⟨i, hi, hs⟩ h
    have := h i hi
    rw [hs] at this; cases this
noncomputable def cntN (t : List (Int × Int)) (n : Nat) : Nat → Nat
  | 0 => 0
  | c + 1 => cntN t n c + if freshB t n c then 1 else 0
theorem cntN_yes {t : List (Int × Int)} {n c : Nat} (h : freshB t n c = true) : cntN t n (c + 1) = cntN t n c + 1 := by show _ + (if freshB t n c then 1 else 0) = _; rw [h]; rfl
theorem cntN_no {t : List (Int × Int)} {n c : Nat} (h : freshB t n c = false) : cntN t n (c + 1) = cntN t n c := by show _ + (if freshB t n c then 1 else 0) = _; rw [h]; rfl
theorem cntN_le (t : List (Int × Int)) (n : Nat) : ∀ c, cntN t n c ≤ c
  | 0 => Nat.le_refl _
  | c + 1 => by
    have ih := cntN_le t n c
    cases h : freshB t n c with
    | true => rw [cntN_yes h]; omega
    | false => rw [cntN_no h]; omega
theorem cntN_pos (t : List (Int × Int)) (n : Nat) : ∀ c, 1 ≤ cntN t n (c + 1)
  | 0 => by rw [cntN_yes (fresh_true.2 fun i hi => by omega)]; omega
  | c + 1 => by
    have ih := cntN_pos t n c
    have e : cntN t n (c + 1 + 1) = cntN t n (c + 1) + if freshB t n (c + 1) then 1 else 0 := rfl
    omega
theorem cntN_less {t : List (Int × Int)} {n : Nat} : ∀ c, cntN t n c < c ↔ ∃ k, k < c ∧ freshB t n k = false
  | 0 => by constructor
            · intro h; omega
            · rintro ⟨k, hk, _⟩; omega
  | c + 1 => by
    have ih := cntN_less (t := t) (n := n) c
    have hle := cntN_le t n c
    cases h : freshB t n c with
    | true =>
      rw [cntN_yes h]
      constructor
      · intro hl
        obtain ⟨k, hk, hf⟩ := ih.1 (by omega)
        exact ⟨k, by omega, hf⟩
      · rintro ⟨k, hk, hf⟩
        by_cases hkc : k = c
        · subst hkc; rw [h] at hf; cases hf
        · have := ih.2 ⟨k, by omega, hf⟩; omega
    | false =>
      rw [cntN_no h]
      exact ⟨fun _ => ⟨c, by omega, h⟩, fun _ => by omega⟩
noncomputable def countI (t : List (Int × Int)) (n : Int) : Int := if tuneB t = true ∧ (1 ≤ n ∧ n ≤ 40) then ((cntN t n.toNat (t.length + 1 - n.toNat) : Nat) : Int) else -1
theorem countI_yes {t : List (Int × Int)} {n : Nat} (h : tuneB t = true) (h1 : 1 ≤ n ∧ n ≤ 40) : countI t n = ((cntN t n (t.length + 1 - n) : Nat) : Int) := by
  unfold countI
  rw [if_pos ⟨h, by omega⟩, Int.toNat_natCast]
theorem countI_no {t : List (Int × Int)} {n : Int} (h : ¬ (tuneB t = true ∧ (1 ≤ n ∧ n ≤ 40))) : countI t n = -1 := if_neg h
theorem cnt_rep {t : List (Int × Int)} (h : tuneB t = true) {m : Nat} (h1 : 1 ≤ m) (hm : m ≤ t.length) : cntN t m (t.length + 1 - m) < t.length + 1 - m ↔ m ≤ longN t t.length := by
  rw [cntN_less, long_ge h h1 hm]
  constructor
  · rintro ⟨k, hk, hf⟩
    obtain ⟨i, hi, hs⟩ := fresh_false.1 hf
    exact ⟨i, k, hi, by omega, hs⟩
  · rintro ⟨i, k, hi, hk, hs⟩
    exact ⟨k, by omega, fresh_false.2 ⟨i, hi, hs⟩⟩

/-- All notes of a motif, moved to note p, are there. -/
def occK (t m : List (Int × Int)) (p : Int × Int) : Bool := (offL m).all fun q => hasB t (q.1 + p.1, q.2 + p.2)
noncomputable def occI (t m : List (Int × Int)) (k : Int) : Bool := tuneB t && tuneB m && decide (1 ≤ m.length) && decide (0 ≤ k ∧ k < (t.length : Int)) && (match t[k.toNat]? with | some p => occK t m p | none => false)
theorem occI_yes {t m : List (Int × Int)} {k : Nat} {p : Int × Int} (h1 : tuneB t = true) (h2 : tuneB m = true) (h3 : 1 ≤ m.length) (hk : t[k]? = some p) : occI t m k = occK t m p := by
  unfold occI
  rw [h1, h2, decide_eq_true h3, decide_eq_true (show (0 : Int) ≤ (k : Int) ∧ (k : Int) < (t.length : Int) by have := (List.getElem?_eq_some_iff.1 hk).1; omega), Int.toNat_natCast, hk]
  rfl
theorem occI_no {t m : List (Int × Int)} {k : Int} (h : ¬ (tuneB t = true ∧ tuneB m = true ∧ 1 ≤ m.length ∧ (0 ≤ k ∧ k < (t.length : Int)))) : occI t m k = false := by
  unfold occI
  by_cases h1 : tuneB t = true
  · by_cases h2 : tuneB m = true
    · by_cases h3 : 1 ≤ m.length
      · rw [decide_eq_false (fun h4 => h ⟨h1, h2, h3, h4⟩)]; simp
      · rw [decide_eq_false h3]; simp
    · rw [show tuneB m = false by simpa using h2]; simp
  · rw [show tuneB t = false by simpa using h1]; simp
noncomputable def occL (t m : List (Int × Int)) : Nat → List Int
  | 0 => []
  | n + 1 => if occI t m (n : Int) then occL t m n ++ [(n : Int)] else occL t m n
theorem occL_yes {t m : List (Int × Int)} {n : Nat} (h : occI t m (n : Int) = true) : occL t m (n + 1) = occL t m n ++ [(n : Int)] := if_pos h
theorem occL_no {t m : List (Int × Int)} {n : Nat} (h : occI t m (n : Int) = false) : occL t m (n + 1) = occL t m n := if_neg (by rw [h]; simp)
theorem occL_len (t m : List (Int × Int)) : ∀ n, (occL t m n).length ≤ n
  | 0 => Nat.le_refl _
  | n + 1 => by
    have ih := occL_len t m n
    cases h : occI t m (n : Int) with
    | true => rw [occL_yes h, List.length_append]; simp; omega
    | false => rw [occL_no h]; omega
theorem occL_mem (t m : List (Int × Int)) (x : Int) : ∀ n, x ∈ occL t m n ↔ (0 ≤ x ∧ x < (n : Int)) ∧ occI t m x = true
  | 0 => by simp [occL]; intro a b; omega
  | n + 1 => by
    have ih := occL_mem t m x n
    cases h : occI t m (n : Int) with
    | true =>
      rw [occL_yes h, List.mem_append, ih, List.mem_singleton]
      constructor
      · rintro (⟨a, b⟩ | rfl)
        · exact ⟨by omega, b⟩
        · exact ⟨by omega, h⟩
      · rintro ⟨a, b⟩
        by_cases hx : x = (n : Int)
        · exact Or.inr hx
        · exact Or.inl ⟨by omega, b⟩
    | false =>
      rw [occL_no h, ih]
      constructor
      · rintro ⟨a, b⟩; exact ⟨by omega, b⟩
      · rintro ⟨a, b⟩
        refine ⟨?_, b⟩
        by_cases hx : x = (n : Int)
        · subst hx; rw [h] at b; cases b
        · omega
theorem occ_part {t : List (Int × Int)} (h : tuneB t = true) {f m : Nat} (h1 : 1 ≤ m) (hm : f + m ≤ t.length) : occI t (sub18 t f m) f = true := by
  obtain ⟨p, hp⟩ : ∃ p, t[f]? = some p := ⟨_, List.getElem?_eq_getElem (by omega)⟩
  rw [occI_yes h (sub_tune h f m) (by rw [sub_len hm]; exact h1) hp]
  unfold occK
  rw [List.all_eq_true]
  intro q hq
  obtain ⟨j, hj⟩ := List.mem_iff_getElem?.1 hq
  have hjl := (List.getElem?_eq_some_iff.1 hj).1
  rw [offL_len, sub_len hm] at hjl
  obtain ⟨x, hx⟩ : ∃ x, t[f + j]? = some x := ⟨_, List.getElem?_eq_getElem (by omega)⟩
  have h0 : (sub18 t f m)[0]? = some p := by rw [sub_at (by omega)]; exact hp
  have hxj : (sub18 t f m)[j]? = some x := by rw [sub_at hjl]; exact hx
  rw [offL_at h0 hxj] at hj
  obtain rfl := Option.some.inj hj
  unfold hasB
  refine decide_eq_true ?_
  have e : ((x.1 - p.1) + p.1, (x.2 - p.2) + p.2) = x := by
    obtain ⟨a, b⟩ := x
    simp
  show ((x.1 - p.1) + p.1, (x.2 - p.2) + p.2) ∈ t
  rw [e]
  exact List.mem_of_getElem? hx
theorem occ_moved {t m q : List (Int × Int)} (h1 : tuneB m = true) (h2 : tuneB q = true) (ho : offL q = offL m) (k : Int) : occI t q k = occI t m k := by
  have hl : q.length = m.length := by rw [← offL_len q, ← offL_len m, ho]
  unfold occI occK
  rw [h1, h2, ho, hl]
theorem occL_moved {t m q : List (Int × Int)} (h1 : tuneB m = true) (h2 : tuneB q = true) (ho : offL q = offL m) : ∀ n, occL t q n = occL t m n
  | 0 => rfl
  | n + 1 => by
    have ih := occL_moved (t := t) h1 h2 ho n
    cases h : occI t m (n : Int) with
    | true => rw [occL_yes h, occL_yes (by rw [occ_moved h1 h2 ho]; exact h), ih]
    | false => rw [occL_no h, occL_no (by rw [occ_moved h1 h2 ho]; exact h), ih]
noncomputable def occsM (t m : List (Int × Int)) : List Int := occL t m t.length
theorem occsM_len (t m : List (Int × Int)) : (occsM t m).length ≤ t.length := occL_len t m _

noncomputable def partM (t : List (Int × Int)) (f n : Int) : List (Int × Int) × Bool := if tuneB t = true ∧ (0 ≤ f ∧ f ≤ (t.length : Int)) ∧ (0 ≤ n ∧ n ≤ (t.length : Int) - f) then (sub18 t f.toNat n.toNat, true) else ([], false)
theorem partM_yes {t : List (Int × Int)} {f n : Nat} (h : tuneB t = true) (hl : f + n ≤ t.length) : partM t f n = (sub18 t f n, true) := by
  unfold partM
  rw [if_pos ⟨h, by omega, by omega⟩, Int.toNat_natCast, Int.toNat_natCast]
theorem partM_no {t : List (Int × Int)} {f n : Int} (h : ¬ (tuneB t = true ∧ (0 ≤ f ∧ f ≤ (t.length : Int)) ∧ (0 ≤ n ∧ n ≤ (t.length : Int) - f))) : partM t f n = ([], false) := if_neg h
theorem partM_len (t : List (Int × Int)) (f n : Int) : (partM t f n).1.length ≤ t.length := by
  unfold partM
  split
  · unfold sub18; rw [List.length_take, List.length_drop]; omega
  · exact Nat.zero_le _
end Go.Proofs.Ytglehmffmailkaa
