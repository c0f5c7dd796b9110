/- The pairs too close as a list of rows, the closest pins, the quiet angle: words for the model's answers. No program. -/
import Derived.Test.YtemhmbaacpfnaaaSeamMath
namespace Go.Proofs.Ytemhmbaacpfnaaa
open Go.ChangeShapes Go.WideShapes Go.ChangeAt Go.RowKit

def gapOk (s a b : Int) : Prop := (1 ≤ s ∧ s ≤ 1000) ∧ (0 ≤ a ∧ a ≤ s - 1) ∧ (0 ≤ b ∧ b ≤ s - 1)
instance (s a b : Int) : Decidable (gapOk s a b) := by unfold gapOk; infer_instance
def gapM (a b s : Int) : Int := if gapOk s a b then gapG s a b else -1

/-! ### the pairs too close -/
def closeK (s r : Int) (l : List (Int × Int)) (i k : Nat) : Bool := match l[i]?, l[k]? with
  | some p, some q => closeF s r p q
  | _, _ => false
theorem closeK_at {s r : Int} {l : List (Int × Int)} {i k : Nat} {p q : Int × Int} (hp : l[i]? = some p) (hq : l[k]? = some q) : closeK s r l i k = closeF s r p q := by unfold closeK; rw [hp, hq]
theorem closeK_true {s r : Int} {l : List (Int × Int)} {i k : Nat} (h : closeK s r l i k = true) : ∃ p q, l[i]? = some p ∧ l[k]? = some q ∧ p.1 = q.1 ∧ gapG s p.2 q.2 < r := by
  unfold closeK at h
  split at h
  · rename_i p q hp hq
    have := of_decide_eq_true h
    exact ⟨p, q, hp, hq, this.1, this.2⟩
  · cases h
def rowN (s r : Int) (l : List (Int × Int)) (i m : Nat) : List (List Int) := ((List.range m).filter fun k : Nat => decide (i < k) && closeK s r l i k).map fun k : Nat => [(i : Int), (k : Int)]
def tooN (s r : Int) (l : List (Int × Int)) (i : Nat) : List (List Int) := (List.range i).flatMap fun j => rowN s r l j l.length
theorem rowN_succ (s r : Int) (l : List (Int × Int)) (i m : Nat) : rowN s r l i (m + 1) = rowN s r l i m ++ (if i < m ∧ closeK s r l i m = true then [[(i : Int), (m : Int)]] else []) := by
  unfold rowN
  rw [List.range_succ, List.filter_append, List.map_append]
  congr 1
  by_cases h : i < m ∧ closeK s r l i m = true
  · rw [if_pos h]; simp [h.1, h.2]
  · rw [if_neg h]
    have : (decide (i < m) && closeK s r l i m) = false := by
      rw [← Bool.not_eq_true, Bool.and_eq_true, decide_eq_true_eq]; exact h
    simp [this]
theorem rowN_yes {s r : Int} {l : List (Int × Int)} {i m : Nat} (h : i < m) (hc : closeK s r l i m = true) : rowN s r l i (m + 1) = rowN s r l i m ++ [[(i : Int), (m : Int)]] := by rw [rowN_succ, if_pos ⟨h, hc⟩]
theorem rowN_no {s r : Int} {l : List (Int × Int)} {i m : Nat} (hc : ¬ closeK s r l i m = true) : rowN s r l i (m + 1) = rowN s r l i m := by rw [rowN_succ, if_neg fun h => hc h.2, List.append_nil]
theorem rowN_low (s r : Int) (l : List (Int × Int)) (i : Nat) {m : Nat} (h : m ≤ i + 1) : rowN s r l i m = [] := by
  unfold rowN
  rw [List.map_eq_nil_iff, List.filter_eq_nil_iff]
  intro k hk
  have := List.mem_range.1 hk
  have h2 : decide (i < k) = false := decide_eq_false (by omega)
  simp [h2]
theorem tooN_zero (s r : Int) (l : List (Int × Int)) : tooN s r l 0 = [] := rfl
theorem tooN_succ (s r : Int) (l : List (Int × Int)) (i : Nat) : tooN s r l (i + 1) = tooN s r l i ++ rowN s r l i l.length := by
  unfold tooN
  rw [List.range_succ, List.flatMap_append]; simp
theorem rowN_mem {s r : Int} {l : List (Int × Int)} {i m : Nat} {x : List Int} (h : x ∈ rowN s r l i m) : ∃ k : Nat, x = [(i : Int), (k : Int)] ∧ i < k ∧ k < m ∧ closeK s r l i k = true := by
  obtain ⟨k, hk, rfl⟩ := List.mem_map.1 h
  obtain ⟨h1, h2⟩ := List.mem_filter.1 hk
  rw [Bool.and_eq_true, decide_eq_true_eq] at h2
  exact ⟨k, rfl, h2.1, List.mem_range.1 h1, h2.2⟩
theorem tooN_mem {s r : Int} {l : List (Int × Int)} {n : Nat} {x : List Int} (h : x ∈ tooN s r l n) : ∃ i k : Nat, x = [(i : Int), (k : Int)] ∧ i < k ∧ k < l.length ∧ i < n ∧ closeK s r l i k = true := by
  obtain ⟨i, hi, hx⟩ := List.mem_flatMap.1 h
  obtain ⟨k, e, h1, h2, h3⟩ := rowN_mem hx
  exact ⟨i, k, e, h1, h2, List.mem_range.1 hi, h3⟩
theorem rowN_len {s r : Int} {l : List (Int × Int)} {i : Nat} {p : Int × Int} (hp : l[i]? = some p) : ∀ m, m ≤ l.length → (rowN s r l i m).length = (((l.take m).drop (i + 1)).filter (closeF s r p)).length
  | 0, _ => by simp [rowN]
  | m + 1, hm => by
    have ih := rowN_len (s := s) (r := r) hp m (by omega)
    obtain ⟨q, hq⟩ : ∃ q, l[m]? = some q := ⟨_, List.getElem?_eq_getElem (by omega)⟩
    have ht : l.take (m + 1) = l.take m ++ [q] := by rw [List.take_add_one, hq]; rfl
    have hlen : (l.take m).length = m := by rw [List.length_take]; omega
    rw [rowN_succ, List.length_append, ih, ht, closeK_at hp hq]
    by_cases him : i < m
    · rw [List.drop_append_of_le_length (by omega), List.filter_append, List.length_append]
      congr 1
      by_cases hc : closeF s r p q = true <;> simp [him, hc]
    · have e1 : (l.take m).drop (i + 1) = [] := List.drop_eq_nil_of_le (by omega)
      have e2 : (l.take m ++ [q]).drop (i + 1) = [] := List.drop_eq_nil_of_le (by rw [List.length_append, List.length_singleton]; omega)
      rw [e1, e2, if_neg (fun h => him h.1)]; rfl
theorem tooN_len (s r : Int) (l : List (Int × Int)) : ∀ n, n ≤ l.length → (tooN s r l n).length + pairsN (closeF s r) (l.drop n) = pairsN (closeF s r) l
  | 0, _ => by simp [tooN]
  | n + 1, hn => by
    have ih := tooN_len s r l n (by omega)
    have hlt : n < l.length := by omega
    have hd : l.drop n = l[n] :: l.drop (n + 1) := List.drop_eq_getElem_cons hlt
    have hr := rowN_len (s := s) (r := r) (List.getElem?_eq_getElem hlt) l.length (Nat.le_refl _)
    rw [List.take_length] at hr
    rw [hd, show pairsN (closeF s r) (l[n] :: l.drop (n + 1)) = ((l.drop (n + 1)).filter (closeF s r l[n])).length + pairsN (closeF s r) (l.drop (n + 1)) from rfl] at ih
    rw [tooN_succ, List.length_append, hr]
    omega
theorem tooN_all (s r : Int) (l : List (Int × Int)) : (tooN s r l l.length).length = pairsN (closeF s r) l := by
  have := tooN_len s r l l.length (Nat.le_refl _)
  rw [List.drop_length] at this
  simpa [pairsN] using this
open Classical in
noncomputable def tooM (s t : Int) (l : List (Int × Int)) (r : Int) : List (List Int) := if cylB s t l = true ∧ 1 ≤ r ∧ r ≤ 96 then tooN s r l l.length else []
theorem tooM_yes {s t r : Int} {l : List (Int × Int)} (h1 : cylB s t l = true) (h2 : 1 ≤ r ∧ r ≤ 96) : tooM s t l r = tooN s r l l.length := if_pos ⟨h1, h2⟩
theorem tooM_no {s t r : Int} {l : List (Int × Int)} (h : ¬ (cylB s t l = true ∧ 1 ≤ r ∧ r ≤ 96)) : tooM s t l r = [] := if_neg h
theorem pairsN_le (f : Int × Int → Int × Int → Bool) : ∀ l : List (Int × Int), pairsN f l * 2 ≤ l.length * (l.length - 1)
  | [] => by simp [pairsN]
  | x :: r => by
    have ih := pairsN_le f r
    have h1 := List.length_filter_le (f x) r
    unfold pairsN
    rw [List.length_cons, Nat.add_sub_cancel]
    rcases Nat.eq_zero_or_pos r.length with h0 | h0
    · rw [h0] at ih h1 ⊢; omega
    · obtain ⟨n, hn⟩ : ∃ n, r.length = n + 1 := ⟨r.length - 1, by omega⟩
      rw [hn, Nat.add_sub_cancel] at ih
      rw [hn] at h1 ⊢
      have e : (n + 1 + 1) * (n + 1) = (n + 1) * n + (n + 1) * 2 := by rw [Nat.mul_comm (n + 1 + 1), ← Nat.mul_add]
      rw [e]; omega
theorem tooM_len {s t r : Int} {l : List (Int × Int)} : (tooM s t l r).length ≤ 5000 := by
  unfold tooM
  split
  · rename_i h
    have h1 := (cylB_true.1 h.1).2.2.1
    have h2 := pairsN_le (closeF s r) l
    rw [tooN_all]
    have h3 : l.length * (l.length - 1) ≤ 100 * 99 := Nat.mul_le_mul h1 (by omega)
    omega
  · simp
theorem tooM_two {s t r : Int} {l : List (Int × Int)} {x : List Int} (h : x ∈ tooM s t l r) : ∃ i k p q, x = [(i : Nat), (k : Nat)].map (fun n : Nat => (n : Int)) ∧ i < k ∧ k < l.length ∧ l[i]? = some p ∧ l[k]? = some q ∧ p.1 = q.1 ∧ gapG s p.2 q.2 < r := by
  unfold tooM at h
  split at h
  · obtain ⟨i, k, e, h1, h2, -, h3⟩ := tooN_mem h
    obtain ⟨p, q, hp, hq, h4, h5⟩ := closeK_true h3
    exact ⟨i, k, p, q, by rw [e]; rfl, h1, h2, hp, hq, h4, h5⟩
  · cases h
noncomputable def playM (s t : Int) (l : List (Int × Int)) (r : Int) : Bool := cylB s t l && decide (1 ≤ r ∧ r ≤ 96) && (tooM s t l r).isEmpty
def onlyP (l : List (Int × Int)) (r : Int) (ll : List (List Int)) : Prop := ∀ (i k : Nat) (p q : Int × Int), [(i : Int), (k : Int)] ∈ ll → l[i]? = some p → l[k]? = some q → r ≤ q.2 - p.2
open Classical in
noncomputable def onlyM (s t : Int) (l : List (Int × Int)) (r : Int) : Bool := decide (tooM s t l r ≠ [] ∧ onlyP l r (tooM s t l r))

/-! ### the closest pins -/
open Classical in
noncomputable def closN (s : Int) (l : List (Int × Int)) : Int := if h : ∃ n, Closest s l n then Classical.choose h else 0
theorem closN_eq {s n : Int} {l : List (Int × Int)} (h : Closest s l n) : closN s l = n := by
  unfold closN
  rw [dif_pos ⟨n, h⟩]
  exact closest_unique (Classical.choose_spec (⟨n, h⟩ : ∃ n, Closest s l n)) h
noncomputable def closM (s t : Int) (l : List (Int × Int)) : Int := if cylB s t l = true then closN s l else -1
/-- The pairs (i, k), k < i, seen so far: all of i' < i, and of i those of k' < k. -/
def Near (s : Int) (l : List (Int × Int)) (i k : Nat) (n : Int) : Prop :=
  n ≤ s ∧ (∀ (a b : Nat) (p q : Int × Int), (a < i ∨ (a = i ∧ b < k)) → b < a → l[a]? = some p → l[b]? = some q → p.1 = q.1 → n ≤ gapG s p.2 q.2) ∧
    (n = s ∨ ∃ (a b : Nat) (p q : Int × Int), b < a ∧ l[a]? = some p ∧ l[b]? = some q ∧ p.1 = q.1 ∧ gapG s p.2 q.2 = n)
theorem near_0 (s : Int) (l : List (Int × Int)) : Near s l 0 0 s := ⟨Int.le_refl _, fun a b p q h hb => by omega, Or.inl rfl⟩
theorem near_row {s n : Int} {l : List (Int × Int)} {i : Nat} (h : Near s l i i n) : Near s l (i + 1) 0 n :=
  ⟨h.1, fun a b p q hab hb hp hq ht => h.2.1 a b p q (by omega) hb hp hq ht, h.2.2⟩
theorem near_skip {s n : Int} {l : List (Int × Int)} {i k : Nat} {p q : Int × Int} (h : Near s l i k n) (hp : l[i]? = some p) (hq : l[k]? = some q) (hne : ¬ p.1 = q.1) : Near s l i (k + 1) n :=
  ⟨h.1, fun a b p' q' hab hb hp' hq' ht => by
    by_cases e : a = i ∧ b = k
    · obtain ⟨rfl, rfl⟩ := e
      rw [hp] at hp'; rw [hq] at hq'
      obtain rfl := Option.some.inj hp'; obtain rfl := Option.some.inj hq'
      exact absurd ht hne
    · exact h.2.1 a b p' q' (by omega) hb hp' hq' ht, h.2.2⟩
theorem near_take {s n : Int} {l : List (Int × Int)} {i k : Nat} {p q : Int × Int} (h : Near s l i k n) (hki : k < i) (hp : l[i]? = some p) (hq : l[k]? = some q) (he : p.1 = q.1) : Near s l i (k + 1) (min n (gapG s p.2 q.2)) := by
  have h1 := h.1
  refine ⟨by omega, fun a b p' q' hab hb hp' hq' ht => ?_, ?_⟩
  · by_cases e : a = i ∧ b = k
    · obtain ⟨rfl, rfl⟩ := e
      rw [hp] at hp'; rw [hq] at hq'
      obtain rfl := Option.some.inj hp'; obtain rfl := Option.some.inj hq'
      omega
    · have := h.2.1 a b p' q' (by omega) hb hp' hq' ht
      omega
  · by_cases hm : gapG s p.2 q.2 ≤ n
    · exact Or.inr ⟨i, k, p, q, hki, hp, hq, he, by omega⟩
    · have e : min n (gapG s p.2 q.2) = n := by omega
      rw [e]; exact h.2.2
theorem near_closest {s n : Int} {l : List (Int × Int)} (hn : l.Nodup) (h : Near s l l.length 0 n) : Closest s l n := by
  refine ⟨h.1, fun x hx y hy hne ht => ?_, ?_⟩
  · obtain ⟨a, ha⟩ := List.mem_iff_getElem?.1 hx
    obtain ⟨b, hb⟩ := List.mem_iff_getElem?.1 hy
    have h1 := (List.getElem?_eq_some_iff.1 ha).1
    have h2 := (List.getElem?_eq_some_iff.1 hb).1
    rcases Nat.lt_trichotomy a b with hab | rfl | hab
    · rw [gapG_symm]; exact h.2.1 b a y x (Or.inl h2) hab hb ha ht.symm
    · rw [ha] at hb; exact absurd (Option.some.inj hb) hne
    · exact h.2.1 a b x y (Or.inl h1) hab ha hb ht
  · rcases h.2.2 with e | ⟨a, b, p, q, hba, hp, hq, ht, e⟩
    · exact Or.inl e
    · refine Or.inr ⟨p, List.mem_of_getElem? hp, q, List.mem_of_getElem? hq, fun k => ?_, ht, e⟩
      obtain ⟨h1, e1⟩ := List.getElem?_eq_some_iff.1 hp
      obtain ⟨h2, e2⟩ := List.getElem?_eq_some_iff.1 hq
      exact List.pairwise_iff_getElem.1 hn b a h2 h1 hba (by rw [e1, e2, k])

/-! ### the quiet angle -/
/-- n angles from a on have no pins, no more, or all s. -/
def IsRun (s : Int) (l : List (Int × Int)) (a : Int) (n : Nat) : Prop := (n : Int) ≤ s ∧ (∀ j : Nat, j < n → pinsL l ((a + (j : Int)) % s) = []) ∧ ((n : Int) = s ∨ ¬ pinsL l ((a + (n : Int)) % s) = [])
theorem run_unique {s a : Int} {l : List (Int × Int)} {n m : Nat} (h : IsRun s l a n) (k : IsRun s l a m) : n = m := by
  have key : ∀ {n m : Nat}, IsRun s l a n → IsRun s l a m → ¬ n < m := fun {n m} h k hlt => by
    rcases h.2.2 with e | e
    · have := k.1; omega
    · exact e (k.2.1 n hlt)
  have := key h k; have := key k h; omega
/-- The first of the longest runs among the angles ahead of b; -1 where none has a run. -/
def Quiet (s : Int) (l : List (Int × Int)) (b : Int) (q : Int) (n : Nat) : Prop :=
  (∀ (a : Int) (m : Nat), 0 ≤ a → a < b → IsRun s l a m → m ≤ n ∧ (a < q → m < n)) ∧ ((q = -1 ∧ n = 0) ∨ (0 ≤ q ∧ q < b ∧ 0 < n ∧ IsRun s l q n))
theorem quiet_0 (s : Int) (l : List (Int × Int)) : Quiet s l 0 (-1) 0 := ⟨fun a m h h' => by omega, Or.inl ⟨rfl, rfl⟩⟩
theorem quiet_more {s b q : Int} {l : List (Int × Int)} {n m : Nat} (h : Quiet s l b q n) (hb : 0 ≤ b) (hr : IsRun s l b m) (hm : n < m) : Quiet s l (b + 1) b m := by
  refine ⟨fun a k h0 h1 hk => ?_, Or.inr ⟨hb, by omega, by omega, hr⟩⟩
  by_cases e : a = b
  · subst e; have := run_unique hr hk; omega
  · have := (h.1 a k h0 (by omega) hk).1; omega
theorem quiet_same {s b q : Int} {l : List (Int × Int)} {n m : Nat} (h : Quiet s l b q n) (hr : IsRun s l b m) (hm : ¬ n < m) : Quiet s l (b + 1) q n := by
  refine ⟨fun a k h0 h1 hk => ?_, ?_⟩
  · by_cases e : a = b
    · subst e
      have := run_unique hr hk
      rcases h.2 with ⟨rfl, rfl⟩ | ⟨h2, h3, -, -⟩ <;> omega
    · exact h.1 a k h0 (by omega) hk
  · rcases h.2 with e | ⟨h2, h3, h4, h5⟩
    · exact Or.inl e
    · exact Or.inr ⟨h2, by omega, h4, h5⟩
theorem quiet_unique {s b q q' : Int} {l : List (Int × Int)} {n n' : Nat} (h : Quiet s l b q n) (k : Quiet s l b q' n') : q = q' := by
  have key : ∀ {q q' : Int} {n n' : Nat}, Quiet s l b q n → Quiet s l b q' n' → ¬ q < q' := fun {q q' n n'} h k hlt => by
    rcases h.2 with ⟨rfl, rfl⟩ | ⟨h2, h3, h4, h5⟩
    · rcases k.2 with ⟨rfl, _⟩ | ⟨k2, k3, k4, k5⟩
      · omega
      · have := (h.1 q' n' k2 k3 k5).1; omega
    · have h6 := (k.1 q n h2 h3 h5).2 hlt
      rcases k.2 with ⟨rfl, _⟩ | ⟨k2, k3, k4, k5⟩
      · omega
      · have := (h.1 q' n' k2 k3 k5).1; omega
  have h1 := key h k; have h2 := key k h; omega
open Classical in
noncomputable def quietN (s : Int) (l : List (Int × Int)) : Int := if h : ∃ q n, Quiet s l s q n then Classical.choose h else 0
theorem quietN_eq {s q : Int} {l : List (Int × Int)} {n : Nat} (h : Quiet s l s q n) : quietN s l = q := by
  unfold quietN
  rw [dif_pos ⟨q, n, h⟩]
  obtain ⟨m, hm⟩ := Classical.choose_spec (⟨q, n, h⟩ : ∃ q n, Quiet s l s q n)
  exact quiet_unique hm h
noncomputable def quietM (s t : Int) (l : List (Int × Int)) : Int := if cylB s t l = true then (if l = [] then 0 else quietN s l) else -1
end Go.Proofs.Ytemhmbaacpfnaaa
