/- What FnPrograms asks of the answers of chapter 9: pure. No condition. -/
import Derived.Test.YtcbdoldcdgaooaaMostSpec
import Derived.Test.YtcbdoldcdgaooaaNeedsMath
namespace Go.Proofs.Ytcbdoldcdgaooaa

/-! ### sets as rows of indices -/
theorem setTo_asc {n : Int} {c : List Int} (h1 : ∀ x ∈ c, 0 ≤ x ∧ x ≤ n) (h2 : c.Pairwise (· < ·)) : ∀ k, k ≤ c.length → setTo n c k = some (unionL (c.take k))
  | 0, _ => by simp [setTo, unionL]
  | k + 1, hk => by
    have ih := setTo_asc h1 h2 k (by omega)
    have hx : c[k]? = some c[k] := List.getElem?_eq_getElem (by omega)
    have hs := setTo_step hx ih (h1 _ (List.getElem_mem _)) (fun y h0 hy => by
      obtain ⟨hl, rfl⟩ := List.getElem?_eq_some_iff.1 hy
      exact List.pairwise_iff_getElem.1 h2 (k - 1) k hl (by omega) (by omega))
    have e : c.take (k + 1) = c.take k ++ [c[k]] := by rw [List.take_add_one, hx]; rfl
    rw [hs, e]
    unfold unionL
    rw [List.foldl_append]; rfl
theorem setTo_whole {n : Int} {c : List Int} (h1 : ∀ x ∈ c, 0 ≤ x ∧ x ≤ n) (h2 : c.Pairwise (· < ·)) : setTo n c c.length = some (unionL c) := by
  rw [setTo_asc h1 h2 _ (Nat.le_refl _), List.take_length]
theorem bits_union : ∀ S : Fin 256, unionL (bitsTo S.1 8) = S.1 := by decide +kernel
theorem bits_asc : ∀ S : Fin 256, (bitsTo S.1 8).Pairwise (· < ·) := by decide +kernel
theorem bits_mem {S : Nat} {x : Int} (h : x ∈ bitsTo S 8) : ∃ i : Nat, x = (i : Int) ∧ i < 8 ∧ S.testBit i = true := by
  unfold bitsTo at h
  obtain ⟨i, hi, rfl⟩ := List.mem_map.1 h
  obtain ⟨h1, h2⟩ := List.mem_filter.1 hi
  exact ⟨i, rfl, List.mem_range.1 h1, h2⟩
theorem mem_bits {S i : Nat} (h : i < 8) (hb : S.testBit i = true) : (i : Int) ∈ bitsTo S 8 := by
  unfold bitsTo; exact List.mem_map.2 ⟨i, List.mem_filter.2 ⟨List.mem_range.2 h, hb⟩, rfl⟩
/-- The set that is read from the row of a set. -/
theorem set_of_bits {S N : Nat} (hN : N ≤ 8) (hS : S < 2 ^ N) : setTo ((N : Int) - 1) (bitsTo S 8) (bitsTo S 8).length = some S := by
  have h8 : S < 256 := Nat.lt_of_lt_of_le hS (Nat.pow_le_pow_right (by omega) hN)
  rw [setTo_whole (fun x hx => ?_) (bits_asc ⟨S, h8⟩), bits_union ⟨S, h8⟩]
  obtain ⟨i, rfl, -, hb⟩ := bits_mem hx
  have : 2 ^ i ≤ S := Nat.ge_two_pow_of_testBit hb
  have hi : i < N := (Nat.pow_lt_pow_iff_right (by omega : 1 < 2)).1 (Nat.lt_of_le_of_lt this hS)
  omega

/-! ### the teeth of a larger set are no fewer -/
theorem needSet_mono {r : Int} {ll : List (List (Int × Int))} {S T : Nat} (h : ∀ i, S.testBit i = true → T.testBit i = true) (p : Int) : ∀ k, needSet r ll S k p ≤ needSet r ll T k p
  | 0 => by simp [needSet]
  | k + 1 => by
    have ih := needSet_mono h p k (r := r) (ll := ll)
    cases hk : ll[k]? with
    | none => unfold needSet; rw [hk]; exact ih
    | some t =>
      cases hs : S.testBit k with
      | false =>
        rw [needSet_out hk hs]
        cases ht : T.testBit k with
        | false => rw [needSet_out hk ht]; exact ih
        | true => rw [needSet_in hk ht]; omega
      | true => rw [needSet_in hk hs, needSet_in hk (h k hs)]; omega
theorem sum_mono {f g : Nat → Int} : ∀ l : List Nat, (∀ x ∈ l, f x ≤ g x) → (l.map f).sum ≤ (l.map g).sum
  | [], _ => by simp
  | x :: l, h => by
    have h1 := h x (by simp)
    have h2 := sum_mono l fun y hy => h y (List.mem_cons_of_mem _ hy)
    simp only [List.map_cons, List.sum_cons]; omega
theorem allS_mono {r : Int} {ll : List (List (Int × Int))} {S T : Nat} (h : ∀ i, S.testBit i = true → T.testBit i = true) : allS r ll S ≤ allS r ll T := by
  unfold allS needSL
  exact sum_mono _ fun p _ => by have := needSet_mono (r := r) (ll := ll) h (p : Int) ll.length; omega
theorem needSet_empty {r : Int} {ll : List (List (Int × Int))} (p : Int) : ∀ k, needSet r ll 0 k p = 0
  | 0 => by simp [needSet]
  | k + 1 => by
    have ih := needSet_empty p k (r := r) (ll := ll)
    cases hk : ll[k]? with
    | none => unfold needSet; rw [hk]; exact ih
    | some t => rw [needSet_out hk (by simp)]; exact ih
theorem allS_empty (r : Int) (ll : List (List (Int × Int))) : allS r ll 0 = 0 := by
  unfold allS needSL
  have h := sum_mono (f := fun p : Nat => ((needSet r ll 0 ll.length (p : Int) : Nat) : Int)) (g := fun _ => 0) (List.range 61) (fun p _ => by rw [needSet_empty]; simp)
  have h' := sum_mono (g := fun p : Nat => ((needSet r ll 0 ll.length (p : Int) : Nat) : Int)) (f := fun _ => 0) (List.range 61) (fun p _ => by rw [needSet_empty]; simp)
  simp only [List.map_const', List.sum_replicate_int, Int.mul_zero] at h h'
  omega

/-! ### the best set -/
theorem mostTo_is (r : Int) (ll : List (List (Int × Int))) (teeth : Int) (k : Nat) : mostTo r ll teeth k = ([], 0) ∨ ∃ S, 1 ≤ S ∧ S ≤ k ∧ mostTo r ll teeth k = (bitsTo S 8, allS r ll S) ∧ allS r ll S ≤ teeth := by
  induction k with
  | zero => exact Or.inl rfl
  | succ k ih =>
    rw [mostTo_succ]
    generalize mostTo r ll teeth k = st at *
    have keep : st = ([], 0) ∨ ∃ S, 1 ≤ S ∧ S ≤ k + 1 ∧ st = (bitsTo S 8, allS r ll S) ∧ allS r ll S ≤ teeth := ih.imp id fun ⟨S, a, b, c, d⟩ => ⟨S, a, Nat.le_succ_of_le b, c, d⟩
    by_cases h : teeth < allS r ll (k + 1) ∨ (bitsTo (k + 1) 8).length < st.1.length
    · rw [mostStep_skip h]; exact keep
    · by_cases h2 : st.1.length < (bitsTo (k + 1) 8).length ∨ allS r ll (k + 1) < st.2 ∨ (allS r ll (k + 1) = st.2 ∧ rowLess (bitsTo (k + 1) 8) st.1 = true)
      · rw [mostStep_take h h2]
        exact Or.inr ⟨k + 1, Nat.succ_le_succ (Nat.zero_le _), Nat.le_refl _, rfl, Int.not_lt.1 fun q => h (Or.inl q)⟩
      · rw [mostStep_keep h h2]; exact keep
theorem best_step {n n0 teeth aT : Int} {lT l lb : Nat} {less : Prop} (hT : aT ≤ teeth → lT < lb ∨ (lT = lb ∧ n0 ≤ aT)) (h3 : aT ≤ teeth) (h : ¬ (teeth < n ∨ l < lb)) (h4 : lb < l ∨ n < n0 ∨ (n = n0 ∧ less)) : lT < l ∨ (lT = l ∧ n ≤ aT) := by
  have q := hT h3
  have h5 : lb < l ∨ n ≤ n0 := h4.imp id fun q => q.elim (fun q => by omega) fun q => by omega
  omega
theorem best_last {n n0 teeth : Int} {l lb : Nat} {less : Prop} (h : ¬ (teeth < n ∨ l < lb)) (h4 : ¬ (lb < l ∨ n < n0 ∨ (n = n0 ∧ less))) : l < lb ∨ (l = lb ∧ n0 ≤ n) := by
  have n1 : ¬ l < lb := fun q => h (Or.inr q)
  have n2 : ¬ lb < l := fun q => h4 (Or.inl q)
  have n3 : ¬ n < n0 := fun q => h4 (Or.inr (Or.inl q))
  omega
theorem mostTo_best (r : Int) (ll : List (List (Int × Int))) (teeth : Int) (k T : Nat) (h1 : 1 ≤ T) (h2 : T ≤ k) (h3 : allS r ll T ≤ teeth) :
    (bitsTo T 8).length < (mostTo r ll teeth k).1.length ∨ ((bitsTo T 8).length = (mostTo r ll teeth k).1.length ∧ (mostTo r ll teeth k).2 ≤ allS r ll T) := by
  induction k with
  | zero => omega
  | succ k ih =>
    rw [mostTo_succ]
    generalize mostTo r ll teeth k = st at *
    by_cases h : teeth < allS r ll (k + 1) ∨ (bitsTo (k + 1) 8).length < st.1.length
    · rw [mostStep_skip h]
      by_cases hT : T ≤ k
      · exact ih hT
      · obtain rfl : T = k + 1 := by omega
        exact h.elim (fun q => absurd h3 (Int.not_le.2 q)) Or.inl
    · by_cases h4 : st.1.length < (bitsTo (k + 1) 8).length ∨ allS r ll (k + 1) < st.2 ∨ (allS r ll (k + 1) = st.2 ∧ rowLess (bitsTo (k + 1) 8) st.1 = true)
      · rw [mostStep_take h h4]
        by_cases hT : T ≤ k
        · exact best_step (fun _ => ih hT) h3 h h4
        · obtain rfl : T = k + 1 := by omega
          exact Or.inr ⟨rfl, Int.le_refl _⟩
      · rw [mostStep_keep h h4]
        by_cases hT : T ≤ k
        · exact ih hT
        · obtain rfl : T = k + 1 := by omega
          exact best_last h h4
end Go.Proofs.Ytcbdoldcdgaooaa
