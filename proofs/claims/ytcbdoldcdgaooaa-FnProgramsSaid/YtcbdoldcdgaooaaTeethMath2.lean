/- What FnTeeth asks of chapter 5's models: the comb with the teeth needed, one tooth less, the longest rest. -/
import Derived.Test.YtcbdoldcdgaooaaTeethMath
namespace Go.Proofs.Ytcbdoldcdgaooaa
open Go.ChangeShapes Go.WideShapes Go.ChangeAt Go.RowKit

def hits (x : Int) (c : List Int) : Nat := (c.filter fun y => decide (y = x)).length
theorem hits_append (x : Int) (a b : List Int) : hits x (a ++ b) = hits x a + hits x b := by unfold hits; rw [List.filter_append, List.length_append]
theorem hits_rep (x y : Int) : ∀ n : Nat, hits x (List.replicate n y) = if y = x then n else 0
  | 0 => by simp [hits]
  | n + 1 => by
    have ih := hits_rep x y n
    unfold hits at ih ⊢
    rw [List.replicate_succ]
    by_cases h : y = x
    · rw [List.filter_cons_of_pos (p := fun y => decide (y = x)) (decide_eq_true h), List.length_cons, ih, if_pos h, if_pos h]
    · rw [List.filter_cons_of_neg (p := fun y => decide (y = x)) (by simpa using h), ih, if_neg h, if_neg h]
theorem hits_idx (x : Int) (c : List Int) : (idx c (fun y => decide (y = x)) c.length).length = hits x c := by
  rw [idx_len _ _ _ (Nat.le_refl _), List.take_length]; rfl
theorem hits_teeth (x : Int) (c : List Int) : (teethTo c.length c x).length = hits x c := by
  rw [teethTo_count c x _ (Nat.le_refl _), List.take_length]; rfl
theorem hits_cut {c : List Int} {k : Nat} {x : Int} (h : c[k]? = some x) : hits x (c.take k ++ c.drop (k + 1)) + 1 = hits x c := by
  obtain ⟨hk, e⟩ := List.getElem?_eq_some_iff.1 h
  have hd : c.drop k = c[k] :: c.drop (k + 1) := List.drop_eq_getElem_cons hk
  have h2 : hits x (c.drop k) = hits x (c.drop (k + 1)) + 1 := by
    rw [hd, e]; unfold hits; rw [List.filter_cons_of_pos (p := fun y => decide (y = x)) (decide_eq_true rfl), List.length_cons]
  have h3 : hits x c = hits x (c.take k) + hits x (c.drop k) := by rw [← hits_append, List.take_append_drop]
  rw [hits_append]; omega

theorem combTo_mem {n : List Int} {x : Int} : ∀ k, x ∈ combTo k n → 0 ≤ x ∧ x < (k : Int)
  | 0, h => by simp [combTo] at h
  | k + 1, h => by
    rw [combTo_succ, List.mem_append] at h
    rcases h with h | h
    · have := combTo_mem k h; omega
    · have := (List.mem_replicate.1 h).2; omega
theorem combTo_up (n : List Int) : ∀ k, (combTo k n).Pairwise fun a b => a ≤ b
  | 0 => List.Pairwise.nil
  | k + 1 => by
    rw [combTo_succ, List.pairwise_append]
    refine ⟨combTo_up n k, ?_, fun a ha b hb => ?_⟩
    · exact List.pairwise_replicate.2 (Or.inr (Int.le_refl _))
    · have h1 := combTo_mem k ha
      have h2 := (List.mem_replicate.1 hb).2
      omega
theorem combTo_hits (n : List Int) (p : Nat) : ∀ k, hits (p : Int) (combTo k n) = if p < k then (n.getD p 0).toNat else 0
  | 0 => by simp [combTo, hits]
  | k + 1 => by
    rw [combTo_succ, hits_append, combTo_hits n p k, hits_rep]
    by_cases h1 : p < k
    · rw [if_pos h1, if_neg (by omega), if_pos (by omega), Nat.add_zero]
    · by_cases h2 : p = k
      · subst h2; rw [if_neg h1, if_pos rfl, if_pos (by omega), Nat.zero_add]
      · rw [if_neg h1, if_neg (by omega), if_neg (by omega)]
theorem needL_get (r : Int) (t : List (Int × Int)) (k : Nat) {p : Nat} (hp : p < 61) : ((needL r t k).getD p 0).toNat = needTo r t k (p : Int) := by
  rw [List.getD_eq_getElem?_getD, needL_at _ _ _ hp]; simp
theorem winC_hits (t : List (Int × Int)) (p : Int × Int) (r : Int) (j : Nat) : winC t j p r ≤ hits p.2 ((t.take j).map (·.2)) := by
  unfold winC hits
  rw [List.filter_map, List.length_map]
  rw [← List.countP_eq_length_filter, ← List.countP_eq_length_filter]
  exact List.countP_mono_left fun q _ hq => by
    have := of_decide_eq_true hq
    exact decide_eq_true this.1
theorem hits_take (x : Int) (c : List Int) (j : Nat) : hits x (c.take j) ≤ hits x c := ((List.take_sublist j c).filter _).length_le
theorem needTo_hits (r : Int) (t : List (Int × Int)) (x : Int) : ∀ k, k ≤ t.length → needTo r t k x ≤ hits x (t.map (·.2))
  | 0, _ => Nat.zero_le _
  | k + 1, h => by
    obtain ⟨q, hq⟩ : ∃ q, t[k]? = some q := ⟨_, List.getElem?_eq_getElem (by omega)⟩
    have ih := needTo_hits r t x k (by omega)
    rw [needTo_succ hq]
    split
    · rename_i hx
      have h1 := winC_hits t q r (k + 1)
      rw [List.map_take, hx] at h1
      have h2 := hits_take x (t.map (·.2)) (k + 1)
      omega
    · exact ih
theorem combTo_tsum (r : Int) (t : List (Int × Int)) : ∀ k, k ≤ 61 → (combTo k (needL r t t.length)).length ≤ tsum k (t.map (·.2))
  | 0, _ => Nat.zero_le _
  | k + 1, h => by
    have ih := combTo_tsum r t k (by omega)
    rw [combTo_succ, List.length_append, List.length_replicate, needL_get _ _ _ (by omega), tsum_filter]
    have := needTo_hits r t (k : Int) t.length (Nat.le_refl _)
    unfold hits at this
    omega

section
variable {t : List (Int × Int)} {r : Int}
theorem needM_yes (ht : tuneB t = true) (hr : 1 ≤ r ∧ r ≤ 100) : needM r t = needL r t t.length := if_pos ⟨ht, decide_eq_true hr⟩
theorem least_hits (ht : tuneB t = true) (hr : 1 ≤ r ∧ r ≤ 100) {p : Nat} (hp : p < 61) : hits (p : Int) (leastL (needM r t)) = needTo r t t.length (p : Int) := by
  unfold leastL
  rw [combTo_hits, needM_yes ht hr, needL_len, if_pos hp, needL_get _ _ _ hp]
theorem least_hitsI (ht : tuneB t = true) (hr : 1 ≤ r ∧ r ≤ 100) {x : Int} (h0 : 0 ≤ x) (h1 : x ≤ 60) : hits x (leastL (needM r t)) = needTo r t t.length x := by
  obtain ⟨p, rfl⟩ := Int.eq_ofNat_of_zero_le h0
  exact least_hits ht hr (by omega)
theorem least_len (ht : tuneB t = true) (hr : 1 ≤ r ∧ r ≤ 100) : (leastL (needM r t)).length ≤ t.length := by
  unfold leastL
  rw [needM_yes ht hr, needL_len]
  refine Nat.le_trans (combTo_tsum r t 61 (Nat.le_refl _)) ?_
  unfold tsum
  exact Nat.le_trans (List.length_filter_le _ _) (by rw [List.length_map]; exact Nat.le_refl _)
theorem least_mem {x : Int} (h : x ∈ leastL (needM r t)) : 0 ≤ x ∧ x ≤ 60 := by
  unfold leastL at h
  have h1 := combTo_mem _ h
  have h2 := needM_len r t
  omega
theorem least_pos (ht : tuneB t = true) (hr : 1 ≤ r ∧ r ≤ 100) (h : 0 < t.length) : 0 < (leastL (needM r t)).length := by
  obtain ⟨q, hq⟩ : ∃ q, t[0]? = some q := ⟨_, List.getElem?_eq_getElem h⟩
  have hp := ((tuneB_true.1 ht).2 0 q hq).2.1
  have h1 := need_ge (r := r) hq t.length h (Nat.le_refl _)
  have h2 := winC_succ q r hq
  rw [if_pos ⟨rfl, by omega⟩] at h2
  have h3 := least_hitsI ht hr hp.1 hp.2
  have h4 : hits q.2 (leastL (needM r t)) ≤ (leastL (needM r t)).length := List.length_filter_le _ _
  omega
theorem least_comb (ht : tuneB t = true) (hr : 1 ≤ r ∧ r ≤ 100) (h : 0 < t.length) (h24 : t.length ≤ 24) : combB (leastL (needM r t)) = true := by
  have hl := least_len ht hr
  refine combB_true.2 ⟨⟨least_pos ht hr h, by omega⟩, fun k p hk => ⟨least_mem (List.mem_of_getElem? hk), fun i q hi hq => ?_⟩⟩
  have hu := combTo_up (needM r t) (needM r t).length
  rw [List.pairwise_iff_getElem] at hu
  obtain ⟨h1, e1⟩ := List.getElem?_eq_some_iff.1 hk
  obtain ⟨h2, e2⟩ := List.getElem?_eq_some_iff.1 hq
  have := hu i k h2 h1 (by omega)
  unfold leastL at e1 e2
  rw [e1, e2] at this; exact this
theorem least_one (h : TuneDrawn t) (hr : 1 ≤ r ∧ r ≤ 100) : (leastM r t).2 = decide (0 < t.length) := by
  by_cases h0 : 0 < t.length
  · rw [leastM_yes (least_comb h.2.1 hr h0 (by have := h.1; omega)), decide_eq_true h0]
  · have hl := least_len h.2.1 hr
    rw [leastM_no (fun k => by have := (combB_true.1 k).1.1; omega), decide_eq_false h0]
theorem least_eq (h : TuneDrawn t) (hr : 1 ≤ r ∧ r ≤ 100) (h0 : 0 < t.length) : leastM r t = (leastL (needM r t), true) :=
  leastM_yes (least_comb h.2.1 hr h0 (by have := h.1; omega))
theorem least_fits (h : TuneDrawn t) (hr : 1 ≤ r ∧ r ≤ 100) (h0 : 0 < t.length) : (assignM (leastL (needM r t)) t r).2 = true ∧ isM (leastL (needM r t)) t r (assignM (leastL (needM r t)) t r).1 = true := by
  have hc := least_comb h.2.1 hr h0 (by have := h.1; omega)
  obtain ⟨⟨last, out⟩, hs⟩ := assign_enough (c := leastL (needM r t)) h.2.1 hr (fun q hq => by
    obtain ⟨i, hi⟩ := List.getElem?_of_mem hq
    have hp := ((tuneB_true.1 h.2.1).2 i q hi).2.1
    rw [hits_idx, least_hitsI h.2.1 hr hp.1 hp.2]; exact Nat.le_refl _) t.length (Nat.le_refl _)
  rw [assignM_some hc h.2.1 (decide_eq_true hr) hs]
  exact ⟨rfl, isM_yes hc h.2.1 (decide_eq_true hr) (assign_good h.2.1 hr.1 hs)⟩
theorem least_less (ht : tuneB t = true) (hr : 1 ≤ r ∧ r ≤ 100) {k : Nat} (hk : k < (leastL (needM r t)).length) : (assignM ((leastL (needM r t)).take k ++ (leastL (needM r t)).drop (k + 1)) t r).2 = false := by
  obtain ⟨x, hx⟩ : ∃ x, (leastL (needM r t))[k]? = some x := ⟨_, List.getElem?_eq_getElem hk⟩
  have hm := least_mem (List.mem_of_getElem? hx)
  have h1 := hits_cut hx
  rw [least_hitsI ht hr hm.1 hm.2] at h1
  rw [assignM_none (assign_less ht hr.1 (x := x) (by rw [hits_idx]; omega))]
theorem least_teeth (ht : tuneB t = true) (hr : 1 ≤ r ∧ r ≤ 100) (hc : combB (leastL (needM r t)) = true) {p : Nat} (hp : p < 61) : (needM r t)[p]? = some (((teethM (leastL (needM r t)) (p : Int)).length : Nat) : Int) := by
  unfold teethM
  rw [if_pos hc, hits_teeth, least_hits ht hr hp, needM_yes ht hr]
  exact needL_at _ _ _ hp
/-- The sum of the first k. -/
def isum (n : List Int) : Nat → Int
  | 0 => 0
  | k + 1 => isum n k + n.getD k 0
theorem isum_len (n : List Int) (h : ∀ x ∈ n, 0 ≤ x) : ∀ k, isum n k = (((combTo k n).length : Nat) : Int)
  | 0 => rfl
  | k + 1 => by
    rw [combTo_succ, List.length_append, List.length_replicate]
    show isum n k + n.getD k 0 = _
    rw [isum_len n h k]
    have : 0 ≤ n.getD k 0 := by
      rw [List.getD_eq_getElem?_getD]
      cases hk : n[k]? with
      | none => simp
      | some x => exact h x (List.mem_of_getElem? hk)
    omega
theorem isum_all (ht : tuneB t = true) (hr : 1 ≤ r ∧ r ≤ 100) : isum (needM r t) 61 = (((leastL (needM r t)).length : Nat) : Int) := by
  rw [isum_len _ (fun x hx => (needM_le r t x hx).1)]
  unfold leastL
  rw [needM_yes ht hr, needL_len]
theorem restTo_le (c : List Int) (t : List (Int × Int)) : ∀ m, restTo c t m ≤ m
  | 0 => Nat.le_refl _
  | m + 1 => by
    by_cases h : (assignM c t ((m + 1 : Nat) : Int)).2 = true
    · rw [restTo_yes h]; exact Nat.le_refl _
    · rw [restTo_no h]; have := restTo_le c t m; omega
theorem restTo_ge {c : List Int} {i : Nat} (hi : 1 ≤ i) (h : (assignM c t (i : Int)).2 = true) : ∀ m, i ≤ m → i ≤ restTo c t m
  | 0, hm => by omega
  | m + 1, hm => by
    by_cases h1 : (assignM c t ((m + 1 : Nat) : Int)).2 = true
    · rw [restTo_yes h1]; exact hm
    · rw [restTo_no h1]
      by_cases e : i = m + 1
      · subst e; exact absurd h h1
      · exact restTo_ge hi h m (by omega)
theorem restTo_fits (c : List Int) : ∀ m, 0 < restTo c t m → (assignM c t ((restTo c t m : Nat) : Int)).2 = true
  | 0, h => absurd h (Nat.lt_irrefl 0)
  | m + 1, h => by
    by_cases h1 : (assignM c t ((m + 1 : Nat) : Int)).2 = true
    · rw [restTo_yes h1]; exact h1
    · rw [restTo_no h1] at h ⊢
      exact restTo_fits c m h
theorem restTo_more (c : List Int) : ∀ m j, restTo c t m < j → j ≤ m → (assignM c t (j : Int)).2 = false
  | 0, j, h, hj => by exact absurd h (by omega)
  | m + 1, j, h, hj => by
    by_cases h1 : (assignM c t ((m + 1 : Nat) : Int)).2 = true
    · rw [restTo_yes h1] at h; omega
    · rw [restTo_no h1] at h
      by_cases e : j = m + 1
      · subst e; simpa using h1
      · exact restTo_more c m j h (by omega)
theorem rest_good {c : List Int} (hr : 1 ≤ r ∧ r ≤ 100) (h : (assignM c t r).2 = true) : r ≤ ((restM c t : Nat) : Int) ∧ (assignM c t ((restM c t : Nat) : Int)).2 = true ∧ (assignM c t (((restM c t : Nat) : Int) + 1)).2 = false := by
  obtain ⟨i, rfl⟩ := Int.eq_ofNat_of_zero_le (by omega : 0 ≤ r)
  have h1 := restTo_ge (by omega : 1 ≤ i) h 100 (by omega)
  have h2 := restTo_fits (t := t) c 100 (by omega)
  have h3 := restTo_le c t 100
  unfold restM
  refine ⟨by omega, h2, ?_⟩
  by_cases e : restTo c t 100 = 100
  · rw [e, assignM_no fun k => by have := of_decide_eq_true k.2.2; omega]
  · exact restTo_more (t := t) c 100 (restTo c t 100 + 1) (by omega) (by omega)
theorem rest_none : restM [12] [] = 100 := by
  have hc : combB [12] = true := combB_true.2 ⟨⟨by decide, by decide⟩, fun k p hk => by
    match k, hk with
    | 0, hk =>
      obtain rfl : p = 12 := (Option.some.inj hk).symm
      exact ⟨by decide, fun i q hi => by omega⟩
    | k + 1, hk => simp at hk⟩
  have ht : tuneB [] = true := tuneB_true.2 ⟨by decide, fun k p hk => by simp at hk⟩
  have h := assignM_some (c := [12]) (t := []) (r := ((99 + 1 : Nat) : Int)) hc ht (decide_eq_true (by decide)) (last := List.replicate 1 (-1000)) (out := []) rfl
  exact restTo_yes (r := 99) (by rw [h])
end
end Go.Proofs.Ytcbdoldcdgaooaa
