/- What chapter 5's models keep: as many teeth as are needed are enough, and one less is not. -/
import Derived.Test.YtcbdoldcdgaooaaRestSpec
import Derived.Test.YtcbdoldcdgaooaaIsSpec
import Derived.Test.YtcbdoldcdgaooaaTuneDraw
namespace Go.Proofs.Ytcbdoldcdgaooaa
open Go.ChangeShapes Go.WideShapes Go.ChangeAt Go.RowKit

theorem inj_le : ∀ (T W : List Nat) (f : Nat → Nat), T.Nodup → (∀ a ∈ T, f a ∈ W) → (∀ a ∈ T, ∀ b ∈ T, f a = f b → a = b) → T.length ≤ W.length
  | [], _, _, _, _, _ => Nat.zero_le _
  | a :: T, W, f, hn, hf, hi => by
    have ha := hf a (List.mem_cons_self)
    have hn' := List.nodup_cons.1 hn
    have ih := inj_le T (W.erase (f a)) f hn'.2 (fun b hb => by
      have hne : f b ≠ f a := fun e => hn'.1 (by rw [← hi b (List.mem_cons_of_mem _ hb) a List.mem_cons_self e]; exact hb)
      exact (List.mem_erase_of_ne hne).2 (hf b (List.mem_cons_of_mem _ hb))) (fun x hx y hy => hi x (List.mem_cons_of_mem _ hx) y (List.mem_cons_of_mem _ hy))
    have hl := List.length_erase_of_mem ha
    have hp := List.length_pos_of_mem ha
    rw [List.length_cons]; omega

/-- The places below j whose element has P. -/
def idx {α : Type} (l : List α) (P : α → Bool) (j : Nat) : List Nat := (List.range j).filter fun i => (l[i]?).any P
theorem idx_mem {α : Type} {l : List α} {P : α → Bool} {j i : Nat} : i ∈ idx l P j ↔ i < j ∧ ∃ x, l[i]? = some x ∧ P x = true := by
  unfold idx
  rw [List.mem_filter, List.mem_range, Option.any_eq_true]
theorem idx_nodup {α : Type} (l : List α) (P : α → Bool) (j : Nat) : (idx l P j).Nodup := List.nodup_range.filter _
theorem idx_len {α : Type} (l : List α) (P : α → Bool) : ∀ j, j ≤ l.length → (idx l P j).length = ((l.take j).filter P).length
  | 0, _ => rfl
  | j + 1, h => by
    have ih := idx_len l P j (by omega)
    have hj : l[j]? = some l[j] := List.getElem?_eq_getElem (by omega)
    unfold idx at ih ⊢
    rw [List.range_succ, List.filter_append, List.length_append, ih, List.take_add_one, hj, List.filter_append, List.length_append]
    congr 1
    by_cases hp : P l[j] = true <;> simp [hj, hp]

/-- What the teeth of the first k notes keep. -/
structure AInv (c : List Int) (t : List (Int × Int)) (r : Int) (k : Nat) (last out : List Int) : Prop where
  lens : last.length = c.length ∧ out.length = k
  tooth : ∀ (i : Nat) (x : Int) (q : Int × Int), out[i]? = some x → t[i]? = some q → ∃ j : Nat, x = (j : Int) ∧ j < c.length ∧ c[j]? = some q.2 ∧ q.1 ≤ last.getD j 0
  last : ∀ (j : Nat), j < c.length → last.getD j 0 = -1000 ∨ ∃ (i : Nat) (q : Int × Int), i < k ∧ out[i]? = some (j : Int) ∧ t[i]? = some q ∧ last.getD j 0 = q.1
  apart : ∀ (i i' : Nat) (x : Int) (q q' : Int × Int), i < i' → out[i]? = some x → out[i']? = some x → t[i]? = some q → t[i']? = some q' → r ≤ q'.1 - q.1
theorem times_up {t : List (Int × Int)} (ht : tuneB t = true) {i k : Nat} {p q : Int × Int} (hik : i ≤ k) (hp : t[i]? = some p) (hq : t[k]? = some q) : p.1 ≤ q.1 := by
  have hs := tune_ss (tuneB_true.1 ht)
  unfold SS at hs
  rw [List.pairwise_iff_getElem] at hs
  obtain ⟨h1, e1⟩ := List.getElem?_eq_some_iff.1 hp
  obtain ⟨h2, e2⟩ := List.getElem?_eq_some_iff.1 hq
  by_cases h : i = k
  · subst h; rw [← e1, ← e2]; exact Int.le_refl _
  · have := hs i k h1 h2 (by omega)
    rw [e1, e2] at this
    have := less_iff.1 this
    omega
theorem getD_set_self {l : List Int} {j : Nat} (h : j < l.length) (x : Int) : (l.set j x).getD j 0 = x := by
  rw [List.getD_eq_getElem?_getD, List.getElem?_set_self h]; rfl
theorem getD_set_ne {l : List Int} {j i : Nat} (h : j ≠ i) (x : Int) : (l.set j x).getD i 0 = l.getD i 0 := by
  rw [List.getD_eq_getElem?_getD, List.getD_eq_getElem?_getD, List.getElem?_set_ne h]
theorem assign_inv {c : List Int} {t : List (Int × Int)} {r : Int} (ht : tuneB t = true) (hr : 1 ≤ r) : ∀ {k : Nat} {last out : List Int}, k ≤ t.length → assignTo c t r k = some (last, out) → AInv c t r k last out
  | 0, last, out, _, h => by
    obtain ⟨rfl, rfl⟩ := Prod.mk.inj (Option.some.inj h)
    refine ⟨⟨by simp, rfl⟩, fun i x q hx => by simp at hx, fun j hj => Or.inl ?_, fun i i' x q q' _ hx => by simp at hx⟩
    rw [List.getD_eq_getElem?_getD, List.getElem?_replicate, if_pos hj]; rfl
  | k + 1, last, out, hk, h => by
    cases hs : assignTo c t r k with
    | none => rw [assignTo_none hs (Nat.le_succ k)] at h; cases h
    | some s =>
      obtain ⟨l1, o1⟩ := s
      have inv := assign_inv ht hr (by omega) hs
      obtain ⟨q, hq⟩ : ∃ q, t[k]? = some q := ⟨_, List.getElem?_eq_getElem (by omega)⟩
      cases hj : freeTo c.length c l1 q r with
      | none => rw [assignTo_stop hs hq hj] at h; cases h
      | some j =>
        rw [assignTo_next hs hq hj] at h
        obtain ⟨rfl, rfl⟩ := Prod.mk.inj (Option.some.inj h)
        obtain ⟨hjc, hcj, hfree⟩ := freeTo_lt hj
        obtain ⟨hl, ho⟩ := inv.lens
        have old : ∀ i, i < k → (o1 ++ [(j : Int)])[i]? = o1[i]? := fun i hi => List.getElem?_append_left (by omega)
        have new : (o1 ++ [(j : Int)])[k]? = some (j : Int) := by rw [List.getElem?_append_right (by omega), ho, Nat.sub_self]; rfl
        have lim : ∀ i x, (o1 ++ [(j : Int)])[i]? = some x → i ≤ k := fun i x hx => by
          have := (List.getElem?_eq_some_iff.1 hx).1
          rw [List.length_append, ho, List.length_singleton] at this; omega
        -- a note ahead of the new one on the same tooth lies at least r back
        have back : ∀ i x p, i < k → o1[i]? = some x → t[i]? = some p → x = (j : Int) → r ≤ q.1 - p.1 := fun i x p hi hx hp hxj => by
          obtain ⟨j', hj', -, -, hle⟩ := inv.tooth i x p hx hp
          have : j' = j := by omega
          subst this
          omega
        refine ⟨⟨by rw [List.length_set]; exact hl, by rw [List.length_append, ho]; rfl⟩, fun i x p hx hp => ?_, fun j' hj' => ?_, fun i i' x p p' hii hx hx' hp hp' => ?_⟩
        · have hik := lim i x hx
          by_cases hi : i = k
          · subst hi
            rw [new] at hx; rw [hq] at hp
            obtain rfl := Option.some.inj hx
            obtain rfl := Option.some.inj hp
            exact ⟨j, rfl, hjc, hcj, by rw [getD_set_self (by omega)]; exact Int.le_refl _⟩
          · rw [old i (by omega)] at hx
            obtain ⟨j', rfl, h1, h2, h3⟩ := inv.tooth i x p hx hp
            refine ⟨j', rfl, h1, h2, ?_⟩
            by_cases hjj : j = j'
            · subst hjj
              rw [getD_set_self (by omega)]
              exact times_up ht (by omega) hp hq
            · rw [getD_set_ne hjj]; exact h3
        · by_cases hjj : j = j'
          · subst hjj
            exact Or.inr ⟨k, q, by omega, new, hq, getD_set_self (by omega) _⟩
          · rw [getD_set_ne hjj]
            rcases inv.last j' hj' with h | ⟨i, p, h1, h2, h3, h4⟩
            · exact Or.inl h
            · exact Or.inr ⟨i, p, by omega, by rw [old i h1]; exact h2, h3, h4⟩
        · have hi' := lim i' x hx'
          by_cases hi : i' = k
          · subst hi
            rw [new] at hx'; rw [hq] at hp'
            obtain rfl := Option.some.inj hx'
            obtain rfl := Option.some.inj hp'
            rw [old i hii] at hx
            exact back i _ p hii hx hp rfl
          · rw [old i (by omega)] at hx
            rw [old i' (by omega)] at hx'
            exact inv.apart i i' x p p' hii hx hx' hp hp'
theorem assign_good {c : List Int} {t : List (Int × Int)} {r : Int} (ht : tuneB t = true) (hr : 1 ≤ r) {last out : List Int} (h : assignTo c t r t.length = some (last, out)) : AssP c t r out := by
  have inv := assign_inv ht hr (Nat.le_refl _) h
  refine ⟨inv.lens.2, fun k _ x q hx hq => ?_⟩
  obtain ⟨j, rfl, h1, h2, -⟩ := inv.tooth k x q hx hq
  refine ⟨by omega, by rw [Int.toNat_natCast]; exact h2, fun i y s hi hy hs hh => ?_⟩
  obtain ⟨rfl, hd⟩ := hh
  have := inv.apart i k _ s q hi hy hx hs hq
  omega

theorem need_ge {r : Int} {t : List (Int × Int)} {k : Nat} {q : Int × Int} (hq : t[k]? = some q) : ∀ m, k < m → m ≤ t.length → winC t (k + 1) q r ≤ needTo r t m q.2
  | 0, h, _ => by omega
  | m + 1, h, hm => by
    obtain ⟨p, hp⟩ : ∃ p, t[m]? = some p := ⟨_, List.getElem?_eq_getElem (by omega)⟩
    rw [needTo_succ hp]
    by_cases hk : k = m
    · subst hk
      rw [hq] at hp
      obtain rfl := Option.some.inj hp
      rw [if_pos rfl]; exact Nat.le_max_right _ _
    · have ih := need_ge (r := r) hq m (by omega) (by omega)
      split
      · exact Nat.le_trans ih (Nat.le_max_left _ _)
      · exact ih
theorem need_att {r : Int} {t : List (Int × Int)} {x : Int} : ∀ m, m ≤ t.length → 0 < needTo r t m x → ∃ k q, k < m ∧ t[k]? = some q ∧ q.2 = x ∧ winC t (k + 1) q r = needTo r t m x
  | 0, _, h => by exact absurd h (Nat.lt_irrefl 0)
  | m + 1, hm, h => by
    obtain ⟨p, hp⟩ : ∃ p, t[m]? = some p := ⟨_, List.getElem?_eq_getElem (by omega)⟩
    rw [needTo_succ hp] at h ⊢
    by_cases hx : p.2 = x
    · rw [if_pos hx] at h ⊢
      by_cases hw : needTo r t m x ≤ winC t (m + 1) p r
      · exact ⟨m, p, by omega, hp, hx, by omega⟩
      · obtain ⟨k, q, h1, h2, h3, h4⟩ := need_att m (by omega) (by omega : 0 < needTo r t m x)
        exact ⟨k, q, by omega, h2, h3, by omega⟩
    · rw [if_neg hx] at h ⊢
      obtain ⟨k, q, h1, h2, h3, h4⟩ := need_att m (by omega) h
      exact ⟨k, q, by omega, h2, h3, h4⟩
theorem winC_idx (t : List (Int × Int)) (j : Nat) (p : Int × Int) (r : Int) (hj : j ≤ t.length) : (idx t (fun q => decide (q.2 = p.2 ∧ p.1 - q.1 < r)) j).length = winC t j p r := idx_len _ _ j hj

/-- As many teeth as are needed are enough. -/
theorem assign_enough {c : List Int} {t : List (Int × Int)} {r : Int} (ht : tuneB t = true) (hr : 1 ≤ r ∧ r ≤ 100) (hc : ∀ q ∈ t, needTo r t t.length q.2 ≤ (idx c (fun y => decide (y = q.2)) c.length).length) : ∀ k, k ≤ t.length → ∃ s, assignTo c t r k = some s
  | 0, _ => ⟨_, rfl⟩
  | k + 1, hk => by
    obtain ⟨⟨last, out⟩, hs⟩ := assign_enough ht hr hc k (by omega)
    have inv := assign_inv ht hr.1 (by omega) hs
    obtain ⟨q, hq⟩ : ∃ q, t[k]? = some q := ⟨_, List.getElem?_eq_getElem (by omega)⟩
    cases hj : freeTo c.length c last q r with
    | some j => exact ⟨_, assignTo_next hs hq hj⟩
    | none =>
      exfalso
      have hqr := ((tuneB_true.1 ht).2 k q hq).1
      have each : ∀ j ∈ idx c (fun y => decide (y = q.2)) c.length, ∃ i, out[i]? = some (j : Int) ∧ i ∈ idx t (fun p => decide (p.2 = q.2 ∧ q.1 - p.1 < r)) k := by
        intro j hjm
        obtain ⟨hjc, y, hy, hyq⟩ := idx_mem.1 hjm
        have hyq' : y = q.2 := of_decide_eq_true hyq
        subst hyq'
        unfold freeTo at hj
        have hnot := List.find?_eq_none.1 hj j (List.mem_range.2 hjc)
        have hnf : ¬ r ≤ q.1 - last.getD j 0 := fun h => hnot (decide_eq_true ⟨hy, h⟩)
        rcases inv.last j hjc with h | ⟨i, p, h1, h2, h3, h4⟩
        · omega
        · obtain ⟨j', e, -, hcj, -⟩ := inv.tooth i _ p h2 h3
          have e' : j' = j := by omega
          subst e'
          rw [hy] at hcj
          have hpq := Option.some.inj hcj
          exact ⟨i, h2, idx_mem.2 ⟨h1, p, h3, decide_eq_true ⟨hpq.symm, by omega⟩⟩⟩
      let f : Nat → Nat := fun j => if h : j ∈ idx c (fun y => decide (y = q.2)) c.length then Classical.choose (each j h) else 0
      have hf : ∀ j (h : j ∈ idx c (fun y => decide (y = q.2)) c.length), out[f j]? = some (j : Int) ∧ f j ∈ idx t (fun p => decide (p.2 = q.2 ∧ q.1 - p.1 < r)) k := fun j h => by
        have := Classical.choose_spec (each j h)
        have e : f j = Classical.choose (each j h) := dif_pos h
        rw [e]; exact this
      have hle := inj_le _ _ f (idx_nodup c _ _) (fun j h => (hf j h).2) (fun a ha b hb e => by
        have h1 := (hf a ha).1
        rw [e, (hf b hb).1] at h1
        have := Option.some.inj h1
        omega)
      rw [winC_idx t k q r (by omega)] at hle
      have h1 := winC_succ q r hq
      rw [if_pos ⟨rfl, by omega⟩] at h1
      have h2 := need_ge (r := r) hq t.length (by omega) (Nat.le_refl _)
      have h3 := hc q (List.mem_of_getElem? hq)
      omega
/-- One less is not. -/
theorem assign_less {c : List Int} {t : List (Int × Int)} {r : Int} (ht : tuneB t = true) (hr : 1 ≤ r) {x : Int} (hx : (idx c (fun y => decide (y = x)) c.length).length < needTo r t t.length x) : assignTo c t r t.length = none := by
  cases hs : assignTo c t r t.length with
  | none => rfl
  | some s =>
    exfalso
    obtain ⟨last, out⟩ := s
    have inv := assign_inv ht hr (Nat.le_refl _) hs
    obtain ⟨k, q, hk, hq, rfl, hw⟩ := need_att (r := r) (x := x) t.length (Nat.le_refl _) (by omega)
    have hol : out.length = t.length := inv.lens.2
    have tooth : ∀ i ∈ idx t (fun p => decide (p.2 = q.2 ∧ q.1 - p.1 < r)) (k + 1), ∃ p j, t[i]? = some p ∧ out[i]? = some ((j : Nat) : Int) ∧ (out.getD i 0).toNat = j ∧ j < c.length ∧ c[j]? = some q.2 ∧ q.1 - p.1 < r ∧ i ≤ k := fun i hi => by
      obtain ⟨h1, p, h2, h3⟩ := idx_mem.1 hi
      obtain ⟨h4, h5⟩ := of_decide_eq_true h3
      obtain ⟨y, hy⟩ : ∃ y, out[i]? = some y := ⟨_, List.getElem?_eq_getElem (by omega)⟩
      obtain ⟨j, rfl, h6, h7, -⟩ := inv.tooth i y p hy h2
      exact ⟨p, j, h2, hy, by rw [List.getD_eq_getElem?_getD, hy]; simp, h6, by rw [h7, h4], h5, by omega⟩
    have hle := inj_le (idx t (fun p => decide (p.2 = q.2 ∧ q.1 - p.1 < r)) (k + 1)) (idx c (fun y => decide (y = q.2)) c.length) (fun i => (out.getD i 0).toNat) (idx_nodup t _ _) (fun i hi => by
      obtain ⟨p, j, h1, h2, h3, h4, h5, h6, h7⟩ := tooth i hi
      rw [h3]; exact idx_mem.2 ⟨h4, _, h5, decide_eq_true rfl⟩) (fun a ha b hb e => by
      obtain ⟨p, j, h1, h2, h3, h4, h5, h6, h7⟩ := tooth a ha
      obtain ⟨p', j', h1', h2', h3', h4', h5', h6', h7'⟩ := tooth b hb
      have e' : j = j' := by rw [← h3, ← h3']; exact e
      subst e'
      by_cases hab : a = b
      · exact hab
      · exfalso
        by_cases hlt : a < b
        · have := inv.apart a b _ p p' hlt h2 h2' h1 h1'
          have := times_up ht h7' h1' hq
          omega
        · have := inv.apart b a _ p' p (by omega) h2' h2 h1' h1
          have := times_up ht h7 h1 hq
          omega)
    rw [winC_idx t (k + 1) q r (by omega), hw] at hle
    omega
end Go.Proofs.Ytcbdoldcdgaooaa
