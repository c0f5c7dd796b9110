/- Words for the program's chapter 9: the set of a row of indices, the teeth that they need together. Pure. No condition. -/
import Derived.Test.YtcbdoldcdgaooaaForAllSpec
namespace Go.Proofs.Ytcbdoldcdgaooaa

/-! ### the set of a row of indices -/
def unionL (c : List Int) : Nat := c.foldl (fun s x => s ||| 2 ^ x.toNat) 0
theorem unionL_push (c : List Int) (x : Int) : unionL (c ++ [x]) = unionL c ||| 2 ^ x.toNat := by unfold unionL; rw [List.foldl_append]; rfl
theorem unionL_take {c : List Int} {k : Nat} {x : Int} (h : c[k]? = some x) : unionL (c.take (k + 1)) = unionL (c.take k) ||| 2 ^ x.toNat := by
  rw [List.take_add_one, h, Option.toList_some, unionL_push]
theorem setTo_union {n : Int} {c : List Int} : ∀ {k S : Nat}, setTo n c k = some S → S = unionL (c.take k) ∧ ∀ x ∈ c.take k, 0 ≤ x ∧ x ≤ n
  | 0, S, h => by
    obtain rfl := Option.some.inj h
    exact ⟨by simp [unionL], by simp⟩
  | k + 1, S, h => by
    unfold setTo at h
    cases hx : c[k]? with
    | none => rw [hx] at h; cases h
    | some x =>
      cases hS : setTo n c k with
      | none => rw [hx, hS] at h; cases h
      | some T =>
        rw [hx, hS] at h
        simp only at h
        split at h
        · rename_i q
          obtain rfl := Option.some.inj h
          obtain ⟨e, hm⟩ := setTo_union hS
          refine ⟨by rw [unionL_take hx, ← e], fun y hy => ?_⟩
          rw [List.take_add_one, hx, Option.toList_some, List.mem_append] at hy
          rcases hy with hy | hy
          · exact hm y hy
          · rw [List.mem_singleton] at hy
            subst hy
            exact q.1
        · cases h
theorem setTo_all {n : Int} {c : List Int} {S : Nat} (h : setTo n c c.length = some S) : S = unionL c ∧ ∀ x ∈ c, 0 ≤ x ∧ x ≤ n := by
  have := setTo_union h
  rwa [List.take_length] at this
/-- The row is one of strictly ascending indices below n. -/
noncomputable def okC (n : Nat) (c : List Int) : Bool := (setTo ((n : Int) - 1) c c.length).isSome
theorem okC_yes {n : Nat} {c : List Int} {S : Nat} (h : setTo ((n : Int) - 1) c c.length = some S) : okC n c = true := by unfold okC; rw [h]; rfl
theorem okC_no {n : Nat} {c : List Int} (h : setTo ((n : Int) - 1) c c.length = none) : okC n c = false := by unfold okC; rw [h]; rfl
theorem okC_true {n : Nat} {c : List Int} (h : okC n c = true) : setTo ((n : Int) - 1) c c.length = some (unionL c) ∧ ∀ x ∈ c, 0 ≤ x ∧ x < (n : Int) := by
  unfold okC at h
  cases hs : setTo ((n : Int) - 1) c c.length with
  | none => rw [hs] at h; cases h
  | some S =>
    obtain ⟨rfl, hm⟩ := setTo_all hs
    exact ⟨rfl, fun x hx => by have := hm x hx; omega⟩
theorem okC_false {n : Nat} {c : List Int} (h : okC n c = false) : setTo ((n : Int) - 1) c c.length = none := by
  unfold okC at h
  cases hs : setTo ((n : Int) - 1) c c.length with
  | none => rfl
  | some S => rw [hs] at h; cases h
theorem unionL_lt {c : List Int} {n : Nat} (hn : n ≤ 8) (h : ∀ x ∈ c, 0 ≤ x ∧ x < (n : Int)) : ∀ k, unionL (c.take k) < 256
  | 0 => by simp [unionL]
  | k + 1 => by
    have ih := unionL_lt hn h k
    cases hx : c[k]? with
    | none => rw [List.take_add_one, hx]; simpa using ih
    | some x =>
      rw [unionL_take hx]
      have := h x (List.mem_of_getElem? hx)
      exact or_lt ih (by omega)

/-! ### one tune more -/
theorem needSet_or {r : Int} {ll : List (List (Int × Int))} {S x : Nat} {t : List (Int × Int)} (ht : ll[x]? = some t) (p : Int) : ∀ n, needSet r ll (S ||| 2 ^ x) n p = if x < n then max (needSet r ll S n p) (needTo r t t.length p) else needSet r ll S n p
  | 0 => by simp [needSet]
  | n + 1 => by
    have ih := needSet_or (r := r) (S := S) ht p n
    cases hn : ll[n]? with
    | none =>
      have hne : x ≠ n := fun e => by rw [e, hn] at ht; cases ht
      have e1 : ∀ T, needSet r ll T (n + 1) p = needSet r ll T n p := fun T => by
        conv => lhs; unfold needSet
        rw [hn]
      rw [e1, e1, ih]
      by_cases hx : x < n
      · rw [if_pos hx, if_pos (by omega)]
      · rw [if_neg hx, if_neg (by omega)]
    | some u =>
      by_cases he : x = n
      · subst he
        rw [ht] at hn
        obtain rfl := Option.some.inj hn
        rw [needSet_in ht (by rw [or_bit]; simp), ih, if_neg (by omega), if_pos (by omega)]
        cases hb : S.testBit x with
        | true => rw [needSet_in ht hb]; omega
        | false => rw [needSet_out ht hb]
      · have hb : (S ||| 2 ^ x).testBit n = S.testBit n := by rw [or_bit]; simp [he]
        cases hs : S.testBit n with
        | true =>
          rw [hs] at hb
          rw [needSet_in hn hb, needSet_in hn hs, ih]
          by_cases hx : x < n
          · rw [if_pos hx, if_pos (by omega)]; omega
          · rw [if_neg hx, if_neg (by omega)]
        | false =>
          rw [hs] at hb
          rw [needSet_out hn hb, needSet_out hn hs, ih]
          by_cases hx : x < n
          · rw [if_pos hx, if_pos (by omega)]
          · rw [if_neg hx, if_neg (by omega)]
theorem needSet_more {r : Int} {ll : List (List (Int × Int))} {S x : Nat} {t : List (Int × Int)} (ht : ll[x]? = some t) (p : Int) : needSet r ll (S ||| 2 ^ x) ll.length p = max (needSet r ll S ll.length p) (needTo r t t.length p) := by
  rw [needSet_or ht p, if_pos (List.getElem?_eq_some_iff.1 ht).1]
theorem needSet_none {r : Int} {ll : List (List (Int × Int))} (p : Int) : ∀ k, needSet r ll 0 k p = 0
  | 0 => by simp [needSet]
  | k + 1 => by
    have ih := needSet_none p k (r := r) (ll := ll)
    cases hk : ll[k]? with
    | none => unfold needSet; rw [hk]; exact ih
    | some t => rw [needSet_out hk (by simp)]; exact ih
theorem needSL_none (r : Int) (ll : List (List (Int × Int))) (k : Nat) : needSL r ll 0 k = List.replicate 61 0 := by
  rw [← needSL_zero r ll 0]
  unfold needSL
  simp only [needSet_none]

/-! ### two rows of 61, the first up to p -/
def mixL (a b : List Int) (p : Nat) : List Int := a.take p ++ b.drop p
theorem mixL_zero (a b : List Int) : mixL a b 0 = b := by unfold mixL; simp
theorem mixL_all {a b : List Int} (ha : a.length = 61) (hb : b.length = 61) : mixL a b 61 = a := by
  unfold mixL
  rw [List.take_of_length_le (by omega), List.drop_of_length_le (by omega), List.append_nil]
theorem mixL_len {a b : List Int} (ha : a.length = 61) (hb : b.length = 61) {p : Nat} (hp : p ≤ 61) : (mixL a b p).length = 61 := by
  unfold mixL; rw [List.length_append, List.length_take, List.length_drop]; omega
theorem mixL_at {a b : List Int} (ha : a.length = 61) {p : Nat} (hp : p < 61) : (mixL a b p)[p]? = b[p]? := by
  unfold mixL
  rw [List.getElem?_append_right (by rw [List.length_take]; omega), List.length_take, List.getElem?_drop]
  congr 1; omega
theorem mixL_succ {a b : List Int} (ha : a.length = 61) (hb : b.length = 61) {p : Nat} (hp : p < 61) {x : Int} (hx : a[p]? = some x) : mixL a b (p + 1) = (mixL a b p).set p x := by
  refine List.ext_getElem? fun i => ?_
  have hl1 := mixL_len ha hb (p := p + 1) (by omega)
  have hl2 := mixL_len ha hb (p := p) (by omega)
  by_cases hi : i < 61
  · by_cases he : p = i
    · subst he
      rw [List.getElem?_set_self (by omega)]
      unfold mixL
      rw [List.getElem?_append_left (by rw [List.length_take]; omega), List.getElem?_take_of_lt (by omega)]
      exact hx
    · rw [List.getElem?_set_ne he]
      unfold mixL
      by_cases hlt : i < p
      · rw [List.getElem?_append_left (by rw [List.length_take]; omega), List.getElem?_append_left (by rw [List.length_take]; omega), List.getElem?_take_of_lt (by omega), List.getElem?_take_of_lt hlt]
      · rw [List.getElem?_append_right (by rw [List.length_take]; omega), List.getElem?_append_right (by rw [List.length_take]; omega), List.getElem?_drop, List.getElem?_drop, List.length_take, List.length_take]
        congr 1; omega
  · rw [List.getElem?_eq_none (by omega), List.getElem?_eq_none (by rw [List.length_set]; omega)]
theorem prog_none {r : Int} {ll : List (List (Int × Int))} {t : List (Int × Int)} {k : Nat} (h : ll[k]? = some t) (hb : tuneB t = false) : progB ll r = false :=
  progB_false.2 fun q => by have := q.1 t (List.mem_of_getElem? h); rw [hb] at this; cases this
theorem prog_rest {r : Int} {ll : List (List (Int × Int))} (h : ¬ (1 ≤ r ∧ r ≤ 100)) : progB ll r = false := progB_false.2 fun q => h q.2.2
theorem prog_many {r : Int} {ll : List (List (Int × Int))} (h : 8 < ll.length) : progB ll r = false := progB_false.2 fun q => by omega
theorem prog_all {r : Int} {ll : List (List (Int × Int))} (h1 : ∀ (k : Nat) (t : List (Int × Int)), k < ll.length → ll[k]? = some t → tuneB t = true) (h2 : ll.length ≤ 8) (h3 : 1 ≤ r ∧ r ≤ 100) : progB ll r = true :=
  progB_true.2 ⟨fun t ht => by obtain ⟨k, hk⟩ := List.mem_iff_getElem?.1 ht; exact h1 k t (List.getElem?_eq_some_iff.1 hk).1 hk, h2, h3⟩
end Go.Proofs.Ytcbdoldcdgaooaa
