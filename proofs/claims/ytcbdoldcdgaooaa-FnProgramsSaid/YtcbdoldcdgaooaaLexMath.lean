/- The sets of tunes in the lexicographic order of their rows; the first best one is the model's. Pure. No condition. -/
import Derived.Test.YtcbdoldcdgaooaaChooseMore
namespace Go.Proofs.Ytcbdoldcdgaooaa

/-- The row that follows in lexicographic order. -/
def nextL (n : Nat) (s : List Int) : Option (List Int) :=
  match s.reverse with
  | [] => if (0 : Int) < n then some [0] else none
  | x :: t => if x + 1 < (n : Int) then some (s ++ [x + 1]) else match t with
    | [] => none
    | y :: u => some (u.reverse ++ [y + 1])
theorem nextL_empty (n : Nat) : nextL n [] = if (0 : Int) < n then some [0] else none := rfl
theorem nextL_more {n : Nat} {i : List Int} {x : Int} (h : x + 1 < (n : Int)) : nextL n (i ++ [x]) = some (i ++ [x] ++ [x + 1]) := by
  unfold nextL; rw [List.reverse_append, List.reverse_singleton]; exact if_pos h
theorem nextL_end {n : Nat} {x : Int} (h : ¬ x + 1 < (n : Int)) : nextL n [x] = none := by
  unfold nextL; exact if_neg h
theorem nextL_step {n : Nat} {u : List Int} {x y : Int} (h : ¬ x + 1 < (n : Int)) : nextL n (u ++ [y] ++ [x]) = some (u ++ [y + 1]) := by
  unfold nextL
  rw [List.reverse_append, List.reverse_singleton, List.reverse_append, List.reverse_singleton]
  show (if x + 1 < (n : Int) then _ else some (u.reverse.reverse ++ [y + 1])) = _
  rw [if_neg h, List.reverse_reverse]

/-- The set that follows. -/
def nxt (n S : Nat) : Option Nat :=
  if S = 0 then (if 0 < n then some 1 else none) else
  if Nat.log2 S + 1 < n then some (S + 2 ^ (Nat.log2 S + 1)) else
  if S - 2 ^ Nat.log2 S = 0 then none else some (S - 2 ^ Nat.log2 S + 2 ^ Nat.log2 (S - 2 ^ Nat.log2 S))
/-- The sets from S on. -/
def gen (n : Nat) : Nat → Nat → List Nat
  | 0, _ => []
  | k + 1, S => S :: match nxt n S with | some T => gen n k T | none => []
def lexS (n : Nat) : List Nat := gen n 256 0
def lexOk : List (Nat × List Int) → Bool
  | [] => true
  | a :: l => (l.all fun b => a.1 != b.1 && (a.2.length != b.2.length || rowLess a.2 b.2)) && lexOk l
theorem lex_len : ∀ n : Fin 9, (lexS n.1).length = 2 ^ n.1 := by decide +kernel
theorem lex_lt : ∀ n : Fin 9, ∀ S ∈ lexS n.1, S < 2 ^ n.1 := by decide +kernel
theorem lex_nextL : ∀ n : Fin 9, ∀ S ∈ lexS n.1, nextL n.1 (bitsTo S 8) = (nxt n.1 S).map fun T => bitsTo T 8 := by decide +kernel
theorem lex_ok : ∀ n : Fin 9, lexOk ((lexS n.1).map fun S => (S, bitsTo S 8)) = true := by decide +kernel
def stepOk (n : Nat) : List Nat → Bool
  | [] => true
  | [S] => (nxt n S).isNone
  | S :: T :: l => nxt n S == some T && stepOk n (T :: l)
theorem lex_step : ∀ n : Fin 9, stepOk n.1 (lexS n.1) = true := by decide +kernel
theorem lex_has : ∀ n : Fin 9, ((List.range (2 ^ n.1)).all fun T => (lexS n.1).contains T) = true := by decide +kernel
theorem lex_head : ∀ n : Fin 9, (lexS n.1)[0]? = some 0 := by decide +kernel
theorem lexOk_at : ∀ {l : List (Nat × List Int)}, lexOk l = true → ∀ {i j : Nat} {a b : Nat × List Int}, i < j → l[i]? = some a → l[j]? = some b → a.1 ≠ b.1 ∧ (a.2.length = b.2.length → rowLess a.2 b.2 = true)
  | [], _, i, j, a, b, _, ha, _ => by simp at ha
  | c :: l, h, i, j, a, b, hij, ha, hb => by
    unfold lexOk at h
    rw [Bool.and_eq_true, List.all_eq_true] at h
    obtain ⟨j', rfl⟩ : ∃ j', j = j' + 1 := ⟨j - 1, by omega⟩
    rw [List.getElem?_cons_succ] at hb
    cases i with
    | zero =>
      rw [List.getElem?_cons_zero] at ha
      obtain rfl := Option.some.inj ha
      have := h.1 b (List.mem_of_getElem? hb)
      rw [Bool.and_eq_true, Bool.or_eq_true, bne_iff_ne, bne_iff_ne] at this
      exact ⟨this.1, fun e => this.2.elim (fun q => absurd e q) id⟩
    | succ i =>
      rw [List.getElem?_cons_succ] at ha
      exact lexOk_at h.2 (by omega) ha hb
theorem stepOk_at {n : Nat} : ∀ {l : List Nat}, stepOk n l = true → ∀ {i S : Nat}, l[i]? = some S → nxt n S = l[i + 1]?
  | [], _, i, S, h => by simp at h
  | [T], h, i, S, hi => by
    cases i with
    | zero =>
      obtain rfl : T = S := by simpa using hi
      unfold stepOk at h
      rw [Option.isNone_iff_eq_none] at h
      rw [h]; rfl
    | succ i => simp at hi
  | T :: U :: l, h, i, S, hi => by
    unfold stepOk at h
    rw [Bool.and_eq_true, beq_iff_eq] at h
    cases i with
    | zero =>
      obtain rfl : T = S := by simpa using hi
      rw [h.1]; rfl
    | succ i =>
      rw [List.getElem?_cons_succ] at hi ⊢
      exact stepOk_at h.2 hi

section
variable {n : Nat} (hn : n ≤ 8)
include hn
theorem lex_at_len : (lexS n).length = 2 ^ n := lex_len ⟨n, by omega⟩
theorem lex_at_lt {S : Nat} (h : S ∈ lexS n) : S < 2 ^ n := lex_lt ⟨n, by omega⟩ S h
/-- The row that follows the i-th one is the next one's. -/
theorem lex_at_next {i S : Nat} (h : (lexS n)[i]? = some S) : nextL n (bitsTo S 8) = ((lexS n)[i + 1]?).map fun T => bitsTo T 8 := by
  rw [← stepOk_at (lex_step ⟨n, by omega⟩) h]
  exact lex_nextL ⟨n, by omega⟩ S (List.mem_of_getElem? h)
theorem lex_at_less {i j S T : Nat} (hij : i < j) (hS : (lexS n)[i]? = some S) (hT : (lexS n)[j]? = some T) : S ≠ T ∧ ((bitsTo S 8).length = (bitsTo T 8).length → rowLess (bitsTo S 8) (bitsTo T 8) = true) := by
  have h := lexOk_at (lex_ok ⟨n, by omega⟩) hij (a := (S, bitsTo S 8)) (b := (T, bitsTo T 8)) (by rw [List.getElem?_map, hS]; rfl) (by rw [List.getElem?_map, hT]; rfl)
  exact h
theorem lex_all {T : Nat} (h : T < 2 ^ n) : T ∈ lexS n := by
  have h1 := List.all_eq_true.1 (lex_has ⟨n, by omega⟩) T (List.mem_range.2 h)
  simpa using h1
end

/-! ### the first best one -/
open Classical in
noncomputable def progStep (r : Int) (ll : List (List (Int × Int))) (teeth : Int) (st : List Int × Int) (S : Nat) : List Int × Int :=
  if teeth < allS r ll S ∨ (bitsTo S 8).length < st.1.length then st
  else if st.1.length < (bitsTo S 8).length ∨ allS r ll S < st.2 then (bitsTo S 8, allS r ll S) else st
theorem progStep_skip {r : Int} {ll : List (List (Int × Int))} {teeth : Int} {st : List Int × Int} {S : Nat} (h : teeth < allS r ll S ∨ (bitsTo S 8).length < st.1.length) : progStep r ll teeth st S = st := if_pos h
theorem progStep_take {r : Int} {ll : List (List (Int × Int))} {teeth : Int} {st : List Int × Int} {S : Nat} (h : ¬ (teeth < allS r ll S ∨ (bitsTo S 8).length < st.1.length)) (h2 : st.1.length < (bitsTo S 8).length ∨ allS r ll S < st.2) : progStep r ll teeth st S = (bitsTo S 8, allS r ll S) := by
  unfold progStep; rw [if_neg h, if_pos h2]
theorem progStep_keep {r : Int} {ll : List (List (Int × Int))} {teeth : Int} {st : List Int × Int} {S : Nat} (h : ¬ (teeth < allS r ll S ∨ (bitsTo S 8).length < st.1.length)) (h2 : ¬ (st.1.length < (bitsTo S 8).length ∨ allS r ll S < st.2)) : progStep r ll teeth st S = st := by
  unfold progStep; rw [if_neg h, if_neg h2]
/-- The first best of the sets at the places 1 to k. -/
noncomputable def progTo (n : Nat) (r : Int) (ll : List (List (Int × Int))) (teeth : Int) : Nat → List Int × Int
  | 0 => ([], 0)
  | k + 1 => match (lexS n)[k + 1]? with | some S => progStep r ll teeth (progTo n r ll teeth k) S | none => progTo n r ll teeth k
theorem progTo_succ {n : Nat} {r : Int} {ll : List (List (Int × Int))} {teeth : Int} {k S : Nat} (h : (lexS n)[k + 1]? = some S) : progTo n r ll teeth (k + 1) = progStep r ll teeth (progTo n r ll teeth k) S := by
  conv => lhs; unfold progTo
  rw [h]
theorem progTo_done {n : Nat} {r : Int} {ll : List (List (Int × Int))} {teeth : Int} {k : Nat} (h : (lexS n)[k + 1]? = none) : progTo n r ll teeth (k + 1) = progTo n r ll teeth k := by
  conv => lhs; unfold progTo
  rw [h]
def ProgGood (n : Nat) (r : Int) (ll : List (List (Int × Int))) (teeth : Int) (k : Nat) (st : List Int × Int) : Prop :=
  (st = ([], 0) ∨ ∃ j S, 1 ≤ j ∧ j ≤ k ∧ (lexS n)[j]? = some S ∧ st = (bitsTo S 8, allS r ll S) ∧ allS r ll S ≤ teeth) ∧
  ∀ (j T : Nat), 1 ≤ j → j ≤ k → (lexS n)[j]? = some T → allS r ll T ≤ teeth →
    (bitsTo T 8).length < st.1.length ∨ ((bitsTo T 8).length = st.1.length ∧ (st.2 < allS r ll T ∨ (st.2 = allS r ll T ∧ (st.1 = bitsTo T 8 ∨ rowLess st.1 (bitsTo T 8) = true))))
theorem progTo_good {n : Nat} (hn : n ≤ 8) (r : Int) (ll : List (List (Int × Int))) (teeth : Int) : ∀ k, ProgGood n r ll teeth k (progTo n r ll teeth k)
  | 0 => ⟨Or.inl rfl, fun j T h1 h2 => by omega⟩
  | k + 1 => by
    obtain ⟨hA, hB⟩ := progTo_good hn r ll teeth k
    cases hS : (lexS n)[k + 1]? with
    | none =>
      rw [progTo_done hS]
      refine ⟨hA.imp id fun ⟨j, S, a, b, c⟩ => ⟨j, S, a, by omega, c⟩, fun j T h1 h2 hj hT => ?_⟩
      by_cases he : j = k + 1
      · rw [he, hS] at hj; cases hj
      · exact hB j T h1 (by omega) hj hT
    | some S =>
      rw [progTo_succ hS]
      generalize progTo n r ll teeth k = st at *
      have keep : st = ([], 0) ∨ ∃ j S, 1 ≤ j ∧ j ≤ k + 1 ∧ (lexS n)[j]? = some S ∧ st = (bitsTo S 8, allS r ll S) ∧ allS r ll S ≤ teeth := hA.imp id fun ⟨j, S, a, b, c⟩ => ⟨j, S, a, by omega, c⟩
      by_cases h : teeth < allS r ll S ∨ (bitsTo S 8).length < st.1.length
      · rw [progStep_skip h]
        refine ⟨keep, fun j T h1 h2 hj hT => ?_⟩
        by_cases he : j = k + 1
        · subst he
          rw [hS] at hj
          obtain rfl := Option.some.inj hj
          exact h.elim (fun q => absurd hT (Int.not_le.2 q)) Or.inl
        · exact hB j T h1 (by omega) hj hT
      · by_cases h4 : st.1.length < (bitsTo S 8).length ∨ allS r ll S < st.2
        · rw [progStep_take h h4]
          refine ⟨Or.inr ⟨k + 1, S, by omega, Nat.le_refl _, hS, rfl, Int.not_lt.1 fun q => h (Or.inl q)⟩, fun j T h1 h2 hj hT => ?_⟩
          by_cases he : j = k + 1
          · subst he
            rw [hS] at hj
            obtain rfl := Option.some.inj hj
            exact Or.inr ⟨rfl, Or.inr ⟨rfl, Or.inl rfl⟩⟩
          · have q := hB j T h1 (by omega) hj hT
            have h5 : ¬ (bitsTo S 8).length < st.1.length := fun q => h (Or.inr q)
            show (bitsTo T 8).length < (bitsTo S 8).length ∨ ((bitsTo T 8).length = (bitsTo S 8).length ∧ (allS r ll S < allS r ll T ∨ _))
            by_cases hl : st.1.length < (bitsTo S 8).length
            · left
              rcases q with q | ⟨q, -⟩ <;> omega
            · have hn0 : allS r ll S < st.2 := h4.resolve_left hl
              rcases q with q | ⟨q, q2⟩
              · left; omega
              · right
                refine ⟨by omega, Or.inl ?_⟩
                rcases q2 with q2 | ⟨q2, -⟩ <;> omega
        · rw [progStep_keep h h4]
          refine ⟨keep, fun j T h1 h2 hj hT => ?_⟩
          by_cases he : j = k + 1
          · subst he
            rw [hS] at hj
            obtain rfl := Option.some.inj hj
            have h5 : ¬ (bitsTo S 8).length < st.1.length := fun q => h (Or.inr q)
            have h6 : ¬ st.1.length < (bitsTo S 8).length := fun q => h4 (Or.inl q)
            have h7 : ¬ allS r ll S < st.2 := fun q => h4 (Or.inr q)
            have hle : (bitsTo S 8).length = st.1.length := by omega
            refine Or.inr ⟨hle, ?_⟩
            by_cases h8 : st.2 < allS r ll S
            · exact Or.inl h8
            · refine Or.inr ⟨by omega, ?_⟩
              rcases hA with rfl | ⟨i, U, hi1, hi2, hU, rfl, -⟩
              · left
                exact (List.length_eq_zero_iff.1 hle).symm
              · right
                exact (lex_at_less hn (by omega) hU hS).2 hle.symm
          · exact hB j T h1 (by omega) hj hT

theorem rowLess_trans : ∀ {a b c : List Int}, rowLess a b = true → rowLess b c = true → rowLess a c = true
  | [], _, _, h, _ => by simp [rowLess] at h
  | _ :: _, [], _, h, _ => by simp [rowLess] at h
  | _ :: _, _ :: _, [], _, h => by simp [rowLess] at h
  | x :: a, y :: b, z :: c, h1, h2 => by
    unfold rowLess at h1 h2 ⊢
    by_cases hxy : x = y
    · subst hxy
      rw [if_pos rfl] at h1
      by_cases hyz : x = z
      · subst hyz
        rw [if_pos rfl] at h2 ⊢
        exact rowLess_trans h1 h2
      · rw [if_neg hyz] at h2 ⊢
        exact h2
    · rw [if_neg hxy, decide_eq_true_eq] at h1
      by_cases hyz : y = z
      · subst hyz
        rw [if_neg hxy, decide_eq_true_eq]; exact h1
      · rw [if_neg hyz, decide_eq_true_eq] at h2
        rw [if_neg (by omega), decide_eq_true_eq]; omega
theorem rowLess_self : ∀ a : List Int, rowLess a a = false
  | [] => rfl
  | x :: a => by unfold rowLess; rw [if_pos rfl]; exact rowLess_self a
/-- None that fits is longer, or as long and cheaper, or as cheap and ahead. -/
theorem mostTo_first (r : Int) (ll : List (List (Int × Int))) (teeth : Int) (k T : Nat) (h1 : 1 ≤ T) (h2 : T ≤ k) (h3 : allS r ll T ≤ teeth) :
    (bitsTo T 8).length < (mostTo r ll teeth k).1.length ∨ ((bitsTo T 8).length = (mostTo r ll teeth k).1.length ∧ ((mostTo r ll teeth k).2 < allS r ll T ∨ ((mostTo r ll teeth k).2 = allS r ll T ∧ rowLess (bitsTo T 8) (mostTo r ll teeth k).1 = false))) := by
  induction k with
  | zero => omega
  | succ k ih =>
    rw [mostTo_succ]
    generalize mostTo r ll teeth k = st at *
    by_cases h : teeth < allS r ll (k + 1) ∨ (bitsTo (k + 1) 8).length < st.1.length
    · rw [mostStep_skip h]
      by_cases hT : T ≤ k
      · exact ih hT
      · obtain rfl : T = k + 1 := by omega
        exact h.elim (fun q => absurd h3 (Int.not_le.2 q)) Or.inl
    · have h5 : ¬ (bitsTo (k + 1) 8).length < st.1.length := fun q => h (Or.inr q)
      by_cases h4 : st.1.length < (bitsTo (k + 1) 8).length ∨ allS r ll (k + 1) < st.2 ∨ (allS r ll (k + 1) = st.2 ∧ rowLess (bitsTo (k + 1) 8) st.1 = true)
      · rw [mostStep_take h h4]
        by_cases hT : T ≤ k
        · have q := ih hT
          show (bitsTo T 8).length < (bitsTo (k + 1) 8).length ∨ ((bitsTo T 8).length = (bitsTo (k + 1) 8).length ∧ (allS r ll (k + 1) < allS r ll T ∨ (allS r ll (k + 1) = allS r ll T ∧ rowLess (bitsTo T 8) (bitsTo (k + 1) 8) = false)))
          by_cases hl : st.1.length < (bitsTo (k + 1) 8).length
          · left
            rcases q with q | ⟨q, -⟩ <;> omega
          · rcases q with q | ⟨q, q2⟩
            · left; omega
            · refine Or.inr ⟨by omega, ?_⟩
              rcases h4.resolve_left hl with h6 | ⟨h6, h7⟩
              · left
                rcases q2 with q2 | ⟨q2, -⟩ <;> omega
              · rcases q2 with q2 | ⟨q2, q3⟩
                · left; omega
                · right
                  refine ⟨by omega, ?_⟩
                  cases hr : rowLess (bitsTo T 8) (bitsTo (k + 1) 8) with
                  | false => rfl
                  | true => rw [rowLess_trans hr h7] at q3; cases q3
        · obtain rfl : T = k + 1 := by omega
          exact Or.inr ⟨rfl, Or.inr ⟨rfl, rowLess_self _⟩⟩
      · rw [mostStep_keep h h4]
        by_cases hT : T ≤ k
        · exact ih hT
        · obtain rfl : T = k + 1 := by omega
          have h6 : ¬ st.1.length < (bitsTo (k + 1) 8).length := fun q => h4 (Or.inl q)
          have h7 : ¬ allS r ll (k + 1) < st.2 := fun q => h4 (Or.inr (Or.inl q))
          refine Or.inr ⟨by omega, ?_⟩
          by_cases h8 : st.2 < allS r ll (k + 1)
          · exact Or.inl h8
          · refine Or.inr ⟨by omega, ?_⟩
            cases hr : rowLess (bitsTo (k + 1) 8) st.1 with
            | false => rfl
            | true => exact absurd (Or.inr (Or.inr ⟨by omega, hr⟩)) h4
/-- The first best one in lexicographic order is the model's. -/
theorem prog_most {n : Nat} (hn : n ≤ 8) (r : Int) (ll : List (List (Int × Int))) (teeth : Int) : (progTo n r ll teeth (2 ^ n - 1)).1 = (mostTo r ll teeth (2 ^ n - 1)).1 := by
  obtain ⟨hA, hB⟩ := progTo_good hn r ll teeth (2 ^ n - 1)
  have hC := mostTo_is r ll teeth (2 ^ n - 1)
  have hD := mostTo_first r ll teeth (2 ^ n - 1)
  have h0 := lex_head ⟨n, by omega⟩
  have hlen := lex_at_len hn
  have hpos : 0 < 2 ^ n := Nat.pow_pos (by omega)
  have place : ∀ T, 1 ≤ T → T ≤ 2 ^ n - 1 → ∃ j, 1 ≤ j ∧ j ≤ 2 ^ n - 1 ∧ (lexS n)[j]? = some T := fun T h1 h2 => by
    obtain ⟨j, hj⟩ := List.mem_iff_getElem?.1 (lex_all hn (show T < 2 ^ n by omega))
    have hlt := (List.getElem?_eq_some_iff.1 hj).1
    refine ⟨j, Nat.pos_of_ne_zero fun e => ?_, by omega, hj⟩
    rw [e] at hj
    have := Option.some.inj (h0.symm.trans hj)
    omega
  have num : ∀ j S, 1 ≤ j → (lexS n)[j]? = some S → 1 ≤ S ∧ S ≤ 2 ^ n - 1 := fun j S h1 hj => by
    have hlt := lex_at_lt hn (List.mem_of_getElem? hj)
    have hne := (lex_at_less hn (show 0 < j by omega) h0 hj).1
    omega
  generalize progTo n r ll teeth (2 ^ n - 1) = P at *
  generalize mostTo r ll teeth (2 ^ n - 1) = M at *
  have empty : ∀ l : List Int, l.length = ([] : List Int).length → l = [] := fun l h => List.length_eq_zero_iff.1 h
  rcases hA with rfl | ⟨j, S, hj1, hj2, hS, rfl, hSt⟩
  · rcases hC with rfl | ⟨T, hT1, hT2, rfl, hTt⟩
    · rfl
    · obtain ⟨j, hj1, hj2, hj⟩ := place T hT1 hT2
      rcases hB j T hj1 hj2 hj hTt with q | ⟨q, -⟩
      · exact absurd q (Nat.not_lt_zero _)
      · exact (empty _ q).symm
  · obtain ⟨hS1, hS2⟩ := num j S hj1 hS
    rcases hC with rfl | ⟨T, hT1, hT2, rfl, hTt⟩
    · rcases hD S hS1 hS2 hSt with q | ⟨q, -⟩
      · exact absurd q (Nat.not_lt_zero _)
      · exact empty _ q
    · obtain ⟨i, hi1, hi2, hi⟩ := place T hT1 hT2
      have q1 := hB i T hi1 hi2 hi hTt
      have q2 := hD S hS1 hS2 hSt
      simp only at q1 q2
      rcases q1 with q1 | ⟨q1, q1'⟩ <;> rcases q2 with q2 | ⟨q2, q2'⟩ <;> try omega
      rcases q1' with q3 | ⟨q3, q3'⟩ <;> rcases q2' with q4 | ⟨q4, q4'⟩ <;> try omega
      rcases q3' with q5 | q5
      · exact q5
      · rw [q5] at q4'; cases q4'
end Go.Proofs.Ytcbdoldcdgaooaa
