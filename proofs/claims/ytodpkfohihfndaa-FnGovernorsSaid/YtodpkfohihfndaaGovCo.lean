/- Chapter 13's pure functions in company, whatever the rely and the guarantee: speedOk, percentOk, NextSpeed, isSteady, SteadySpeed; the model's l01In, l13Ok, NextSpeed. No condition. Made by gen_govco.py. -/
import Derived.Test.YtodpkfohihfndaaRunOn
import Derived.Test.YtodpkfohihfndaaImplGov
set_option linter.unusedSimpArgs false
set_option linter.unusedVariables false
namespace Go.Proofs.Ytodpkfohihfndaa
open Go.ChangeShapes Go.WideShapes Go.ChangeAt Go.RowKit Go.Conc

section
variable {main : Bool} {R : World → World → Prop} {D : World → World → Array Event → Prop}
theorem since_trans (T : Terms R D) {w₀ w w₁ : World} (h : Since R w₀ w) (k : Since R w w₁) : Since R w₀ w₁ := by
  rcases k with rfl | r
  · exact h
  · exact h.rely T r
/-- 'max' and 'min' of two ints list nothing. -/
theorem events_max2 {P : Program} {w : World} (ts : Array TypeId) (t : TypeId) (k k' : IntKind) (x y : Int) (es : Array Event) : (Builtin.max_ ts t #[.int k x, .int k' y]).events P w es = es := by simp [Builtin.max_, Builtin.max2]
theorem events_min2 {P : Program} {w : World} (ts : Array TypeId) (t : TypeId) (k k' : IntKind) (x y : Int) (es : Array Event) : (Builtin.min_ ts t #[.int k x, .int k' y]).events P w es = es := by simp [Builtin.min_, Builtin.min2]
/-- A statement that leaves the function: what stands behind it is not walked. -/
theorem wpC_seq_ret (T : Terms R D) {P : Program} {fn : FuncId} {Q : Exit → Act → World → Prop} {a : Act} {w : World} {x y : Go.Code} {n₁ : Nat} (h : Go.Code.wpC P main R D fn x n₁ (Exit.then (fun _ _ => False) Q) a w) : Go.Code.wpC P main R D fn (.seq x y) (n₁ + 0 + 1) Q a w :=
  wpC_seq (n₁ := n₁) (n₂ := 0) (y := y) T (wpC_mono h fun e a' w' q => by cases e <;> first | exact q.elim | exact q)
set_option maxHeartbeats 4000000 in
set_option maxRecDepth 100000 in
theorem speedok_c (T : Terms R D) (x : Int) : ∃ n, ∀ w, CallsC Try.prog main R D 23 #[.int .i64 x] n w fun u w' => u = .bool (decide (0 ≤ x ∧ x ≤ 100000)) ∧ Since R w w' := by
  by_cases h1 : 0 ≤ x
  · by_cases h2 : x ≤ 100000
    · rw [decide_eq_true (show 0 ≤ x ∧ x ≤ 100000 from ⟨h1, h2⟩)]
      have h1' : decide (0 ≤ x) = true := decide_eq_true h1
      have h2' : decide (x ≤ 100000) = true := decide_eq_true h2
      co_apply Exists.intro
      intro w
      co_apply callsC_of_wpC Try.func23 (by rfl) rfl
      have hF : Since R w w := .refl w
      simp only [Try.ntmps23, List.size_toArray, List.length_cons, List.length_nil, Nat.reduceAdd, Nat.reduceSub, Array.replicate_succ, Array.replicate_zero, List.push_toArray, List.append_toArray, List.nil_append, List.cons_append]
      repeat (first | co_reg T | co_op (Since.rely T) hF ((rw [listed_nil (by simp [go_sem, events_max2, events_min2])]; exact Terms.idle T _)) | (co_apply opsC_unwanted T rfl (by rfl); try walk_nrm) | (co_ctl T; try co_then) | (co_apply wpC_cond T; (focus (exact rfl)); simp only [if_true, if_false, reduceIte, Bool.false_eq_true]))
      exact ⟨rfl, _, resultsC_tmp (by rfl) _, rfl, hF⟩
    · rw [decide_eq_false (show ¬ (0 ≤ x ∧ x ≤ 100000) from fun q => h2 q.2)]
      have h1' : decide (0 ≤ x) = true := decide_eq_true h1
      have h2' : decide (x ≤ 100000) = false := decide_eq_false h2
      co_apply Exists.intro
      intro w
      co_apply callsC_of_wpC Try.func23 (by rfl) rfl
      have hF : Since R w w := .refl w
      simp only [Try.ntmps23, List.size_toArray, List.length_cons, List.length_nil, Nat.reduceAdd, Nat.reduceSub, Array.replicate_succ, Array.replicate_zero, List.push_toArray, List.append_toArray, List.nil_append, List.cons_append]
      repeat (first | co_reg T | co_op (Since.rely T) hF ((rw [listed_nil (by simp [go_sem, events_max2, events_min2])]; exact Terms.idle T _)) | (co_apply opsC_unwanted T rfl (by rfl); try walk_nrm) | (co_ctl T; try co_then) | (co_apply wpC_cond T; (focus (exact rfl)); simp only [if_true, if_false, reduceIte, Bool.false_eq_true]))
      exact ⟨rfl, _, resultsC_tmp (by rfl) _, rfl, hF⟩
  · rw [decide_eq_false (show ¬ (0 ≤ x ∧ x ≤ 100000) from fun q => h1 q.1)]
    have h1' : decide (0 ≤ x) = false := decide_eq_false h1
    co_apply Exists.intro
    intro w
    co_apply callsC_of_wpC Try.func23 (by rfl) rfl
    have hF : Since R w w := .refl w
    simp only [Try.ntmps23, List.size_toArray, List.length_cons, List.length_nil, Nat.reduceAdd, Nat.reduceSub, Array.replicate_succ, Array.replicate_zero, List.push_toArray, List.append_toArray, List.nil_append, List.cons_append]
    repeat (first | co_reg T | co_op (Since.rely T) hF ((rw [listed_nil (by simp [go_sem, events_max2, events_min2])]; exact Terms.idle T _)) | (co_apply opsC_unwanted T rfl (by rfl); try walk_nrm) | (co_ctl T; try co_then) | (co_apply wpC_cond T; (focus (exact rfl)); simp only [if_true, if_false, reduceIte, Bool.false_eq_true]))
    exact ⟨rfl, _, resultsC_tmp (by rfl) _, rfl, hF⟩
theorem speedok_cy (T : Terms R D) {x : Int} (h : 0 ≤ x ∧ x ≤ 100000) : ∃ n, ∀ w, CallsC Try.prog main R D 23 #[.int .i64 x] n w fun u w' => u = .bool true ∧ Since R w w' := by
  have := speedok_c (main := main) T x
  rwa [decide_eq_true h] at this
theorem speedok_cn (T : Terms R D) {x : Int} (h : ¬ (0 ≤ x ∧ x ≤ 100000)) : ∃ n, ∀ w, CallsC Try.prog main R D 23 #[.int .i64 x] n w fun u w' => u = .bool false ∧ Since R w w' := by
  have := speedok_c (main := main) T x
  rwa [decide_eq_false h] at this
set_option maxHeartbeats 4000000 in
set_option maxRecDepth 100000 in
theorem percentok_c (T : Terms R D) (x : Int) : ∃ n, ∀ w, CallsC Try.prog main R D 24 #[.int .i64 x] n w fun u w' => u = .bool (decide (0 ≤ x ∧ x ≤ 100)) ∧ Since R w w' := by
  by_cases h1 : 0 ≤ x
  · by_cases h2 : x ≤ 100
    · rw [decide_eq_true (show 0 ≤ x ∧ x ≤ 100 from ⟨h1, h2⟩)]
      have h1' : decide (0 ≤ x) = true := decide_eq_true h1
      have h2' : decide (x ≤ 100) = true := decide_eq_true h2
      co_apply Exists.intro
      intro w
      co_apply callsC_of_wpC Try.func24 (by rfl) rfl
      have hF : Since R w w := .refl w
      simp only [Try.ntmps24, List.size_toArray, List.length_cons, List.length_nil, Nat.reduceAdd, Nat.reduceSub, Array.replicate_succ, Array.replicate_zero, List.push_toArray, List.append_toArray, List.nil_append, List.cons_append]
      repeat (first | co_reg T | co_op (Since.rely T) hF ((rw [listed_nil (by simp [go_sem, events_max2, events_min2])]; exact Terms.idle T _)) | (co_apply opsC_unwanted T rfl (by rfl); try walk_nrm) | (co_ctl T; try co_then) | (co_apply wpC_cond T; (focus (exact rfl)); simp only [if_true, if_false, reduceIte, Bool.false_eq_true]))
      exact ⟨rfl, _, resultsC_tmp (by rfl) _, rfl, hF⟩
    · rw [decide_eq_false (show ¬ (0 ≤ x ∧ x ≤ 100) from fun q => h2 q.2)]
      have h1' : decide (0 ≤ x) = true := decide_eq_true h1
      have h2' : decide (x ≤ 100) = false := decide_eq_false h2
      co_apply Exists.intro
      intro w
      co_apply callsC_of_wpC Try.func24 (by rfl) rfl
      have hF : Since R w w := .refl w
      simp only [Try.ntmps24, List.size_toArray, List.length_cons, List.length_nil, Nat.reduceAdd, Nat.reduceSub, Array.replicate_succ, Array.replicate_zero, List.push_toArray, List.append_toArray, List.nil_append, List.cons_append]
      repeat (first | co_reg T | co_op (Since.rely T) hF ((rw [listed_nil (by simp [go_sem, events_max2, events_min2])]; exact Terms.idle T _)) | (co_apply opsC_unwanted T rfl (by rfl); try walk_nrm) | (co_ctl T; try co_then) | (co_apply wpC_cond T; (focus (exact rfl)); simp only [if_true, if_false, reduceIte, Bool.false_eq_true]))
      exact ⟨rfl, _, resultsC_tmp (by rfl) _, rfl, hF⟩
  · rw [decide_eq_false (show ¬ (0 ≤ x ∧ x ≤ 100) from fun q => h1 q.1)]
    have h1' : decide (0 ≤ x) = false := decide_eq_false h1
    co_apply Exists.intro
    intro w
    co_apply callsC_of_wpC Try.func24 (by rfl) rfl
    have hF : Since R w w := .refl w
    simp only [Try.ntmps24, List.size_toArray, List.length_cons, List.length_nil, Nat.reduceAdd, Nat.reduceSub, Array.replicate_succ, Array.replicate_zero, List.push_toArray, List.append_toArray, List.nil_append, List.cons_append]
    repeat (first | co_reg T | co_op (Since.rely T) hF ((rw [listed_nil (by simp [go_sem, events_max2, events_min2])]; exact Terms.idle T _)) | (co_apply opsC_unwanted T rfl (by rfl); try walk_nrm) | (co_ctl T; try co_then) | (co_apply wpC_cond T; (focus (exact rfl)); simp only [if_true, if_false, reduceIte, Bool.false_eq_true]))
    exact ⟨rfl, _, resultsC_tmp (by rfl) _, rfl, hF⟩
theorem percentok_cy (T : Terms R D) {x : Int} (h : 0 ≤ x ∧ x ≤ 100) : ∃ n, ∀ w, CallsC Try.prog main R D 24 #[.int .i64 x] n w fun u w' => u = .bool true ∧ Since R w w' := by
  have := percentok_c (main := main) T x
  rwa [decide_eq_true h] at this
theorem percentok_cn (T : Terms R D) {x : Int} (h : ¬ (0 ≤ x ∧ x ≤ 100)) : ∃ n, ∀ w, CallsC Try.prog main R D 24 #[.int .i64 x] n w fun u w' => u = .bool false ∧ Since R w w' := by
  have := percentok_c (main := main) T x
  rwa [decide_eq_false h] at this
set_option maxHeartbeats 4000000 in
set_option maxRecDepth 100000 in
theorem inxt_c (T : Terms R D) (v f b : Int) : ∃ n, ∀ w, CallsC Try.prog main R D 12 #[.int .i64 v, .int .i64 f, .int .i64 b] n w fun u w' => u = .int .i64 (nxtM v f b) ∧ Since R w w' := by
  by_cases h1 : 0 ≤ v ∧ v ≤ 100000
  · obtain ⟨ns, ks⟩ := speedok_cy (main := main) (R := R) (D := D) T h1
    by_cases h2 : 0 ≤ f
    · by_cases h3 : f ≤ 10000
      · have h2' : decide (f < 0) = false := decide_eq_false (by omega)
        have h3' : decide (10000 < f) = false := decide_eq_false (by omega)
        by_cases h4 : 0 ≤ b ∧ b ≤ 100
        · obtain ⟨np, kp⟩ := percentok_cy (main := main) (R := R) (D := D) T h4
          have hp : GovP v f b := ⟨h1, ⟨h2, h3⟩, h4⟩
          have HM := (nxtM_yes (govB_true.2 hp)).trans (nxt_eq hp)
          have hbk := brk_bounds hp.1 hp.2.2
          have hv := hp.1
          have hf := hp.2.1
          unfold brkQ at HM hbk
          obtain ⟨P, hP⟩ : ∃ P, b * v = P := ⟨_, rfl⟩
          rw [hP] at HM hbk
          obtain ⟨e1, e2⟩ := wrap_13 hP (by omega) (by omega)
          obtain ⟨Q, hQ⟩ : ∃ Q, P / 100 = Q := ⟨_, rfl⟩
          have htd : P.tdiv 100 = Q := (Int.tdiv_eq_ediv_of_nonneg hbk.1).trans hQ
          rw [hQ] at HM hbk
          obtain ⟨e3, e4⟩ := wrap_13 (x := Q) rfl (by omega) (by omega)
          obtain ⟨e5, e6⟩ := wrap_13 (x := v + f) rfl (by omega) (by omega)
          obtain ⟨X, hX⟩ : ∃ X, v + f - Q = X := ⟨_, rfl⟩
          rw [hX] at HM
          obtain ⟨e7, e8⟩ := wrap_13 hX (by omega) (by omega)
          rw [HM]
          clear HM hP hQ hX hbk hv hf hp h1 h2 h3 h4
          co_apply Exists.intro
          intro w
          co_apply callsC_of_wpC Try.func12 (by rfl) rfl
          have hF : Since R w w := .refl w
          simp only [Try.ntmps12, List.size_toArray, List.length_cons, List.length_nil, Nat.reduceAdd, Nat.reduceSub, Array.replicate_succ, Array.replicate_zero, List.push_toArray, List.append_toArray, List.nil_append, List.cons_append]
          repeat (first | co_reg T | co_op (Since.rely T) hF ((rw [listed_nil (by simp [go_sem, events_max2, events_min2])]; exact Terms.idle T _)) | (co_apply opsC_unwanted T rfl (by rfl); try walk_nrm) | (co_ctl T; try co_then) | (co_apply wpC_cond T; (focus (exact rfl)); simp only [if_true, if_false, reduceIte, Bool.false_eq_true]))
          co_apply opsC_call T rfl (by rfl) rfl
          · walk_nrm; exact ks _
          rintro v1 w1 ⟨rfl, hs⟩
          replace hF := since_trans T hF hs
          clear hs
          try walk_nrm
          repeat (first | co_reg T | co_op (Since.rely T) hF ((rw [listed_nil (by simp [go_sem, events_max2, events_min2])]; exact Terms.idle T _)) | (co_apply opsC_unwanted T rfl (by rfl); try walk_nrm) | (co_ctl T; try co_then) | (co_apply wpC_cond T; (focus (exact rfl)); simp only [if_true, if_false, reduceIte, Bool.false_eq_true]))
          co_apply opsC_call T rfl (by rfl) rfl
          · walk_nrm; exact kp _
          rintro v1 w1 ⟨rfl, hs⟩
          replace hF := since_trans T hF hs
          clear hs
          try walk_nrm
          repeat (first | co_reg T | co_op (Since.rely T) hF ((rw [listed_nil (by simp [go_sem, events_max2, events_min2])]; exact Terms.idle T _)) | (co_apply opsC_unwanted T rfl (by rfl); try walk_nrm) | (co_ctl T; try co_then) | (co_apply wpC_cond T; (focus (exact rfl)); simp only [if_true, if_false, reduceIte, Bool.false_eq_true]))
          exact ⟨rfl, _, resultsC_tmp (by rfl) _, rfl, hF⟩
        · obtain ⟨np, kp⟩ := percentok_cn (main := main) (R := R) (D := D) T h4
          rw [nxtM_no (gov_no (v := v) (f := f) (b := b) fun q => h4 q.2.2)]
          co_apply Exists.intro
          intro w
          co_apply callsC_of_wpC Try.func12 (by rfl) rfl
          have hF : Since R w w := .refl w
          simp only [Try.ntmps12, List.size_toArray, List.length_cons, List.length_nil, Nat.reduceAdd, Nat.reduceSub, Array.replicate_succ, Array.replicate_zero, List.push_toArray, List.append_toArray, List.nil_append, List.cons_append]
          co_apply wpC_seq T
          repeat (first | co_reg T | co_op (Since.rely T) hF ((rw [listed_nil (by simp [go_sem, events_max2, events_min2])]; exact Terms.idle T _)) | (co_apply opsC_unwanted T rfl (by rfl); try walk_nrm) | ((first | co_apply wpC_skip T | co_apply wpC_ret T | co_apply opsC_nil T); try co_then) | (co_apply wpC_cond T; (focus (exact rfl)); simp only [if_true, if_false, reduceIte, Bool.false_eq_true]))
          co_apply wpC_seq_ret T
          repeat (first | co_reg T | co_op (Since.rely T) hF ((rw [listed_nil (by simp [go_sem, events_max2, events_min2])]; exact Terms.idle T _)) | (co_apply opsC_unwanted T rfl (by rfl); try walk_nrm) | (co_ctl T; try co_then) | (co_apply wpC_cond T; (focus (exact rfl)); simp only [if_true, if_false, reduceIte, Bool.false_eq_true]))
          co_apply opsC_call T rfl (by rfl) rfl
          · walk_nrm; exact ks _
          rintro v1 w1 ⟨rfl, hs⟩
          replace hF := since_trans T hF hs
          clear hs
          try walk_nrm
          repeat (first | co_reg T | co_op (Since.rely T) hF ((rw [listed_nil (by simp [go_sem, events_max2, events_min2])]; exact Terms.idle T _)) | (co_apply opsC_unwanted T rfl (by rfl); try walk_nrm) | (co_ctl T; try co_then) | (co_apply wpC_cond T; (focus (exact rfl)); simp only [if_true, if_false, reduceIte, Bool.false_eq_true]))
          co_apply opsC_call T rfl (by rfl) rfl
          · walk_nrm; exact kp _
          rintro v1 w1 ⟨rfl, hs⟩
          replace hF := since_trans T hF hs
          clear hs
          try walk_nrm
          repeat (first | co_reg T | co_op (Since.rely T) hF ((rw [listed_nil (by simp [go_sem, events_max2, events_min2])]; exact Terms.idle T _)) | (co_apply opsC_unwanted T rfl (by rfl); try walk_nrm) | (co_ctl T; try co_then) | (co_apply wpC_cond T; (focus (exact rfl)); simp only [if_true, if_false, reduceIte, Bool.false_eq_true]))
          exact ⟨rfl, _, resultsC_tmp (by rfl) _, rfl, hF⟩
      · have h2' : decide (f < 0) = false := decide_eq_false (by omega)
        have h3' : decide (10000 < f) = true := decide_eq_true (by omega)
        rw [nxtM_no (gov_no (v := v) (f := f) (b := b) fun q => h3 q.2.1.2)]
        co_apply Exists.intro
        intro w
        co_apply callsC_of_wpC Try.func12 (by rfl) rfl
        have hF : Since R w w := .refl w
        simp only [Try.ntmps12, List.size_toArray, List.length_cons, List.length_nil, Nat.reduceAdd, Nat.reduceSub, Array.replicate_succ, Array.replicate_zero, List.push_toArray, List.append_toArray, List.nil_append, List.cons_append]
        co_apply wpC_seq T
        repeat (first | co_reg T | co_op (Since.rely T) hF ((rw [listed_nil (by simp [go_sem, events_max2, events_min2])]; exact Terms.idle T _)) | (co_apply opsC_unwanted T rfl (by rfl); try walk_nrm) | ((first | co_apply wpC_skip T | co_apply wpC_ret T | co_apply opsC_nil T); try co_then) | (co_apply wpC_cond T; (focus (exact rfl)); simp only [if_true, if_false, reduceIte, Bool.false_eq_true]))
        co_apply wpC_seq_ret T
        repeat (first | co_reg T | co_op (Since.rely T) hF ((rw [listed_nil (by simp [go_sem, events_max2, events_min2])]; exact Terms.idle T _)) | (co_apply opsC_unwanted T rfl (by rfl); try walk_nrm) | (co_ctl T; try co_then) | (co_apply wpC_cond T; (focus (exact rfl)); simp only [if_true, if_false, reduceIte, Bool.false_eq_true]))
        co_apply opsC_call T rfl (by rfl) rfl
        · walk_nrm; exact ks _
        rintro v1 w1 ⟨rfl, hs⟩
        replace hF := since_trans T hF hs
        clear hs
        try walk_nrm
        repeat (first | co_reg T | co_op (Since.rely T) hF ((rw [listed_nil (by simp [go_sem, events_max2, events_min2])]; exact Terms.idle T _)) | (co_apply opsC_unwanted T rfl (by rfl); try walk_nrm) | (co_ctl T; try co_then) | (co_apply wpC_cond T; (focus (exact rfl)); simp only [if_true, if_false, reduceIte, Bool.false_eq_true]))
        exact ⟨rfl, _, resultsC_tmp (by rfl) _, rfl, hF⟩
    · have h2' : decide (f < 0) = true := decide_eq_true (by omega)
      rw [nxtM_no (gov_no (v := v) (f := f) (b := b) fun q => h2 q.2.1.1)]
      co_apply Exists.intro
      intro w
      co_apply callsC_of_wpC Try.func12 (by rfl) rfl
      have hF : Since R w w := .refl w
      simp only [Try.ntmps12, List.size_toArray, List.length_cons, List.length_nil, Nat.reduceAdd, Nat.reduceSub, Array.replicate_succ, Array.replicate_zero, List.push_toArray, List.append_toArray, List.nil_append, List.cons_append]
      co_apply wpC_seq T
      repeat (first | co_reg T | co_op (Since.rely T) hF ((rw [listed_nil (by simp [go_sem, events_max2, events_min2])]; exact Terms.idle T _)) | (co_apply opsC_unwanted T rfl (by rfl); try walk_nrm) | ((first | co_apply wpC_skip T | co_apply wpC_ret T | co_apply opsC_nil T); try co_then) | (co_apply wpC_cond T; (focus (exact rfl)); simp only [if_true, if_false, reduceIte, Bool.false_eq_true]))
      co_apply wpC_seq_ret T
      repeat (first | co_reg T | co_op (Since.rely T) hF ((rw [listed_nil (by simp [go_sem, events_max2, events_min2])]; exact Terms.idle T _)) | (co_apply opsC_unwanted T rfl (by rfl); try walk_nrm) | (co_ctl T; try co_then) | (co_apply wpC_cond T; (focus (exact rfl)); simp only [if_true, if_false, reduceIte, Bool.false_eq_true]))
      co_apply opsC_call T rfl (by rfl) rfl
      · walk_nrm; exact ks _
      rintro v1 w1 ⟨rfl, hs⟩
      replace hF := since_trans T hF hs
      clear hs
      try walk_nrm
      repeat (first | co_reg T | co_op (Since.rely T) hF ((rw [listed_nil (by simp [go_sem, events_max2, events_min2])]; exact Terms.idle T _)) | (co_apply opsC_unwanted T rfl (by rfl); try walk_nrm) | (co_ctl T; try co_then) | (co_apply wpC_cond T; (focus (exact rfl)); simp only [if_true, if_false, reduceIte, Bool.false_eq_true]))
      exact ⟨rfl, _, resultsC_tmp (by rfl) _, rfl, hF⟩
  · obtain ⟨ns, ks⟩ := speedok_cn (main := main) (R := R) (D := D) T h1
    rw [nxtM_no (gov_no (v := v) (f := f) (b := b) fun q => h1 q.1)]
    co_apply Exists.intro
    intro w
    co_apply callsC_of_wpC Try.func12 (by rfl) rfl
    have hF : Since R w w := .refl w
    simp only [Try.ntmps12, List.size_toArray, List.length_cons, List.length_nil, Nat.reduceAdd, Nat.reduceSub, Array.replicate_succ, Array.replicate_zero, List.push_toArray, List.append_toArray, List.nil_append, List.cons_append]
    co_apply wpC_seq T
    repeat (first | co_reg T | co_op (Since.rely T) hF ((rw [listed_nil (by simp [go_sem, events_max2, events_min2])]; exact Terms.idle T _)) | (co_apply opsC_unwanted T rfl (by rfl); try walk_nrm) | ((first | co_apply wpC_skip T | co_apply wpC_ret T | co_apply opsC_nil T); try co_then) | (co_apply wpC_cond T; (focus (exact rfl)); simp only [if_true, if_false, reduceIte, Bool.false_eq_true]))
    co_apply wpC_seq_ret T
    repeat (first | co_reg T | co_op (Since.rely T) hF ((rw [listed_nil (by simp [go_sem, events_max2, events_min2])]; exact Terms.idle T _)) | (co_apply opsC_unwanted T rfl (by rfl); try walk_nrm) | (co_ctl T; try co_then) | (co_apply wpC_cond T; (focus (exact rfl)); simp only [if_true, if_false, reduceIte, Bool.false_eq_true]))
    co_apply opsC_call T rfl (by rfl) rfl
    · walk_nrm; exact ks _
    rintro v1 w1 ⟨rfl, hs⟩
    replace hF := since_trans T hF hs
    clear hs
    try walk_nrm
    repeat (first | co_reg T | co_op (Since.rely T) hF ((rw [listed_nil (by simp [go_sem, events_max2, events_min2])]; exact Terms.idle T _)) | (co_apply opsC_unwanted T rfl (by rfl); try walk_nrm) | (co_ctl T; try co_then) | (co_apply wpC_cond T; (focus (exact rfl)); simp only [if_true, if_false, reduceIte, Bool.false_eq_true]))
    exact ⟨rfl, _, resultsC_tmp (by rfl) _, rfl, hF⟩
set_option maxHeartbeats 4000000 in
set_option maxRecDepth 100000 in
theorem isteady_c (T : Terms R D) (v f b : Int) : ∃ n, ∀ w, CallsC Try.prog main R D 26 #[.int .i64 v, .int .i64 f, .int .i64 b] n w fun u w' => u = .bool (nxtM v f b == v) ∧ Since R w w' := by
  obtain ⟨nx, kx⟩ := inxt_c (main := main) (R := R) (D := D) T v f b
  generalize nxtM v f b = r at *
  co_apply Exists.intro
  intro w
  co_apply callsC_of_wpC Try.func26 (by rfl) rfl
  have hF : Since R w w := .refl w
  simp only [Try.ntmps26, List.size_toArray, List.length_cons, List.length_nil, Nat.reduceAdd, Nat.reduceSub, Array.replicate_succ, Array.replicate_zero, List.push_toArray, List.append_toArray, List.nil_append, List.cons_append]
  repeat (first | co_reg T | co_op (Since.rely T) hF ((rw [listed_nil (by simp [go_sem, events_max2, events_min2])]; exact Terms.idle T _)) | (co_apply opsC_unwanted T rfl (by rfl); try walk_nrm) | (co_ctl T; try co_then) | (co_apply wpC_cond T; (focus (exact rfl)); simp only [if_true, if_false, reduceIte, Bool.false_eq_true]))
  co_apply opsC_call T rfl (by rfl) rfl
  · walk_nrm; exact kx _
  rintro v1 w1 ⟨rfl, hs⟩
  replace hF := since_trans T hF hs
  clear hs
  try walk_nrm
  repeat (first | co_reg T | co_op (Since.rely T) hF ((rw [listed_nil (by simp [go_sem, events_max2, events_min2])]; exact Terms.idle T _)) | (co_apply opsC_unwanted T rfl (by rfl); try walk_nrm) | (co_ctl T; try co_then) | (co_apply wpC_cond T; (focus (exact rfl)); simp only [if_true, if_false, reduceIte, Bool.false_eq_true]))
  exact ⟨rfl, _, resultsC_tmp (by rfl) _, rfl, hF⟩
set_option maxHeartbeats 4000000 in
set_option maxRecDepth 100000 in
theorem istd_c (T : Terms R D) (f b : Int) : ∃ n, ∀ w, CallsC Try.prog main R D 11 #[.int .i64 f, .int .i64 b] n w fun u w' => u = .int .i64 (stdM f b) ∧ Since R w w' := by
  obtain ⟨nx, kx⟩ := inxt_c (main := main) (R := R) (D := D) T 0 f b
  by_cases h1 : b < 1
  · have h1' : decide (b < 1) = true := decide_eq_true h1
    rw [stdM_bad (f := f) (b := b) fun q => by omega]
    co_apply Exists.intro
    intro w
    co_apply callsC_of_wpC Try.func11 (by rfl) rfl
    have hF : Since R w w := .refl w
    simp only [Try.ntmps11, List.size_toArray, List.length_cons, List.length_nil, Nat.reduceAdd, Nat.reduceSub, Array.replicate_succ, Array.replicate_zero, List.push_toArray, List.append_toArray, List.nil_append, List.cons_append]
    co_apply wpC_seq T
    repeat (first | co_reg T | co_op (Since.rely T) hF ((rw [listed_nil (by simp [go_sem, events_max2, events_min2])]; exact Terms.idle T _)) | (co_apply opsC_unwanted T rfl (by rfl); try walk_nrm) | ((first | co_apply wpC_skip T | co_apply wpC_ret T | co_apply opsC_nil T); try co_then) | (co_apply wpC_cond T; (focus (exact rfl)); simp only [if_true, if_false, reduceIte, Bool.false_eq_true]))
    co_apply wpC_seq_ret T
    repeat (first | co_reg T | co_op (Since.rely T) hF ((rw [listed_nil (by simp [go_sem, events_max2, events_min2])]; exact Terms.idle T _)) | (co_apply opsC_unwanted T rfl (by rfl); try walk_nrm) | (co_ctl T; try co_then) | (co_apply wpC_cond T; (focus (exact rfl)); simp only [if_true, if_false, reduceIte, Bool.false_eq_true]))
    exact ⟨rfl, _, resultsC_tmp (by rfl) _, rfl, hF⟩
  · have h1' : decide (b < 1) = false := decide_eq_false h1
    by_cases h2 : (0 ≤ f ∧ f ≤ 10000) ∧ b ≤ 100
    · rw [nxt0 (b := b) h2.1 (by omega)] at kx
      have h3' : decide (f < 0) = false := decide_eq_false (by omega)
      obtain ⟨s, hs⟩ : ∃ s, (f * 100 + b - 1) / b = s := ⟨_, rfl⟩
      obtain ⟨hy, hno, hs0, hs1⟩ := std_ceil h2.1 (by omega) hs.symm
      obtain ⟨P, hP⟩ : ∃ P, f * 100 = P := ⟨_, rfl⟩
      rw [hP] at hs
      obtain ⟨e1, e2⟩ := wrap_13 hP (by omega) (by omega)
      obtain ⟨Q, hQ⟩ : ∃ Q, P + b = Q := ⟨_, rfl⟩
      rw [hQ] at hs
      obtain ⟨e3, e4⟩ := wrap_13 hQ (by omega) (by omega)
      obtain ⟨U, hU⟩ : ∃ U, Q - 1 = U := ⟨_, rfl⟩
      rw [hU] at hs
      obtain ⟨e5, e6⟩ := wrap_13 hU (by omega) (by omega)
      have htd : U.tdiv b = s := (Int.tdiv_eq_ediv_of_nonneg (by omega)).trans hs
      obtain ⟨e7, e8⟩ := wrap_13 (x := s) rfl (by omega) (by omega)
      have hbz : (b == 0) = false := by rw [beq_eq_false_iff_ne]; omega
      have hbn : ¬ b = 0 := by omega
      clear hP hQ hU hs
      by_cases h4 : 0 ≤ s ∧ s ≤ 100000
      · obtain ⟨ns, ks⟩ := speedok_cy (main := main) (R := R) (D := D) T h4
        rw [hy h4.2]
        clear hy hno h2 h4
        co_apply Exists.intro
        intro w
        co_apply callsC_of_wpC Try.func11 (by rfl) rfl
        have hF : Since R w w := .refl w
        simp only [Try.ntmps11, List.size_toArray, List.length_cons, List.length_nil, Nat.reduceAdd, Nat.reduceSub, Array.replicate_succ, Array.replicate_zero, List.push_toArray, List.append_toArray, List.nil_append, List.cons_append]
        repeat (first | co_reg T | co_op (Since.rely T) hF ((rw [listed_nil (by simp [go_sem, events_max2, events_min2])]; exact Terms.idle T _)) | (co_apply opsC_unwanted T rfl (by rfl); try walk_nrm) | (co_ctl T; try co_then) | (co_apply wpC_cond T; (focus (exact rfl)); simp only [if_true, if_false, reduceIte, Bool.false_eq_true]))
        co_apply opsC_call T rfl (by rfl) rfl
        · walk_nrm; exact kx _
        rintro v1 w1 ⟨rfl, hs⟩
        replace hF := since_trans T hF hs
        clear hs
        try walk_nrm
        repeat (first | co_reg T | co_op (Since.rely T) hF ((rw [listed_nil (by simp [go_sem, events_max2, events_min2])]; exact Terms.idle T _)) | (co_apply opsC_unwanted T rfl (by rfl); try walk_nrm) | (co_ctl T; try co_then) | (co_apply wpC_cond T; (focus (exact rfl)); simp only [if_true, if_false, reduceIte, Bool.false_eq_true]))
        co_apply opsC_call T rfl (by rfl) rfl
        · walk_nrm; exact ks _
        rintro v1 w1 ⟨rfl, hs⟩
        replace hF := since_trans T hF hs
        clear hs
        try walk_nrm
        repeat (first | co_reg T | co_op (Since.rely T) hF ((rw [listed_nil (by simp [go_sem, events_max2, events_min2])]; exact Terms.idle T _)) | (co_apply opsC_unwanted T rfl (by rfl); try walk_nrm) | (co_ctl T; try co_then) | (co_apply wpC_cond T; (focus (exact rfl)); simp only [if_true, if_false, reduceIte, Bool.false_eq_true]))
        exact ⟨rfl, _, resultsC_tmp (by rfl) _, rfl, hF⟩
      · obtain ⟨ns, ks⟩ := speedok_cn (main := main) (R := R) (D := D) T h4
        rw [hno (by omega)]
        clear hy hno h2 h4
        co_apply Exists.intro
        intro w
        co_apply callsC_of_wpC Try.func11 (by rfl) rfl
        have hF : Since R w w := .refl w
        simp only [Try.ntmps11, List.size_toArray, List.length_cons, List.length_nil, Nat.reduceAdd, Nat.reduceSub, Array.replicate_succ, Array.replicate_zero, List.push_toArray, List.append_toArray, List.nil_append, List.cons_append]
        co_apply wpC_seq T
        repeat (first | co_reg T | co_op (Since.rely T) hF ((rw [listed_nil (by simp [go_sem, events_max2, events_min2])]; exact Terms.idle T _)) | (co_apply opsC_unwanted T rfl (by rfl); try walk_nrm) | ((first | co_apply wpC_skip T | co_apply wpC_ret T | co_apply opsC_nil T); try co_then) | (co_apply wpC_cond T; (focus (exact rfl)); simp only [if_true, if_false, reduceIte, Bool.false_eq_true]))
        co_apply wpC_seq T
        co_apply wpC_seq T
        repeat (first | co_reg T | co_op (Since.rely T) hF ((rw [listed_nil (by simp [go_sem, events_max2, events_min2])]; exact Terms.idle T _)) | (co_apply opsC_unwanted T rfl (by rfl); try walk_nrm) | ((first | co_apply wpC_skip T | co_apply wpC_ret T | co_apply opsC_nil T); try co_then) | (co_apply wpC_cond T; (focus (exact rfl)); simp only [if_true, if_false, reduceIte, Bool.false_eq_true]))
        co_apply opsC_call T rfl (by rfl) rfl
        · walk_nrm; exact kx _
        rintro v1 w1 ⟨rfl, hs⟩
        replace hF := since_trans T hF hs
        clear hs
        try walk_nrm
        repeat (first | co_reg T | co_op (Since.rely T) hF ((rw [listed_nil (by simp [go_sem, events_max2, events_min2])]; exact Terms.idle T _)) | (co_apply opsC_unwanted T rfl (by rfl); try walk_nrm) | ((first | co_apply wpC_skip T | co_apply wpC_ret T | co_apply opsC_nil T); try co_then) | (co_apply wpC_cond T; (focus (exact rfl)); simp only [if_true, if_false, reduceIte, Bool.false_eq_true]))
        co_apply wpC_seq T
        repeat (first | co_reg T | co_op (Since.rely T) hF ((rw [listed_nil (by simp [go_sem, events_max2, events_min2])]; exact Terms.idle T _)) | (co_apply opsC_unwanted T rfl (by rfl); try walk_nrm) | ((first | co_apply wpC_skip T | co_apply wpC_ret T | co_apply opsC_nil T); try co_then) | (co_apply wpC_cond T; (focus (exact rfl)); simp only [if_true, if_false, reduceIte, Bool.false_eq_true]))
        co_apply wpC_seq_ret T
        repeat (first | co_reg T | co_op (Since.rely T) hF ((rw [listed_nil (by simp [go_sem, events_max2, events_min2])]; exact Terms.idle T _)) | (co_apply opsC_unwanted T rfl (by rfl); try walk_nrm) | (co_ctl T; try co_then) | (co_apply wpC_cond T; (focus (exact rfl)); simp only [if_true, if_false, reduceIte, Bool.false_eq_true]))
        co_apply opsC_call T rfl (by rfl) rfl
        · walk_nrm; exact ks _
        rintro v1 w1 ⟨rfl, hs⟩
        replace hF := since_trans T hF hs
        clear hs
        try walk_nrm
        repeat (first | co_reg T | co_op (Since.rely T) hF ((rw [listed_nil (by simp [go_sem, events_max2, events_min2])]; exact Terms.idle T _)) | (co_apply opsC_unwanted T rfl (by rfl); try walk_nrm) | (co_ctl T; try co_then) | (co_apply wpC_cond T; (focus (exact rfl)); simp only [if_true, if_false, reduceIte, Bool.false_eq_true]))
        exact ⟨rfl, _, resultsC_tmp (by rfl) _, rfl, hF⟩
    · rw [nxtM_no (gov_no (v := 0) (f := f) (b := b) fun q => h2 ⟨q.2.1, q.2.2.2⟩)] at kx
      rw [stdM_bad (f := f) (b := b) fun q => h2 ⟨q.1, q.2.2⟩]
      co_apply Exists.intro
      intro w
      co_apply callsC_of_wpC Try.func11 (by rfl) rfl
      have hF : Since R w w := .refl w
      simp only [Try.ntmps11, List.size_toArray, List.length_cons, List.length_nil, Nat.reduceAdd, Nat.reduceSub, Array.replicate_succ, Array.replicate_zero, List.push_toArray, List.append_toArray, List.nil_append, List.cons_append]
      co_apply wpC_seq T
      repeat (first | co_reg T | co_op (Since.rely T) hF ((rw [listed_nil (by simp [go_sem, events_max2, events_min2])]; exact Terms.idle T _)) | (co_apply opsC_unwanted T rfl (by rfl); try walk_nrm) | ((first | co_apply wpC_skip T | co_apply wpC_ret T | co_apply opsC_nil T); try co_then) | (co_apply wpC_cond T; (focus (exact rfl)); simp only [if_true, if_false, reduceIte, Bool.false_eq_true]))
      co_apply wpC_seq_ret T
      repeat (first | co_reg T | co_op (Since.rely T) hF ((rw [listed_nil (by simp [go_sem, events_max2, events_min2])]; exact Terms.idle T _)) | (co_apply opsC_unwanted T rfl (by rfl); try walk_nrm) | (co_ctl T; try co_then) | (co_apply wpC_cond T; (focus (exact rfl)); simp only [if_true, if_false, reduceIte, Bool.false_eq_true]))
      co_apply opsC_call T rfl (by rfl) rfl
      · walk_nrm; exact kx _
      rintro v1 w1 ⟨rfl, hs⟩
      replace hF := since_trans T hF hs
      clear hs
      try walk_nrm
      repeat (first | co_reg T | co_op (Since.rely T) hF ((rw [listed_nil (by simp [go_sem, events_max2, events_min2])]; exact Terms.idle T _)) | (co_apply opsC_unwanted T rfl (by rfl); try walk_nrm) | (co_ctl T; try co_then) | (co_apply wpC_cond T; (focus (exact rfl)); simp only [if_true, if_false, reduceIte, Bool.false_eq_true]))
      exact ⟨rfl, _, resultsC_tmp (by rfl) _, rfl, hF⟩
set_option maxHeartbeats 4000000 in
set_option maxRecDepth 100000 in
theorem in_c (T : Terms R D) (x lo hi : Int) : ∃ n, ∀ w, CallsC Try.prog main R D 30 #[.int .i64 x, .int .i64 lo, .int .i64 hi] n w fun u w' => u = .bool (decide (lo ≤ x ∧ x ≤ hi)) ∧ Since R w w' := by
  by_cases h1 : lo ≤ x
  · by_cases h2 : x ≤ hi
    · rw [decide_eq_true (show lo ≤ x ∧ x ≤ hi from ⟨h1, h2⟩)]
      have h1' : decide (lo ≤ x) = true := decide_eq_true h1
      have h2' : decide (x ≤ hi) = true := decide_eq_true h2
      co_apply Exists.intro
      intro w
      co_apply callsC_of_wpC Try.func30 (by rfl) rfl
      have hF : Since R w w := .refl w
      simp only [Try.ntmps30, List.size_toArray, List.length_cons, List.length_nil, Nat.reduceAdd, Nat.reduceSub, Array.replicate_succ, Array.replicate_zero, List.push_toArray, List.append_toArray, List.nil_append, List.cons_append]
      repeat (first | co_reg T | co_op (Since.rely T) hF ((rw [listed_nil (by simp [go_sem, events_max2, events_min2])]; exact Terms.idle T _)) | (co_apply opsC_unwanted T rfl (by rfl); try walk_nrm) | (co_ctl T; try co_then) | (co_apply wpC_cond T; (focus (exact rfl)); simp only [if_true, if_false, reduceIte, Bool.false_eq_true]))
      exact ⟨rfl, _, resultsC_tmp (by rfl) _, rfl, hF⟩
    · rw [decide_eq_false (show ¬ (lo ≤ x ∧ x ≤ hi) from fun q => h2 q.2)]
      have h1' : decide (lo ≤ x) = true := decide_eq_true h1
      have h2' : decide (x ≤ hi) = false := decide_eq_false h2
      co_apply Exists.intro
      intro w
      co_apply callsC_of_wpC Try.func30 (by rfl) rfl
      have hF : Since R w w := .refl w
      simp only [Try.ntmps30, List.size_toArray, List.length_cons, List.length_nil, Nat.reduceAdd, Nat.reduceSub, Array.replicate_succ, Array.replicate_zero, List.push_toArray, List.append_toArray, List.nil_append, List.cons_append]
      repeat (first | co_reg T | co_op (Since.rely T) hF ((rw [listed_nil (by simp [go_sem, events_max2, events_min2])]; exact Terms.idle T _)) | (co_apply opsC_unwanted T rfl (by rfl); try walk_nrm) | (co_ctl T; try co_then) | (co_apply wpC_cond T; (focus (exact rfl)); simp only [if_true, if_false, reduceIte, Bool.false_eq_true]))
      exact ⟨rfl, _, resultsC_tmp (by rfl) _, rfl, hF⟩
  · rw [decide_eq_false (show ¬ (lo ≤ x ∧ x ≤ hi) from fun q => h1 q.1)]
    have h1' : decide (lo ≤ x) = false := decide_eq_false h1
    co_apply Exists.intro
    intro w
    co_apply callsC_of_wpC Try.func30 (by rfl) rfl
    have hF : Since R w w := .refl w
    simp only [Try.ntmps30, List.size_toArray, List.length_cons, List.length_nil, Nat.reduceAdd, Nat.reduceSub, Array.replicate_succ, Array.replicate_zero, List.push_toArray, List.append_toArray, List.nil_append, List.cons_append]
    repeat (first | co_reg T | co_op (Since.rely T) hF ((rw [listed_nil (by simp [go_sem, events_max2, events_min2])]; exact Terms.idle T _)) | (co_apply opsC_unwanted T rfl (by rfl); try walk_nrm) | (co_ctl T; try co_then) | (co_apply wpC_cond T; (focus (exact rfl)); simp only [if_true, if_false, reduceIte, Bool.false_eq_true]))
    exact ⟨rfl, _, resultsC_tmp (by rfl) _, rfl, hF⟩
theorem in_cy (T : Terms R D) {x lo hi : Int} (h : lo ≤ x ∧ x ≤ hi) : ∃ n, ∀ w, CallsC Try.prog main R D 30 #[.int .i64 x, .int .i64 lo, .int .i64 hi] n w fun u w' => u = .bool true ∧ Since R w w' := by
  have := in_c (main := main) T x lo hi
  rwa [decide_eq_true h] at this
theorem in_cn (T : Terms R D) {x lo hi : Int} (h : ¬ (lo ≤ x ∧ x ≤ hi)) : ∃ n, ∀ w, CallsC Try.prog main R D 30 #[.int .i64 x, .int .i64 lo, .int .i64 hi] n w fun u w' => u = .bool false ∧ Since R w w' := by
  have := in_c (main := main) T x lo hi
  rwa [decide_eq_false h] at this
set_option maxHeartbeats 4000000 in
set_option maxRecDepth 100000 in
theorem ok13_c (T : Terms R D) (v f b : Int) : ∃ n, ∀ w, CallsC Try.prog main R D 29 #[.int .i64 v, .int .i64 f, .int .i64 b] n w fun u w' => u = .bool (govB v f b) ∧ Since R w w' := by
  by_cases h1 : 0 ≤ v ∧ v ≤ 100000
  · obtain ⟨nk1, k1⟩ := in_cy (main := main) (R := R) (D := D) T h1
    by_cases h2 : 0 ≤ f ∧ f ≤ 10000
    · obtain ⟨nk2, k2⟩ := in_cy (main := main) (R := R) (D := D) T h2
      by_cases h3 : 0 ≤ b ∧ b ≤ 100
      · obtain ⟨nk3, k3⟩ := in_cy (main := main) (R := R) (D := D) T h3
        rw [gov3 h1 h2 h3]
        co_apply Exists.intro
        intro w
        co_apply callsC_of_wpC Try.func29 (by rfl) rfl
        have hF : Since R w w := .refl w
        simp only [Try.ntmps29, List.size_toArray, List.length_cons, List.length_nil, Nat.reduceAdd, Nat.reduceSub, Array.replicate_succ, Array.replicate_zero, List.push_toArray, List.append_toArray, List.nil_append, List.cons_append]
        repeat (first | co_reg T | co_op (Since.rely T) hF ((rw [listed_nil (by simp [go_sem, events_max2, events_min2])]; exact Terms.idle T _)) | (co_apply opsC_unwanted T rfl (by rfl); try walk_nrm) | (co_ctl T; try co_then) | (co_apply wpC_cond T; (focus (exact rfl)); simp only [if_true, if_false, reduceIte, Bool.false_eq_true]))
        co_apply opsC_call T rfl (by rfl) rfl
        · walk_nrm; exact k1 _
        rintro v1 w1 ⟨rfl, hs⟩
        replace hF := since_trans T hF hs
        clear hs
        try walk_nrm
        repeat (first | co_reg T | co_op (Since.rely T) hF ((rw [listed_nil (by simp [go_sem, events_max2, events_min2])]; exact Terms.idle T _)) | (co_apply opsC_unwanted T rfl (by rfl); try walk_nrm) | (co_ctl T; try co_then) | (co_apply wpC_cond T; (focus (exact rfl)); simp only [if_true, if_false, reduceIte, Bool.false_eq_true]))
        co_apply opsC_call T rfl (by rfl) rfl
        · walk_nrm; exact k2 _
        rintro v1 w1 ⟨rfl, hs⟩
        replace hF := since_trans T hF hs
        clear hs
        try walk_nrm
        repeat (first | co_reg T | co_op (Since.rely T) hF ((rw [listed_nil (by simp [go_sem, events_max2, events_min2])]; exact Terms.idle T _)) | (co_apply opsC_unwanted T rfl (by rfl); try walk_nrm) | (co_ctl T; try co_then) | (co_apply wpC_cond T; (focus (exact rfl)); simp only [if_true, if_false, reduceIte, Bool.false_eq_true]))
        co_apply opsC_call T rfl (by rfl) rfl
        · walk_nrm; exact k3 _
        rintro v1 w1 ⟨rfl, hs⟩
        replace hF := since_trans T hF hs
        clear hs
        try walk_nrm
        repeat (first | co_reg T | co_op (Since.rely T) hF ((rw [listed_nil (by simp [go_sem, events_max2, events_min2])]; exact Terms.idle T _)) | (co_apply opsC_unwanted T rfl (by rfl); try walk_nrm) | (co_ctl T; try co_then) | (co_apply wpC_cond T; (focus (exact rfl)); simp only [if_true, if_false, reduceIte, Bool.false_eq_true]))
        exact ⟨rfl, _, resultsC_tmp (by rfl) _, rfl, hF⟩
      · obtain ⟨nk3, k3⟩ := in_cn (main := main) (R := R) (D := D) T h3
        rw [gov_no (v := v) (f := f) (b := b) fun k => h3 k.2.2]
        co_apply Exists.intro
        intro w
        co_apply callsC_of_wpC Try.func29 (by rfl) rfl
        have hF : Since R w w := .refl w
        simp only [Try.ntmps29, List.size_toArray, List.length_cons, List.length_nil, Nat.reduceAdd, Nat.reduceSub, Array.replicate_succ, Array.replicate_zero, List.push_toArray, List.append_toArray, List.nil_append, List.cons_append]
        repeat (first | co_reg T | co_op (Since.rely T) hF ((rw [listed_nil (by simp [go_sem, events_max2, events_min2])]; exact Terms.idle T _)) | (co_apply opsC_unwanted T rfl (by rfl); try walk_nrm) | (co_ctl T; try co_then) | (co_apply wpC_cond T; (focus (exact rfl)); simp only [if_true, if_false, reduceIte, Bool.false_eq_true]))
        co_apply opsC_call T rfl (by rfl) rfl
        · walk_nrm; exact k1 _
        rintro v1 w1 ⟨rfl, hs⟩
        replace hF := since_trans T hF hs
        clear hs
        try walk_nrm
        repeat (first | co_reg T | co_op (Since.rely T) hF ((rw [listed_nil (by simp [go_sem, events_max2, events_min2])]; exact Terms.idle T _)) | (co_apply opsC_unwanted T rfl (by rfl); try walk_nrm) | (co_ctl T; try co_then) | (co_apply wpC_cond T; (focus (exact rfl)); simp only [if_true, if_false, reduceIte, Bool.false_eq_true]))
        co_apply opsC_call T rfl (by rfl) rfl
        · walk_nrm; exact k2 _
        rintro v1 w1 ⟨rfl, hs⟩
        replace hF := since_trans T hF hs
        clear hs
        try walk_nrm
        repeat (first | co_reg T | co_op (Since.rely T) hF ((rw [listed_nil (by simp [go_sem, events_max2, events_min2])]; exact Terms.idle T _)) | (co_apply opsC_unwanted T rfl (by rfl); try walk_nrm) | (co_ctl T; try co_then) | (co_apply wpC_cond T; (focus (exact rfl)); simp only [if_true, if_false, reduceIte, Bool.false_eq_true]))
        co_apply opsC_call T rfl (by rfl) rfl
        · walk_nrm; exact k3 _
        rintro v1 w1 ⟨rfl, hs⟩
        replace hF := since_trans T hF hs
        clear hs
        try walk_nrm
        repeat (first | co_reg T | co_op (Since.rely T) hF ((rw [listed_nil (by simp [go_sem, events_max2, events_min2])]; exact Terms.idle T _)) | (co_apply opsC_unwanted T rfl (by rfl); try walk_nrm) | (co_ctl T; try co_then) | (co_apply wpC_cond T; (focus (exact rfl)); simp only [if_true, if_false, reduceIte, Bool.false_eq_true]))
        exact ⟨rfl, _, resultsC_tmp (by rfl) _, rfl, hF⟩
    · obtain ⟨nk2, k2⟩ := in_cn (main := main) (R := R) (D := D) T h2
      rw [gov_no (v := v) (f := f) (b := b) fun k => h2 k.2.1]
      co_apply Exists.intro
      intro w
      co_apply callsC_of_wpC Try.func29 (by rfl) rfl
      have hF : Since R w w := .refl w
      simp only [Try.ntmps29, List.size_toArray, List.length_cons, List.length_nil, Nat.reduceAdd, Nat.reduceSub, Array.replicate_succ, Array.replicate_zero, List.push_toArray, List.append_toArray, List.nil_append, List.cons_append]
      repeat (first | co_reg T | co_op (Since.rely T) hF ((rw [listed_nil (by simp [go_sem, events_max2, events_min2])]; exact Terms.idle T _)) | (co_apply opsC_unwanted T rfl (by rfl); try walk_nrm) | (co_ctl T; try co_then) | (co_apply wpC_cond T; (focus (exact rfl)); simp only [if_true, if_false, reduceIte, Bool.false_eq_true]))
      co_apply opsC_call T rfl (by rfl) rfl
      · walk_nrm; exact k1 _
      rintro v1 w1 ⟨rfl, hs⟩
      replace hF := since_trans T hF hs
      clear hs
      try walk_nrm
      repeat (first | co_reg T | co_op (Since.rely T) hF ((rw [listed_nil (by simp [go_sem, events_max2, events_min2])]; exact Terms.idle T _)) | (co_apply opsC_unwanted T rfl (by rfl); try walk_nrm) | (co_ctl T; try co_then) | (co_apply wpC_cond T; (focus (exact rfl)); simp only [if_true, if_false, reduceIte, Bool.false_eq_true]))
      co_apply opsC_call T rfl (by rfl) rfl
      · walk_nrm; exact k2 _
      rintro v1 w1 ⟨rfl, hs⟩
      replace hF := since_trans T hF hs
      clear hs
      try walk_nrm
      repeat (first | co_reg T | co_op (Since.rely T) hF ((rw [listed_nil (by simp [go_sem, events_max2, events_min2])]; exact Terms.idle T _)) | (co_apply opsC_unwanted T rfl (by rfl); try walk_nrm) | (co_ctl T; try co_then) | (co_apply wpC_cond T; (focus (exact rfl)); simp only [if_true, if_false, reduceIte, Bool.false_eq_true]))
      exact ⟨rfl, _, resultsC_tmp (by rfl) _, rfl, hF⟩
  · obtain ⟨nk1, k1⟩ := in_cn (main := main) (R := R) (D := D) T h1
    rw [gov_no (v := v) (f := f) (b := b) fun k => h1 k.1]
    co_apply Exists.intro
    intro w
    co_apply callsC_of_wpC Try.func29 (by rfl) rfl
    have hF : Since R w w := .refl w
    simp only [Try.ntmps29, List.size_toArray, List.length_cons, List.length_nil, Nat.reduceAdd, Nat.reduceSub, Array.replicate_succ, Array.replicate_zero, List.push_toArray, List.append_toArray, List.nil_append, List.cons_append]
    repeat (first | co_reg T | co_op (Since.rely T) hF ((rw [listed_nil (by simp [go_sem, events_max2, events_min2])]; exact Terms.idle T _)) | (co_apply opsC_unwanted T rfl (by rfl); try walk_nrm) | (co_ctl T; try co_then) | (co_apply wpC_cond T; (focus (exact rfl)); simp only [if_true, if_false, reduceIte, Bool.false_eq_true]))
    co_apply opsC_call T rfl (by rfl) rfl
    · walk_nrm; exact k1 _
    rintro v1 w1 ⟨rfl, hs⟩
    replace hF := since_trans T hF hs
    clear hs
    try walk_nrm
    repeat (first | co_reg T | co_op (Since.rely T) hF ((rw [listed_nil (by simp [go_sem, events_max2, events_min2])]; exact Terms.idle T _)) | (co_apply opsC_unwanted T rfl (by rfl); try walk_nrm) | (co_ctl T; try co_then) | (co_apply wpC_cond T; (focus (exact rfl)); simp only [if_true, if_false, reduceIte, Bool.false_eq_true]))
    exact ⟨rfl, _, resultsC_tmp (by rfl) _, rfl, hF⟩
set_option maxHeartbeats 4000000 in
set_option maxRecDepth 100000 in
theorem nxtS_c (T : Terms R D) (v f b : Int) : ∃ n, ∀ w, CallsC Try.prog main R D 16 #[.int .i64 v, .int .i64 f, .int .i64 b] n w fun u w' => u = .int .i64 (nxtM v f b) ∧ Since R w w' := by
  obtain ⟨nk, kk⟩ := ok13_c (main := main) (R := R) (D := D) T v f b
  cases hg : govB v f b with
  | false =>
    rw [hg] at kk
    rw [nxtM_no hg]
    clear hg
    co_apply Exists.intro
    intro w
    co_apply callsC_of_wpC Try.func16 (by rfl) rfl
    have hF : Since R w w := .refl w
    simp only [Try.ntmps16, List.size_toArray, List.length_cons, List.length_nil, Nat.reduceAdd, Nat.reduceSub, Array.replicate_succ, Array.replicate_zero, List.push_toArray, List.append_toArray, List.nil_append, List.cons_append]
    co_apply wpC_seq T
    repeat (first | co_reg T | co_op (Since.rely T) hF ((rw [listed_nil (by simp [go_sem, events_max2, events_min2])]; exact Terms.idle T _)) | (co_apply opsC_unwanted T rfl (by rfl); try walk_nrm) | ((first | co_apply wpC_skip T | co_apply wpC_ret T | co_apply opsC_nil T); try co_then) | (co_apply wpC_cond T; (focus (exact rfl)); simp only [if_true, if_false, reduceIte, Bool.false_eq_true]))
    co_apply wpC_seq_ret T
    repeat (first | co_reg T | co_op (Since.rely T) hF ((rw [listed_nil (by simp [go_sem, events_max2, events_min2])]; exact Terms.idle T _)) | (co_apply opsC_unwanted T rfl (by rfl); try walk_nrm) | (co_ctl T; try co_then) | (co_apply wpC_cond T; (focus (exact rfl)); simp only [if_true, if_false, reduceIte, Bool.false_eq_true]))
    co_apply opsC_call T rfl (by rfl) rfl
    · walk_nrm; exact kk _
    rintro v1 w1 ⟨rfl, hs⟩
    replace hF := since_trans T hF hs
    clear hs
    try walk_nrm
    repeat (first | co_reg T | co_op (Since.rely T) hF ((rw [listed_nil (by simp [go_sem, events_max2, events_min2])]; exact Terms.idle T _)) | (co_apply opsC_unwanted T rfl (by rfl); try walk_nrm) | (co_ctl T; try co_then) | (co_apply wpC_cond T; (focus (exact rfl)); simp only [if_true, if_false, reduceIte, Bool.false_eq_true]))
    exact ⟨rfl, _, resultsC_tmp (by rfl) _, rfl, hF⟩
  | true =>
    rw [hg] at kk
    have hp := govB_true.1 hg
    have HM := (nxtM_yes hg).trans (nxt_eq hp)
    have hbk := brk_bounds hp.1 hp.2.2
    have hv := hp.1
    have hf := hp.2.1
    unfold brkQ at HM hbk
    obtain ⟨P, hP⟩ : ∃ P, b * v = P := ⟨_, rfl⟩
    rw [hP] at HM hbk
    obtain ⟨e1, e2⟩ := wrap_13 hP (by omega) (by omega)
    obtain ⟨Q, hQ⟩ : ∃ Q, P / 100 = Q := ⟨_, rfl⟩
    have htd : P.tdiv 100 = Q := (Int.tdiv_eq_ediv_of_nonneg hbk.1).trans hQ
    rw [hQ] at HM hbk
    obtain ⟨e3, e4⟩ := wrap_13 (x := Q) rfl (by omega) (by omega)
    obtain ⟨e5, e6⟩ := wrap_13 (x := v + f) rfl (by omega) (by omega)
    obtain ⟨X, hX⟩ : ∃ X, v + f - Q = X := ⟨_, rfl⟩
    rw [hX] at HM
    obtain ⟨e7, e8⟩ := wrap_13 hX (by omega) (by omega)
    have hX0 : 0 ≤ X := by have := hp.1; have := hp.2.1; omega
    have em : (if X < 0 then 0 else X) = X := by split <;> omega
    have em2 : (if 0 < X then X else 0) = X := by split <;> omega
    rw [HM]
    clear HM hP hQ hX hbk hv hf hp hg
    co_apply Exists.intro
    intro w
    co_apply callsC_of_wpC Try.func16 (by rfl) rfl
    have hF : Since R w w := .refl w
    simp only [Try.ntmps16, List.size_toArray, List.length_cons, List.length_nil, Nat.reduceAdd, Nat.reduceSub, Array.replicate_succ, Array.replicate_zero, List.push_toArray, List.append_toArray, List.nil_append, List.cons_append]
    repeat (first | co_reg T | co_op (Since.rely T) hF ((rw [listed_nil (by simp [go_sem, events_max2, events_min2])]; exact Terms.idle T _)) | (co_apply opsC_unwanted T rfl (by rfl); try walk_nrm) | (co_ctl T; try co_then) | (co_apply wpC_cond T; (focus (exact rfl)); simp only [if_true, if_false, reduceIte, Bool.false_eq_true]))
    co_apply opsC_call T rfl (by rfl) rfl
    · walk_nrm; exact kk _
    rintro v1 w1 ⟨rfl, hs⟩
    replace hF := since_trans T hF hs
    clear hs
    try walk_nrm
    repeat (first | co_reg T | co_op (Since.rely T) hF ((rw [listed_nil (by simp [go_sem, events_max2, events_min2])]; exact Terms.idle T _)) | (co_apply opsC_unwanted T rfl (by rfl); try walk_nrm) | (co_ctl T; try co_then) | (co_apply wpC_cond T; (focus (exact rfl)); simp only [if_true, if_false, reduceIte, Bool.false_eq_true]))
    exact ⟨rfl, _, resultsC_tmp (by rfl) _, rfl, hF⟩
end
end Go.Proofs.Ytodpkfohihfndaa
