/- SpeedAfter and StepsUntilSteady, called by goroutine 0 beside goroutines that only leave. No condition. Made by gen_govfun.py. -/
import Derived.Test.YtodpkfohihfndaaGovTake
import Derived.Test.YtodpkfohihfndaaGovTake2
set_option linter.unusedSimpArgs false
set_option linter.unusedVariables false
namespace Go.Proofs.Ytodpkfohihfndaa
open Go Go.Conc Go.RowKit

set_option maxRecDepth 100000 in
set_option maxHeartbeats 8000000 in
theorem iaft_e {Fin : Value → World → Prop} {w : World} (v f b n : Int) : CallsE Try.prog Fin 13 #[.int .i64 v, .int .i64 f, .int .i64 b, .int .i64 n] w fun r w' => r = .int .i64 (aftM v f b n) ∧ Below w.heap.size w w' := by
  cases hg : govB v f b with
  | false =>
    rw [aftM_no (fun q => by rw [hg] at q; exact absurd q.1 (by decide))]
    refine callsE_of_wpE Try.func13 (by rfl) rfl ?_
    simp only [Try.ntmps13, List.size_toArray, List.length_cons, List.length_nil, Nat.reduceAdd, Nat.reduceSub, Array.replicate_succ, Array.replicate_zero, List.push_toArray, List.append_toArray, List.nil_append, List.cons_append]
    have hF := Since.refl (R := AtRel) w
    refine wpE_seq (wpE_of_wpC 0 fun B _ => ?_)
    co_apply Exists.intro
    repeat (first | co_reg (termsL B) | co_op (Since.rely (termsL B)) hF ((rw [listed_nil (by simp [go_sem, events_max2, events_min2])]; exact Terms.idle (termsL B) _)) | (co_apply opsC_unwanted (termsL B) rfl (by rfl); try walk_nrm) | ((first | co_apply wpC_skip (termsL B) | co_apply wpC_ret (termsL B) | co_apply opsC_nil (termsL B)); try co_then) | (co_apply wpC_cond (termsL B); (focus (exact rfl)); simp only [if_true, if_false, reduceIte, Bool.false_eq_true]))
    obtain ⟨d, rfl⟩ := since_at hF
    clear hF
    have hF := Since.refl (R := AtRel) (w.at d)
    refine wpE_seq (wpE_of_wpC 0 fun B _ => ?_)
    obtain ⟨nx, kx⟩ := inxt_c (main := true) (termsL B) v f b
    rw [nxtM_no hg] at kx
    co_apply Exists.intro
    repeat (first | co_reg (termsL B) | co_op (Since.rely (termsL B)) hF ((rw [listed_nil (by simp [go_sem, events_max2, events_min2])]; exact Terms.idle (termsL B) _)) | (co_apply opsC_unwanted (termsL B) rfl (by rfl); try walk_nrm) | ((first | co_apply wpC_seq (termsL B) | co_apply wpC_skip (termsL B) | co_apply wpC_ret (termsL B) | co_apply opsC_nil (termsL B)); try co_then) | (co_apply wpC_cond (termsL B); (focus (exact rfl)); simp only [if_true, if_false, reduceIte, Bool.false_eq_true]))
    co_apply opsC_call (termsL B) rfl (by rfl) rfl
    · walk_nrm; exact kx _
    rintro v1 w1 ⟨rfl, hs⟩
    replace hF := since_trans (termsL B) hF hs
    clear hs
    try walk_nrm
    repeat (first | co_reg (termsL B) | co_op (Since.rely (termsL B)) hF ((rw [listed_nil (by simp [go_sem, events_max2, events_min2])]; exact Terms.idle (termsL B) _)) | (co_apply opsC_unwanted (termsL B) rfl (by rfl); try walk_nrm) | ((first | co_apply wpC_seq (termsL B) | co_apply wpC_skip (termsL B) | co_apply wpC_ret (termsL B) | co_apply opsC_nil (termsL B)); try co_then) | (co_apply wpC_cond (termsL B); (focus (exact rfl)); simp only [if_true, if_false, reduceIte, Bool.false_eq_true]))
    obtain ⟨d', rfl⟩ := since_at hF
    exact ⟨rfl, _, resultsC_tmp (by rfl) _, rfl, below_at (Below.refl _ _) _⟩
  | true =>
    have hp := govB_true.1 hg
    have hn0 : decide (nxtM v f b < 0) = false := decide_eq_false (by rw [nxtM_yes hg]; have := (nxt_bounds hp).1; omega)
    by_cases h1 : n < 0
    · rw [aftM_no (fun q => by omega)]
      have h1' : decide (n < 0) = true := decide_eq_true h1
      refine callsE_of_wpE Try.func13 (by rfl) rfl ?_
      simp only [Try.ntmps13, List.size_toArray, List.length_cons, List.length_nil, Nat.reduceAdd, Nat.reduceSub, Array.replicate_succ, Array.replicate_zero, List.push_toArray, List.append_toArray, List.nil_append, List.cons_append]
      have hF := Since.refl (R := AtRel) w
      refine wpE_seq (wpE_of_wpC 0 fun B _ => ?_)
      co_apply Exists.intro
      repeat (first | co_reg (termsL B) | co_op (Since.rely (termsL B)) hF ((rw [listed_nil (by simp [go_sem, events_max2, events_min2])]; exact Terms.idle (termsL B) _)) | (co_apply opsC_unwanted (termsL B) rfl (by rfl); try walk_nrm) | ((first | co_apply wpC_skip (termsL B) | co_apply wpC_ret (termsL B) | co_apply opsC_nil (termsL B)); try co_then) | (co_apply wpC_cond (termsL B); (focus (exact rfl)); simp only [if_true, if_false, reduceIte, Bool.false_eq_true]))
      obtain ⟨d, rfl⟩ := since_at hF
      clear hF
      have hF := Since.refl (R := AtRel) (w.at d)
      refine wpE_seq (wpE_of_wpC 0 fun B _ => ?_)
      obtain ⟨nx, kx⟩ := inxt_c (main := true) (termsL B) v f b
      generalize nxtM v f b = r at *
      co_apply Exists.intro
      repeat (first | co_reg (termsL B) | co_op (Since.rely (termsL B)) hF ((rw [listed_nil (by simp [go_sem, events_max2, events_min2])]; exact Terms.idle (termsL B) _)) | (co_apply opsC_unwanted (termsL B) rfl (by rfl); try walk_nrm) | ((first | co_apply wpC_seq (termsL B) | co_apply wpC_skip (termsL B) | co_apply wpC_ret (termsL B) | co_apply opsC_nil (termsL B)); try co_then) | (co_apply wpC_cond (termsL B); (focus (exact rfl)); simp only [if_true, if_false, reduceIte, Bool.false_eq_true]))
      co_apply opsC_call (termsL B) rfl (by rfl) rfl
      · walk_nrm; exact kx _
      rintro v1 w1 ⟨rfl, hs⟩
      replace hF := since_trans (termsL B) hF hs
      clear hs
      try walk_nrm
      repeat (first | co_reg (termsL B) | co_op (Since.rely (termsL B)) hF ((rw [listed_nil (by simp [go_sem, events_max2, events_min2])]; exact Terms.idle (termsL B) _)) | (co_apply opsC_unwanted (termsL B) rfl (by rfl); try walk_nrm) | ((first | co_apply wpC_seq (termsL B) | co_apply wpC_skip (termsL B) | co_apply wpC_ret (termsL B) | co_apply opsC_nil (termsL B)); try co_then) | (co_apply wpC_cond (termsL B); (focus (exact rfl)); simp only [if_true, if_false, reduceIte, Bool.false_eq_true]))
      obtain ⟨d', rfl⟩ := since_at hF
      exact ⟨rfl, _, resultsC_tmp (by rfl) _, rfl, below_at (Below.refl _ _) _⟩
    · have h1' : decide (n < 0) = false := decide_eq_false h1
      by_cases h2 : 1000 < n
      · rw [aftM_no (fun q => by omega)]
        have h2' : decide (1000 < n) = true := decide_eq_true h2
        refine callsE_of_wpE Try.func13 (by rfl) rfl ?_
        simp only [Try.ntmps13, List.size_toArray, List.length_cons, List.length_nil, Nat.reduceAdd, Nat.reduceSub, Array.replicate_succ, Array.replicate_zero, List.push_toArray, List.append_toArray, List.nil_append, List.cons_append]
        have hF := Since.refl (R := AtRel) w
        refine wpE_seq (wpE_of_wpC 0 fun B _ => ?_)
        co_apply Exists.intro
        repeat (first | co_reg (termsL B) | co_op (Since.rely (termsL B)) hF ((rw [listed_nil (by simp [go_sem, events_max2, events_min2])]; exact Terms.idle (termsL B) _)) | (co_apply opsC_unwanted (termsL B) rfl (by rfl); try walk_nrm) | ((first | co_apply wpC_skip (termsL B) | co_apply wpC_ret (termsL B) | co_apply opsC_nil (termsL B)); try co_then) | (co_apply wpC_cond (termsL B); (focus (exact rfl)); simp only [if_true, if_false, reduceIte, Bool.false_eq_true]))
        obtain ⟨d, rfl⟩ := since_at hF
        clear hF
        have hF := Since.refl (R := AtRel) (w.at d)
        refine wpE_seq (wpE_of_wpC 0 fun B _ => ?_)
        obtain ⟨nx, kx⟩ := inxt_c (main := true) (termsL B) v f b
        generalize nxtM v f b = r at *
        co_apply Exists.intro
        repeat (first | co_reg (termsL B) | co_op (Since.rely (termsL B)) hF ((rw [listed_nil (by simp [go_sem, events_max2, events_min2])]; exact Terms.idle (termsL B) _)) | (co_apply opsC_unwanted (termsL B) rfl (by rfl); try walk_nrm) | ((first | co_apply wpC_seq (termsL B) | co_apply wpC_skip (termsL B) | co_apply wpC_ret (termsL B) | co_apply opsC_nil (termsL B)); try co_then) | (co_apply wpC_cond (termsL B); (focus (exact rfl)); simp only [if_true, if_false, reduceIte, Bool.false_eq_true]))
        co_apply opsC_call (termsL B) rfl (by rfl) rfl
        · walk_nrm; exact kx _
        rintro v1 w1 ⟨rfl, hs⟩
        replace hF := since_trans (termsL B) hF hs
        clear hs
        try walk_nrm
        repeat (first | co_reg (termsL B) | co_op (Since.rely (termsL B)) hF ((rw [listed_nil (by simp [go_sem, events_max2, events_min2])]; exact Terms.idle (termsL B) _)) | (co_apply opsC_unwanted (termsL B) rfl (by rfl); try walk_nrm) | ((first | co_apply wpC_seq (termsL B) | co_apply wpC_skip (termsL B) | co_apply wpC_ret (termsL B) | co_apply opsC_nil (termsL B)); try co_then) | (co_apply wpC_cond (termsL B); (focus (exact rfl)); simp only [if_true, if_false, reduceIte, Bool.false_eq_true]))
        obtain ⟨d', rfl⟩ := since_at hF
        exact ⟨rfl, _, resultsC_tmp (by rfl) _, rfl, below_at (Below.refl _ _) _⟩
      · have h2' : decide (1000 < n) = false := decide_eq_false h2
        rw [aftM_yes hg (by omega)]
        refine callsE_of_wpE Try.func13 (by rfl) rfl ?_
        simp only [Try.ntmps13, List.size_toArray, List.length_cons, List.length_nil, Nat.reduceAdd, Nat.reduceSub, Array.replicate_succ, Array.replicate_zero, List.push_toArray, List.append_toArray, List.nil_append, List.cons_append]
        have hF := Since.refl (R := AtRel) w
        refine wpE_seq (wpE_of_wpC 0 fun B _ => ?_)
        co_apply Exists.intro
        repeat (first | co_reg (termsL B) | co_op (Since.rely (termsL B)) hF ((rw [listed_nil (by simp [go_sem, events_max2, events_min2])]; exact Terms.idle (termsL B) _)) | (co_apply opsC_unwanted (termsL B) rfl (by rfl); try walk_nrm) | ((first | co_apply wpC_skip (termsL B) | co_apply wpC_ret (termsL B) | co_apply opsC_nil (termsL B)); try co_then) | (co_apply wpC_cond (termsL B); (focus (exact rfl)); simp only [if_true, if_false, reduceIte, Bool.false_eq_true]))
        obtain ⟨d, rfl⟩ := since_at hF
        clear hF
        have hF := Since.refl (R := AtRel) (w.at d)
        refine wpE_seq (wpE_of_wpC 0 fun B _ => ?_)
        obtain ⟨nx, kx⟩ := inxt_c (main := true) (termsL B) v f b
        generalize nxtM v f b = r at *
        co_apply Exists.intro
        repeat (first | co_reg (termsL B) | co_op (Since.rely (termsL B)) hF ((rw [listed_nil (by simp [go_sem, events_max2, events_min2])]; exact Terms.idle (termsL B) _)) | (co_apply opsC_unwanted (termsL B) rfl (by rfl); try walk_nrm) | ((first | co_apply wpC_seq (termsL B) | co_apply wpC_skip (termsL B) | co_apply wpC_ret (termsL B) | co_apply opsC_nil (termsL B)); try co_then) | (co_apply wpC_cond (termsL B); (focus (exact rfl)); simp only [if_true, if_false, reduceIte, Bool.false_eq_true]))
        co_apply opsC_call (termsL B) rfl (by rfl) rfl
        · walk_nrm; exact kx _
        rintro v1 w1 ⟨rfl, hs⟩
        replace hF := since_trans (termsL B) hF hs
        clear hs
        try walk_nrm
        repeat (first | co_reg (termsL B) | co_op (Since.rely (termsL B)) hF ((rw [listed_nil (by simp [go_sem, events_max2, events_min2])]; exact Terms.idle (termsL B) _)) | (co_apply opsC_unwanted (termsL B) rfl (by rfl); try walk_nrm) | ((first | co_apply wpC_seq (termsL B) | co_apply wpC_skip (termsL B) | co_apply wpC_ret (termsL B) | co_apply opsC_nil (termsL B)); try co_then) | (co_apply wpC_cond (termsL B); (focus (exact rfl)); simp only [if_true, if_false, reduceIte, Bool.false_eq_true]))
        obtain ⟨d2, rfl⟩ := since_at hF
        clear hF
        have hF := Since.refl (R := AtRel) ((w.at d).at d2)
        refine wpE_seq (wpE_of_wpC 0 fun B _ => ?_)
        co_apply Exists.intro
        repeat (first | co_reg (termsL B) | co_op (Since.rely (termsL B)) hF ((rw [listed_nil (by simp [go_sem, events_max2, events_min2])]; exact Terms.idle (termsL B) _)) | (co_apply opsC_unwanted (termsL B) rfl (by rfl); try walk_nrm) | ((first | co_apply wpC_skip (termsL B) | co_apply wpC_ret (termsL B) | co_apply opsC_nil (termsL B)); try co_then) | (co_apply wpC_cond (termsL B); (focus (exact rfl)); simp only [if_true, if_false, reduceIte, Bool.false_eq_true]))
        obtain ⟨d3, rfl⟩ := since_at hF
        clear hF
        refine wpE_seq (wpE_mono (takeA_e v f b n v hp (by omega) _ _ _ _ _ _ _ _ _ _ _ _ _ _ _ _ _ _ _ _ _ _ _ _ _) ?_)
        rintro e a' w' ⟨rfl, hb, j10, j11, j12, j13, j14, j15, j16, j17, j18, j19, j20, j21, j22, j23, j24, j25, j26, j27, j28, j29, j30, j31, j32, j33, j34, rfl⟩
        have hb' : Below w.heap.size w w' := ⟨hb.os, hb.tape, hb.output, hb.size, hb.block⟩
        have hl : lastI v (v :: seqL f b n.toNat v) = aftQ f b n.toNat v := last_seq hp
        rw [hl]
        have hF := Since.refl (R := AtRel) w'
        refine wpE_of_wpC 0 fun B _ => ?_
        co_apply Exists.intro
        repeat (first | co_reg (termsL B) | co_op (Since.rely (termsL B)) hF ((rw [listed_nil (by simp [go_sem, events_max2, events_min2])]; exact Terms.idle (termsL B) _)) | (co_apply opsC_unwanted (termsL B) rfl (by rfl); try walk_nrm) | ((first | co_apply wpC_seq (termsL B) | co_apply wpC_skip (termsL B) | co_apply wpC_ret (termsL B) | co_apply opsC_nil (termsL B)); try co_then) | (co_apply wpC_cond (termsL B); (focus (exact rfl)); simp only [if_true, if_false, reduceIte, Bool.false_eq_true]))
        obtain ⟨d4, rfl⟩ := since_at hF
        exact ⟨rfl, _, resultsC_tmp (by rfl) _, rfl, below_at hb' d4⟩
set_option maxRecDepth 100000 in
set_option maxHeartbeats 8000000 in
theorem iunt_e {Fin : Value → World → Prop} {w : World} (v f b : Int) : CallsE Try.prog Fin 14 #[.int .i64 v, .int .i64 f, .int .i64 b] w fun r w' => r = .int .i64 (untM v f b) ∧ Below w.heap.size w w' := by
  by_cases h1 : b < 1
  · rw [untM_no (fun q => by omega)]
    have h1' : decide (b < 1) = true := decide_eq_true h1
    refine callsE_of_wpE Try.func14 (by rfl) rfl ?_
    simp only [Try.ntmps14, List.size_toArray, List.length_cons, List.length_nil, Nat.reduceAdd, Nat.reduceSub, Array.replicate_succ, Array.replicate_zero, List.push_toArray, List.append_toArray, List.nil_append, List.cons_append]
    have hF := Since.refl (R := AtRel) w
    refine wpE_seq (wpE_of_wpC 0 fun B _ => ?_)
    co_apply Exists.intro
    repeat (first | co_reg (termsL B) | co_op (Since.rely (termsL B)) hF ((rw [listed_nil (by simp [go_sem, events_max2, events_min2])]; exact Terms.idle (termsL B) _)) | (co_apply opsC_unwanted (termsL B) rfl (by rfl); try walk_nrm) | ((first | co_apply wpC_skip (termsL B) | co_apply wpC_ret (termsL B) | co_apply opsC_nil (termsL B)); try co_then) | (co_apply wpC_cond (termsL B); (focus (exact rfl)); simp only [if_true, if_false, reduceIte, Bool.false_eq_true]))
    obtain ⟨d, rfl⟩ := since_at hF
    clear hF
    have hF := Since.refl (R := AtRel) (w.at d)
    refine wpE_seq (wpE_of_wpC 0 fun B _ => ?_)
    co_apply Exists.intro
    repeat (first | co_reg (termsL B) | co_op (Since.rely (termsL B)) hF ((rw [listed_nil (by simp [go_sem, events_max2, events_min2])]; exact Terms.idle (termsL B) _)) | (co_apply opsC_unwanted (termsL B) rfl (by rfl); try walk_nrm) | ((first | co_apply wpC_seq (termsL B) | co_apply wpC_skip (termsL B) | co_apply wpC_ret (termsL B) | co_apply opsC_nil (termsL B)); try co_then) | (co_apply wpC_cond (termsL B); (focus (exact rfl)); simp only [if_true, if_false, reduceIte, Bool.false_eq_true]))
    obtain ⟨d', rfl⟩ := since_at hF
    exact ⟨rfl, _, resultsC_tmp (by rfl) _, rfl, below_at (Below.refl _ _) _⟩
  · have h1' : decide (b < 1) = false := decide_eq_false h1
    cases hg : govB v f b with
    | false =>
      rw [untM_no (fun q => by rw [hg] at q; exact absurd q.1 (by decide))]
      refine callsE_of_wpE Try.func14 (by rfl) rfl ?_
      simp only [Try.ntmps14, List.size_toArray, List.length_cons, List.length_nil, Nat.reduceAdd, Nat.reduceSub, Array.replicate_succ, Array.replicate_zero, List.push_toArray, List.append_toArray, List.nil_append, List.cons_append]
      have hF := Since.refl (R := AtRel) w
      refine wpE_seq (wpE_of_wpC 0 fun B _ => ?_)
      co_apply Exists.intro
      repeat (first | co_reg (termsL B) | co_op (Since.rely (termsL B)) hF ((rw [listed_nil (by simp [go_sem, events_max2, events_min2])]; exact Terms.idle (termsL B) _)) | (co_apply opsC_unwanted (termsL B) rfl (by rfl); try walk_nrm) | ((first | co_apply wpC_skip (termsL B) | co_apply wpC_ret (termsL B) | co_apply opsC_nil (termsL B)); try co_then) | (co_apply wpC_cond (termsL B); (focus (exact rfl)); simp only [if_true, if_false, reduceIte, Bool.false_eq_true]))
      obtain ⟨d, rfl⟩ := since_at hF
      clear hF
      have hF := Since.refl (R := AtRel) (w.at d)
      refine wpE_seq (wpE_of_wpC 0 fun B _ => ?_)
      obtain ⟨nx, kx⟩ := inxt_c (main := true) (termsL B) v f b
      rw [nxtM_no hg] at kx
      co_apply Exists.intro
      repeat (first | co_reg (termsL B) | co_op (Since.rely (termsL B)) hF ((rw [listed_nil (by simp [go_sem, events_max2, events_min2])]; exact Terms.idle (termsL B) _)) | (co_apply opsC_unwanted (termsL B) rfl (by rfl); try walk_nrm) | ((first | co_apply wpC_seq (termsL B) | co_apply wpC_skip (termsL B) | co_apply wpC_ret (termsL B) | co_apply opsC_nil (termsL B)); try co_then) | (co_apply wpC_cond (termsL B); (focus (exact rfl)); simp only [if_true, if_false, reduceIte, Bool.false_eq_true]))
      co_apply opsC_call (termsL B) rfl (by rfl) rfl
      · walk_nrm; exact kx _
      rintro v1 w1 ⟨rfl, hs⟩
      replace hF := since_trans (termsL B) hF hs
      clear hs
      try walk_nrm
      repeat (first | co_reg (termsL B) | co_op (Since.rely (termsL B)) hF ((rw [listed_nil (by simp [go_sem, events_max2, events_min2])]; exact Terms.idle (termsL B) _)) | (co_apply opsC_unwanted (termsL B) rfl (by rfl); try walk_nrm) | ((first | co_apply wpC_seq (termsL B) | co_apply wpC_skip (termsL B) | co_apply wpC_ret (termsL B) | co_apply opsC_nil (termsL B)); try co_then) | (co_apply wpC_cond (termsL B); (focus (exact rfl)); simp only [if_true, if_false, reduceIte, Bool.false_eq_true]))
      obtain ⟨d', rfl⟩ := since_at hF
      exact ⟨rfl, _, resultsC_tmp (by rfl) _, rfl, below_at (Below.refl _ _) _⟩
    | true =>
      have hp := govB_true.1 hg
      have hn0 : decide (nxtM v f b < 0) = false := decide_eq_false (by rw [nxtM_yes hg]; have := (nxt_bounds hp).1; omega)
      obtain ⟨u1, u2⟩ := unt_seq (m := 1000) hp
      have hyes : ∀ k, untQ f b 1000 v = some k → untM v f b = (k : Int) := fun k hk => untM_some hg (by omega) hk
      have hno : untQ f b 1000 v = none → untM v f b = -1 := fun hk => untM_none hg (by omega) hk
      cases hu : untQ f b 1000 v with
      | none =>
        rw [hno hu]
        have hs : (nxtM (aftQ f b 1000 v) f b == aftQ f b 1000 v) = false := by rw [beq_eq_false_iff_ne, nxtM_yes (govB_true.2 (aft_gov hp))]; exact u2 hu
        clear hyes hno u1 u2
        refine callsE_of_wpE Try.func14 (by rfl) rfl ?_
        simp only [Try.ntmps14, List.size_toArray, List.length_cons, List.length_nil, Nat.reduceAdd, Nat.reduceSub, Array.replicate_succ, Array.replicate_zero, List.push_toArray, List.append_toArray, List.nil_append, List.cons_append]
        have hF := Since.refl (R := AtRel) w
        refine wpE_seq (wpE_of_wpC 0 fun B _ => ?_)
        co_apply Exists.intro
        repeat (first | co_reg (termsL B) | co_op (Since.rely (termsL B)) hF ((rw [listed_nil (by simp [go_sem, events_max2, events_min2])]; exact Terms.idle (termsL B) _)) | (co_apply opsC_unwanted (termsL B) rfl (by rfl); try walk_nrm) | ((first | co_apply wpC_skip (termsL B) | co_apply wpC_ret (termsL B) | co_apply opsC_nil (termsL B)); try co_then) | (co_apply wpC_cond (termsL B); (focus (exact rfl)); simp only [if_true, if_false, reduceIte, Bool.false_eq_true]))
        obtain ⟨d, rfl⟩ := since_at hF
        clear hF
        have hF := Since.refl (R := AtRel) (w.at d)
        refine wpE_seq (wpE_of_wpC 0 fun B _ => ?_)
        obtain ⟨nx, kx⟩ := inxt_c (main := true) (termsL B) v f b
        generalize nxtM v f b = r at *
        co_apply Exists.intro
        repeat (first | co_reg (termsL B) | co_op (Since.rely (termsL B)) hF ((rw [listed_nil (by simp [go_sem, events_max2, events_min2])]; exact Terms.idle (termsL B) _)) | (co_apply opsC_unwanted (termsL B) rfl (by rfl); try walk_nrm) | ((first | co_apply wpC_seq (termsL B) | co_apply wpC_skip (termsL B) | co_apply wpC_ret (termsL B) | co_apply opsC_nil (termsL B)); try co_then) | (co_apply wpC_cond (termsL B); (focus (exact rfl)); simp only [if_true, if_false, reduceIte, Bool.false_eq_true]))
        co_apply opsC_call (termsL B) rfl (by rfl) rfl
        · walk_nrm; exact kx _
        rintro v1 w1 ⟨rfl, hs⟩
        replace hF := since_trans (termsL B) hF hs
        clear hs
        try walk_nrm
        repeat (first | co_reg (termsL B) | co_op (Since.rely (termsL B)) hF ((rw [listed_nil (by simp [go_sem, events_max2, events_min2])]; exact Terms.idle (termsL B) _)) | (co_apply opsC_unwanted (termsL B) rfl (by rfl); try walk_nrm) | ((first | co_apply wpC_seq (termsL B) | co_apply wpC_skip (termsL B) | co_apply wpC_ret (termsL B) | co_apply opsC_nil (termsL B)); try co_then) | (co_apply wpC_cond (termsL B); (focus (exact rfl)); simp only [if_true, if_false, reduceIte, Bool.false_eq_true]))
        obtain ⟨d2, rfl⟩ := since_at hF
        clear hF
        have hF := Since.refl (R := AtRel) ((w.at d).at d2)
        refine wpE_seq (wpE_of_wpC 0 fun B _ => ?_)
        co_apply Exists.intro
        repeat (first | co_reg (termsL B) | co_op (Since.rely (termsL B)) hF ((rw [listed_nil (by simp [go_sem, events_max2, events_min2])]; exact Terms.idle (termsL B) _)) | (co_apply opsC_unwanted (termsL B) rfl (by rfl); try walk_nrm) | ((first | co_apply wpC_skip (termsL B) | co_apply wpC_ret (termsL B) | co_apply opsC_nil (termsL B)); try co_then) | (co_apply wpC_cond (termsL B); (focus (exact rfl)); simp only [if_true, if_false, reduceIte, Bool.false_eq_true]))
        obtain ⟨d3, rfl⟩ := since_at hF
        clear hF
        refine wpE_seq (wpE_mono (takeB_e v f b v (-1) hp (by omega) _ _ _ _ _ _ _ _ _ _ _ _ _ _ _ _ _ _ _ _ _ _ _ _ _ _ _) ?_)
        rintro e a' w' ⟨rfl, hb, j9, j10, j11, j12, j13, j14, j15, j16, j17, j18, j19, j20, j21, j22, j23, j24, j25, j26, j27, j28, j29, j30, j31, j32, j33, j34, j35, rfl⟩
        have hb' : Below w.heap.size w w' := ⟨hb.os, hb.tape, hb.output, hb.size, hb.block⟩
        have hl : lastI v (v :: seqL f b 1000 v) = aftQ f b 1000 v := last_seq hp
        rw [hl]
        have hF := Since.refl (R := AtRel) w'
        refine wpE_seq (wpE_of_wpC 0 fun B _ => ?_)
        obtain ⟨ni, ki⟩ := isteady_c (main := true) (termsL B) (aftQ f b 1000 v) f b
        rw [hs] at ki
        generalize aftQ f b 1000 v = y at *
        co_apply Exists.intro
        repeat (first | co_reg (termsL B) | co_op (Since.rely (termsL B)) hF ((rw [listed_nil (by simp [go_sem, events_max2, events_min2])]; exact Terms.idle (termsL B) _)) | (co_apply opsC_unwanted (termsL B) rfl (by rfl); try walk_nrm) | ((first | co_apply wpC_seq (termsL B) | co_apply wpC_skip (termsL B) | co_apply wpC_ret (termsL B) | co_apply opsC_nil (termsL B)); try co_then) | (co_apply wpC_cond (termsL B); (focus (exact rfl)); simp only [if_true, if_false, reduceIte, Bool.false_eq_true]))
        co_apply opsC_call (termsL B) rfl (by rfl) rfl
        · walk_nrm; exact ki _
        rintro v1 w1 ⟨rfl, hs⟩
        replace hF := since_trans (termsL B) hF hs
        clear hs
        try walk_nrm
        repeat (first | co_reg (termsL B) | co_op (Since.rely (termsL B)) hF ((rw [listed_nil (by simp [go_sem, events_max2, events_min2])]; exact Terms.idle (termsL B) _)) | (co_apply opsC_unwanted (termsL B) rfl (by rfl); try walk_nrm) | ((first | co_apply wpC_seq (termsL B) | co_apply wpC_skip (termsL B) | co_apply wpC_ret (termsL B) | co_apply opsC_nil (termsL B)); try co_then) | (co_apply wpC_cond (termsL B); (focus (exact rfl)); simp only [if_true, if_false, reduceIte, Bool.false_eq_true]))
        obtain ⟨d', rfl⟩ := since_at hF
        exact ⟨rfl, _, resultsC_tmp (by rfl) _, rfl, below_at hb' _⟩
      | some q =>
        obtain ⟨k1, k2⟩ := u1 q hu
        rw [hyes q hu]
        have hs : (nxtM (aftQ f b 1000 v) f b == aftQ f b 1000 v) = true := by rw [nxtM_yes (govB_true.2 (aft_gov hp)), k2]; exact beq_self_eq_true _
        clear hyes hno u1 u2
        refine callsE_of_wpE Try.func14 (by rfl) rfl ?_
        simp only [Try.ntmps14, List.size_toArray, List.length_cons, List.length_nil, Nat.reduceAdd, Nat.reduceSub, Array.replicate_succ, Array.replicate_zero, List.push_toArray, List.append_toArray, List.nil_append, List.cons_append]
        have hF := Since.refl (R := AtRel) w
        refine wpE_seq (wpE_of_wpC 0 fun B _ => ?_)
        co_apply Exists.intro
        repeat (first | co_reg (termsL B) | co_op (Since.rely (termsL B)) hF ((rw [listed_nil (by simp [go_sem, events_max2, events_min2])]; exact Terms.idle (termsL B) _)) | (co_apply opsC_unwanted (termsL B) rfl (by rfl); try walk_nrm) | ((first | co_apply wpC_skip (termsL B) | co_apply wpC_ret (termsL B) | co_apply opsC_nil (termsL B)); try co_then) | (co_apply wpC_cond (termsL B); (focus (exact rfl)); simp only [if_true, if_false, reduceIte, Bool.false_eq_true]))
        obtain ⟨d, rfl⟩ := since_at hF
        clear hF
        have hF := Since.refl (R := AtRel) (w.at d)
        refine wpE_seq (wpE_of_wpC 0 fun B _ => ?_)
        obtain ⟨nx, kx⟩ := inxt_c (main := true) (termsL B) v f b
        generalize nxtM v f b = r at *
        co_apply Exists.intro
        repeat (first | co_reg (termsL B) | co_op (Since.rely (termsL B)) hF ((rw [listed_nil (by simp [go_sem, events_max2, events_min2])]; exact Terms.idle (termsL B) _)) | (co_apply opsC_unwanted (termsL B) rfl (by rfl); try walk_nrm) | ((first | co_apply wpC_seq (termsL B) | co_apply wpC_skip (termsL B) | co_apply wpC_ret (termsL B) | co_apply opsC_nil (termsL B)); try co_then) | (co_apply wpC_cond (termsL B); (focus (exact rfl)); simp only [if_true, if_false, reduceIte, Bool.false_eq_true]))
        co_apply opsC_call (termsL B) rfl (by rfl) rfl
        · walk_nrm; exact kx _
        rintro v1 w1 ⟨rfl, hs⟩
        replace hF := since_trans (termsL B) hF hs
        clear hs
        try walk_nrm
        repeat (first | co_reg (termsL B) | co_op (Since.rely (termsL B)) hF ((rw [listed_nil (by simp [go_sem, events_max2, events_min2])]; exact Terms.idle (termsL B) _)) | (co_apply opsC_unwanted (termsL B) rfl (by rfl); try walk_nrm) | ((first | co_apply wpC_seq (termsL B) | co_apply wpC_skip (termsL B) | co_apply wpC_ret (termsL B) | co_apply opsC_nil (termsL B)); try co_then) | (co_apply wpC_cond (termsL B); (focus (exact rfl)); simp only [if_true, if_false, reduceIte, Bool.false_eq_true]))
        obtain ⟨d2, rfl⟩ := since_at hF
        clear hF
        have hF := Since.refl (R := AtRel) ((w.at d).at d2)
        refine wpE_seq (wpE_of_wpC 0 fun B _ => ?_)
        co_apply Exists.intro
        repeat (first | co_reg (termsL B) | co_op (Since.rely (termsL B)) hF ((rw [listed_nil (by simp [go_sem, events_max2, events_min2])]; exact Terms.idle (termsL B) _)) | (co_apply opsC_unwanted (termsL B) rfl (by rfl); try walk_nrm) | ((first | co_apply wpC_skip (termsL B) | co_apply wpC_ret (termsL B) | co_apply opsC_nil (termsL B)); try co_then) | (co_apply wpC_cond (termsL B); (focus (exact rfl)); simp only [if_true, if_false, reduceIte, Bool.false_eq_true]))
        obtain ⟨d3, rfl⟩ := since_at hF
        clear hF
        refine wpE_seq (wpE_mono (takeB_e v f b v (-1) hp (by omega) _ _ _ _ _ _ _ _ _ _ _ _ _ _ _ _ _ _ _ _ _ _ _ _ _ _ _) ?_)
        rintro e a' w' ⟨rfl, hb, j9, j10, j11, j12, j13, j14, j15, j16, j17, j18, j19, j20, j21, j22, j23, j24, j25, j26, j27, j28, j29, j30, j31, j32, j33, j34, j35, rfl⟩
        have hb' : Below w.heap.size w w' := ⟨hb.os, hb.tape, hb.output, hb.size, hb.block⟩
        have hl : lastI v (v :: seqL f b 1000 v) = aftQ f b 1000 v := last_seq hp
        rw [hl]
        have hF := Since.refl (R := AtRel) w'
        rw [k1, show -1 + 1 + (q : Int) = (q : Int) by omega]
        refine wpE_seq (wpE_of_wpC 0 fun B _ => ?_)
        obtain ⟨ni, ki⟩ := isteady_c (main := true) (termsL B) (aftQ f b 1000 v) f b
        rw [hs] at ki
        generalize aftQ f b 1000 v = y at *
        co_apply Exists.intro
        repeat (first | co_reg (termsL B) | co_op (Since.rely (termsL B)) hF ((rw [listed_nil (by simp [go_sem, events_max2, events_min2])]; exact Terms.idle (termsL B) _)) | (co_apply opsC_unwanted (termsL B) rfl (by rfl); try walk_nrm) | ((first | co_apply wpC_seq (termsL B) | co_apply wpC_skip (termsL B) | co_apply wpC_ret (termsL B) | co_apply opsC_nil (termsL B)); try co_then) | (co_apply wpC_cond (termsL B); (focus (exact rfl)); simp only [if_true, if_false, reduceIte, Bool.false_eq_true]))
        co_apply opsC_call (termsL B) rfl (by rfl) rfl
        · walk_nrm; exact ki _
        rintro v1 w1 ⟨rfl, hs⟩
        replace hF := since_trans (termsL B) hF hs
        clear hs
        try walk_nrm
        repeat (first | co_reg (termsL B) | co_op (Since.rely (termsL B)) hF ((rw [listed_nil (by simp [go_sem, events_max2, events_min2])]; exact Terms.idle (termsL B) _)) | (co_apply opsC_unwanted (termsL B) rfl (by rfl); try walk_nrm) | ((first | co_apply wpC_seq (termsL B) | co_apply wpC_skip (termsL B) | co_apply wpC_ret (termsL B) | co_apply opsC_nil (termsL B)); try co_then) | (co_apply wpC_cond (termsL B); (focus (exact rfl)); simp only [if_true, if_false, reduceIte, Bool.false_eq_true]))
        obtain ⟨d5, rfl⟩ := since_at hF
        clear hF
        have hF := Since.refl (R := AtRel) (w'.at d5)
        refine wpE_of_wpC 0 fun B _ => ?_
        co_apply Exists.intro
        repeat (first | co_reg (termsL B) | co_op (Since.rely (termsL B)) hF ((rw [listed_nil (by simp [go_sem, events_max2, events_min2])]; exact Terms.idle (termsL B) _)) | (co_apply opsC_unwanted (termsL B) rfl (by rfl); try walk_nrm) | ((first | co_apply wpC_seq (termsL B) | co_apply wpC_skip (termsL B) | co_apply wpC_ret (termsL B) | co_apply opsC_nil (termsL B)); try co_then) | (co_apply wpC_cond (termsL B); (focus (exact rfl)); simp only [if_true, if_false, reduceIte, Bool.false_eq_true]))
        obtain ⟨d4, rfl⟩ := since_at hF
        exact ⟨rfl, _, resultsC_tmp (by rfl) _, rfl, below_at hb' _⟩
end Go.Proofs.Ytodpkfohihfndaa
