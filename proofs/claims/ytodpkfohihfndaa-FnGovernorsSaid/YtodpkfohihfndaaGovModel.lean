/- The model's SpeedAfter and StepsUntilSteady, called by goroutine 0 beside goroutines that only leave. No condition. Made by gen_govmodel.py. -/
import Derived.Test.YtodpkfohihfndaaGovCo
import Derived.Test.YtodpkfohihfndaaGovRun
set_option linter.unusedSimpArgs false
set_option linter.unusedVariables false
namespace Go.Proofs.Ytodpkfohihfndaa
open Go Go.Conc Go.RowKit

def Inv17 (w₀ : World) (f b n res : Int) (a : Act) (w : World) : Prop := ∃ (k : Nat) (x : Int) (j4 j5 j6 j7 j10 j11 j12 j13 j14 j15 j16 j17 j18 j19 j20 j21 j22 j23 j24 j25 j26 j27 j28 j29 j30 : Value), (k : Int) ≤ n ∧ GovP x f b ∧ aftQ f b (n.toNat - k) x = res ∧ (∃ d, w = w₀.at d) ∧ a = ⟨#[.int .i64 x, .int .i64 f, .int .i64 b, .int .i64 n, j4, j5, j6, j7, .int .i64 0, .int .i64 (k : Int), j10, j11, j12, j13, j14, j15, j16, j17, j18, j19, j20, j21, j22, j23, j24, j25, j26, j27, j28, j29, j30], []⟩
def Mu17 (n : Int) (a : Act) (_ : World) : Nat := match a.tmps.getD 9 undef with | .int _ j => n.toNat - j.toNat | _ => 0
set_option maxRecDepth 100000 in
set_option maxHeartbeats 8000000 in
theorem aftS_e {Fin : Value → World → Prop} {w : World} (v f b n : Int) : CallsE Try.prog Fin 17 #[.int .i64 v, .int .i64 f, .int .i64 b, .int .i64 n] w fun r w' => r = .int .i64 (aftM v f b n) ∧ ∃ d, w' = w.at d := by
  cases hg : govB v f b with
  | false =>
    rw [aftM_no (fun q => by rw [hg] at q; exact absurd q.1 (by decide))]
    refine callsE_of_wpE Try.func17 (by rfl) rfl ?_
    simp only [Try.ntmps17, List.size_toArray, List.length_cons, List.length_nil, Nat.reduceAdd, Nat.reduceSub, Array.replicate_succ, Array.replicate_zero, List.push_toArray, List.append_toArray, List.nil_append, List.cons_append]
    have hF := Since.refl (R := AtRel) w
    refine wpE_seq (wpE_of_wpC 0 fun B _ => ?_)
    co_apply Exists.intro
    repeat (first | co_reg (termsL B) | co_op (Since.rely (termsL B)) hF ((rw [listed_nil (by simp [go_sem, events_max2, events_min2])]; exact Terms.idle (termsL B) _)) | (co_apply opsC_unwanted (termsL B) rfl (by rfl); try walk_nrm) | ((first | co_apply wpC_skip (termsL B) | co_apply wpC_ret (termsL B) | co_apply opsC_nil (termsL B)); try co_then) | (co_apply wpC_cond (termsL B); (focus (exact rfl)); simp only [if_true, if_false, reduceIte, Bool.false_eq_true]))
    obtain ⟨d, rfl⟩ := since_at hF
    clear hF
    have hF := Since.refl (R := AtRel) (w.at d)
    refine wpE_seq (wpE_of_wpC 0 fun B _ => ?_)
    obtain ⟨nk, kk⟩ := ok13_c (main := true) (termsL B) v f b
    rw [hg] at kk
    co_apply Exists.intro
    repeat (first | co_reg (termsL B) | co_op (Since.rely (termsL B)) hF ((rw [listed_nil (by simp [go_sem, events_max2, events_min2])]; exact Terms.idle (termsL B) _)) | (co_apply opsC_unwanted (termsL B) rfl (by rfl); try walk_nrm) | ((first | co_apply wpC_seq (termsL B) | co_apply wpC_skip (termsL B) | co_apply wpC_block (termsL B) | co_apply wpC_exit (termsL B) | co_apply wpC_ret (termsL B) | co_apply opsC_nil (termsL B)); try co_then) | (co_apply wpC_cond (termsL B); (focus (exact rfl)); simp only [if_true, if_false, reduceIte, Bool.false_eq_true]))
    co_apply opsC_call (termsL B) rfl (by rfl) rfl
    · walk_nrm; exact kk _
    rintro v1 w1 ⟨rfl, hs⟩
    replace hF := since_trans (termsL B) hF hs
    clear hs
    try walk_nrm
    repeat (first | co_reg (termsL B) | co_op (Since.rely (termsL B)) hF ((rw [listed_nil (by simp [go_sem, events_max2, events_min2])]; exact Terms.idle (termsL B) _)) | (co_apply opsC_unwanted (termsL B) rfl (by rfl); try walk_nrm) | ((first | co_apply wpC_seq (termsL B) | co_apply wpC_skip (termsL B) | co_apply wpC_block (termsL B) | co_apply wpC_exit (termsL B) | co_apply wpC_ret (termsL B) | co_apply opsC_nil (termsL B)); try co_then) | (co_apply wpC_cond (termsL B); (focus (exact rfl)); simp only [if_true, if_false, reduceIte, Bool.false_eq_true]))
    obtain ⟨d', rfl⟩ := since_at hF
    exact ⟨rfl, _, resultsC_tmp (by rfl) _, rfl, _, rfl⟩
  | true =>
    have hp := govB_true.1 hg
    by_cases h1 : 0 ≤ n ∧ n ≤ 1000
    · rw [aftM_yes hg h1]
      refine callsE_of_wpE Try.func17 (by rfl) rfl ?_
      simp only [Try.ntmps17, List.size_toArray, List.length_cons, List.length_nil, Nat.reduceAdd, Nat.reduceSub, Array.replicate_succ, Array.replicate_zero, List.push_toArray, List.append_toArray, List.nil_append, List.cons_append]
      have hF := Since.refl (R := AtRel) w
      refine wpE_seq (wpE_of_wpC 0 fun B _ => ?_)
      co_apply Exists.intro
      repeat (first | co_reg (termsL B) | co_op (Since.rely (termsL B)) hF ((rw [listed_nil (by simp [go_sem, events_max2, events_min2])]; exact Terms.idle (termsL B) _)) | (co_apply opsC_unwanted (termsL B) rfl (by rfl); try walk_nrm) | ((first | co_apply wpC_skip (termsL B) | co_apply wpC_ret (termsL B) | co_apply opsC_nil (termsL B)); try co_then) | (co_apply wpC_cond (termsL B); (focus (exact rfl)); simp only [if_true, if_false, reduceIte, Bool.false_eq_true]))
      obtain ⟨d, rfl⟩ := since_at hF
      clear hF
      have hF := Since.refl (R := AtRel) (w.at d)
      refine wpE_seq (wpE_of_wpC 0 fun B _ => ?_)
      obtain ⟨nk, kk⟩ := ok13_c (main := true) (termsL B) v f b
      rw [hg] at kk
      obtain ⟨n2, k2⟩ := in_cy (main := true) (R := AtRel) (D := DL B) (termsL B) h1
      co_apply Exists.intro
      repeat (first | co_reg (termsL B) | co_op (Since.rely (termsL B)) hF ((rw [listed_nil (by simp [go_sem, events_max2, events_min2])]; exact Terms.idle (termsL B) _)) | (co_apply opsC_unwanted (termsL B) rfl (by rfl); try walk_nrm) | ((first | co_apply wpC_seq (termsL B) | co_apply wpC_skip (termsL B) | co_apply wpC_block (termsL B) | co_apply wpC_exit (termsL B) | co_apply wpC_ret (termsL B) | co_apply opsC_nil (termsL B)); try co_then) | (co_apply wpC_cond (termsL B); (focus (exact rfl)); simp only [if_true, if_false, reduceIte, Bool.false_eq_true]))
      co_apply opsC_call (termsL B) rfl (by rfl) rfl
      · walk_nrm; exact kk _
      rintro v1 w1 ⟨rfl, hs⟩
      replace hF := since_trans (termsL B) hF hs
      clear hs
      try walk_nrm
      repeat (first | co_reg (termsL B) | co_op (Since.rely (termsL B)) hF ((rw [listed_nil (by simp [go_sem, events_max2, events_min2])]; exact Terms.idle (termsL B) _)) | (co_apply opsC_unwanted (termsL B) rfl (by rfl); try walk_nrm) | ((first | co_apply wpC_seq (termsL B) | co_apply wpC_skip (termsL B) | co_apply wpC_block (termsL B) | co_apply wpC_exit (termsL B) | co_apply wpC_ret (termsL B) | co_apply opsC_nil (termsL B)); try co_then) | (co_apply wpC_cond (termsL B); (focus (exact rfl)); simp only [if_true, if_false, reduceIte, Bool.false_eq_true]))
      co_apply opsC_call (termsL B) rfl (by rfl) rfl
      · walk_nrm; exact k2 _
      rintro v1 w1 ⟨rfl, hs⟩
      replace hF := since_trans (termsL B) hF hs
      clear hs
      try walk_nrm
      repeat (first | co_reg (termsL B) | co_op (Since.rely (termsL B)) hF ((rw [listed_nil (by simp [go_sem, events_max2, events_min2])]; exact Terms.idle (termsL B) _)) | (co_apply opsC_unwanted (termsL B) rfl (by rfl); try walk_nrm) | ((first | co_apply wpC_seq (termsL B) | co_apply wpC_skip (termsL B) | co_apply wpC_block (termsL B) | co_apply wpC_exit (termsL B) | co_apply wpC_ret (termsL B) | co_apply opsC_nil (termsL B)); try co_then) | (co_apply wpC_cond (termsL B); (focus (exact rfl)); simp only [if_true, if_false, reduceIte, Bool.false_eq_true]))
      obtain ⟨d2, rfl⟩ := since_at hF
      clear hF
      have hF := Since.refl (R := AtRel) ((w.at d).at d2)
      refine wpE_seq (wpE_seq (wpE_of_wpC 0 fun B _ => ?_))
      co_apply Exists.intro
      repeat (first | co_reg (termsL B) | co_op (Since.rely (termsL B)) hF ((rw [listed_nil (by simp [go_sem, events_max2, events_min2])]; exact Terms.idle (termsL B) _)) | (co_apply opsC_unwanted (termsL B) rfl (by rfl); try walk_nrm) | ((first | co_apply wpC_skip (termsL B) | co_apply wpC_ret (termsL B) | co_apply opsC_nil (termsL B)); try co_then) | (co_apply wpC_cond (termsL B); (focus (exact rfl)); simp only [if_true, if_false, reduceIte, Bool.false_eq_true]))
      obtain ⟨d3, rfl⟩ := since_at hF
      clear hF
      refine wpE_block (wpE_loop (Inv17 w f b n (aftQ f b n.toNat v)) (Mu17 n) ?_ ?_)
      · exact ⟨0, v, _, _, _, _, _, _, _, _, _, _, _, _, _, _, _, _, _, _, _, _, _, _, _, _, _, h1.1, hp, by rw [Nat.sub_zero], ⟨_, rfl⟩, rfl⟩
      · rintro a w' ⟨k, x, j4, j5, j6, j7, j10, j11, j12, j13, j14, j15, j16, j17, j18, j19, j20, j21, j22, j23, j24, j25, j26, j27, j28, j29, j30, hk, hx, hr, ⟨d4, rfl⟩, rfl⟩
        by_cases hlt : (k : Int) < n
        · have hlt' : decide ((k : Int) < n) = true := decide_eq_true hlt
          have hy : (if nxtM x f b < 100000 then nxtM x f b else 100000) = stpQ x f b := by rw [nxtM_yes (govB_true.2 hx)]; unfold stpQ; split <;> omega
          have hF := Since.refl (R := AtRel) (w.at d4)
          refine wpE_of_wpC 0 fun B _ => ?_
          obtain ⟨nx, kx⟩ := nxtS_c (main := true) (termsL B) x f b
          generalize nxtM x f b = r at *
          co_apply Exists.intro
          repeat (first | co_reg (termsL B) | co_op (Since.rely (termsL B)) hF ((rw [listed_nil (by simp [go_sem, events_max2, events_min2])]; exact Terms.idle (termsL B) _)) | (co_apply opsC_unwanted (termsL B) rfl (by rfl); try walk_nrm) | ((first | co_apply wpC_seq (termsL B) | co_apply wpC_skip (termsL B) | co_apply wpC_block (termsL B) | co_apply wpC_exit (termsL B) | co_apply wpC_ret (termsL B) | co_apply opsC_nil (termsL B)); try co_then) | (co_apply wpC_cond (termsL B); (focus (exact rfl)); simp only [if_true, if_false, reduceIte, Bool.false_eq_true]))
          co_apply opsC_call (termsL B) rfl (by rfl) rfl
          · walk_nrm; exact kx _
          rintro v1 w1 ⟨rfl, hs⟩
          replace hF := since_trans (termsL B) hF hs
          clear hs
          try walk_nrm
          repeat (first | co_reg (termsL B) | co_op (Since.rely (termsL B)) hF ((rw [listed_nil (by simp [go_sem, events_max2, events_min2])]; exact Terms.idle (termsL B) _)) | (co_apply opsC_unwanted (termsL B) rfl (by rfl); try walk_nrm) | ((first | co_apply wpC_seq (termsL B) | co_apply wpC_skip (termsL B) | co_apply wpC_block (termsL B) | co_apply wpC_exit (termsL B) | co_apply wpC_ret (termsL B) | co_apply opsC_nil (termsL B)); try co_then) | (co_apply wpC_cond (termsL B); (focus (exact rfl)); simp only [if_true, if_false, reduceIte, Bool.false_eq_true]))
          obtain ⟨d5, rfl⟩ := since_at hF
          have ek : IntKind.i64.wrap ((k : Int) + 1) = ((k + 1 : Nat) : Int) := by rw [IntWalk.i64_in _ (by omega)]; omega
          have en : n.toNat - k = (n.toNat - (k + 1)) + 1 := by omega
          refine ⟨⟨k + 1, stpQ x f b, _, _, _, _, _, _, _, _, _, _, _, _, _, _, _, _, _, _, _, _, _, _, _, _, _, by omega, stp_gov hx, by rw [en] at hr; exact hr, ⟨_, rfl⟩, by first | rfl | (simp only [hy, ek]; rfl) | (rw [← hy, ← ek]; rfl)⟩, ?_⟩
          simp [Mu17, ek]
          omega
        · have hlt' : decide ((k : Int) < n) = false := decide_eq_false hlt
          have hF := Since.refl (R := AtRel) (w.at d4)
          have hx0 : n.toNat - k = 0 := by omega
          rw [hx0] at hr
          obtain rfl : x = aftQ f b n.toNat v := hr
          refine wpE_of_wpC 0 fun B _ => ?_
          co_apply Exists.intro
          co_apply wpC_seq_ret (termsL B)
          repeat (first | co_reg (termsL B) | co_op (Since.rely (termsL B)) hF ((rw [listed_nil (by simp [go_sem, events_max2, events_min2])]; exact Terms.idle (termsL B) _)) | (co_apply opsC_unwanted (termsL B) rfl (by rfl); try walk_nrm) | ((first | co_apply wpC_seq (termsL B) | co_apply wpC_skip (termsL B) | co_apply wpC_block (termsL B) | co_apply wpC_exit (termsL B) | co_apply wpC_ret (termsL B) | co_apply opsC_nil (termsL B)); try co_then) | (co_apply wpC_cond (termsL B); (focus (exact rfl)); simp only [if_true, if_false, reduceIte, Bool.false_eq_true]))
          obtain ⟨d5, rfl⟩ := since_at hF
          clear hF
          have hF := Since.refl (R := AtRel) ((w.at d4).at d5)
          refine wpE_of_wpC 0 fun B _ => ?_
          co_apply Exists.intro
          repeat (first | co_reg (termsL B) | co_op (Since.rely (termsL B)) hF ((rw [listed_nil (by simp [go_sem, events_max2, events_min2])]; exact Terms.idle (termsL B) _)) | (co_apply opsC_unwanted (termsL B) rfl (by rfl); try walk_nrm) | ((first | co_apply wpC_seq (termsL B) | co_apply wpC_skip (termsL B) | co_apply wpC_block (termsL B) | co_apply wpC_exit (termsL B) | co_apply wpC_ret (termsL B) | co_apply opsC_nil (termsL B)); try co_then) | (co_apply wpC_cond (termsL B); (focus (exact rfl)); simp only [if_true, if_false, reduceIte, Bool.false_eq_true]))
          obtain ⟨d', rfl⟩ := since_at hF
          exact ⟨rfl, _, resultsC_tmp (by rfl) _, rfl, _, rfl⟩
    · rw [aftM_no (fun q => h1 q.2)]
      refine callsE_of_wpE Try.func17 (by rfl) rfl ?_
      simp only [Try.ntmps17, List.size_toArray, List.length_cons, List.length_nil, Nat.reduceAdd, Nat.reduceSub, Array.replicate_succ, Array.replicate_zero, List.push_toArray, List.append_toArray, List.nil_append, List.cons_append]
      have hF := Since.refl (R := AtRel) w
      refine wpE_seq (wpE_of_wpC 0 fun B _ => ?_)
      co_apply Exists.intro
      repeat (first | co_reg (termsL B) | co_op (Since.rely (termsL B)) hF ((rw [listed_nil (by simp [go_sem, events_max2, events_min2])]; exact Terms.idle (termsL B) _)) | (co_apply opsC_unwanted (termsL B) rfl (by rfl); try walk_nrm) | ((first | co_apply wpC_skip (termsL B) | co_apply wpC_ret (termsL B) | co_apply opsC_nil (termsL B)); try co_then) | (co_apply wpC_cond (termsL B); (focus (exact rfl)); simp only [if_true, if_false, reduceIte, Bool.false_eq_true]))
      obtain ⟨d, rfl⟩ := since_at hF
      clear hF
      have hF := Since.refl (R := AtRel) (w.at d)
      refine wpE_seq (wpE_of_wpC 0 fun B _ => ?_)
      obtain ⟨nk, kk⟩ := ok13_c (main := true) (termsL B) v f b
      rw [hg] at kk
      obtain ⟨n2, k2⟩ := in_cn (main := true) (R := AtRel) (D := DL B) (termsL B) h1
      co_apply Exists.intro
      repeat (first | co_reg (termsL B) | co_op (Since.rely (termsL B)) hF ((rw [listed_nil (by simp [go_sem, events_max2, events_min2])]; exact Terms.idle (termsL B) _)) | (co_apply opsC_unwanted (termsL B) rfl (by rfl); try walk_nrm) | ((first | co_apply wpC_seq (termsL B) | co_apply wpC_skip (termsL B) | co_apply wpC_block (termsL B) | co_apply wpC_exit (termsL B) | co_apply wpC_ret (termsL B) | co_apply opsC_nil (termsL B)); try co_then) | (co_apply wpC_cond (termsL B); (focus (exact rfl)); simp only [if_true, if_false, reduceIte, Bool.false_eq_true]))
      co_apply opsC_call (termsL B) rfl (by rfl) rfl
      · walk_nrm; exact kk _
      rintro v1 w1 ⟨rfl, hs⟩
      replace hF := since_trans (termsL B) hF hs
      clear hs
      try walk_nrm
      repeat (first | co_reg (termsL B) | co_op (Since.rely (termsL B)) hF ((rw [listed_nil (by simp [go_sem, events_max2, events_min2])]; exact Terms.idle (termsL B) _)) | (co_apply opsC_unwanted (termsL B) rfl (by rfl); try walk_nrm) | ((first | co_apply wpC_seq (termsL B) | co_apply wpC_skip (termsL B) | co_apply wpC_block (termsL B) | co_apply wpC_exit (termsL B) | co_apply wpC_ret (termsL B) | co_apply opsC_nil (termsL B)); try co_then) | (co_apply wpC_cond (termsL B); (focus (exact rfl)); simp only [if_true, if_false, reduceIte, Bool.false_eq_true]))
      co_apply opsC_call (termsL B) rfl (by rfl) rfl
      · walk_nrm; exact k2 _
      rintro v1 w1 ⟨rfl, hs⟩
      replace hF := since_trans (termsL B) hF hs
      clear hs
      try walk_nrm
      repeat (first | co_reg (termsL B) | co_op (Since.rely (termsL B)) hF ((rw [listed_nil (by simp [go_sem, events_max2, events_min2])]; exact Terms.idle (termsL B) _)) | (co_apply opsC_unwanted (termsL B) rfl (by rfl); try walk_nrm) | ((first | co_apply wpC_seq (termsL B) | co_apply wpC_skip (termsL B) | co_apply wpC_block (termsL B) | co_apply wpC_exit (termsL B) | co_apply wpC_ret (termsL B) | co_apply opsC_nil (termsL B)); try co_then) | (co_apply wpC_cond (termsL B); (focus (exact rfl)); simp only [if_true, if_false, reduceIte, Bool.false_eq_true]))
      obtain ⟨d', rfl⟩ := since_at hF
      exact ⟨rfl, _, resultsC_tmp (by rfl) _, rfl, _, rfl⟩
/-- What is still answered, k steps done, m looks to go. -/
def untV (f b : Int) : Nat → Nat → Int → Int
  | 0, _, _ => -1
  | m + 1, k, x => match untQ f b m x with | some q => (k : Int) + (q : Int) | none => -1
theorem untV_yes {f b x : Int} (h : nxtQ x f b = x) (m k : Nat) : untV f b (m + 1) k x = (k : Int) := by
  show (match untQ f b m x with | some q => (k : Int) + (q : Int) | none => -1) = _
  rw [unt_yes h]; simp
theorem untV_no {f b x : Int} (h : ¬ nxtQ x f b = x) (m k : Nat) : untV f b (m + 1) k x = untV f b m (k + 1) (stpQ x f b) := by
  show (match untQ f b m x with | some q => (k : Int) + (q : Int) | none => -1) = _
  cases m with
  | zero => rw [unt_end h]; rfl
  | succ m =>
    show _ = (match untQ f b m (stpQ x f b) with | some q => ((k + 1 : Nat) : Int) + (q : Int) | none => -1)
    rw [unt_no h]
    cases untQ f b m (stpQ x f b) with
    | none => rfl
    | some q =>
      show (k : Int) + ((q + 1 : Nat) : Int) = ((k + 1 : Nat) : Int) + (q : Int)
      omega
theorem untM_V {v f b : Int} (h : govB v f b = true) (hb : 1 ≤ b) : untM v f b = untV f b 1001 0 v := by
  show _ = (match untQ f b 1000 v with | some q => ((0 : Nat) : Int) + (q : Int) | none => -1)
  cases hu : untQ f b 1000 v with
  | none => rw [untM_none h hb hu]
  | some q => rw [untM_some h hb hu]; simp
def Inv19 (w₀ : World) (f b res : Int) (a : Act) (w : World) : Prop := ∃ (k m : Nat) (x : Int) (j3 j4 j5 j8 j9 j10 j11 j12 j13 j14 j15 j16 j17 j18 j19 j20 j21 j22 j23 j24 j25 j26 j27 j28 j29 j30 j31 : Value), k + m = 1001 ∧ GovP x f b ∧ untV f b m k x = res ∧ (∃ d, w = w₀.at d) ∧ a = ⟨#[.int .i64 x, .int .i64 f, .int .i64 b, j3, j4, j5, .int .i64 0, .int .i64 (k : Int), j8, j9, j10, j11, j12, j13, j14, j15, j16, j17, j18, j19, j20, j21, j22, j23, j24, j25, j26, j27, j28, j29, j30, j31], []⟩
def Mu19 (a : Act) (_ : World) : Nat := match a.tmps.getD 7 undef with | .int _ j => 2000 - j.toNat | _ => 0
set_option maxRecDepth 100000 in
set_option maxHeartbeats 8000000 in
theorem untS_e {Fin : Value → World → Prop} {w : World} (v f b : Int) : CallsE Try.prog Fin 19 #[.int .i64 v, .int .i64 f, .int .i64 b] w fun r w' => r = .int .i64 (untM v f b) ∧ ∃ d, w' = w.at d := by
  cases hg : govB v f b with
  | false =>
    rw [untM_no (fun q => by rw [hg] at q; exact absurd q.1 (by decide))]
    refine callsE_of_wpE Try.func19 (by rfl) rfl ?_
    simp only [Try.ntmps19, List.size_toArray, List.length_cons, List.length_nil, Nat.reduceAdd, Nat.reduceSub, Array.replicate_succ, Array.replicate_zero, List.push_toArray, List.append_toArray, List.nil_append, List.cons_append]
    have hF := Since.refl (R := AtRel) w
    refine wpE_seq (wpE_of_wpC 0 fun B _ => ?_)
    co_apply Exists.intro
    repeat (first | co_reg (termsL B) | co_op (Since.rely (termsL B)) hF ((rw [listed_nil (by simp [go_sem, events_max2, events_min2])]; exact Terms.idle (termsL B) _)) | (co_apply opsC_unwanted (termsL B) rfl (by rfl); try walk_nrm) | ((first | co_apply wpC_skip (termsL B) | co_apply wpC_ret (termsL B) | co_apply opsC_nil (termsL B)); try co_then) | (co_apply wpC_cond (termsL B); (focus (exact rfl)); simp only [if_true, if_false, reduceIte, Bool.false_eq_true]))
    obtain ⟨d, rfl⟩ := since_at hF
    clear hF
    have hF := Since.refl (R := AtRel) (w.at d)
    refine wpE_seq (wpE_of_wpC 0 fun B _ => ?_)
    obtain ⟨nk, kk⟩ := ok13_c (main := true) (termsL B) v f b
    rw [hg] at kk
    co_apply Exists.intro
    repeat (first | co_reg (termsL B) | co_op (Since.rely (termsL B)) hF ((rw [listed_nil (by simp [go_sem, events_max2, events_min2])]; exact Terms.idle (termsL B) _)) | (co_apply opsC_unwanted (termsL B) rfl (by rfl); try walk_nrm) | ((first | co_apply wpC_seq (termsL B) | co_apply wpC_skip (termsL B) | co_apply wpC_block (termsL B) | co_apply wpC_exit (termsL B) | co_apply wpC_ret (termsL B) | co_apply opsC_nil (termsL B)); try co_then) | (co_apply wpC_cond (termsL B); (focus (exact rfl)); simp only [if_true, if_false, reduceIte, Bool.false_eq_true]))
    co_apply opsC_call (termsL B) rfl (by rfl) rfl
    · walk_nrm; exact kk _
    rintro v1 w1 ⟨rfl, hs⟩
    replace hF := since_trans (termsL B) hF hs
    clear hs
    try walk_nrm
    repeat (first | co_reg (termsL B) | co_op (Since.rely (termsL B)) hF ((rw [listed_nil (by simp [go_sem, events_max2, events_min2])]; exact Terms.idle (termsL B) _)) | (co_apply opsC_unwanted (termsL B) rfl (by rfl); try walk_nrm) | ((first | co_apply wpC_seq (termsL B) | co_apply wpC_skip (termsL B) | co_apply wpC_block (termsL B) | co_apply wpC_exit (termsL B) | co_apply wpC_ret (termsL B) | co_apply opsC_nil (termsL B)); try co_then) | (co_apply wpC_cond (termsL B); (focus (exact rfl)); simp only [if_true, if_false, reduceIte, Bool.false_eq_true]))
    obtain ⟨d', rfl⟩ := since_at hF
    exact ⟨rfl, _, resultsC_tmp (by rfl) _, rfl, _, rfl⟩
  | true =>
    have hp := govB_true.1 hg
    by_cases h1 : b < 1
    · rw [untM_no (fun q => by omega)]
      have h1' : decide (b < 1) = true := decide_eq_true h1
      refine callsE_of_wpE Try.func19 (by rfl) rfl ?_
      simp only [Try.ntmps19, List.size_toArray, List.length_cons, List.length_nil, Nat.reduceAdd, Nat.reduceSub, Array.replicate_succ, Array.replicate_zero, List.push_toArray, List.append_toArray, List.nil_append, List.cons_append]
      have hF := Since.refl (R := AtRel) w
      refine wpE_seq (wpE_of_wpC 0 fun B _ => ?_)
      co_apply Exists.intro
      repeat (first | co_reg (termsL B) | co_op (Since.rely (termsL B)) hF ((rw [listed_nil (by simp [go_sem, events_max2, events_min2])]; exact Terms.idle (termsL B) _)) | (co_apply opsC_unwanted (termsL B) rfl (by rfl); try walk_nrm) | ((first | co_apply wpC_skip (termsL B) | co_apply wpC_ret (termsL B) | co_apply opsC_nil (termsL B)); try co_then) | (co_apply wpC_cond (termsL B); (focus (exact rfl)); simp only [if_true, if_false, reduceIte, Bool.false_eq_true]))
      obtain ⟨d, rfl⟩ := since_at hF
      clear hF
      have hF := Since.refl (R := AtRel) (w.at d)
      refine wpE_seq (wpE_of_wpC 0 fun B _ => ?_)
      obtain ⟨nk, kk⟩ := ok13_c (main := true) (termsL B) v f b
      rw [hg] at kk
      co_apply Exists.intro
      repeat (first | co_reg (termsL B) | co_op (Since.rely (termsL B)) hF ((rw [listed_nil (by simp [go_sem, events_max2, events_min2])]; exact Terms.idle (termsL B) _)) | (co_apply opsC_unwanted (termsL B) rfl (by rfl); try walk_nrm) | ((first | co_apply wpC_seq (termsL B) | co_apply wpC_skip (termsL B) | co_apply wpC_block (termsL B) | co_apply wpC_exit (termsL B) | co_apply wpC_ret (termsL B) | co_apply opsC_nil (termsL B)); try co_then) | (co_apply wpC_cond (termsL B); (focus (exact rfl)); simp only [if_true, if_false, reduceIte, Bool.false_eq_true]))
      co_apply opsC_call (termsL B) rfl (by rfl) rfl
      · walk_nrm; exact kk _
      rintro v1 w1 ⟨rfl, hs⟩
      replace hF := since_trans (termsL B) hF hs
      clear hs
      try walk_nrm
      repeat (first | co_reg (termsL B) | co_op (Since.rely (termsL B)) hF ((rw [listed_nil (by simp [go_sem, events_max2, events_min2])]; exact Terms.idle (termsL B) _)) | (co_apply opsC_unwanted (termsL B) rfl (by rfl); try walk_nrm) | ((first | co_apply wpC_seq (termsL B) | co_apply wpC_skip (termsL B) | co_apply wpC_block (termsL B) | co_apply wpC_exit (termsL B) | co_apply wpC_ret (termsL B) | co_apply opsC_nil (termsL B)); try co_then) | (co_apply wpC_cond (termsL B); (focus (exact rfl)); simp only [if_true, if_false, reduceIte, Bool.false_eq_true]))
      obtain ⟨d', rfl⟩ := since_at hF
      exact ⟨rfl, _, resultsC_tmp (by rfl) _, rfl, _, rfl⟩
    · have h1' : decide (b < 1) = false := decide_eq_false h1
      rw [untM_V hg (by omega)]
      refine callsE_of_wpE Try.func19 (by rfl) rfl ?_
      simp only [Try.ntmps19, List.size_toArray, List.length_cons, List.length_nil, Nat.reduceAdd, Nat.reduceSub, Array.replicate_succ, Array.replicate_zero, List.push_toArray, List.append_toArray, List.nil_append, List.cons_append]
      have hF := Since.refl (R := AtRel) w
      refine wpE_seq (wpE_of_wpC 0 fun B _ => ?_)
      co_apply Exists.intro
      repeat (first | co_reg (termsL B) | co_op (Since.rely (termsL B)) hF ((rw [listed_nil (by simp [go_sem, events_max2, events_min2])]; exact Terms.idle (termsL B) _)) | (co_apply opsC_unwanted (termsL B) rfl (by rfl); try walk_nrm) | ((first | co_apply wpC_skip (termsL B) | co_apply wpC_ret (termsL B) | co_apply opsC_nil (termsL B)); try co_then) | (co_apply wpC_cond (termsL B); (focus (exact rfl)); simp only [if_true, if_false, reduceIte, Bool.false_eq_true]))
      obtain ⟨d, rfl⟩ := since_at hF
      clear hF
      have hF := Since.refl (R := AtRel) (w.at d)
      refine wpE_seq (wpE_of_wpC 0 fun B _ => ?_)
      obtain ⟨nk, kk⟩ := ok13_c (main := true) (termsL B) v f b
      rw [hg] at kk
      co_apply Exists.intro
      repeat (first | co_reg (termsL B) | co_op (Since.rely (termsL B)) hF ((rw [listed_nil (by simp [go_sem, events_max2, events_min2])]; exact Terms.idle (termsL B) _)) | (co_apply opsC_unwanted (termsL B) rfl (by rfl); try walk_nrm) | ((first | co_apply wpC_seq (termsL B) | co_apply wpC_skip (termsL B) | co_apply wpC_block (termsL B) | co_apply wpC_exit (termsL B) | co_apply wpC_ret (termsL B) | co_apply opsC_nil (termsL B)); try co_then) | (co_apply wpC_cond (termsL B); (focus (exact rfl)); simp only [if_true, if_false, reduceIte, Bool.false_eq_true]))
      co_apply opsC_call (termsL B) rfl (by rfl) rfl
      · walk_nrm; exact kk _
      rintro v1 w1 ⟨rfl, hs⟩
      replace hF := since_trans (termsL B) hF hs
      clear hs
      try walk_nrm
      repeat (first | co_reg (termsL B) | co_op (Since.rely (termsL B)) hF ((rw [listed_nil (by simp [go_sem, events_max2, events_min2])]; exact Terms.idle (termsL B) _)) | (co_apply opsC_unwanted (termsL B) rfl (by rfl); try walk_nrm) | ((first | co_apply wpC_seq (termsL B) | co_apply wpC_skip (termsL B) | co_apply wpC_block (termsL B) | co_apply wpC_exit (termsL B) | co_apply wpC_ret (termsL B) | co_apply opsC_nil (termsL B)); try co_then) | (co_apply wpC_cond (termsL B); (focus (exact rfl)); simp only [if_true, if_false, reduceIte, Bool.false_eq_true]))
      obtain ⟨d2, rfl⟩ := since_at hF
      clear hF
      have hF := Since.refl (R := AtRel) ((w.at d).at d2)
      refine wpE_seq (wpE_seq (wpE_of_wpC 0 fun B _ => ?_))
      co_apply Exists.intro
      repeat (first | co_reg (termsL B) | co_op (Since.rely (termsL B)) hF ((rw [listed_nil (by simp [go_sem, events_max2, events_min2])]; exact Terms.idle (termsL B) _)) | (co_apply opsC_unwanted (termsL B) rfl (by rfl); try walk_nrm) | ((first | co_apply wpC_skip (termsL B) | co_apply wpC_ret (termsL B) | co_apply opsC_nil (termsL B)); try co_then) | (co_apply wpC_cond (termsL B); (focus (exact rfl)); simp only [if_true, if_false, reduceIte, Bool.false_eq_true]))
      obtain ⟨d3, rfl⟩ := since_at hF
      clear hF
      refine wpE_block (wpE_loop (Inv19 w f b (untV f b 1001 0 v)) Mu19 ?_ ?_)
      · exact ⟨0, 1001, v, _, _, _, _, _, _, _, _, _, _, _, _, _, _, _, _, _, _, _, _, _, _, _, _, _, _, _, rfl, hp, rfl, ⟨_, rfl⟩, rfl⟩
      · rintro a w' ⟨k, m, x, j3, j4, j5, j8, j9, j10, j11, j12, j13, j14, j15, j16, j17, j18, j19, j20, j21, j22, j23, j24, j25, j26, j27, j28, j29, j30, j31, hk, hx, hr, ⟨d4, rfl⟩, rfl⟩
        have hF := Since.refl (R := AtRel) (w.at d4)
        cases m with
        | zero =>
          have hk' : decide ((k : Int) ≤ 1000) = false := decide_eq_false (by omega)
          have hr' : -1 = untV f b 1001 0 v := hr
          rw [← hr']
          clear hr hr'
          refine wpE_of_wpC 0 fun B _ => ?_
          co_apply Exists.intro
          co_apply wpC_seq_ret (termsL B)
          repeat (first | co_reg (termsL B) | co_op (Since.rely (termsL B)) hF ((rw [listed_nil (by simp [go_sem, events_max2, events_min2])]; exact Terms.idle (termsL B) _)) | (co_apply opsC_unwanted (termsL B) rfl (by rfl); try walk_nrm) | ((first | co_apply wpC_seq (termsL B) | co_apply wpC_skip (termsL B) | co_apply wpC_block (termsL B) | co_apply wpC_exit (termsL B) | co_apply wpC_ret (termsL B) | co_apply opsC_nil (termsL B)); try co_then) | (co_apply wpC_cond (termsL B); (focus (exact rfl)); simp only [if_true, if_false, reduceIte, Bool.false_eq_true]))
          obtain ⟨d5, rfl⟩ := since_at hF
          clear hF
          have hF := Since.refl (R := AtRel) ((w.at d4).at d5)
          refine wpE_of_wpC 0 fun B _ => ?_
          co_apply Exists.intro
          repeat (first | co_reg (termsL B) | co_op (Since.rely (termsL B)) hF ((rw [listed_nil (by simp [go_sem, events_max2, events_min2])]; exact Terms.idle (termsL B) _)) | (co_apply opsC_unwanted (termsL B) rfl (by rfl); try walk_nrm) | ((first | co_apply wpC_seq (termsL B) | co_apply wpC_skip (termsL B) | co_apply wpC_block (termsL B) | co_apply wpC_exit (termsL B) | co_apply wpC_ret (termsL B) | co_apply opsC_nil (termsL B)); try co_then) | (co_apply wpC_cond (termsL B); (focus (exact rfl)); simp only [if_true, if_false, reduceIte, Bool.false_eq_true]))
          obtain ⟨d', rfl⟩ := since_at hF
          exact ⟨rfl, _, resultsC_tmp (by rfl) _, rfl, _, rfl⟩
        | succ m =>
          have hk' : decide ((k : Int) ≤ 1000) = true := decide_eq_true (by omega)
          by_cases q : nxtQ x f b = x
          · rw [untV_yes q] at hr
            rw [← hr]
            clear hr
            have hs : (nxtM x f b == x) = true := by rw [nxtM_yes (govB_true.2 hx), q]; exact beq_self_eq_true x
            refine wpE_of_wpC 0 fun B _ => ?_
            obtain ⟨nx, kx⟩ := nxtS_c (main := true) (termsL B) x f b
            generalize nxtM x f b = r at *
            co_apply Exists.intro
            co_apply wpC_seq (termsL B)
            co_apply wpC_seq (termsL B)
            repeat (first | co_reg (termsL B) | co_op (Since.rely (termsL B)) hF ((rw [listed_nil (by simp [go_sem, events_max2, events_min2])]; exact Terms.idle (termsL B) _)) | (co_apply opsC_unwanted (termsL B) rfl (by rfl); try walk_nrm) | ((first | co_apply wpC_skip (termsL B) | co_apply wpC_ret (termsL B) | co_apply opsC_nil (termsL B)); try co_then) | (co_apply wpC_cond (termsL B); (focus (exact rfl)); simp only [if_true, if_false, reduceIte, Bool.false_eq_true]))
            co_apply wpC_seq_ret (termsL B)
            co_apply wpC_block (termsL B)
            co_apply wpC_seq (termsL B)
            repeat (first | co_reg (termsL B) | co_op (Since.rely (termsL B)) hF ((rw [listed_nil (by simp [go_sem, events_max2, events_min2])]; exact Terms.idle (termsL B) _)) | (co_apply opsC_unwanted (termsL B) rfl (by rfl); try walk_nrm) | ((first | co_apply wpC_skip (termsL B) | co_apply wpC_ret (termsL B) | co_apply opsC_nil (termsL B)); try co_then) | (co_apply wpC_cond (termsL B); (focus (exact rfl)); simp only [if_true, if_false, reduceIte, Bool.false_eq_true]))
            co_apply opsC_call (termsL B) rfl (by rfl) rfl
            · walk_nrm; exact kx _
            rintro v1 w1 ⟨rfl, hs2⟩
            replace hF := since_trans (termsL B) hF hs2
            clear hs2
            try walk_nrm
            repeat (first | co_reg (termsL B) | co_op (Since.rely (termsL B)) hF ((rw [listed_nil (by simp [go_sem, events_max2, events_min2])]; exact Terms.idle (termsL B) _)) | (co_apply opsC_unwanted (termsL B) rfl (by rfl); try walk_nrm) | ((first | co_apply wpC_skip (termsL B) | co_apply wpC_ret (termsL B) | co_apply opsC_nil (termsL B)); try co_then) | (co_apply wpC_cond (termsL B); (focus (exact rfl)); simp only [if_true, if_false, reduceIte, Bool.false_eq_true]))
            co_apply wpC_seq_ret (termsL B)
            repeat (first | co_reg (termsL B) | co_op (Since.rely (termsL B)) hF ((rw [listed_nil (by simp [go_sem, events_max2, events_min2])]; exact Terms.idle (termsL B) _)) | (co_apply opsC_unwanted (termsL B) rfl (by rfl); try walk_nrm) | ((first | co_apply wpC_seq (termsL B) | co_apply wpC_skip (termsL B) | co_apply wpC_block (termsL B) | co_apply wpC_exit (termsL B) | co_apply wpC_ret (termsL B) | co_apply opsC_nil (termsL B)); try co_then) | (co_apply wpC_cond (termsL B); (focus (exact rfl)); simp only [if_true, if_false, reduceIte, Bool.false_eq_true]))
            obtain ⟨d', rfl⟩ := since_at hF
            exact ⟨rfl, _, resultsC_tmp (by rfl) _, rfl, _, rfl⟩
          · rw [untV_no q] at hr
            have hs : (nxtM x f b == x) = false := by rw [beq_eq_false_iff_ne, nxtM_yes (govB_true.2 hx)]; exact q
            have hy : (if nxtM x f b < 100000 then nxtM x f b else 100000) = stpQ x f b := by rw [nxtM_yes (govB_true.2 hx)]; unfold stpQ; split <;> omega
            refine wpE_of_wpC 0 fun B _ => ?_
            obtain ⟨nx, kx⟩ := nxtS_c (main := true) (termsL B) x f b
            generalize nxtM x f b = r at *
            co_apply Exists.intro
            repeat (first | co_reg (termsL B) | co_op (Since.rely (termsL B)) hF ((rw [listed_nil (by simp [go_sem, events_max2, events_min2])]; exact Terms.idle (termsL B) _)) | (co_apply opsC_unwanted (termsL B) rfl (by rfl); try walk_nrm) | ((first | co_apply wpC_seq (termsL B) | co_apply wpC_skip (termsL B) | co_apply wpC_block (termsL B) | co_apply wpC_exit (termsL B) | co_apply wpC_ret (termsL B) | co_apply opsC_nil (termsL B)); try co_then) | (co_apply wpC_cond (termsL B); (focus (exact rfl)); simp only [if_true, if_false, reduceIte, Bool.false_eq_true]))
            co_apply opsC_call (termsL B) rfl (by rfl) rfl
            · walk_nrm; exact kx _
            rintro v1 w1 ⟨rfl, hs⟩
            replace hF := since_trans (termsL B) hF hs
            clear hs
            try walk_nrm
            repeat (first | co_reg (termsL B) | co_op (Since.rely (termsL B)) hF ((rw [listed_nil (by simp [go_sem, events_max2, events_min2])]; exact Terms.idle (termsL B) _)) | (co_apply opsC_unwanted (termsL B) rfl (by rfl); try walk_nrm) | ((first | co_apply wpC_seq (termsL B) | co_apply wpC_skip (termsL B) | co_apply wpC_block (termsL B) | co_apply wpC_exit (termsL B) | co_apply wpC_ret (termsL B) | co_apply opsC_nil (termsL B)); try co_then) | (co_apply wpC_cond (termsL B); (focus (exact rfl)); simp only [if_true, if_false, reduceIte, Bool.false_eq_true]))
            obtain ⟨d5, rfl⟩ := since_at hF
            have ek : IntKind.i64.wrap ((k : Int) + 1) = ((k + 1 : Nat) : Int) := by rw [IntWalk.i64_in _ (by omega)]; omega
            refine ⟨⟨k + 1, m, stpQ x f b, _, _, _, _, _, _, _, _, _, _, _, _, _, _, _, _, _, _, _, _, _, _, _, _, _, _, _, by omega, stp_gov hx, hr, ⟨_, rfl⟩, by first | rfl | (simp only [hy, ek]; rfl) | (rw [← hy, ← ek]; rfl)⟩, ?_⟩
            simp [Mu19, ek]
            omega
end Go.Proofs.Ytodpkfohihfndaa
