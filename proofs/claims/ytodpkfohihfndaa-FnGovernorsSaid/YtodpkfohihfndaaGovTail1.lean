/- The run of FnGovernors: from the steady speed on. No condition. Made by gen_govmain.py. -/
import Derived.Test.YtodpkfohihfndaaGovTail2
set_option linter.unusedSimpArgs false
set_option linter.unusedVariables false
namespace Go.Proofs.Ytodpkfohihfndaa
open Go Go.Conc Go.RowKit

set_option maxRecDepth 1000000 in
set_option maxHeartbeats 16000000 in
theorem tail1 {W w : World} {f b v n s : Int} (hg : GovP v f b) (hb1 : 1 ≤ b) (hn : 0 ≤ n ∧ n ≤ 29) (hs : stdM f b = s) (hbw : Below W.heap.size W w) (A : Array Value) (hA : A.size = 158) (a3 : A.getD 3 undef = .int .i64 f) (a4 : A.getD 4 undef = .int .i64 b) (a5 : A.getD 5 undef = .int .i64 v) (a6 : A.getD 6 undef = .int .i64 n) (a7 : A.getD 7 undef = .int .i64 s) :
    WpE Try.prog (FinT W) 3 (sq2 (sq2 (sq2 (sq2 (sq2 (sq2 (sq2 (sq2 (sq2 bodyG))))))))) (bodyPostC Try.prog Try.f3 (FinT W)) ⟨A, []⟩ w := by
  obtain ⟨J, hJ, rfl⟩ := arr158 A hA
  clear hA
  rw [← hJ] at a3 a4 a5 a6 a7
  rw [a3, a4, a5, a6, a7]
  clear a3 a4 a5 a6 a7 hJ
  simp only [bodyG, Try.f3, Option.getD_some, sq1, sq2, inn, opz]
  rcases stdM_cases f b with h1 | ⟨_, hst⟩
  · obtain rfl : s = -1 := by omega
    clear h1 hs
    refine wpE_seq ?_
    refine wpE_seq ?_
    refine wpE_region ?_
    simp only [List.size_toArray, List.length_cons, List.length_nil, Nat.reduceAdd, Nat.zero_add, List.range, List.range.loop]
    refine opsE_cons_k rfl (by rfl) (fun w => ?_) (fun d K hK => ?_)
    · simp [go_sem]
    go_simp
    refine hK _ ?_
    clear hK K
    try walk_nrm
    refine opsE_cons_k rfl (by rfl) (fun w => ?_) (fun d K hK => ?_)
    · simp [go_sem]
    go_simp
    refine hK _ ?_
    clear hK K
    try walk_nrm
    refine opsE_cons_k rfl (by rfl) (fun w => ?_) (fun d K hK => ?_)
    · simp [go_sem]
    go_simp
    refine hK _ ?_
    clear hK K
    try walk_nrm
    refine opsE_unwanted rfl (by rfl) ?_
    try walk_nrm
    refine opsE_unwanted rfl (by rfl) ?_
    try walk_nrm
    refine opsE_unwanted rfl (by rfl) ?_
    try walk_nrm
    refine opsE_unwanted rfl (by rfl) ?_
    try walk_nrm
    refine opsE_unwanted rfl (by rfl) ?_
    try walk_nrm
    refine opsE_unwanted rfl (by rfl) ?_
    try walk_nrm
    refine opsE_unwanted rfl (by rfl) ?_
    try walk_nrm
    refine opsE_unwanted rfl (by rfl) ?_
    try walk_nrm
    refine opsE_unwanted rfl (by rfl) ?_
    try walk_nrm
    refine opsE_unwanted rfl (by rfl) ?_
    try walk_nrm
    refine opsE_unwanted rfl (by rfl) ?_
    try walk_nrm
    refine opsE_unwanted rfl (by rfl) ?_
    try walk_nrm
    refine opsE_unwanted rfl (by rfl) ?_
    try walk_nrm
    refine opsE_unwanted rfl (by rfl) ?_
    try walk_nrm
    refine opsE_unwanted rfl (by rfl) ?_
    try walk_nrm
    refine opsE_unwanted rfl (by rfl) ?_
    try walk_nrm
    refine opsE_unwanted rfl (by rfl) ?_
    try walk_nrm
    refine opsE_unwanted rfl (by rfl) ?_
    try walk_nrm
    refine opsE_unwanted rfl (by rfl) ?_
    try walk_nrm
    refine opsE_unwanted rfl (by rfl) ?_
    try walk_nrm
    refine opsE_unwanted rfl (by rfl) ?_
    try walk_nrm
    refine opsE_unwanted rfl (by rfl) ?_
    try walk_nrm
    refine opsE_unwanted rfl (by rfl) ?_
    try walk_nrm
    refine opsE_unwanted rfl (by rfl) ?_
    try walk_nrm
    refine opsE_unwanted rfl (by rfl) ?_
    try walk_nrm
    refine opsE_unwanted rfl (by rfl) ?_
    try walk_nrm
    refine opsE_unwanted rfl (by rfl) ?_
    try walk_nrm
    refine opsE_unwanted rfl (by rfl) ?_
    try walk_nrm
    refine opsE_unwanted rfl (by rfl) ?_
    try walk_nrm
    refine opsE_unwanted rfl (by rfl) ?_
    try walk_nrm
    refine opsE_unwanted rfl (by rfl) ?_
    try walk_nrm
    refine opsE_unwanted rfl (by rfl) ?_
    try walk_nrm
    refine opsE_unwanted rfl (by rfl) ?_
    try walk_nrm
    refine opsE_unwanted rfl (by rfl) ?_
    try walk_nrm
    refine opsE_unwanted rfl (by rfl) ?_
    try walk_nrm
    refine opsE_unwanted rfl (by rfl) ?_
    try walk_nrm
    refine opsE_cons_k rfl (by rfl) (fun w => ?_) (fun d K hK => ?_)
    · simp [go_sem]
    go_simp
    refine hK _ ?_
    clear hK K
    try walk_nrm
    refine opsE_nil ?_
    simp only [Exit.then, Exit.inBlock, if_true, if_false, reduceIte]
    refine wpE_cond (t := false) rfl ?_
    simp only [if_true, if_false, Bool.false_eq_true, ↓reduceIte]
    refine wpE_skip ?_
    simp only [Exit.then, Exit.inBlock, if_true, if_false, reduceIte]
    exact tail2 hg hb1 hbw _ rfl rfl rfl rfl
  · rw [hs] at hst
    have hgs : GovP s f b := ⟨hst.1, hg.2⟩
    have hne := (nxt_steady hgs).2 hst.2.1
    have hN : ∀ w : World, CallsE Try.prog (FinT W) 12 #[.int .i64 s, .int .i64 f, .int .i64 b] w fun r w' => r = .int .i64 s ∧ Since AtRel w w' := fun w => by
      have : CallsE Try.prog (FinT W) 12 #[.int .i64 s, .int .i64 f, .int .i64 b] w fun r w' => r = .int .i64 (nxtM s f b) ∧ Since AtRel w w' := callsE_of_callsC 0 fun B _ => (inxt_c (main := true) (termsL B) s f b).imp fun n h => h _
      rwa [nxtM_yes (govB_true.2 hgs), hne] at this
    have hA : ∀ w : World, CallsE Try.prog (FinT W) 13 #[.int .i64 s, .int .i64 f, .int .i64 b, .int .i64 n] w fun r w' => r = .int .i64 s ∧ Below w.heap.size w w' := fun w => by
      have := iaft_e (Fin := (FinT W)) (w := w) s f b n
      rwa [aftM_yes (govB_true.2 hgs) (by omega), aft_same hne hst.1.2] at this
    have hU : ∀ w : World, CallsE Try.prog (FinT W) 14 #[.int .i64 s, .int .i64 f, .int .i64 b] w fun r w' => r = .int .i64 0 ∧ Below w.heap.size w w' := fun w => by
      have := iunt_e (Fin := (FinT W)) (w := w) s f b
      rw [untM_some (govB_true.2 hgs) hb1 (unt_yes hne 1000)] at this
      exact this
    have hs0 : decide (0 ≤ s) = true := decide_eq_true hst.1.1
    rcases Int.lt_or_eq_of_le hst.1.1 with hpos | hz
    · have hsb : 0 ≤ s ∧ s ≤ 100000 := hst.1
      obtain ⟨s1, hs1⟩ : ∃ s1, s - 1 = s1 := ⟨_, rfl⟩
      have hw1 : IntKind.i64.wrap (s - 1) = s1 := by rw [IntWalk.i64_in _ (by omega)]; exact hs1
      have hgs1 : GovP s1 f b := ⟨by omega, hg.2⟩
      obtain ⟨r7, hr7⟩ : ∃ r7, nxtM s1 f b = r7 := ⟨_, rfl⟩
      have hN7 : ∀ w : World, CallsE Try.prog (FinT W) 12 #[.int .i64 s1, .int .i64 f, .int .i64 b] w fun r w' => r = .int .i64 r7 ∧ Since AtRel w w' := fun w => by
        have : CallsE Try.prog (FinT W) 12 #[.int .i64 s1, .int .i64 f, .int .i64 b] w fun r w' => r = .int .i64 (nxtM s1 f b) ∧ Since AtRel w w' := callsE_of_callsC 0 fun B _ => (inxt_c (main := true) (termsL B) s1 f b).imp fun n h => h _
        rwa [hr7] at this
      have hne7 : (r7 == s1) = false := by
        rw [beq_eq_false_iff_ne, ← hr7, nxtM_yes (govB_true.2 hgs1)]
        exact fun k => hst.2.2 s1 (by omega) (by omega) ((nxt_steady hgs1).1 k)
      have hs2 : decide (0 < s) = true := decide_eq_true hpos
      clear hr7 hs1 hgs1 hgs hst hne hs hpos hsb
      refine wpE_seq ?_
      refine wpE_seq ?_
      refine wpE_region ?_
      simp only [List.size_toArray, List.length_cons, List.length_nil, Nat.reduceAdd, Nat.zero_add, List.range, List.range.loop]
      refine opsE_cons_k rfl (by rfl) (fun w => ?_) (fun d K hK => ?_)
      · simp [go_sem]
      go_simp
      refine hK _ ?_
      clear hK K
      try walk_nrm
      refine opsE_cons_k rfl (by rfl) (fun w => ?_) (fun d K hK => ?_)
      · simp [go_sem]
      go_simp
      refine hK _ ?_
      clear hK K
      try walk_nrm
      refine opsE_cons_k rfl (by rfl) (fun w => ?_) (fun d K hK => ?_)
      · simp [go_sem]
      go_simp
      refine hK _ ?_
      clear hK K
      try walk_nrm
      refine opsE_cons_k rfl (by rfl) (fun w => ?_) (fun d K hK => ?_)
      · simp [go_sem]
      go_simp
      refine hK _ ?_
      clear hK K
      try walk_nrm
      refine opsE_cons_k rfl (by rfl) (fun w => ?_) (fun d K hK => ?_)
      · simp [go_sem]
      go_simp
      refine hK _ ?_
      clear hK K
      try walk_nrm
      refine opsE_cons_k rfl (by rfl) (fun w => ?_) (fun d K hK => ?_)
      · simp [go_sem]
      go_simp
      refine hK _ ?_
      clear hK K
      try walk_nrm
      refine opsE_call rfl (by rfl) rfl (by walk_nrm) (hN _) ?_
      rintro u w1 ⟨rfl, hs⟩
      replace hbw := below_since hbw hs
      clear hs
      try walk_nrm
      refine opsE_cons_k rfl (by rfl) (fun w => ?_) (fun d K hK => ?_)
      · simp [go_sem]
      go_simp
      refine hK _ ?_
      clear hK K
      try walk_nrm
      refine opsE_cons_k rfl (by rfl) (fun w => ?_) (fun d K hK => ?_)
      · simp [go_sem]
      go_simp
      refine hK _ ?_
      clear hK K
      try walk_nrm
      refine opsE_cons_k rfl (by rfl) (fun w => ?_) (fun d K hK => ?_)
      · simp [go_sem]
      go_simp
      refine hK _ ?_
      clear hK K
      try walk_nrm
      refine opsE_cons_k rfl (by rfl) (fun w => ?_) (fun d K hK => ?_)
      · simp [go_sem]
      go_simp
      refine hK _ ?_
      clear hK K
      try walk_nrm
      refine opsE_cons_k rfl (by rfl) (fun w => ?_) (fun d K hK => ?_)
      · simp [go_sem]
      go_simp
      refine hK _ ?_
      clear hK K
      try walk_nrm
      refine opsE_cons_k rfl (by rfl) (fun w => ?_) (fun d K hK => ?_)
      · simp [go_sem]
      go_simp
      refine hK _ ?_
      clear hK K
      try walk_nrm
      refine opsE_cons_k rfl (by rfl) (fun w => ?_) (fun d K hK => ?_)
      · simp [go_sem]
      go_simp
      refine hK _ ?_
      clear hK K
      try walk_nrm
      refine opsE_call rfl (by rfl) rfl (by walk_nrm) (hA _) ?_
      rintro u w2 ⟨rfl, hb1⟩
      replace hbw := bstep hbw hb1
      clear hb1
      try walk_nrm
      refine opsE_cons_k rfl (by rfl) (fun w => ?_) (fun d K hK => ?_)
      · simp [go_sem]
      go_simp
      refine hK _ ?_
      clear hK K
      try walk_nrm
      refine opsE_cons_k rfl (by rfl) (fun w => ?_) (fun d K hK => ?_)
      · simp [go_sem]
      go_simp
      refine hK _ ?_
      clear hK K
      try walk_nrm
      refine opsE_cons_k rfl (by rfl) (fun w => ?_) (fun d K hK => ?_)
      · simp [go_sem]
      go_simp
      refine hK _ ?_
      clear hK K
      try walk_nrm
      refine opsE_cons_k rfl (by rfl) (fun w => ?_) (fun d K hK => ?_)
      · simp [go_sem]
      go_simp
      refine hK _ ?_
      clear hK K
      try walk_nrm
      refine opsE_cons_k rfl (by rfl) (fun w => ?_) (fun d K hK => ?_)
      · simp [go_sem]
      go_simp
      refine hK _ ?_
      clear hK K
      try walk_nrm
      refine opsE_cons_k rfl (by rfl) (fun w => ?_) (fun d K hK => ?_)
      · simp [go_sem]
      go_simp
      refine hK _ ?_
      clear hK K
      try walk_nrm
      refine opsE_cons_k rfl (by rfl) (fun w => ?_) (fun d K hK => ?_)
      · simp [go_sem]
      go_simp
      refine hK _ ?_
      clear hK K
      try walk_nrm
      refine opsE_call rfl (by rfl) rfl (by walk_nrm) (hU _) ?_
      rintro u w3 ⟨rfl, hb1⟩
      replace hbw := bstep hbw hb1
      clear hb1
      try walk_nrm
      refine opsE_cons_k rfl (by rfl) (fun w => ?_) (fun d K hK => ?_)
      · simp [go_sem]
      go_simp
      refine hK _ ?_
      clear hK K
      try walk_nrm
      refine opsE_cons_k rfl (by rfl) (fun w => ?_) (fun d K hK => ?_)
      · simp [go_sem]
      go_simp
      refine hK _ ?_
      clear hK K
      try walk_nrm
      refine opsE_cons_k rfl (by rfl) (fun w => ?_) (fun d K hK => ?_)
      · simp [go_sem]
      go_simp
      refine hK _ ?_
      clear hK K
      try walk_nrm
      refine opsE_cons_k rfl (by rfl) (fun w => ?_) (fun d K hK => ?_)
      · simp [go_sem]
      go_simp
      refine hK _ ?_
      clear hK K
      try walk_nrm
      refine opsE_cons_k rfl (by rfl) (fun w => ?_) (fun d K hK => ?_)
      · simp [go_sem]
      go_simp
      refine hK _ ?_
      clear hK K
      try walk_nrm
      refine opsE_cons_k rfl (by rfl) (fun w => ?_) (fun d K hK => ?_)
      · simp [go_sem]
      go_simp
      refine hK _ ?_
      clear hK K
      try walk_nrm
      refine opsE_cons_k rfl (by rfl) (fun w => ?_) (fun d K hK => ?_)
      · simp [go_sem]
      go_simp
      refine hK _ ?_
      clear hK K
      try walk_nrm
      refine opsE_cons_k rfl (by rfl) (fun w => ?_) (fun d K hK => ?_)
      · simp [go_sem]
      go_simp
      refine hK _ ?_
      clear hK K
      try walk_nrm
      refine opsE_cons_k rfl (by rfl) (fun w => ?_) (fun d K hK => ?_)
      · simp [go_sem]
      go_simp
      refine hK _ ?_
      clear hK K
      try walk_nrm
      refine opsE_cons_k rfl (by rfl) (fun w => ?_) (fun d K hK => ?_)
      · simp [go_sem]
      go_simp
      refine hK _ ?_
      clear hK K
      try walk_nrm
      refine opsE_call rfl (by rfl) rfl (by walk_nrm) (hN7 _) ?_
      rintro u w4 ⟨rfl, hs⟩
      replace hbw := below_since hbw hs
      clear hs
      try walk_nrm
      refine opsE_cons_k rfl (by rfl) (fun w => ?_) (fun d K hK => ?_)
      · simp [go_sem]
      go_simp
      refine hK _ ?_
      clear hK K
      try walk_nrm
      refine opsE_cons_k rfl (by rfl) (fun w => ?_) (fun d K hK => ?_)
      · simp [go_sem]
      go_simp
      refine hK _ ?_
      clear hK K
      try walk_nrm
      refine opsE_cons_k rfl (by rfl) (fun w => ?_) (fun d K hK => ?_)
      · simp [go_sem]
      go_simp
      refine hK _ ?_
      clear hK K
      try walk_nrm
      refine opsE_cons_k rfl (by rfl) (fun w => ?_) (fun d K hK => ?_)
      · simp [go_sem]
      go_simp
      refine hK _ ?_
      clear hK K
      try walk_nrm
      refine opsE_cons_k rfl (by rfl) (fun w => ?_) (fun d K hK => ?_)
      · simp [go_sem]
      go_simp
      refine hK _ ?_
      clear hK K
      try walk_nrm
      refine opsE_cons_k rfl (by rfl) (fun w => ?_) (fun d K hK => ?_)
      · simp [go_sem]
      go_simp
      refine hK _ ?_
      clear hK K
      try walk_nrm
      refine opsE_nil ?_
      simp only [Exit.then, Exit.inBlock, if_true, if_false, reduceIte]
      refine wpE_cond (t := false) rfl ?_
      simp only [if_true, if_false, Bool.false_eq_true, ↓reduceIte]
      refine wpE_skip ?_
      simp only [Exit.then, Exit.inBlock, if_true, if_false, reduceIte]
      exact tail2 hg hb1 hbw _ rfl rfl rfl rfl
    · obtain rfl : s = 0 := hz.symm
      clear hs0 hst hgs hne hs hz
      refine wpE_seq ?_
      refine wpE_seq ?_
      refine wpE_region ?_
      simp only [List.size_toArray, List.length_cons, List.length_nil, Nat.reduceAdd, Nat.zero_add, List.range, List.range.loop]
      refine opsE_cons_k rfl (by rfl) (fun w => ?_) (fun d K hK => ?_)
      · simp [go_sem]
      go_simp
      refine hK _ ?_
      clear hK K
      try walk_nrm
      refine opsE_cons_k rfl (by rfl) (fun w => ?_) (fun d K hK => ?_)
      · simp [go_sem]
      go_simp
      refine hK _ ?_
      clear hK K
      try walk_nrm
      refine opsE_cons_k rfl (by rfl) (fun w => ?_) (fun d K hK => ?_)
      · simp [go_sem]
      go_simp
      refine hK _ ?_
      clear hK K
      try walk_nrm
      refine opsE_cons_k rfl (by rfl) (fun w => ?_) (fun d K hK => ?_)
      · simp [go_sem]
      go_simp
      refine hK _ ?_
      clear hK K
      try walk_nrm
      refine opsE_cons_k rfl (by rfl) (fun w => ?_) (fun d K hK => ?_)
      · simp [go_sem]
      go_simp
      refine hK _ ?_
      clear hK K
      try walk_nrm
      refine opsE_cons_k rfl (by rfl) (fun w => ?_) (fun d K hK => ?_)
      · simp [go_sem]
      go_simp
      refine hK _ ?_
      clear hK K
      try walk_nrm
      refine opsE_call rfl (by rfl) rfl (by walk_nrm) (hN _) ?_
      rintro u w1 ⟨rfl, hs⟩
      replace hbw := below_since hbw hs
      clear hs
      try walk_nrm
      refine opsE_cons_k rfl (by rfl) (fun w => ?_) (fun d K hK => ?_)
      · simp [go_sem]
      go_simp
      refine hK _ ?_
      clear hK K
      try walk_nrm
      refine opsE_cons_k rfl (by rfl) (fun w => ?_) (fun d K hK => ?_)
      · simp [go_sem]
      go_simp
      refine hK _ ?_
      clear hK K
      try walk_nrm
      refine opsE_cons_k rfl (by rfl) (fun w => ?_) (fun d K hK => ?_)
      · simp [go_sem]
      go_simp
      refine hK _ ?_
      clear hK K
      try walk_nrm
      refine opsE_cons_k rfl (by rfl) (fun w => ?_) (fun d K hK => ?_)
      · simp [go_sem]
      go_simp
      refine hK _ ?_
      clear hK K
      try walk_nrm
      refine opsE_cons_k rfl (by rfl) (fun w => ?_) (fun d K hK => ?_)
      · simp [go_sem]
      go_simp
      refine hK _ ?_
      clear hK K
      try walk_nrm
      refine opsE_cons_k rfl (by rfl) (fun w => ?_) (fun d K hK => ?_)
      · simp [go_sem]
      go_simp
      refine hK _ ?_
      clear hK K
      try walk_nrm
      refine opsE_cons_k rfl (by rfl) (fun w => ?_) (fun d K hK => ?_)
      · simp [go_sem]
      go_simp
      refine hK _ ?_
      clear hK K
      try walk_nrm
      refine opsE_call rfl (by rfl) rfl (by walk_nrm) (hA _) ?_
      rintro u w2 ⟨rfl, hb1⟩
      replace hbw := bstep hbw hb1
      clear hb1
      try walk_nrm
      refine opsE_cons_k rfl (by rfl) (fun w => ?_) (fun d K hK => ?_)
      · simp [go_sem]
      go_simp
      refine hK _ ?_
      clear hK K
      try walk_nrm
      refine opsE_cons_k rfl (by rfl) (fun w => ?_) (fun d K hK => ?_)
      · simp [go_sem]
      go_simp
      refine hK _ ?_
      clear hK K
      try walk_nrm
      refine opsE_cons_k rfl (by rfl) (fun w => ?_) (fun d K hK => ?_)
      · simp [go_sem]
      go_simp
      refine hK _ ?_
      clear hK K
      try walk_nrm
      refine opsE_cons_k rfl (by rfl) (fun w => ?_) (fun d K hK => ?_)
      · simp [go_sem]
      go_simp
      refine hK _ ?_
      clear hK K
      try walk_nrm
      refine opsE_cons_k rfl (by rfl) (fun w => ?_) (fun d K hK => ?_)
      · simp [go_sem]
      go_simp
      refine hK _ ?_
      clear hK K
      try walk_nrm
      refine opsE_cons_k rfl (by rfl) (fun w => ?_) (fun d K hK => ?_)
      · simp [go_sem]
      go_simp
      refine hK _ ?_
      clear hK K
      try walk_nrm
      refine opsE_cons_k rfl (by rfl) (fun w => ?_) (fun d K hK => ?_)
      · simp [go_sem]
      go_simp
      refine hK _ ?_
      clear hK K
      try walk_nrm
      refine opsE_call rfl (by rfl) rfl (by walk_nrm) (hU _) ?_
      rintro u w3 ⟨rfl, hb1⟩
      replace hbw := bstep hbw hb1
      clear hb1
      try walk_nrm
      refine opsE_cons_k rfl (by rfl) (fun w => ?_) (fun d K hK => ?_)
      · simp [go_sem]
      go_simp
      refine hK _ ?_
      clear hK K
      try walk_nrm
      refine opsE_cons_k rfl (by rfl) (fun w => ?_) (fun d K hK => ?_)
      · simp [go_sem]
      go_simp
      refine hK _ ?_
      clear hK K
      try walk_nrm
      refine opsE_cons_k rfl (by rfl) (fun w => ?_) (fun d K hK => ?_)
      · simp [go_sem]
      go_simp
      refine hK _ ?_
      clear hK K
      try walk_nrm
      refine opsE_cons_k rfl (by rfl) (fun w => ?_) (fun d K hK => ?_)
      · simp [go_sem]
      go_simp
      refine hK _ ?_
      clear hK K
      try walk_nrm
      refine opsE_cons_k rfl (by rfl) (fun w => ?_) (fun d K hK => ?_)
      · simp [go_sem]
      go_simp
      refine hK _ ?_
      clear hK K
      try walk_nrm
      refine opsE_cons_k rfl (by rfl) (fun w => ?_) (fun d K hK => ?_)
      · simp [go_sem]
      go_simp
      refine hK _ ?_
      clear hK K
      try walk_nrm
      refine opsE_unwanted rfl (by rfl) ?_
      try walk_nrm
      refine opsE_unwanted rfl (by rfl) ?_
      try walk_nrm
      refine opsE_unwanted rfl (by rfl) ?_
      try walk_nrm
      refine opsE_unwanted rfl (by rfl) ?_
      try walk_nrm
      refine opsE_unwanted rfl (by rfl) ?_
      try walk_nrm
      refine opsE_unwanted rfl (by rfl) ?_
      try walk_nrm
      refine opsE_unwanted rfl (by rfl) ?_
      try walk_nrm
      refine opsE_unwanted rfl (by rfl) ?_
      try walk_nrm
      refine opsE_cons_k rfl (by rfl) (fun w => ?_) (fun d K hK => ?_)
      · simp [go_sem]
      go_simp
      refine hK _ ?_
      clear hK K
      try walk_nrm
      refine opsE_cons_k rfl (by rfl) (fun w => ?_) (fun d K hK => ?_)
      · simp [go_sem]
      go_simp
      refine hK _ ?_
      clear hK K
      try walk_nrm
      refine opsE_cons_k rfl (by rfl) (fun w => ?_) (fun d K hK => ?_)
      · simp [go_sem]
      go_simp
      refine hK _ ?_
      clear hK K
      try walk_nrm
      refine opsE_nil ?_
      simp only [Exit.then, Exit.inBlock, if_true, if_false, reduceIte]
      refine wpE_cond (t := false) rfl ?_
      simp only [if_true, if_false, Bool.false_eq_true, ↓reduceIte]
      refine wpE_skip ?_
      simp only [Exit.then, Exit.inBlock, if_true, if_false, reduceIte]
      exact tail2 hg hb1 hbw _ rfl rfl rfl rfl
end Go.Proofs.Ytodpkfohihfndaa
