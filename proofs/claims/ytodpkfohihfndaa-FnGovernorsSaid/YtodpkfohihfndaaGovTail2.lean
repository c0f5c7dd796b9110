/- The run of FnGovernors: from the number of steps on. No condition. Made by gen_govmain.py. -/
import Derived.Test.YtodpkfohihfndaaGovTail3
set_option linter.unusedSimpArgs false
set_option linter.unusedVariables false
namespace Go.Proofs.Ytodpkfohihfndaa
open Go Go.Conc Go.RowKit

set_option maxRecDepth 1000000 in
set_option maxHeartbeats 16000000 in
theorem tail2 {W w : World} {f b v : Int} (hg : GovP v f b) (hb1 : 1 ≤ b) (hbw : Below W.heap.size W w) (A : Array Value) (hA : A.size = 158) (a3 : A.getD 3 undef = .int .i64 f) (a4 : A.getD 4 undef = .int .i64 b) (a5 : A.getD 5 undef = .int .i64 v) :
    WpE Try.prog (FinT W) 3 (sq2 (sq2 (sq2 (sq2 (sq2 (sq2 (sq2 (sq2 (sq2 (sq2 bodyG)))))))))) (bodyPostC Try.prog Try.f3 (FinT W)) ⟨A, []⟩ w := by
  obtain ⟨J, hJ, rfl⟩ := arr158 A hA
  clear hA
  rw [← hJ] at a3 a4 a5
  rw [a3, a4, a5]
  clear a3 a4 a5 hJ
  simp only [bodyG, Try.f3, Option.getD_some, sq1, sq2, inn, opz]
  cases hu : untQ f b 1000 v with
  | none =>
    have hU : ∀ w : World, CallsE Try.prog (FinT W) 14 #[.int .i64 v, .int .i64 f, .int .i64 b] w fun r w' => r = .int .i64 (-1) ∧ Below w.heap.size w w' := fun w => by
      have := iunt_e (Fin := (FinT W)) (w := w) v f b
      rwa [untM_none (govB_true.2 hg) hb1 hu] at this
    refine wpE_seq ?_
    refine wpE_region ?_
    simp only [List.size_toArray, List.length_cons, List.length_nil, Nat.reduceAdd, Nat.zero_add, List.range, List.range.loop]
    refine opsE_cons_k rfl (by rfl) (fun w => ?_) (fun d K hK => ?_)
    · simp [go_sem]
    go_simp
    refine hK _ ?_
    clear hK K
    try walk_nrm
    refine opsE_cons_k rfl (by rfl) (fun w => ?_) (fun d K hK => ?_)
    · simp [go_sem]
    go_simp
    refine hK _ ?_
    clear hK K
    try walk_nrm
    refine opsE_cons_k rfl (by rfl) (fun w => ?_) (fun d K hK => ?_)
    · simp [go_sem]
    go_simp
    refine hK _ ?_
    clear hK K
    try walk_nrm
    refine opsE_call rfl (by rfl) rfl (by walk_nrm) (hU _) ?_
    rintro u w1 ⟨rfl, hb1⟩
    replace hbw := bstep hbw hb1
    clear hb1
    try walk_nrm
    refine opsE_cons_k rfl (by rfl) (fun w => ?_) (fun d K hK => ?_)
    · simp [go_sem]
    go_simp
    refine hK _ ?_
    clear hK K
    try walk_nrm
    refine opsE_nil ?_
    simp only [Exit.then, Exit.inBlock, if_true, if_false, reduceIte]
    refine wpE_seq ?_
    refine wpE_seq ?_
    refine wpE_region ?_
    simp only [List.size_toArray, List.length_cons, List.length_nil, Nat.reduceAdd, Nat.zero_add, List.range, List.range.loop]
    refine opsE_cons_k rfl (by rfl) (fun w => ?_) (fun d K hK => ?_)
    · simp [go_sem]
    go_simp
    refine hK _ ?_
    clear hK K
    try walk_nrm
    refine opsE_cons_k rfl (by rfl) (fun w => ?_) (fun d K hK => ?_)
    · simp [go_sem]
    go_simp
    refine hK _ ?_
    clear hK K
    try walk_nrm
    refine opsE_nil ?_
    simp only [Exit.then, Exit.inBlock, if_true, if_false, reduceIte]
    refine wpE_cond (t := false) rfl ?_
    simp only [if_true, if_false, Bool.false_eq_true, ↓reduceIte]
    refine wpE_skip ?_
    simp only [Exit.then, Exit.inBlock, if_true, if_false, reduceIte]
    exact tail3 hg hbw _ rfl rfl rfl rfl
  | some q =>
    obtain ⟨hq, hy1, hy2⟩ := unt_some hu
    obtain ⟨Q, hQ⟩ : ∃ Q : Int, (q : Int) = Q := ⟨_, rfl⟩
    have hU : ∀ w : World, CallsE Try.prog (FinT W) 14 #[.int .i64 v, .int .i64 f, .int .i64 b] w fun r w' => r = .int .i64 Q ∧ Below w.heap.size w w' := fun w => by
      have := iunt_e (Fin := (FinT W)) (w := w) v f b
      rwa [untM_some (govB_true.2 hg) hb1 hu, hQ] at this
    have hQ0 : decide (0 ≤ Q) = true := decide_eq_true (by omega)
    have hgy := aft_gov (n := q) hg
    obtain ⟨y, hy⟩ : ∃ y, aftQ f b q v = y := ⟨_, rfl⟩
    have hA1 : ∀ w : World, CallsE Try.prog (FinT W) 13 #[.int .i64 v, .int .i64 f, .int .i64 b, .int .i64 Q] w fun r w' => r = .int .i64 y ∧ Below w.heap.size w w' := fun w => by
      have := iaft_e (Fin := (FinT W)) (w := w) v f b Q
      rwa [aftM_yes (govB_true.2 hg) (by omega), show Q.toNat = q by omega, hy] at this
    have hN1 : ∀ w : World, CallsE Try.prog (FinT W) 12 #[.int .i64 y, .int .i64 f, .int .i64 b] w fun r w' => r = .int .i64 y ∧ Since AtRel w w' := fun w => by
      have : CallsE Try.prog (FinT W) 12 #[.int .i64 y, .int .i64 f, .int .i64 b] w fun r w' => r = .int .i64 (nxtM y f b) ∧ Since AtRel w w' := callsE_of_callsC 0 fun B _ => (inxt_c (main := true) (termsL B) y f b).imp fun n h => h _
      rw [hy] at hgy hy1
      rwa [nxtM_yes (govB_true.2 hgy), hy1] at this
    cases q with
    | zero =>
      obtain rfl : Q = 0 := by omega
      clear hQ hQ0 hy hgy
      refine wpE_seq ?_
      refine wpE_region ?_
      simp only [List.size_toArray, List.length_cons, List.length_nil, Nat.reduceAdd, Nat.zero_add, List.range, List.range.loop]
      refine opsE_cons_k rfl (by rfl) (fun w => ?_) (fun d K hK => ?_)
      · simp [go_sem]
      go_simp
      refine hK _ ?_
      clear hK K
      try walk_nrm
      refine opsE_cons_k rfl (by rfl) (fun w => ?_) (fun d K hK => ?_)
      · simp [go_sem]
      go_simp
      refine hK _ ?_
      clear hK K
      try walk_nrm
      refine opsE_cons_k rfl (by rfl) (fun w => ?_) (fun d K hK => ?_)
      · simp [go_sem]
      go_simp
      refine hK _ ?_
      clear hK K
      try walk_nrm
      refine opsE_call rfl (by rfl) rfl (by walk_nrm) (hU _) ?_
      rintro u w1 ⟨rfl, hb1⟩
      replace hbw := bstep hbw hb1
      clear hb1
      try walk_nrm
      refine opsE_cons_k rfl (by rfl) (fun w => ?_) (fun d K hK => ?_)
      · simp [go_sem]
      go_simp
      refine hK _ ?_
      clear hK K
      try walk_nrm
      refine opsE_nil ?_
      simp only [Exit.then, Exit.inBlock, if_true, if_false, reduceIte]
      refine wpE_seq ?_
      refine wpE_seq ?_
      refine wpE_region ?_
      simp only [List.size_toArray, List.length_cons, List.length_nil, Nat.reduceAdd, Nat.zero_add, List.range, List.range.loop]
      refine opsE_cons_k rfl (by rfl) (fun w => ?_) (fun d K hK => ?_)
      · simp [go_sem]
      go_simp
      refine hK _ ?_
      clear hK K
      try walk_nrm
      refine opsE_cons_k rfl (by rfl) (fun w => ?_) (fun d K hK => ?_)
      · simp [go_sem]
      go_simp
      refine hK _ ?_
      clear hK K
      try walk_nrm
      refine opsE_nil ?_
      simp only [Exit.then, Exit.inBlock, if_true, if_false, reduceIte]
      refine wpE_cond (t := true) rfl ?_
      simp only [if_true, if_false, Bool.false_eq_true, ↓reduceIte]
      refine wpE_seq ?_
      refine wpE_region ?_
      simp only [List.size_toArray, List.length_cons, List.length_nil, Nat.reduceAdd, Nat.zero_add, List.range, List.range.loop]
      refine opsE_cons_k rfl (by rfl) (fun w => ?_) (fun d K hK => ?_)
      · simp [go_sem]
      go_simp
      refine hK _ ?_
      clear hK K
      try walk_nrm
      refine opsE_cons_k rfl (by rfl) (fun w => ?_) (fun d K hK => ?_)
      · simp [go_sem]
      go_simp
      refine hK _ ?_
      clear hK K
      try walk_nrm
      refine opsE_cons_k rfl (by rfl) (fun w => ?_) (fun d K hK => ?_)
      · simp [go_sem]
      go_simp
      refine hK _ ?_
      clear hK K
      try walk_nrm
      refine opsE_cons_k rfl (by rfl) (fun w => ?_) (fun d K hK => ?_)
      · simp [go_sem]
      go_simp
      refine hK _ ?_
      clear hK K
      try walk_nrm
      refine opsE_call rfl (by rfl) rfl (by walk_nrm) (hA1 _) ?_
      rintro u w2 ⟨rfl, hb1⟩
      replace hbw := bstep hbw hb1
      clear hb1
      try walk_nrm
      refine opsE_cons_k rfl (by rfl) (fun w => ?_) (fun d K hK => ?_)
      · simp [go_sem]
      go_simp
      refine hK _ ?_
      clear hK K
      try walk_nrm
      refine opsE_nil ?_
      simp only [Exit.then, Exit.inBlock, if_true, if_false, reduceIte]
      refine wpE_seq ?_
      refine wpE_seq ?_
      refine wpE_region ?_
      simp only [List.size_toArray, List.length_cons, List.length_nil, Nat.reduceAdd, Nat.zero_add, List.range, List.range.loop]
      refine opsE_cons_k rfl (by rfl) (fun w => ?_) (fun d K hK => ?_)
      · simp [go_sem]
      go_simp
      refine hK _ ?_
      clear hK K
      try walk_nrm
      refine opsE_cons_k rfl (by rfl) (fun w => ?_) (fun d K hK => ?_)
      · simp [go_sem]
      go_simp
      refine hK _ ?_
      clear hK K
      try walk_nrm
      refine opsE_cons_k rfl (by rfl) (fun w => ?_) (fun d K hK => ?_)
      · simp [go_sem]
      go_simp
      refine hK _ ?_
      clear hK K
      try walk_nrm
      refine opsE_call rfl (by rfl) rfl (by walk_nrm) (hN1 _) ?_
      rintro u w3 ⟨rfl, hs⟩
      replace hbw := below_since hbw hs
      clear hs
      try walk_nrm
      refine opsE_cons_k rfl (by rfl) (fun w => ?_) (fun d K hK => ?_)
      · simp [go_sem]
      go_simp
      refine hK _ ?_
      clear hK K
      try walk_nrm
      refine opsE_cons_k rfl (by rfl) (fun w => ?_) (fun d K hK => ?_)
      · simp [go_sem]
      go_simp
      refine hK _ ?_
      clear hK K
      try walk_nrm
      refine opsE_nil ?_
      simp only [Exit.then, Exit.inBlock, if_true, if_false, reduceIte]
      refine wpE_cond (t := false) rfl ?_
      simp only [if_true, if_false, Bool.false_eq_true, ↓reduceIte]
      refine wpE_skip ?_
      simp only [Exit.then, Exit.inBlock, if_true, if_false, reduceIte]
      refine wpE_seq ?_
      refine wpE_region ?_
      simp only [List.size_toArray, List.length_cons, List.length_nil, Nat.reduceAdd, Nat.zero_add, List.range, List.range.loop]
      refine opsE_cons_k rfl (by rfl) (fun w => ?_) (fun d K hK => ?_)
      · simp [go_sem]
      go_simp
      refine hK _ ?_
      clear hK K
      try walk_nrm
      refine opsE_cons_k rfl (by rfl) (fun w => ?_) (fun d K hK => ?_)
      · simp [go_sem]
      go_simp
      refine hK _ ?_
      clear hK K
      try walk_nrm
      refine opsE_nil ?_
      simp only [Exit.then, Exit.inBlock, if_true, if_false, reduceIte]
      refine wpE_cond (t := false) rfl ?_
      simp only [if_true, if_false, Bool.false_eq_true, ↓reduceIte]
      refine wpE_skip ?_
      simp only [Exit.then, Exit.inBlock, if_true, if_false, reduceIte]
      exact tail3 hg hbw _ rfl rfl rfl rfl
    | succ p =>
      have hQ1 : decide (0 < Q) = true := decide_eq_true (by omega)
      have hk : IntKind.i64.wrap (Q - 1) = (p : Int) := by rw [IntWalk.i64_in _ (by omega)]; omega
      have hgz := aft_gov (n := p) hg
      have hz1 := hy2 p (by omega)
      obtain ⟨z, hz⟩ : ∃ z, aftQ f b p v = z := ⟨_, rfl⟩
      rw [hz] at hgz hz1
      have hA2 : ∀ w : World, CallsE Try.prog (FinT W) 13 #[.int .i64 v, .int .i64 f, .int .i64 b, .int .i64 (p : Int)] w fun r w' => r = .int .i64 z ∧ Below w.heap.size w w' := fun w => by
        have := iaft_e (Fin := (FinT W)) (w := w) v f b (p : Int)
        rwa [aftM_yes (govB_true.2 hg) (by omega), Int.toNat_natCast, hz] at this
      obtain ⟨rz, hrz⟩ : ∃ rz, nxtM z f b = rz := ⟨_, rfl⟩
      have hN2 : ∀ w : World, CallsE Try.prog (FinT W) 12 #[.int .i64 z, .int .i64 f, .int .i64 b] w fun r w' => r = .int .i64 rz ∧ Since AtRel w w' := fun w => by
        have : CallsE Try.prog (FinT W) 12 #[.int .i64 z, .int .i64 f, .int .i64 b] w fun r w' => r = .int .i64 (nxtM z f b) ∧ Since AtRel w w' := callsE_of_callsC 0 fun B _ => (inxt_c (main := true) (termsL B) z f b).imp fun n h => h _
        rwa [hrz] at this
      have hne : (rz == z) = false := by rw [beq_eq_false_iff_ne, ← hrz, nxtM_yes (govB_true.2 hgz)]; exact hz1
      clear hQ hy hgy hgz hz hz1 hy1 hy2 hrz hu hq
      refine wpE_seq ?_
      refine wpE_region ?_
      simp only [List.size_toArray, List.length_cons, List.length_nil, Nat.reduceAdd, Nat.zero_add, List.range, List.range.loop]
      refine opsE_cons_k rfl (by rfl) (fun w => ?_) (fun d K hK => ?_)
      · simp [go_sem]
      go_simp
      refine hK _ ?_
      clear hK K
      try walk_nrm
      refine opsE_cons_k rfl (by rfl) (fun w => ?_) (fun d K hK => ?_)
      · simp [go_sem]
      go_simp
      refine hK _ ?_
      clear hK K
      try walk_nrm
      refine opsE_cons_k rfl (by rfl) (fun w => ?_) (fun d K hK => ?_)
      · simp [go_sem]
      go_simp
      refine hK _ ?_
      clear hK K
      try walk_nrm
      refine opsE_call rfl (by rfl) rfl (by walk_nrm) (hU _) ?_
      rintro u w1 ⟨rfl, hb1⟩
      replace hbw := bstep hbw hb1
      clear hb1
      try walk_nrm
      refine opsE_cons_k rfl (by rfl) (fun w => ?_) (fun d K hK => ?_)
      · simp [go_sem]
      go_simp
      refine hK _ ?_
      clear hK K
      try walk_nrm
      refine opsE_nil ?_
      simp only [Exit.then, Exit.inBlock, if_true, if_false, reduceIte]
      refine wpE_seq ?_
      refine wpE_seq ?_
      refine wpE_region ?_
      simp only [List.size_toArray, List.length_cons, List.length_nil, Nat.reduceAdd, Nat.zero_add, List.range, List.range.loop]
      refine opsE_cons_k rfl (by rfl) (fun w => ?_) (fun d K hK => ?_)
      · simp [go_sem]
      go_simp
      refine hK _ ?_
      clear hK K
      try walk_nrm
      refine opsE_cons_k rfl (by rfl) (fun w => ?_) (fun d K hK => ?_)
      · simp [go_sem]
      go_simp
      refine hK _ ?_
      clear hK K
      try walk_nrm
      refine opsE_nil ?_
      simp only [Exit.then, Exit.inBlock, if_true, if_false, reduceIte]
      refine wpE_cond (t := true) rfl ?_
      simp only [if_true, if_false, Bool.false_eq_true, ↓reduceIte]
      refine wpE_seq ?_
      refine wpE_region ?_
      simp only [List.size_toArray, List.length_cons, List.length_nil, Nat.reduceAdd, Nat.zero_add, List.range, List.range.loop]
      refine opsE_cons_k rfl (by rfl) (fun w => ?_) (fun d K hK => ?_)
      · simp [go_sem]
      go_simp
      refine hK _ ?_
      clear hK K
      try walk_nrm
      refine opsE_cons_k rfl (by rfl) (fun w => ?_) (fun d K hK => ?_)
      · simp [go_sem]
      go_simp
      refine hK _ ?_
      clear hK K
      try walk_nrm
      refine opsE_cons_k rfl (by rfl) (fun w => ?_) (fun d K hK => ?_)
      · simp [go_sem]
      go_simp
      refine hK _ ?_
      clear hK K
      try walk_nrm
      refine opsE_cons_k rfl (by rfl) (fun w => ?_) (fun d K hK => ?_)
      · simp [go_sem]
      go_simp
      refine hK _ ?_
      clear hK K
      try walk_nrm
      refine opsE_call rfl (by rfl) rfl (by walk_nrm) (hA1 _) ?_
      rintro u w2 ⟨rfl, hb1⟩
      replace hbw := bstep hbw hb1
      clear hb1
      try walk_nrm
      refine opsE_cons_k rfl (by rfl) (fun w => ?_) (fun d K hK => ?_)
      · simp [go_sem]
      go_simp
      refine hK _ ?_
      clear hK K
      try walk_nrm
      refine opsE_nil ?_
      simp only [Exit.then, Exit.inBlock, if_true, if_false, reduceIte]
      refine wpE_seq ?_
      refine wpE_seq ?_
      refine wpE_region ?_
      simp only [List.size_toArray, List.length_cons, List.length_nil, Nat.reduceAdd, Nat.zero_add, List.range, List.range.loop]
      refine opsE_cons_k rfl (by rfl) (fun w => ?_) (fun d K hK => ?_)
      · simp [go_sem]
      go_simp
      refine hK _ ?_
      clear hK K
      try walk_nrm
      refine opsE_cons_k rfl (by rfl) (fun w => ?_) (fun d K hK => ?_)
      · simp [go_sem]
      go_simp
      refine hK _ ?_
      clear hK K
      try walk_nrm
      refine opsE_cons_k rfl (by rfl) (fun w => ?_) (fun d K hK => ?_)
      · simp [go_sem]
      go_simp
      refine hK _ ?_
      clear hK K
      try walk_nrm
      refine opsE_call rfl (by rfl) rfl (by walk_nrm) (hN1 _) ?_
      rintro u w3 ⟨rfl, hs⟩
      replace hbw := below_since hbw hs
      clear hs
      try walk_nrm
      refine opsE_cons_k rfl (by rfl) (fun w => ?_) (fun d K hK => ?_)
      · simp [go_sem]
      go_simp
      refine hK _ ?_
      clear hK K
      try walk_nrm
      refine opsE_cons_k rfl (by rfl) (fun w => ?_) (fun d K hK => ?_)
      · simp [go_sem]
      go_simp
      refine hK _ ?_
      clear hK K
      try walk_nrm
      refine opsE_nil ?_
      simp only [Exit.then, Exit.inBlock, if_true, if_false, reduceIte]
      refine wpE_cond (t := false) rfl ?_
      simp only [if_true, if_false, Bool.false_eq_true, ↓reduceIte]
      refine wpE_skip ?_
      simp only [Exit.then, Exit.inBlock, if_true, if_false, reduceIte]
      refine wpE_seq ?_
      refine wpE_region ?_
      simp only [List.size_toArray, List.length_cons, List.length_nil, Nat.reduceAdd, Nat.zero_add, List.range, List.range.loop]
      refine opsE_cons_k rfl (by rfl) (fun w => ?_) (fun d K hK => ?_)
      · simp [go_sem]
      go_simp
      refine hK _ ?_
      clear hK K
      try walk_nrm
      refine opsE_cons_k rfl (by rfl) (fun w => ?_) (fun d K hK => ?_)
      · simp [go_sem]
      go_simp
      refine hK _ ?_
      clear hK K
      try walk_nrm
      refine opsE_nil ?_
      simp only [Exit.then, Exit.inBlock, if_true, if_false, reduceIte]
      refine wpE_cond (t := true) rfl ?_
      simp only [if_true, if_false, Bool.false_eq_true, ↓reduceIte]
      refine wpE_seq ?_
      refine wpE_region ?_
      simp only [List.size_toArray, List.length_cons, List.length_nil, Nat.reduceAdd, Nat.zero_add, List.range, List.range.loop]
      refine opsE_cons_k rfl (by rfl) (fun w => ?_) (fun d K hK => ?_)
      · simp [go_sem]
      go_simp
      refine hK _ ?_
      clear hK K
      try walk_nrm
      refine opsE_cons_k rfl (by rfl) (fun w => ?_) (fun d K hK => ?_)
      · simp [go_sem]
      go_simp
      refine hK _ ?_
      clear hK K
      try walk_nrm
      refine opsE_cons_k rfl (by rfl) (fun w => ?_) (fun d K hK => ?_)
      · simp [go_sem]
      go_simp
      refine hK _ ?_
      clear hK K
      try walk_nrm
      refine opsE_cons_k rfl (by rfl) (fun w => ?_) (fun d K hK => ?_)
      · simp [go_sem]
      go_simp
      refine hK _ ?_
      clear hK K
      try walk_nrm
      refine opsE_cons_k rfl (by rfl) (fun w => ?_) (fun d K hK => ?_)
      · simp [go_sem]
      go_simp
      refine hK _ ?_
      clear hK K
      try walk_nrm
      refine opsE_call rfl (by rfl) rfl (by walk_nrm) (hA2 _) ?_
      rintro u w4 ⟨rfl, hb1⟩
      replace hbw := bstep hbw hb1
      clear hb1
      try walk_nrm
      refine opsE_cons_k rfl (by rfl) (fun w => ?_) (fun d K hK => ?_)
      · simp [go_sem]
      go_simp
      refine hK _ ?_
      clear hK K
      try walk_nrm
      refine opsE_nil ?_
      simp only [Exit.then, Exit.inBlock, if_true, if_false, reduceIte]
      refine wpE_seq ?_
      refine wpE_region ?_
      simp only [List.size_toArray, List.length_cons, List.length_nil, Nat.reduceAdd, Nat.zero_add, List.range, List.range.loop]
      refine opsE_cons_k rfl (by rfl) (fun w => ?_) (fun d K hK => ?_)
      · simp [go_sem]
      go_simp
      refine hK _ ?_
      clear hK K
      try walk_nrm
      refine opsE_cons_k rfl (by rfl) (fun w => ?_) (fun d K hK => ?_)
      · simp [go_sem]
      go_simp
      refine hK _ ?_
      clear hK K
      try walk_nrm
      refine opsE_cons_k rfl (by rfl) (fun w => ?_) (fun d K hK => ?_)
      · simp [go_sem]
      go_simp
      refine hK _ ?_
      clear hK K
      try walk_nrm
      refine opsE_call rfl (by rfl) rfl (by walk_nrm) (hN2 _) ?_
      rintro u w5 ⟨rfl, hs⟩
      replace hbw := below_since hbw hs
      clear hs
      try walk_nrm
      refine opsE_cons_k rfl (by rfl) (fun w => ?_) (fun d K hK => ?_)
      · simp [go_sem]
      go_simp
      refine hK _ ?_
      clear hK K
      try walk_nrm
      refine opsE_cons_k rfl (by rfl) (fun w => ?_) (fun d K hK => ?_)
      · simp [go_sem]
      go_simp
      refine hK _ ?_
      clear hK K
      try walk_nrm
      refine opsE_nil ?_
      simp only [Exit.then, Exit.inBlock, if_true, if_false, reduceIte]
      refine wpE_cond (t := false) rfl ?_
      simp only [if_true, if_false, Bool.false_eq_true, ↓reduceIte]
      refine wpE_skip ?_
      simp only [Exit.then, Exit.inBlock, if_true, if_false, reduceIte]
      exact tail3 hg hbw _ rfl rfl rfl rfl
end Go.Proofs.Ytodpkfohihfndaa
