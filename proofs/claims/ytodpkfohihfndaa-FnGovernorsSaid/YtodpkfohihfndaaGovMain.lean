/- The run of FnGovernors, from its beginning: no condition on the code's bytes but that they are bytes. No condition. Made by gen_govmain.py. -/
import Derived.Test.YtodpkfohihfndaaGovTail1
set_option linter.unusedSimpArgs false
set_option linter.unusedVariables false
namespace Go.Proofs.Ytodpkfohihfndaa
open Go Go.Conc Go.RowKit

set_option maxRecDepth 1000000 in
set_option maxHeartbeats 16000000 in
theorem governors_run {W : World} {vc : Value} {m : Nat} (hC : Code W W.heap.size vc m) : Ends Try.prog (FinT W) (G (Frame.enter Try.prog 3 #[vc] .normal) []) W := by
  refine ends_entry Try.func3 rfl ?_ (fun a' w' v todo hd hr => ended_of Try.func3 (by kernel_rfl) hd hr) (finT_at W)
  simp only [Try.ntmps3, List.size_toArray, List.length_cons, List.length_nil, Nat.reduceAdd, Nat.reduceSub, Array.replicate_succ, Array.replicate_zero, List.push_toArray, List.append_toArray, List.nil_append, List.cons_append]
  obtain ⟨a, cap, ev⟩ : ∃ a cap, vc = .slice a m cap := by
    rcases hC with ⟨rfl, a, cap, rfl⟩ | ⟨b, off, cap, rfl, hm, hbB, hcell⟩ <;> exact ⟨_, _, rfl⟩
  have hbw : Below W.heap.size W W := Below.refl _ _
  by_cases hm : m ≤ 1048576
  · obtain ⟨z0, hz0a, hz0b, hz0⟩ := at0_e (Fin := (FinT W)) hC hm
    obtain ⟨z1, hz1a, hz1b, hz1⟩ := at1_e (Fin := (FinT W)) hC hm
    obtain ⟨z2, hz2a, hz2b, hz2⟩ := at2_e (Fin := (FinT W)) hC hm
    obtain ⟨z3, hz3a, hz3b, hz3⟩ := at3_e (Fin := (FinT W)) hC hm
    subst ev
    have hbig : ∀ w : World, (∃ d, w = W.at d) → CallsE Try.prog (FinT W) 9 #[.slice a m cap] w fun r w' => r = .bool false ∧ w' = w := fun w _ => big_e a m cap false (decide_eq_false (by omega))
    obtain ⟨m1, hm1⟩ : ∃ m1, z1.tmod 60 = m1 := ⟨_, rfl⟩
    have hm1a : 0 ≤ m1 ∧ m1 ≤ 59 := by rw [← hm1, Int.tmod_eq_emod_of_nonneg hz1a]; omega
    obtain ⟨n, hn1⟩ : ∃ n, z3.tmod 30 = n := ⟨_, rfl⟩
    have hn : 0 ≤ n ∧ n ≤ 29 := by rw [← hn1, Int.tmod_eq_emod_of_nonneg hz3a]; omega
    obtain ⟨b, hb⟩ : ∃ b, 1 + m1 = b := ⟨_, rfl⟩
    obtain ⟨v, hv⟩ : ∃ v, z2 * 3 = v := ⟨_, rfl⟩
    have wm : IntKind.i64.wrap m1 = m1 := IntWalk.i64_in _ (by omega)
    have wn : IntKind.i64.wrap n = n := IntWalk.i64_in _ (by omega)
    have wb : IntKind.i64.wrap (1 + m1) = b := by rw [IntWalk.i64_in _ (by omega)]; exact hb
    have wv : IntKind.i64.wrap (z2 * 3) = v := by rw [IntWalk.i64_in _ (by omega)]; exact hv
    have hg : GovP v z0 b := ⟨by omega, by omega, by omega⟩
    have hb1 : 1 ≤ b := by omega
    have hgt := govB_true.2 hg
    obtain ⟨s, hs⟩ : ∃ s, stdM z0 b = s := ⟨_, rfl⟩
    have hS : ∀ w : World, CallsE Try.prog (FinT W) 11 #[.int .i64 z0, .int .i64 b] w fun r w' => r = .int .i64 s ∧ Since AtRel w w' := fun w => by
      have : CallsE Try.prog (FinT W) 11 #[.int .i64 z0, .int .i64 b] w fun r w' => r = .int .i64 (stdM z0 b) ∧ Since AtRel w w' := callsE_of_callsC 0 fun B _ => (istd_c (main := true) (termsL B) z0 b).imp fun n h => h _
      rwa [hs] at this
    have hxb := nxt_bounds hg
    obtain ⟨x, hx⟩ : ∃ x, nxtQ v z0 b = x := ⟨_, rfl⟩
    have hN : ∀ w : World, CallsE Try.prog (FinT W) 12 #[.int .i64 v, .int .i64 z0, .int .i64 b] w fun r w' => r = .int .i64 x ∧ Since AtRel w w' := fun w => by
      have : CallsE Try.prog (FinT W) 12 #[.int .i64 v, .int .i64 z0, .int .i64 b] w fun r w' => r = .int .i64 (nxtM v z0 b) ∧ Since AtRel w w' := callsE_of_callsC 0 fun B _ => (inxt_c (main := true) (termsL B) v z0 b).imp fun n h => h _
      rwa [nxtM_yes hgt, hx] at this
    obtain ⟨f5, hf5⟩ : ∃ f5, z0 + 5 = f5 := ⟨_, rfl⟩
    have wf5 : IntKind.i64.wrap (z0 + 5) = f5 := by rw [IntWalk.i64_in _ (by omega)]; exact hf5
    obtain ⟨b1, hb1e⟩ : ∃ b1, b + 1 = b1 := ⟨_, rfl⟩
    have wb1 : IntKind.i64.wrap (b + 1) = b1 := by rw [IntWalk.i64_in _ (by omega)]; exact hb1e
    obtain ⟨u1, hu1⟩ : ∃ u1, v + z0 = u1 := ⟨_, rfl⟩
    have wu1 : IntKind.i64.wrap (v + z0) = u1 := by rw [IntWalk.i64_in _ (by omega)]; exact hu1
    obtain ⟨r5, hr5⟩ : ∃ r5, nxtQ v f5 b = r5 := ⟨_, rfl⟩
    obtain ⟨r6, hr6⟩ : ∃ r6, nxtQ v z0 b1 = r6 := ⟨_, rfl⟩
    have hN5 : ∀ w : World, CallsE Try.prog (FinT W) 12 #[.int .i64 v, .int .i64 f5, .int .i64 b] w fun r w' => r = .int .i64 r5 ∧ Since AtRel w w' := fun w => by
      have : CallsE Try.prog (FinT W) 12 #[.int .i64 v, .int .i64 f5, .int .i64 b] w fun r w' => r = .int .i64 (nxtM v f5 b) ∧ Since AtRel w w' := callsE_of_callsC 0 fun B _ => (inxt_c (main := true) (termsL B) v f5 b).imp fun n h => h _
      rwa [nxtM_yes (govB_true.2 ⟨hg.1, by omega, hg.2.2⟩), hr5] at this
    have hN6 : ∀ w : World, CallsE Try.prog (FinT W) 12 #[.int .i64 v, .int .i64 z0, .int .i64 b1] w fun r w' => r = .int .i64 r6 ∧ Since AtRel w w' := fun w => by
      have : CallsE Try.prog (FinT W) 12 #[.int .i64 v, .int .i64 z0, .int .i64 b1] w fun r w' => r = .int .i64 (nxtM v z0 b1) ∧ Since AtRel w w' := callsE_of_callsC 0 fun B _ => (inxt_c (main := true) (termsL B) v z0 b1).imp fun n h => h _
      rwa [nxtM_yes (govB_true.2 ⟨hg.1, hg.2.1, by omega⟩), hr6] at this
    have hA1 : ∀ w : World, CallsE Try.prog (FinT W) 13 #[.int .i64 v, .int .i64 z0, .int .i64 b, .int .i64 1] w fun r w' => r = .int .i64 x ∧ Below w.heap.size w w' := fun w => by
      have := iaft_e (Fin := (FinT W)) (w := w) v z0 b 1
      rwa [aftM_yes hgt (by omega), show aftQ z0 b (1 : Int).toNat v = x by show stpQ v z0 b = x; unfold stpQ; omega] at this
    have d5 : decide (r5 < x) = false := decide_eq_false (by have := nxt_force hg (by omega); rw [hf5] at this; omega)
    have d6 : decide (x < r6) = false := decide_eq_false (by have := nxt_brake hg (by omega); rw [hb1e] at this; omega)
    have dx : decide (x < 0) = false := decide_eq_false (by omega)
    have du : decide (u1 < x) = false := decide_eq_false (by omega)
    clear hxb hx hr5 hr6 hf5 hb1e hu1 hgt hb hv hm hC
    refine wpE_seq ?_
    refine wpE_region ?_
    simp only [List.size_toArray, List.length_cons, List.length_nil, Nat.reduceAdd, Nat.zero_add, List.range, List.range.loop]
    refine opsE_cons_k rfl (by rfl) (fun w => ?_) (fun d K hK => ?_)
    · simp [go_sem]
    go_simp
    refine hK _ ?_
    clear hK K
    try walk_nrm
    refine opsE_nil ?_
    simp only [Exit.then, Exit.inBlock, if_true, if_false, reduceIte]
    refine wpE_seq ?_
    refine wpE_seq ?_
    refine wpE_region ?_
    simp only [List.size_toArray, List.length_cons, List.length_nil, Nat.reduceAdd, Nat.zero_add, List.range, List.range.loop]
    refine opsE_cons_k rfl (by rfl) (fun w => ?_) (fun d K hK => ?_)
    · simp [go_sem]
    go_simp
    refine hK _ ?_
    clear hK K
    try walk_nrm
    refine opsE_call rfl (by rfl) rfl (by walk_nrm) (hbig _ ⟨_, rfl⟩) ?_
    rintro u w' ⟨rfl, rfl⟩
    try walk_nrm
    refine opsE_nil ?_
    simp only [Exit.then, Exit.inBlock, if_true, if_false, reduceIte]
    refine wpE_cond (t := false) rfl ?_
    simp only [if_true, if_false, Bool.false_eq_true, ↓reduceIte]
    refine wpE_skip ?_
    simp only [Exit.then, Exit.inBlock, if_true, if_false, reduceIte]
    refine wpE_seq ?_
    refine wpE_region ?_
    simp only [List.size_toArray, List.length_cons, List.length_nil, Nat.reduceAdd, Nat.zero_add, List.range, List.range.loop]
    refine opsE_cons_k rfl (by rfl) (fun w => ?_) (fun d K hK => ?_)
    · simp [go_sem]
    go_simp
    refine hK _ ?_
    clear hK K
    try walk_nrm
    refine opsE_call rfl (by rfl) rfl (by walk_nrm) (hz0 _ ⟨_, rfl⟩) ?_
    rintro u w' ⟨rfl, rfl⟩
    try walk_nrm
    refine opsE_cons_k rfl (by rfl) (fun w => ?_) (fun d K hK => ?_)
    · simp [go_sem]
    go_simp
    refine hK _ ?_
    clear hK K
    try walk_nrm
    refine opsE_nil ?_
    simp only [Exit.then, Exit.inBlock, if_true, if_false, reduceIte]
    refine wpE_seq ?_
    refine wpE_region ?_
    simp only [List.size_toArray, List.length_cons, List.length_nil, Nat.reduceAdd, Nat.zero_add, List.range, List.range.loop]
    refine opsE_cons_k rfl (by rfl) (fun w => ?_) (fun d K hK => ?_)
    · simp [go_sem]
    go_simp
    refine hK _ ?_
    clear hK K
    try walk_nrm
    refine opsE_call rfl (by rfl) rfl (by walk_nrm) (hz1 _ ⟨_, rfl⟩) ?_
    rintro u w' ⟨rfl, rfl⟩
    try walk_nrm
    refine opsE_cons_k rfl (by rfl) (fun w => ?_) (fun d K hK => ?_)
    · simp [go_sem]
    go_simp
    refine hK _ ?_
    clear hK K
    try walk_nrm
    refine opsE_cons_k rfl (by rfl) (fun w => ?_) (fun d K hK => ?_)
    · simp [go_sem]
    go_simp
    refine hK _ ?_
    clear hK K
    try walk_nrm
    refine opsE_cons_k rfl (by rfl) (fun w => ?_) (fun d K hK => ?_)
    · simp [go_sem]
    go_simp
    refine hK _ ?_
    clear hK K
    try walk_nrm
    refine opsE_nil ?_
    simp only [Exit.then, Exit.inBlock, if_true, if_false, reduceIte]
    refine wpE_seq ?_
    refine wpE_region ?_
    simp only [List.size_toArray, List.length_cons, List.length_nil, Nat.reduceAdd, Nat.zero_add, List.range, List.range.loop]
    refine opsE_cons_k rfl (by rfl) (fun w => ?_) (fun d K hK => ?_)
    · simp [go_sem]
    go_simp
    refine hK _ ?_
    clear hK K
    try walk_nrm
    refine opsE_call rfl (by rfl) rfl (by walk_nrm) (hz2 _ ⟨_, rfl⟩) ?_
    rintro u w' ⟨rfl, rfl⟩
    try walk_nrm
    refine opsE_cons_k rfl (by rfl) (fun w => ?_) (fun d K hK => ?_)
    · simp [go_sem]
    go_simp
    refine hK _ ?_
    clear hK K
    try walk_nrm
    refine opsE_cons_k rfl (by rfl) (fun w => ?_) (fun d K hK => ?_)
    · simp [go_sem]
    go_simp
    refine hK _ ?_
    clear hK K
    try walk_nrm
    refine opsE_nil ?_
    simp only [Exit.then, Exit.inBlock, if_true, if_false, reduceIte]
    refine wpE_seq ?_
    refine wpE_region ?_
    simp only [List.size_toArray, List.length_cons, List.length_nil, Nat.reduceAdd, Nat.zero_add, List.range, List.range.loop]
    refine opsE_cons_k rfl (by rfl) (fun w => ?_) (fun d K hK => ?_)
    · simp [go_sem]
    go_simp
    refine hK _ ?_
    clear hK K
    try walk_nrm
    refine opsE_call rfl (by rfl) rfl (by walk_nrm) (hz3 _ ⟨_, rfl⟩) ?_
    rintro u w' ⟨rfl, rfl⟩
    try walk_nrm
    refine opsE_cons_k rfl (by rfl) (fun w => ?_) (fun d K hK => ?_)
    · simp [go_sem]
    go_simp
    refine hK _ ?_
    clear hK K
    try walk_nrm
    refine opsE_cons_k rfl (by rfl) (fun w => ?_) (fun d K hK => ?_)
    · simp [go_sem]
    go_simp
    refine hK _ ?_
    clear hK K
    try walk_nrm
    refine opsE_nil ?_
    simp only [Exit.then, Exit.inBlock, if_true, if_false, reduceIte]
    refine wpE_seq ?_
    refine wpE_region ?_
    simp only [List.size_toArray, List.length_cons, List.length_nil, Nat.reduceAdd, Nat.zero_add, List.range, List.range.loop]
    refine opsE_cons_k rfl (by rfl) (fun w => ?_) (fun d K hK => ?_)
    · simp [go_sem]
    go_simp
    refine hK _ ?_
    clear hK K
    try walk_nrm
    refine opsE_cons_k rfl (by rfl) (fun w => ?_) (fun d K hK => ?_)
    · simp [go_sem]
    go_simp
    refine hK _ ?_
    clear hK K
    try walk_nrm
    refine opsE_call rfl (by rfl) rfl (by walk_nrm) (hS _) ?_
    rintro u w1 ⟨rfl, hs⟩
    replace hbw := below_since hbw hs
    clear hs
    try walk_nrm
    refine opsE_cons_k rfl (by rfl) (fun w => ?_) (fun d K hK => ?_)
    · simp [go_sem]
    go_simp
    refine hK _ ?_
    clear hK K
    try walk_nrm
    refine opsE_nil ?_
    simp only [Exit.then, Exit.inBlock, if_true, if_false, reduceIte]
    refine wpE_seq ?_
    refine wpE_region ?_
    simp only [List.size_toArray, List.length_cons, List.length_nil, Nat.reduceAdd, Nat.zero_add, List.range, List.range.loop]
    refine opsE_cons_k rfl (by rfl) (fun w => ?_) (fun d K hK => ?_)
    · simp [go_sem]
    go_simp
    refine hK _ ?_
    clear hK K
    try walk_nrm
    refine opsE_cons_k rfl (by rfl) (fun w => ?_) (fun d K hK => ?_)
    · simp [go_sem]
    go_simp
    refine hK _ ?_
    clear hK K
    try walk_nrm
    refine opsE_cons_k rfl (by rfl) (fun w => ?_) (fun d K hK => ?_)
    · simp [go_sem]
    go_simp
    refine hK _ ?_
    clear hK K
    try walk_nrm
    refine opsE_call rfl (by rfl) rfl (by walk_nrm) (hN _) ?_
    rintro u w2 ⟨rfl, hs⟩
    replace hbw := below_since hbw hs
    clear hs
    try walk_nrm
    refine opsE_cons_k rfl (by rfl) (fun w => ?_) (fun d K hK => ?_)
    · simp [go_sem]
    go_simp
    refine hK _ ?_
    clear hK K
    try walk_nrm
    refine opsE_nil ?_
    simp only [Exit.then, Exit.inBlock, if_true, if_false, reduceIte]
    refine wpE_seq ?_
    refine wpE_seq ?_
    refine wpE_region ?_
    simp only [List.size_toArray, List.length_cons, List.length_nil, Nat.reduceAdd, Nat.zero_add, List.range, List.range.loop]
    refine opsE_cons_k rfl (by rfl) (fun w => ?_) (fun d K hK => ?_)
    · simp [go_sem]
    go_simp
    refine hK _ ?_
    clear hK K
    try walk_nrm
    refine opsE_cons_k rfl (by rfl) (fun w => ?_) (fun d K hK => ?_)
    · simp [go_sem]
    go_simp
    refine hK _ ?_
    clear hK K
    try walk_nrm
    refine opsE_cons_k rfl (by rfl) (fun w => ?_) (fun d K hK => ?_)
    · simp [go_sem]
    go_simp
    refine hK _ ?_
    clear hK K
    try walk_nrm
    refine opsE_cons_k rfl (by rfl) (fun w => ?_) (fun d K hK => ?_)
    · simp [go_sem]
    go_simp
    refine hK _ ?_
    clear hK K
    try walk_nrm
    refine opsE_cons_k rfl (by rfl) (fun w => ?_) (fun d K hK => ?_)
    · simp [go_sem]
    go_simp
    refine hK _ ?_
    clear hK K
    try walk_nrm
    refine opsE_cons_k rfl (by rfl) (fun w => ?_) (fun d K hK => ?_)
    · simp [go_sem]
    go_simp
    refine hK _ ?_
    clear hK K
    try walk_nrm
    refine opsE_cons_k rfl (by rfl) (fun w => ?_) (fun d K hK => ?_)
    · simp [go_sem]
    go_simp
    refine hK _ ?_
    clear hK K
    try walk_nrm
    refine opsE_cons_k rfl (by rfl) (fun w => ?_) (fun d K hK => ?_)
    · simp [go_sem]
    go_simp
    refine hK _ ?_
    clear hK K
    try walk_nrm
    refine opsE_cons_k rfl (by rfl) (fun w => ?_) (fun d K hK => ?_)
    · simp [go_sem]
    go_simp
    refine hK _ ?_
    clear hK K
    try walk_nrm
    refine opsE_cons_k rfl (by rfl) (fun w => ?_) (fun d K hK => ?_)
    · simp [go_sem]
    go_simp
    refine hK _ ?_
    clear hK K
    try walk_nrm
    refine opsE_cons_k rfl (by rfl) (fun w => ?_) (fun d K hK => ?_)
    · simp [go_sem]
    go_simp
    refine hK _ ?_
    clear hK K
    try walk_nrm
    refine opsE_cons_k rfl (by rfl) (fun w => ?_) (fun d K hK => ?_)
    · simp [go_sem]
    go_simp
    refine hK _ ?_
    clear hK K
    try walk_nrm
    refine opsE_cons_k rfl (by rfl) (fun w => ?_) (fun d K hK => ?_)
    · simp [go_sem]
    go_simp
    refine hK _ ?_
    clear hK K
    try walk_nrm
    refine opsE_cons_k rfl (by rfl) (fun w => ?_) (fun d K hK => ?_)
    · simp [go_sem]
    go_simp
    refine hK _ ?_
    clear hK K
    try walk_nrm
    refine opsE_call rfl (by rfl) rfl (by walk_nrm) (hN5 _) ?_
    rintro u w3 ⟨rfl, hs⟩
    replace hbw := below_since hbw hs
    clear hs
    try walk_nrm
    refine opsE_cons_k rfl (by rfl) (fun w => ?_) (fun d K hK => ?_)
    · simp [go_sem]
    go_simp
    refine hK _ ?_
    clear hK K
    try walk_nrm
    refine opsE_cons_k rfl (by rfl) (fun w => ?_) (fun d K hK => ?_)
    · simp [go_sem]
    go_simp
    refine hK _ ?_
    clear hK K
    try walk_nrm
    refine opsE_cons_k rfl (by rfl) (fun w => ?_) (fun d K hK => ?_)
    · simp [go_sem]
    go_simp
    refine hK _ ?_
    clear hK K
    try walk_nrm
    refine opsE_cons_k rfl (by rfl) (fun w => ?_) (fun d K hK => ?_)
    · simp [go_sem]
    go_simp
    refine hK _ ?_
    clear hK K
    try walk_nrm
    refine opsE_cons_k rfl (by rfl) (fun w => ?_) (fun d K hK => ?_)
    · simp [go_sem]
    go_simp
    refine hK _ ?_
    clear hK K
    try walk_nrm
    refine opsE_cons_k rfl (by rfl) (fun w => ?_) (fun d K hK => ?_)
    · simp [go_sem]
    go_simp
    refine hK _ ?_
    clear hK K
    try walk_nrm
    refine opsE_cons_k rfl (by rfl) (fun w => ?_) (fun d K hK => ?_)
    · simp [go_sem]
    go_simp
    refine hK _ ?_
    clear hK K
    try walk_nrm
    refine opsE_cons_k rfl (by rfl) (fun w => ?_) (fun d K hK => ?_)
    · simp [go_sem]
    go_simp
    refine hK _ ?_
    clear hK K
    try walk_nrm
    refine opsE_call rfl (by rfl) rfl (by walk_nrm) (hN6 _) ?_
    rintro u w4 ⟨rfl, hs⟩
    replace hbw := below_since hbw hs
    clear hs
    try walk_nrm
    refine opsE_cons_k rfl (by rfl) (fun w => ?_) (fun d K hK => ?_)
    · simp [go_sem]
    go_simp
    refine hK _ ?_
    clear hK K
    try walk_nrm
    refine opsE_cons_k rfl (by rfl) (fun w => ?_) (fun d K hK => ?_)
    · simp [go_sem]
    go_simp
    refine hK _ ?_
    clear hK K
    try walk_nrm
    refine opsE_cons_k rfl (by rfl) (fun w => ?_) (fun d K hK => ?_)
    · simp [go_sem]
    go_simp
    refine hK _ ?_
    clear hK K
    try walk_nrm
    refine opsE_cons_k rfl (by rfl) (fun w => ?_) (fun d K hK => ?_)
    · simp [go_sem]
    go_simp
    refine hK _ ?_
    clear hK K
    try walk_nrm
    refine opsE_cons_k rfl (by rfl) (fun w => ?_) (fun d K hK => ?_)
    · simp [go_sem]
    go_simp
    refine hK _ ?_
    clear hK K
    try walk_nrm
    refine opsE_cons_k rfl (by rfl) (fun w => ?_) (fun d K hK => ?_)
    · simp [go_sem]
    go_simp
    refine hK _ ?_
    clear hK K
    try walk_nrm
    refine opsE_cons_k rfl (by rfl) (fun w => ?_) (fun d K hK => ?_)
    · simp [go_sem]
    go_simp
    refine hK _ ?_
    clear hK K
    try walk_nrm
    refine opsE_call rfl (by rfl) rfl (by walk_nrm) (hA1 _) ?_
    rintro u w5 ⟨rfl, hb1⟩
    replace hbw := bstep hbw hb1
    clear hb1
    try walk_nrm
    refine opsE_cons_k rfl (by rfl) (fun w => ?_) (fun d K hK => ?_)
    · simp [go_sem]
    go_simp
    refine hK _ ?_
    clear hK K
    try walk_nrm
    refine opsE_cons_k rfl (by rfl) (fun w => ?_) (fun d K hK => ?_)
    · simp [go_sem]
    go_simp
    refine hK _ ?_
    clear hK K
    try walk_nrm
    refine opsE_cons_k rfl (by rfl) (fun w => ?_) (fun d K hK => ?_)
    · simp [go_sem]
    go_simp
    refine hK _ ?_
    clear hK K
    try walk_nrm
    refine opsE_nil ?_
    simp only [Exit.then, Exit.inBlock, if_true, if_false, reduceIte]
    refine wpE_cond (t := false) rfl ?_
    simp only [if_true, if_false, Bool.false_eq_true, ↓reduceIte]
    refine wpE_skip ?_
    simp only [Exit.then, Exit.inBlock, if_true, if_false, reduceIte]
    exact tail1 hg hb1 hn hs hbw _ rfl rfl rfl rfl rfl rfl
  · subst ev
    have hbig : ∀ w : World, (∃ d, w = W.at d) → CallsE Try.prog (FinT W) 9 #[.slice a m cap] w fun r w' => r = .bool true ∧ w' = w := fun w _ => big_e a m cap true (decide_eq_true (by omega))
    refine wpE_seq ?_
    refine wpE_region ?_
    simp only [List.size_toArray, List.length_cons, List.length_nil, Nat.reduceAdd, Nat.zero_add, List.range, List.range.loop]
    refine opsE_cons_k rfl (by rfl) (fun w => ?_) (fun d K hK => ?_)
    · simp [go_sem]
    go_simp
    refine hK _ ?_
    clear hK K
    try walk_nrm
    refine opsE_nil ?_
    simp only [Exit.then, Exit.inBlock, if_true, if_false, reduceIte]
    refine wpE_seq ?_
    refine wpE_seq ?_
    refine wpE_region ?_
    simp only [List.size_toArray, List.length_cons, List.length_nil, Nat.reduceAdd, Nat.zero_add, List.range, List.range.loop]
    refine opsE_cons_k rfl (by rfl) (fun w => ?_) (fun d K hK => ?_)
    · simp [go_sem]
    go_simp
    refine hK _ ?_
    clear hK K
    try walk_nrm
    refine opsE_call rfl (by rfl) rfl (by walk_nrm) (hbig _ ⟨_, rfl⟩) ?_
    rintro u w' ⟨rfl, rfl⟩
    try walk_nrm
    refine opsE_nil ?_
    simp only [Exit.then, Exit.inBlock, if_true, if_false, reduceIte]
    refine wpE_cond (t := true) rfl ?_
    simp only [if_true, if_false, Bool.false_eq_true, ↓reduceIte]
    refine wpE_seq ?_
    refine wpE_region ?_
    simp only [List.size_toArray, List.length_cons, List.length_nil, Nat.reduceAdd, Nat.zero_add, List.range, List.range.loop]
    refine opsE_cons_k rfl (by rfl) (fun w => ?_) (fun d K hK => ?_)
    · simp [go_sem]
    go_simp
    refine hK _ ?_
    clear hK K
    try walk_nrm
    refine opsE_nil ?_
    simp only [Exit.then, Exit.inBlock, if_true, if_false, reduceIte]
    refine wpE_ret ?_
    exact ⟨rfl, _, resultsC_tmp (by rfl) _, rfl, below_at hbw _⟩
end Go.Proofs.Ytodpkfohihfndaa
