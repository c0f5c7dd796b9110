/- slices.Min, slices.Max, IsEven at a new row of two; laws.big, laws.at: called by goroutine 0 beside goroutines that only leave. No condition. Made by gen_goveven.py. -/
import Derived.Test.YtodpkfohihfndaaGovCo
import Derived.Test.YtodpkfohihfndaaGovRun
set_option linter.unusedSimpArgs false
set_option linter.unusedVariables false
namespace Go.Proofs.Ytodpkfohihfndaa
open Go Go.Conc Go.RowKit

set_option maxRecDepth 100000 in
set_option maxHeartbeats 4000000 in
theorem min110_e {Fin : Value → World → Prop} {w : World} {b : Nat} (hb : b < w.heap.size) (h0 : w.cell? ⟨b, 0, none⟩ = some (.int .i64 100)) (h1 : w.cell? ⟨b, 1, none⟩ = some (.int .i64 110)) :
    CallsE Try.prog Fin 27 #[.slice (some ⟨b, 0, none⟩) 2 2] w fun r w' => r = .int .i64 100 ∧ w' = w := by
  refine callsE_of_wpE Try.func27 (by rfl) rfl ?_
  simp only [Try.ntmps27, List.size_toArray, List.length_cons, List.length_nil, Nat.reduceAdd, Nat.reduceSub, Array.replicate_succ, Array.replicate_zero, List.push_toArray, List.append_toArray, List.nil_append, List.cons_append]
  have ew : IntKind.i64.wrap 2 = 2 := IntWalk.i64_in _ (by omega)
  have c0 : ∀ d, (w.at d).cell? ⟨b, 0, none⟩ = some (.int .i64 100) := fun _ => h0
  have c1 : ∀ d, (w.at d).cell? ⟨b, 1, none⟩ = some (.int .i64 110) := fun _ => h1
  refine wpE_seq ?_
  refine wpE_region ?_
  simp only [List.size_toArray, List.length_cons, List.length_nil, Nat.reduceAdd, Nat.zero_add, List.range, List.range.loop]
  refine opsE_cons_k rfl (by rfl) (fun w => ?_) (fun d K hK => ?_)
  · simp [go_sem, events_max2, events_min2]
  go_simp
  refine hK _ ?_
  clear hK K
  try walk_nrm
  refine opsE_nil ?_
  simp only [Exit.then, Exit.inBlock, if_true, if_false, reduceIte]
  refine wpE_seq ?_
  refine wpE_seq ?_
  refine wpE_region ?_
  simp only [List.size_toArray, List.length_cons, List.length_nil, Nat.reduceAdd, Nat.zero_add, List.range, List.range.loop]
  refine opsE_cons_k rfl (by rfl) (fun w => ?_) (fun d K hK => ?_)
  · simp [go_sem, events_max2, events_min2]
  go_simp
  refine hK _ ?_
  clear hK K
  try walk_nrm
  refine opsE_cons_k rfl (by rfl) (fun w => ?_) (fun d K hK => ?_)
  · simp [go_sem, events_max2, events_min2]
  go_simp
  refine hK _ ?_
  clear hK K
  try walk_nrm
  refine opsE_cons_k rfl (by rfl) (fun w => ?_) (fun d K hK => ?_)
  · simp [go_sem, events_max2, events_min2]
  go_simp
  refine hK _ ?_
  clear hK K
  try walk_nrm
  refine opsE_nil ?_
  simp only [Exit.then, Exit.inBlock, if_true, if_false, reduceIte]
  refine wpE_cond (t := false) rfl ?_
  simp only [if_true, if_false, Bool.false_eq_true, ↓reduceIte]
  refine wpE_skip ?_
  simp only [Exit.then, Exit.inBlock, if_true, if_false, reduceIte]
  refine wpE_seq ?_
  refine wpE_region ?_
  simp only [List.size_toArray, List.length_cons, List.length_nil, Nat.reduceAdd, Nat.zero_add, List.range, List.range.loop]
  refine opsE_cons_k rfl (by rfl) (fun w => ?_) (fun d K hK => ?_)
  · simp [go_sem, events_max2, events_min2]
  go_simp
  refine hK _ ?_
  clear hK K
  try walk_nrm
  refine opsE_cons_k rfl (by rfl) (fun w => ?_) (fun d K hK => ?_)
  · simp [go_sem, *]
  go_simp
  refine hK _ ?_
  clear hK K
  try walk_nrm
  refine opsE_cons_ev (w.heap.size) rfl (by rfl) (fun B hB d K hK => ?_)
  have hcc := c0 d
  go_simp
  refine hK _ (fun e he => ?_) ?_
  · have hm := mem_listed he
    simp [go_sem, *] at hm
    subst hm
    exact evL_cell _ _ (fun h => h) (by show b < B; omega)
  clear hK K hB hcc
  try walk_nrm
  refine opsE_cons_k rfl (by rfl) (fun w => ?_) (fun d K hK => ?_)
  · simp [go_sem, events_max2, events_min2]
  go_simp
  refine hK _ ?_
  clear hK K
  try walk_nrm
  refine opsE_nil ?_
  simp only [Exit.then, Exit.inBlock, if_true, if_false, reduceIte]
  refine wpE_seq ?_
  refine wpE_seq ?_
  refine wpE_region ?_
  simp only [List.size_toArray, List.length_cons, List.length_nil, Nat.reduceAdd, Nat.zero_add, List.range, List.range.loop]
  refine opsE_cons_k rfl (by rfl) (fun w => ?_) (fun d K hK => ?_)
  · simp [go_sem, events_max2, events_min2]
  go_simp
  refine hK _ ?_
  clear hK K
  try walk_nrm
  refine opsE_nil ?_
  simp only [Exit.then, Exit.inBlock, if_true, if_false, reduceIte]
  refine wpE_block (wpE_loopL ?_)
  refine wpL_round ?_
  refine wpE_seq ?_
  refine wpE_seq ?_
  refine wpE_region ?_
  simp only [List.size_toArray, List.length_cons, List.length_nil, Nat.reduceAdd, Nat.zero_add, List.range, List.range.loop]
  refine opsE_cons_k rfl (by rfl) (fun w => ?_) (fun d K hK => ?_)
  · simp [go_sem, events_max2, events_min2]
  go_simp
  refine hK _ ?_
  clear hK K
  try walk_nrm
  refine opsE_cons_k rfl (by rfl) (fun w => ?_) (fun d K hK => ?_)
  · simp [go_sem, events_max2, events_min2]
  go_simp
  refine hK _ ?_
  clear hK K
  try walk_nrm
  refine opsE_cons_k rfl (by rfl) (fun w => ?_) (fun d K hK => ?_)
  · simp [go_sem, events_max2, events_min2]
  go_simp
  refine hK _ ?_
  clear hK K
  try walk_nrm
  refine opsE_cons_k rfl (by rfl) (fun w => ?_) (fun d K hK => ?_)
  · simp [go_sem, events_max2, events_min2]
  go_simp
  refine hK _ ?_
  clear hK K
  try walk_nrm
  refine opsE_nil ?_
  simp only [Exit.then, Exit.inBlock, if_true, if_false, reduceIte]
  refine wpE_cond (t := true) rfl ?_
  simp only [if_true, if_false, Bool.false_eq_true, ↓reduceIte]
  refine wpE_skip ?_
  simp only [Exit.then, Exit.inBlock, if_true, if_false, reduceIte]
  refine wpE_seq ?_
  refine wpE_block ?_
  refine wpE_region ?_
  simp only [List.size_toArray, List.length_cons, List.length_nil, Nat.reduceAdd, Nat.zero_add, List.range, List.range.loop]
  refine opsE_cons_k rfl (by rfl) (fun w => ?_) (fun d K hK => ?_)
  · simp [go_sem, events_max2, events_min2]
  go_simp
  refine hK _ ?_
  clear hK K
  try walk_nrm
  refine opsE_cons_k rfl (by rfl) (fun w => ?_) (fun d K hK => ?_)
  · simp [go_sem, events_max2, events_min2]
  go_simp
  refine hK _ ?_
  clear hK K
  try walk_nrm
  refine opsE_cons_k rfl (by rfl) (fun w => ?_) (fun d K hK => ?_)
  · simp [go_sem, events_max2, events_min2]
  go_simp
  refine hK _ ?_
  clear hK K
  try walk_nrm
  refine opsE_cons_k rfl (by rfl) (fun w => ?_) (fun d K hK => ?_)
  · simp [go_sem, *]
  go_simp
  refine hK _ ?_
  clear hK K
  try walk_nrm
  refine opsE_cons_ev (w.heap.size) rfl (by rfl) (fun B hB d K hK => ?_)
  have hcc := c1 d
  go_simp
  refine hK _ (fun e he => ?_) ?_
  · have hm := mem_listed he
    simp [go_sem, *] at hm
    subst hm
    exact evL_cell _ _ (fun h => h) (by show b < B; omega)
  clear hK K hB hcc
  try walk_nrm
  refine opsE_cons_k rfl (by rfl) (fun w => ?_) (fun d K hK => ?_)
  · simp [go_sem, events_max2, events_min2]
  go_simp
  refine hK _ ?_
  clear hK K
  try walk_nrm
  refine opsE_cons_k rfl (by rfl) (fun w => ?_) (fun d K hK => ?_)
  · simp [go_sem, events_max2, events_min2]
  go_simp
  refine hK _ ?_
  clear hK K
  try walk_nrm
  refine opsE_nil ?_
  simp only [Exit.then, Exit.inBlock, if_true, if_false, reduceIte]
  refine wpE_region ?_
  simp only [List.size_toArray, List.length_cons, List.length_nil, Nat.reduceAdd, Nat.zero_add, List.range, List.range.loop]
  refine opsE_cons_k rfl (by rfl) (fun w => ?_) (fun d K hK => ?_)
  · simp [go_sem, events_max2, events_min2]
  go_simp
  refine hK _ ?_
  clear hK K
  try walk_nrm
  refine opsE_cons_k rfl (by rfl) (fun w => ?_) (fun d K hK => ?_)
  · simp [go_sem, events_max2, events_min2]
  go_simp
  refine hK _ ?_
  clear hK K
  try walk_nrm
  refine opsE_cons_k rfl (by rfl) (fun w => ?_) (fun d K hK => ?_)
  · simp [go_sem, events_max2, events_min2]
  go_simp
  refine hK _ ?_
  clear hK K
  try walk_nrm
  refine opsE_nil ?_
  simp only [Exit.then, Exit.inBlock, if_true, if_false, reduceIte]
  refine wpL_round ?_
  refine wpE_seq ?_
  refine wpE_seq ?_
  refine wpE_region ?_
  simp only [List.size_toArray, List.length_cons, List.length_nil, Nat.reduceAdd, Nat.zero_add, List.range, List.range.loop]
  refine opsE_cons_k rfl (by rfl) (fun w => ?_) (fun d K hK => ?_)
  · simp [go_sem, events_max2, events_min2]
  go_simp
  refine hK _ ?_
  clear hK K
  try walk_nrm
  refine opsE_cons_k rfl (by rfl) (fun w => ?_) (fun d K hK => ?_)
  · simp [go_sem, events_max2, events_min2]
  go_simp
  refine hK _ ?_
  clear hK K
  try walk_nrm
  refine opsE_cons_k rfl (by rfl) (fun w => ?_) (fun d K hK => ?_)
  · simp [go_sem, events_max2, events_min2]
  go_simp
  refine hK _ ?_
  clear hK K
  try walk_nrm
  refine opsE_cons_k rfl (by rfl) (fun w => ?_) (fun d K hK => ?_)
  · simp [go_sem, events_max2, events_min2]
  go_simp
  refine hK _ ?_
  clear hK K
  try walk_nrm
  refine opsE_nil ?_
  simp only [Exit.then, Exit.inBlock, if_true, if_false, reduceIte]
  refine wpE_cond (t := false) rfl ?_
  simp only [if_true, if_false, Bool.false_eq_true, ↓reduceIte]
  refine wpE_exit ?_
  simp only [Exit.then, Exit.inBlock, if_true, if_false, reduceIte]
  refine wpE_seq ?_
  refine wpE_region ?_
  simp only [List.size_toArray, List.length_cons, List.length_nil, Nat.reduceAdd, Nat.zero_add, List.range, List.range.loop]
  refine opsE_cons_k rfl (by rfl) (fun w => ?_) (fun d K hK => ?_)
  · simp [go_sem, events_max2, events_min2]
  go_simp
  refine hK _ ?_
  clear hK K
  try walk_nrm
  refine opsE_cons_k rfl (by rfl) (fun w => ?_) (fun d K hK => ?_)
  · simp [go_sem, events_max2, events_min2]
  go_simp
  refine hK _ ?_
  clear hK K
  try walk_nrm
  refine opsE_nil ?_
  simp only [Exit.then, Exit.inBlock, if_true, if_false, reduceIte]
  refine wpE_ret ?_
  exact ⟨rfl, _, resultsC_tmp (by rfl) _, rfl, rfl⟩
set_option maxRecDepth 100000 in
set_option maxHeartbeats 4000000 in
theorem min111_e {Fin : Value → World → Prop} {w : World} {b : Nat} (hb : b < w.heap.size) (h0 : w.cell? ⟨b, 0, none⟩ = some (.int .i64 100)) (h1 : w.cell? ⟨b, 1, none⟩ = some (.int .i64 111)) :
    CallsE Try.prog Fin 27 #[.slice (some ⟨b, 0, none⟩) 2 2] w fun r w' => r = .int .i64 100 ∧ w' = w := by
  refine callsE_of_wpE Try.func27 (by rfl) rfl ?_
  simp only [Try.ntmps27, List.size_toArray, List.length_cons, List.length_nil, Nat.reduceAdd, Nat.reduceSub, Array.replicate_succ, Array.replicate_zero, List.push_toArray, List.append_toArray, List.nil_append, List.cons_append]
  have ew : IntKind.i64.wrap 2 = 2 := IntWalk.i64_in _ (by omega)
  have c0 : ∀ d, (w.at d).cell? ⟨b, 0, none⟩ = some (.int .i64 100) := fun _ => h0
  have c1 : ∀ d, (w.at d).cell? ⟨b, 1, none⟩ = some (.int .i64 111) := fun _ => h1
  refine wpE_seq ?_
  refine wpE_region ?_
  simp only [List.size_toArray, List.length_cons, List.length_nil, Nat.reduceAdd, Nat.zero_add, List.range, List.range.loop]
  refine opsE_cons_k rfl (by rfl) (fun w => ?_) (fun d K hK => ?_)
  · simp [go_sem, events_max2, events_min2]
  go_simp
  refine hK _ ?_
  clear hK K
  try walk_nrm
  refine opsE_nil ?_
  simp only [Exit.then, Exit.inBlock, if_true, if_false, reduceIte]
  refine wpE_seq ?_
  refine wpE_seq ?_
  refine wpE_region ?_
  simp only [List.size_toArray, List.length_cons, List.length_nil, Nat.reduceAdd, Nat.zero_add, List.range, List.range.loop]
  refine opsE_cons_k rfl (by rfl) (fun w => ?_) (fun d K hK => ?_)
  · simp [go_sem, events_max2, events_min2]
  go_simp
  refine hK _ ?_
  clear hK K
  try walk_nrm
  refine opsE_cons_k rfl (by rfl) (fun w => ?_) (fun d K hK => ?_)
  · simp [go_sem, events_max2, events_min2]
  go_simp
  refine hK _ ?_
  clear hK K
  try walk_nrm
  refine opsE_cons_k rfl (by rfl) (fun w => ?_) (fun d K hK => ?_)
  · simp [go_sem, events_max2, events_min2]
  go_simp
  refine hK _ ?_
  clear hK K
  try walk_nrm
  refine opsE_nil ?_
  simp only [Exit.then, Exit.inBlock, if_true, if_false, reduceIte]
  refine wpE_cond (t := false) rfl ?_
  simp only [if_true, if_false, Bool.false_eq_true, ↓reduceIte]
  refine wpE_skip ?_
  simp only [Exit.then, Exit.inBlock, if_true, if_false, reduceIte]
  refine wpE_seq ?_
  refine wpE_region ?_
  simp only [List.size_toArray, List.length_cons, List.length_nil, Nat.reduceAdd, Nat.zero_add, List.range, List.range.loop]
  refine opsE_cons_k rfl (by rfl) (fun w => ?_) (fun d K hK => ?_)
  · simp [go_sem, events_max2, events_min2]
  go_simp
  refine hK _ ?_
  clear hK K
  try walk_nrm
  refine opsE_cons_k rfl (by rfl) (fun w => ?_) (fun d K hK => ?_)
  · simp [go_sem, *]
  go_simp
  refine hK _ ?_
  clear hK K
  try walk_nrm
  refine opsE_cons_ev (w.heap.size) rfl (by rfl) (fun B hB d K hK => ?_)
  have hcc := c0 d
  go_simp
  refine hK _ (fun e he => ?_) ?_
  · have hm := mem_listed he
    simp [go_sem, *] at hm
    subst hm
    exact evL_cell _ _ (fun h => h) (by show b < B; omega)
  clear hK K hB hcc
  try walk_nrm
  refine opsE_cons_k rfl (by rfl) (fun w => ?_) (fun d K hK => ?_)
  · simp [go_sem, events_max2, events_min2]
  go_simp
  refine hK _ ?_
  clear hK K
  try walk_nrm
  refine opsE_nil ?_
  simp only [Exit.then, Exit.inBlock, if_true, if_false, reduceIte]
  refine wpE_seq ?_
  refine wpE_seq ?_
  refine wpE_region ?_
  simp only [List.size_toArray, List.length_cons, List.length_nil, Nat.reduceAdd, Nat.zero_add, List.range, List.range.loop]
  refine opsE_cons_k rfl (by rfl) (fun w => ?_) (fun d K hK => ?_)
  · simp [go_sem, events_max2, events_min2]
  go_simp
  refine hK _ ?_
  clear hK K
  try walk_nrm
  refine opsE_nil ?_
  simp only [Exit.then, Exit.inBlock, if_true, if_false, reduceIte]
  refine wpE_block (wpE_loopL ?_)
  refine wpL_round ?_
  refine wpE_seq ?_
  refine wpE_seq ?_
  refine wpE_region ?_
  simp only [List.size_toArray, List.length_cons, List.length_nil, Nat.reduceAdd, Nat.zero_add, List.range, List.range.loop]
  refine opsE_cons_k rfl (by rfl) (fun w => ?_) (fun d K hK => ?_)
  · simp [go_sem, events_max2, events_min2]
  go_simp
  refine hK _ ?_
  clear hK K
  try walk_nrm
  refine opsE_cons_k rfl (by rfl) (fun w => ?_) (fun d K hK => ?_)
  · simp [go_sem, events_max2, events_min2]
  go_simp
  refine hK _ ?_
  clear hK K
  try walk_nrm
  refine opsE_cons_k rfl (by rfl) (fun w => ?_) (fun d K hK => ?_)
  · simp [go_sem, events_max2, events_min2]
  go_simp
  refine hK _ ?_
  clear hK K
  try walk_nrm
  refine opsE_cons_k rfl (by rfl) (fun w => ?_) (fun d K hK => ?_)
  · simp [go_sem, events_max2, events_min2]
  go_simp
  refine hK _ ?_
  clear hK K
  try walk_nrm
  refine opsE_nil ?_
  simp only [Exit.then, Exit.inBlock, if_true, if_false, reduceIte]
  refine wpE_cond (t := true) rfl ?_
  simp only [if_true, if_false, Bool.false_eq_true, ↓reduceIte]
  refine wpE_skip ?_
  simp only [Exit.then, Exit.inBlock, if_true, if_false, reduceIte]
  refine wpE_seq ?_
  refine wpE_block ?_
  refine wpE_region ?_
  simp only [List.size_toArray, List.length_cons, List.length_nil, Nat.reduceAdd, Nat.zero_add, List.range, List.range.loop]
  refine opsE_cons_k rfl (by rfl) (fun w => ?_) (fun d K hK => ?_)
  · simp [go_sem, events_max2, events_min2]
  go_simp
  refine hK _ ?_
  clear hK K
  try walk_nrm
  refine opsE_cons_k rfl (by rfl) (fun w => ?_) (fun d K hK => ?_)
  · simp [go_sem, events_max2, events_min2]
  go_simp
  refine hK _ ?_
  clear hK K
  try walk_nrm
  refine opsE_cons_k rfl (by rfl) (fun w => ?_) (fun d K hK => ?_)
  · simp [go_sem, events_max2, events_min2]
  go_simp
  refine hK _ ?_
  clear hK K
  try walk_nrm
  refine opsE_cons_k rfl (by rfl) (fun w => ?_) (fun d K hK => ?_)
  · simp [go_sem, *]
  go_simp
  refine hK _ ?_
  clear hK K
  try walk_nrm
  refine opsE_cons_ev (w.heap.size) rfl (by rfl) (fun B hB d K hK => ?_)
  have hcc := c1 d
  go_simp
  refine hK _ (fun e he => ?_) ?_
  · have hm := mem_listed he
    simp [go_sem, *] at hm
    subst hm
    exact evL_cell _ _ (fun h => h) (by show b < B; omega)
  clear hK K hB hcc
  try walk_nrm
  refine opsE_cons_k rfl (by rfl) (fun w => ?_) (fun d K hK => ?_)
  · simp [go_sem, events_max2, events_min2]
  go_simp
  refine hK _ ?_
  clear hK K
  try walk_nrm
  refine opsE_cons_k rfl (by rfl) (fun w => ?_) (fun d K hK => ?_)
  · simp [go_sem, events_max2, events_min2]
  go_simp
  refine hK _ ?_
  clear hK K
  try walk_nrm
  refine opsE_nil ?_
  simp only [Exit.then, Exit.inBlock, if_true, if_false, reduceIte]
  refine wpE_region ?_
  simp only [List.size_toArray, List.length_cons, List.length_nil, Nat.reduceAdd, Nat.zero_add, List.range, List.range.loop]
  refine opsE_cons_k rfl (by rfl) (fun w => ?_) (fun d K hK => ?_)
  · simp [go_sem, events_max2, events_min2]
  go_simp
  refine hK _ ?_
  clear hK K
  try walk_nrm
  refine opsE_cons_k rfl (by rfl) (fun w => ?_) (fun d K hK => ?_)
  · simp [go_sem, events_max2, events_min2]
  go_simp
  refine hK _ ?_
  clear hK K
  try walk_nrm
  refine opsE_cons_k rfl (by rfl) (fun w => ?_) (fun d K hK => ?_)
  · simp [go_sem, events_max2, events_min2]
  go_simp
  refine hK _ ?_
  clear hK K
  try walk_nrm
  refine opsE_nil ?_
  simp only [Exit.then, Exit.inBlock, if_true, if_false, reduceIte]
  refine wpL_round ?_
  refine wpE_seq ?_
  refine wpE_seq ?_
  refine wpE_region ?_
  simp only [List.size_toArray, List.length_cons, List.length_nil, Nat.reduceAdd, Nat.zero_add, List.range, List.range.loop]
  refine opsE_cons_k rfl (by rfl) (fun w => ?_) (fun d K hK => ?_)
  · simp [go_sem, events_max2, events_min2]
  go_simp
  refine hK _ ?_
  clear hK K
  try walk_nrm
  refine opsE_cons_k rfl (by rfl) (fun w => ?_) (fun d K hK => ?_)
  · simp [go_sem, events_max2, events_min2]
  go_simp
  refine hK _ ?_
  clear hK K
  try walk_nrm
  refine opsE_cons_k rfl (by rfl) (fun w => ?_) (fun d K hK => ?_)
  · simp [go_sem, events_max2, events_min2]
  go_simp
  refine hK _ ?_
  clear hK K
  try walk_nrm
  refine opsE_cons_k rfl (by rfl) (fun w => ?_) (fun d K hK => ?_)
  · simp [go_sem, events_max2, events_min2]
  go_simp
  refine hK _ ?_
  clear hK K
  try walk_nrm
  refine opsE_nil ?_
  simp only [Exit.then, Exit.inBlock, if_true, if_false, reduceIte]
  refine wpE_cond (t := false) rfl ?_
  simp only [if_true, if_false, Bool.false_eq_true, ↓reduceIte]
  refine wpE_exit ?_
  simp only [Exit.then, Exit.inBlock, if_true, if_false, reduceIte]
  refine wpE_seq ?_
  refine wpE_region ?_
  simp only [List.size_toArray, List.length_cons, List.length_nil, Nat.reduceAdd, Nat.zero_add, List.range, List.range.loop]
  refine opsE_cons_k rfl (by rfl) (fun w => ?_) (fun d K hK => ?_)
  · simp [go_sem, events_max2, events_min2]
  go_simp
  refine hK _ ?_
  clear hK K
  try walk_nrm
  refine opsE_cons_k rfl (by rfl) (fun w => ?_) (fun d K hK => ?_)
  · simp [go_sem, events_max2, events_min2]
  go_simp
  refine hK _ ?_
  clear hK K
  try walk_nrm
  refine opsE_nil ?_
  simp only [Exit.then, Exit.inBlock, if_true, if_false, reduceIte]
  refine wpE_ret ?_
  exact ⟨rfl, _, resultsC_tmp (by rfl) _, rfl, rfl⟩
set_option maxRecDepth 100000 in
set_option maxHeartbeats 4000000 in
theorem max110_e {Fin : Value → World → Prop} {w : World} {b : Nat} (hb : b < w.heap.size) (h0 : w.cell? ⟨b, 0, none⟩ = some (.int .i64 100)) (h1 : w.cell? ⟨b, 1, none⟩ = some (.int .i64 110)) :
    CallsE Try.prog Fin 28 #[.slice (some ⟨b, 0, none⟩) 2 2] w fun r w' => r = .int .i64 110 ∧ w' = w := by
  refine callsE_of_wpE Try.func28 (by rfl) rfl ?_
  simp only [Try.ntmps28, List.size_toArray, List.length_cons, List.length_nil, Nat.reduceAdd, Nat.reduceSub, Array.replicate_succ, Array.replicate_zero, List.push_toArray, List.append_toArray, List.nil_append, List.cons_append]
  have ew : IntKind.i64.wrap 2 = 2 := IntWalk.i64_in _ (by omega)
  have c0 : ∀ d, (w.at d).cell? ⟨b, 0, none⟩ = some (.int .i64 100) := fun _ => h0
  have c1 : ∀ d, (w.at d).cell? ⟨b, 1, none⟩ = some (.int .i64 110) := fun _ => h1
  refine wpE_seq ?_
  refine wpE_region ?_
  simp only [List.size_toArray, List.length_cons, List.length_nil, Nat.reduceAdd, Nat.zero_add, List.range, List.range.loop]
  refine opsE_cons_k rfl (by rfl) (fun w => ?_) (fun d K hK => ?_)
  · simp [go_sem, events_max2, events_min2]
  go_simp
  refine hK _ ?_
  clear hK K
  try walk_nrm
  refine opsE_nil ?_
  simp only [Exit.then, Exit.inBlock, if_true, if_false, reduceIte]
  refine wpE_seq ?_
  refine wpE_seq ?_
  refine wpE_region ?_
  simp only [List.size_toArray, List.length_cons, List.length_nil, Nat.reduceAdd, Nat.zero_add, List.range, List.range.loop]
  refine opsE_cons_k rfl (by rfl) (fun w => ?_) (fun d K hK => ?_)
  · simp [go_sem, events_max2, events_min2]
  go_simp
  refine hK _ ?_
  clear hK K
  try walk_nrm
  refine opsE_cons_k rfl (by rfl) (fun w => ?_) (fun d K hK => ?_)
  · simp [go_sem, events_max2, events_min2]
  go_simp
  refine hK _ ?_
  clear hK K
  try walk_nrm
  refine opsE_cons_k rfl (by rfl) (fun w => ?_) (fun d K hK => ?_)
  · simp [go_sem, events_max2, events_min2]
  go_simp
  refine hK _ ?_
  clear hK K
  try walk_nrm
  refine opsE_nil ?_
  simp only [Exit.then, Exit.inBlock, if_true, if_false, reduceIte]
  refine wpE_cond (t := false) rfl ?_
  simp only [if_true, if_false, Bool.false_eq_true, ↓reduceIte]
  refine wpE_skip ?_
  simp only [Exit.then, Exit.inBlock, if_true, if_false, reduceIte]
  refine wpE_seq ?_
  refine wpE_region ?_
  simp only [List.size_toArray, List.length_cons, List.length_nil, Nat.reduceAdd, Nat.zero_add, List.range, List.range.loop]
  refine opsE_cons_k rfl (by rfl) (fun w => ?_) (fun d K hK => ?_)
  · simp [go_sem, events_max2, events_min2]
  go_simp
  refine hK _ ?_
  clear hK K
  try walk_nrm
  refine opsE_cons_k rfl (by rfl) (fun w => ?_) (fun d K hK => ?_)
  · simp [go_sem, *]
  go_simp
  refine hK _ ?_
  clear hK K
  try walk_nrm
  refine opsE_cons_ev (w.heap.size) rfl (by rfl) (fun B hB d K hK => ?_)
  have hcc := c0 d
  go_simp
  refine hK _ (fun e he => ?_) ?_
  · have hm := mem_listed he
    simp [go_sem, *] at hm
    subst hm
    exact evL_cell _ _ (fun h => h) (by show b < B; omega)
  clear hK K hB hcc
  try walk_nrm
  refine opsE_cons_k rfl (by rfl) (fun w => ?_) (fun d K hK => ?_)
  · simp [go_sem, events_max2, events_min2]
  go_simp
  refine hK _ ?_
  clear hK K
  try walk_nrm
  refine opsE_nil ?_
  simp only [Exit.then, Exit.inBlock, if_true, if_false, reduceIte]
  refine wpE_seq ?_
  refine wpE_seq ?_
  refine wpE_region ?_
  simp only [List.size_toArray, List.length_cons, List.length_nil, Nat.reduceAdd, Nat.zero_add, List.range, List.range.loop]
  refine opsE_cons_k rfl (by rfl) (fun w => ?_) (fun d K hK => ?_)
  · simp [go_sem, events_max2, events_min2]
  go_simp
  refine hK _ ?_
  clear hK K
  try walk_nrm
  refine opsE_nil ?_
  simp only [Exit.then, Exit.inBlock, if_true, if_false, reduceIte]
  refine wpE_block (wpE_loopL ?_)
  refine wpL_round ?_
  refine wpE_seq ?_
  refine wpE_seq ?_
  refine wpE_region ?_
  simp only [List.size_toArray, List.length_cons, List.length_nil, Nat.reduceAdd, Nat.zero_add, List.range, List.range.loop]
  refine opsE_cons_k rfl (by rfl) (fun w => ?_) (fun d K hK => ?_)
  · simp [go_sem, events_max2, events_min2]
  go_simp
  refine hK _ ?_
  clear hK K
  try walk_nrm
  refine opsE_cons_k rfl (by rfl) (fun w => ?_) (fun d K hK => ?_)
  · simp [go_sem, events_max2, events_min2]
  go_simp
  refine hK _ ?_
  clear hK K
  try walk_nrm
  refine opsE_cons_k rfl (by rfl) (fun w => ?_) (fun d K hK => ?_)
  · simp [go_sem, events_max2, events_min2]
  go_simp
  refine hK _ ?_
  clear hK K
  try walk_nrm
  refine opsE_cons_k rfl (by rfl) (fun w => ?_) (fun d K hK => ?_)
  · simp [go_sem, events_max2, events_min2]
  go_simp
  refine hK _ ?_
  clear hK K
  try walk_nrm
  refine opsE_nil ?_
  simp only [Exit.then, Exit.inBlock, if_true, if_false, reduceIte]
  refine wpE_cond (t := true) rfl ?_
  simp only [if_true, if_false, Bool.false_eq_true, ↓reduceIte]
  refine wpE_skip ?_
  simp only [Exit.then, Exit.inBlock, if_true, if_false, reduceIte]
  refine wpE_seq ?_
  refine wpE_block ?_
  refine wpE_region ?_
  simp only [List.size_toArray, List.length_cons, List.length_nil, Nat.reduceAdd, Nat.zero_add, List.range, List.range.loop]
  refine opsE_cons_k rfl (by rfl) (fun w => ?_) (fun d K hK => ?_)
  · simp [go_sem, events_max2, events_min2]
  go_simp
  refine hK _ ?_
  clear hK K
  try walk_nrm
  refine opsE_cons_k rfl (by rfl) (fun w => ?_) (fun d K hK => ?_)
  · simp [go_sem, events_max2, events_min2]
  go_simp
  refine hK _ ?_
  clear hK K
  try walk_nrm
  refine opsE_cons_k rfl (by rfl) (fun w => ?_) (fun d K hK => ?_)
  · simp [go_sem, events_max2, events_min2]
  go_simp
  refine hK _ ?_
  clear hK K
  try walk_nrm
  refine opsE_cons_k rfl (by rfl) (fun w => ?_) (fun d K hK => ?_)
  · simp [go_sem, *]
  go_simp
  refine hK _ ?_
  clear hK K
  try walk_nrm
  refine opsE_cons_ev (w.heap.size) rfl (by rfl) (fun B hB d K hK => ?_)
  have hcc := c1 d
  go_simp
  refine hK _ (fun e he => ?_) ?_
  · have hm := mem_listed he
    simp [go_sem, *] at hm
    subst hm
    exact evL_cell _ _ (fun h => h) (by show b < B; omega)
  clear hK K hB hcc
  try walk_nrm
  refine opsE_cons_k rfl (by rfl) (fun w => ?_) (fun d K hK => ?_)
  · simp [go_sem, events_max2, events_min2]
  go_simp
  refine hK _ ?_
  clear hK K
  try walk_nrm
  refine opsE_cons_k rfl (by rfl) (fun w => ?_) (fun d K hK => ?_)
  · simp [go_sem, events_max2, events_min2]
  go_simp
  refine hK _ ?_
  clear hK K
  try walk_nrm
  refine opsE_nil ?_
  simp only [Exit.then, Exit.inBlock, if_true, if_false, reduceIte]
  refine wpE_region ?_
  simp only [List.size_toArray, List.length_cons, List.length_nil, Nat.reduceAdd, Nat.zero_add, List.range, List.range.loop]
  refine opsE_cons_k rfl (by rfl) (fun w => ?_) (fun d K hK => ?_)
  · simp [go_sem, events_max2, events_min2]
  go_simp
  refine hK _ ?_
  clear hK K
  try walk_nrm
  refine opsE_cons_k rfl (by rfl) (fun w => ?_) (fun d K hK => ?_)
  · simp [go_sem, events_max2, events_min2]
  go_simp
  refine hK _ ?_
  clear hK K
  try walk_nrm
  refine opsE_cons_k rfl (by rfl) (fun w => ?_) (fun d K hK => ?_)
  · simp [go_sem, events_max2, events_min2]
  go_simp
  refine hK _ ?_
  clear hK K
  try walk_nrm
  refine opsE_nil ?_
  simp only [Exit.then, Exit.inBlock, if_true, if_false, reduceIte]
  refine wpL_round ?_
  refine wpE_seq ?_
  refine wpE_seq ?_
  refine wpE_region ?_
  simp only [List.size_toArray, List.length_cons, List.length_nil, Nat.reduceAdd, Nat.zero_add, List.range, List.range.loop]
  refine opsE_cons_k rfl (by rfl) (fun w => ?_) (fun d K hK => ?_)
  · simp [go_sem, events_max2, events_min2]
  go_simp
  refine hK _ ?_
  clear hK K
  try walk_nrm
  refine opsE_cons_k rfl (by rfl) (fun w => ?_) (fun d K hK => ?_)
  · simp [go_sem, events_max2, events_min2]
  go_simp
  refine hK _ ?_
  clear hK K
  try walk_nrm
  refine opsE_cons_k rfl (by rfl) (fun w => ?_) (fun d K hK => ?_)
  · simp [go_sem, events_max2, events_min2]
  go_simp
  refine hK _ ?_
  clear hK K
  try walk_nrm
  refine opsE_cons_k rfl (by rfl) (fun w => ?_) (fun d K hK => ?_)
  · simp [go_sem, events_max2, events_min2]
  go_simp
  refine hK _ ?_
  clear hK K
  try walk_nrm
  refine opsE_nil ?_
  simp only [Exit.then, Exit.inBlock, if_true, if_false, reduceIte]
  refine wpE_cond (t := false) rfl ?_
  simp only [if_true, if_false, Bool.false_eq_true, ↓reduceIte]
  refine wpE_exit ?_
  simp only [Exit.then, Exit.inBlock, if_true, if_false, reduceIte]
  refine wpE_seq ?_
  refine wpE_region ?_
  simp only [List.size_toArray, List.length_cons, List.length_nil, Nat.reduceAdd, Nat.zero_add, List.range, List.range.loop]
  refine opsE_cons_k rfl (by rfl) (fun w => ?_) (fun d K hK => ?_)
  · simp [go_sem, events_max2, events_min2]
  go_simp
  refine hK _ ?_
  clear hK K
  try walk_nrm
  refine opsE_cons_k rfl (by rfl) (fun w => ?_) (fun d K hK => ?_)
  · simp [go_sem, events_max2, events_min2]
  go_simp
  refine hK _ ?_
  clear hK K
  try walk_nrm
  refine opsE_nil ?_
  simp only [Exit.then, Exit.inBlock, if_true, if_false, reduceIte]
  refine wpE_ret ?_
  exact ⟨rfl, _, resultsC_tmp (by rfl) _, rfl, rfl⟩
set_option maxRecDepth 100000 in
set_option maxHeartbeats 4000000 in
theorem max111_e {Fin : Value → World → Prop} {w : World} {b : Nat} (hb : b < w.heap.size) (h0 : w.cell? ⟨b, 0, none⟩ = some (.int .i64 100)) (h1 : w.cell? ⟨b, 1, none⟩ = some (.int .i64 111)) :
    CallsE Try.prog Fin 28 #[.slice (some ⟨b, 0, none⟩) 2 2] w fun r w' => r = .int .i64 111 ∧ w' = w := by
  refine callsE_of_wpE Try.func28 (by rfl) rfl ?_
  simp only [Try.ntmps28, List.size_toArray, List.length_cons, List.length_nil, Nat.reduceAdd, Nat.reduceSub, Array.replicate_succ, Array.replicate_zero, List.push_toArray, List.append_toArray, List.nil_append, List.cons_append]
  have ew : IntKind.i64.wrap 2 = 2 := IntWalk.i64_in _ (by omega)
  have c0 : ∀ d, (w.at d).cell? ⟨b, 0, none⟩ = some (.int .i64 100) := fun _ => h0
  have c1 : ∀ d, (w.at d).cell? ⟨b, 1, none⟩ = some (.int .i64 111) := fun _ => h1
  refine wpE_seq ?_
  refine wpE_region ?_
  simp only [List.size_toArray, List.length_cons, List.length_nil, Nat.reduceAdd, Nat.zero_add, List.range, List.range.loop]
  refine opsE_cons_k rfl (by rfl) (fun w => ?_) (fun d K hK => ?_)
  · simp [go_sem, events_max2, events_min2]
  go_simp
  refine hK _ ?_
  clear hK K
  try walk_nrm
  refine opsE_nil ?_
  simp only [Exit.then, Exit.inBlock, if_true, if_false, reduceIte]
  refine wpE_seq ?_
  refine wpE_seq ?_
  refine wpE_region ?_
  simp only [List.size_toArray, List.length_cons, List.length_nil, Nat.reduceAdd, Nat.zero_add, List.range, List.range.loop]
  refine opsE_cons_k rfl (by rfl) (fun w => ?_) (fun d K hK => ?_)
  · simp [go_sem, events_max2, events_min2]
  go_simp
  refine hK _ ?_
  clear hK K
  try walk_nrm
  refine opsE_cons_k rfl (by rfl) (fun w => ?_) (fun d K hK => ?_)
  · simp [go_sem, events_max2, events_min2]
  go_simp
  refine hK _ ?_
  clear hK K
  try walk_nrm
  refine opsE_cons_k rfl (by rfl) (fun w => ?_) (fun d K hK => ?_)
  · simp [go_sem, events_max2, events_min2]
  go_simp
  refine hK _ ?_
  clear hK K
  try walk_nrm
  refine opsE_nil ?_
  simp only [Exit.then, Exit.inBlock, if_true, if_false, reduceIte]
  refine wpE_cond (t := false) rfl ?_
  simp only [if_true, if_false, Bool.false_eq_true, ↓reduceIte]
  refine wpE_skip ?_
  simp only [Exit.then, Exit.inBlock, if_true, if_false, reduceIte]
  refine wpE_seq ?_
  refine wpE_region ?_
  simp only [List.size_toArray, List.length_cons, List.length_nil, Nat.reduceAdd, Nat.zero_add, List.range, List.range.loop]
  refine opsE_cons_k rfl (by rfl) (fun w => ?_) (fun d K hK => ?_)
  · simp [go_sem, events_max2, events_min2]
  go_simp
  refine hK _ ?_
  clear hK K
  try walk_nrm
  refine opsE_cons_k rfl (by rfl) (fun w => ?_) (fun d K hK => ?_)
  · simp [go_sem, *]
  go_simp
  refine hK _ ?_
  clear hK K
  try walk_nrm
  refine opsE_cons_ev (w.heap.size) rfl (by rfl) (fun B hB d K hK => ?_)
  have hcc := c0 d
  go_simp
  refine hK _ (fun e he => ?_) ?_
  · have hm := mem_listed he
    simp [go_sem, *] at hm
    subst hm
    exact evL_cell _ _ (fun h => h) (by show b < B; omega)
  clear hK K hB hcc
  try walk_nrm
  refine opsE_cons_k rfl (by rfl) (fun w => ?_) (fun d K hK => ?_)
  · simp [go_sem, events_max2, events_min2]
  go_simp
  refine hK _ ?_
  clear hK K
  try walk_nrm
  refine opsE_nil ?_
  simp only [Exit.then, Exit.inBlock, if_true, if_false, reduceIte]
  refine wpE_seq ?_
  refine wpE_seq ?_
  refine wpE_region ?_
  simp only [List.size_toArray, List.length_cons, List.length_nil, Nat.reduceAdd, Nat.zero_add, List.range, List.range.loop]
  refine opsE_cons_k rfl (by rfl) (fun w => ?_) (fun d K hK => ?_)
  · simp [go_sem, events_max2, events_min2]
  go_simp
  refine hK _ ?_
  clear hK K
  try walk_nrm
  refine opsE_nil ?_
  simp only [Exit.then, Exit.inBlock, if_true, if_false, reduceIte]
  refine wpE_block (wpE_loopL ?_)
  refine wpL_round ?_
  refine wpE_seq ?_
  refine wpE_seq ?_
  refine wpE_region ?_
  simp only [List.size_toArray, List.length_cons, List.length_nil, Nat.reduceAdd, Nat.zero_add, List.range, List.range.loop]
  refine opsE_cons_k rfl (by rfl) (fun w => ?_) (fun d K hK => ?_)
  · simp [go_sem, events_max2, events_min2]
  go_simp
  refine hK _ ?_
  clear hK K
  try walk_nrm
  refine opsE_cons_k rfl (by rfl) (fun w => ?_) (fun d K hK => ?_)
  · simp [go_sem, events_max2, events_min2]
  go_simp
  refine hK _ ?_
  clear hK K
  try walk_nrm
  refine opsE_cons_k rfl (by rfl) (fun w => ?_) (fun d K hK => ?_)
  · simp [go_sem, events_max2, events_min2]
  go_simp
  refine hK _ ?_
  clear hK K
  try walk_nrm
  refine opsE_cons_k rfl (by rfl) (fun w => ?_) (fun d K hK => ?_)
  · simp [go_sem, events_max2, events_min2]
  go_simp
  refine hK _ ?_
  clear hK K
  try walk_nrm
  refine opsE_nil ?_
  simp only [Exit.then, Exit.inBlock, if_true, if_false, reduceIte]
  refine wpE_cond (t := true) rfl ?_
  simp only [if_true, if_false, Bool.false_eq_true, ↓reduceIte]
  refine wpE_skip ?_
  simp only [Exit.then, Exit.inBlock, if_true, if_false, reduceIte]
  refine wpE_seq ?_
  refine wpE_block ?_
  refine wpE_region ?_
  simp only [List.size_toArray, List.length_cons, List.length_nil, Nat.reduceAdd, Nat.zero_add, List.range, List.range.loop]
  refine opsE_cons_k rfl (by rfl) (fun w => ?_) (fun d K hK => ?_)
  · simp [go_sem, events_max2, events_min2]
  go_simp
  refine hK _ ?_
  clear hK K
  try walk_nrm
  refine opsE_cons_k rfl (by rfl) (fun w => ?_) (fun d K hK => ?_)
  · simp [go_sem, events_max2, events_min2]
  go_simp
  refine hK _ ?_
  clear hK K
  try walk_nrm
  refine opsE_cons_k rfl (by rfl) (fun w => ?_) (fun d K hK => ?_)
  · simp [go_sem, events_max2, events_min2]
  go_simp
  refine hK _ ?_
  clear hK K
  try walk_nrm
  refine opsE_cons_k rfl (by rfl) (fun w => ?_) (fun d K hK => ?_)
  · simp [go_sem, *]
  go_simp
  refine hK _ ?_
  clear hK K
  try walk_nrm
  refine opsE_cons_ev (w.heap.size) rfl (by rfl) (fun B hB d K hK => ?_)
  have hcc := c1 d
  go_simp
  refine hK _ (fun e he => ?_) ?_
  · have hm := mem_listed he
    simp [go_sem, *] at hm
    subst hm
    exact evL_cell _ _ (fun h => h) (by show b < B; omega)
  clear hK K hB hcc
  try walk_nrm
  refine opsE_cons_k rfl (by rfl) (fun w => ?_) (fun d K hK => ?_)
  · simp [go_sem, events_max2, events_min2]
  go_simp
  refine hK _ ?_
  clear hK K
  try walk_nrm
  refine opsE_cons_k rfl (by rfl) (fun w => ?_) (fun d K hK => ?_)
  · simp [go_sem, events_max2, events_min2]
  go_simp
  refine hK _ ?_
  clear hK K
  try walk_nrm
  refine opsE_nil ?_
  simp only [Exit.then, Exit.inBlock, if_true, if_false, reduceIte]
  refine wpE_region ?_
  simp only [List.size_toArray, List.length_cons, List.length_nil, Nat.reduceAdd, Nat.zero_add, List.range, List.range.loop]
  refine opsE_cons_k rfl (by rfl) (fun w => ?_) (fun d K hK => ?_)
  · simp [go_sem, events_max2, events_min2]
  go_simp
  refine hK _ ?_
  clear hK K
  try walk_nrm
  refine opsE_cons_k rfl (by rfl) (fun w => ?_) (fun d K hK => ?_)
  · simp [go_sem, events_max2, events_min2]
  go_simp
  refine hK _ ?_
  clear hK K
  try walk_nrm
  refine opsE_cons_k rfl (by rfl) (fun w => ?_) (fun d K hK => ?_)
  · simp [go_sem, events_max2, events_min2]
  go_simp
  refine hK _ ?_
  clear hK K
  try walk_nrm
  refine opsE_nil ?_
  simp only [Exit.then, Exit.inBlock, if_true, if_false, reduceIte]
  refine wpL_round ?_
  refine wpE_seq ?_
  refine wpE_seq ?_
  refine wpE_region ?_
  simp only [List.size_toArray, List.length_cons, List.length_nil, Nat.reduceAdd, Nat.zero_add, List.range, List.range.loop]
  refine opsE_cons_k rfl (by rfl) (fun w => ?_) (fun d K hK => ?_)
  · simp [go_sem, events_max2, events_min2]
  go_simp
  refine hK _ ?_
  clear hK K
  try walk_nrm
  refine opsE_cons_k rfl (by rfl) (fun w => ?_) (fun d K hK => ?_)
  · simp [go_sem, events_max2, events_min2]
  go_simp
  refine hK _ ?_
  clear hK K
  try walk_nrm
  refine opsE_cons_k rfl (by rfl) (fun w => ?_) (fun d K hK => ?_)
  · simp [go_sem, events_max2, events_min2]
  go_simp
  refine hK _ ?_
  clear hK K
  try walk_nrm
  refine opsE_cons_k rfl (by rfl) (fun w => ?_) (fun d K hK => ?_)
  · simp [go_sem, events_max2, events_min2]
  go_simp
  refine hK _ ?_
  clear hK K
  try walk_nrm
  refine opsE_nil ?_
  simp only [Exit.then, Exit.inBlock, if_true, if_false, reduceIte]
  refine wpE_cond (t := false) rfl ?_
  simp only [if_true, if_false, Bool.false_eq_true, ↓reduceIte]
  refine wpE_exit ?_
  simp only [Exit.then, Exit.inBlock, if_true, if_false, reduceIte]
  refine wpE_seq ?_
  refine wpE_region ?_
  simp only [List.size_toArray, List.length_cons, List.length_nil, Nat.reduceAdd, Nat.zero_add, List.range, List.range.loop]
  refine opsE_cons_k rfl (by rfl) (fun w => ?_) (fun d K hK => ?_)
  · simp [go_sem, events_max2, events_min2]
  go_simp
  refine hK _ ?_
  clear hK K
  try walk_nrm
  refine opsE_cons_k rfl (by rfl) (fun w => ?_) (fun d K hK => ?_)
  · simp [go_sem, events_max2, events_min2]
  go_simp
  refine hK _ ?_
  clear hK K
  try walk_nrm
  refine opsE_nil ?_
  simp only [Exit.then, Exit.inBlock, if_true, if_false, reduceIte]
  refine wpE_ret ?_
  exact ⟨rfl, _, resultsC_tmp (by rfl) _, rfl, rfl⟩
set_option maxRecDepth 100000 in
set_option maxHeartbeats 4000000 in
theorem even110_e {Fin : Value → World → Prop} {w : World} {b : Nat} (hb : b < w.heap.size) (h0 : w.cell? ⟨b, 0, none⟩ = some (.int .i64 100)) (h1 : w.cell? ⟨b, 1, none⟩ = some (.int .i64 110)) :
    CallsE Try.prog Fin 15 #[.slice (some ⟨b, 0, none⟩) 2 2, .int .i64 10] w fun r w' => r = .bool true ∧ ∃ d, w' = w.at d := by
  refine callsE_of_wpE Try.func15 (by rfl) rfl ?_
  simp only [Try.ntmps15, List.size_toArray, List.length_cons, List.length_nil, Nat.reduceAdd, Nat.reduceSub, Array.replicate_succ, Array.replicate_zero, List.push_toArray, List.append_toArray, List.nil_append, List.cons_append]
  have hp : ∀ w : World, CallsE Try.prog Fin 24 #[.int .i64 10] w fun r w' => r = .bool true ∧ Since AtRel w w' := fun w => callsE_of_callsC 0 fun B _ => (percentok_cy (termsL B) (x := 10) (by omega)).imp fun n h => h w
  have hs : ∀ (x : Int) (w : World), 0 ≤ x → x ≤ 100000 → CallsE Try.prog Fin 23 #[.int .i64 x] w fun r w' => r = .bool true ∧ Since AtRel w w' := fun x w q1 q2 => callsE_of_callsC 0 fun B _ => (speedok_cy (termsL B) (x := x) ⟨q1, q2⟩).imp fun n h => h w
  have e1 : IntKind.i64.wrap 110 = 110 := IntWalk.i64_in _ (by omega)
  have e2 : IntKind.i64.wrap (110 * 100) = 11000 := IntWalk.i64_in _ (by omega)
  have e3 : IntKind.i64.wrap (100 * 110) = 11000 := IntWalk.i64_in _ (by omega)
  have e4 : IntKind.i64.wrap 11000 = 11000 := IntWalk.i64_in _ (by omega)
  have e5 : IntKind.i64.wrap 11000 = 11000 := IntWalk.i64_in _ (by omega)
  refine wpE_seq ?_
  refine wpE_region ?_
  simp only [List.size_toArray, List.length_cons, List.length_nil, Nat.reduceAdd, Nat.zero_add, List.range, List.range.loop]
  refine opsE_cons_k rfl (by rfl) (fun w => ?_) (fun d K hK => ?_)
  · simp [go_sem, events_max2, events_min2]
  go_simp
  refine hK _ ?_
  clear hK K
  try walk_nrm
  refine opsE_nil ?_
  simp only [Exit.then, Exit.inBlock, if_true, if_false, reduceIte]
  refine wpE_seq ?_
  refine wpE_seq ?_
  refine wpE_region ?_
  simp only [List.size_toArray, List.length_cons, List.length_nil, Nat.reduceAdd, Nat.zero_add, List.range, List.range.loop]
  refine opsE_cons_k rfl (by rfl) (fun w => ?_) (fun d K hK => ?_)
  · simp [go_sem, events_max2, events_min2]
  go_simp
  refine hK _ ?_
  clear hK K
  try walk_nrm
  refine opsE_cons_k rfl (by rfl) (fun w => ?_) (fun d K hK => ?_)
  · simp [go_sem, events_max2, events_min2]
  go_simp
  refine hK _ ?_
  clear hK K
  try walk_nrm
  refine opsE_cons_k rfl (by rfl) (fun w => ?_) (fun d K hK => ?_)
  · simp [go_sem, events_max2, events_min2]
  go_simp
  refine hK _ ?_
  clear hK K
  try walk_nrm
  refine opsE_cons_k rfl (by rfl) (fun w => ?_) (fun d K hK => ?_)
  · simp [go_sem, events_max2, events_min2]
  go_simp
  refine hK _ ?_
  clear hK K
  try walk_nrm
  refine opsE_cons_k rfl (by rfl) (fun w => ?_) (fun d K hK => ?_)
  · simp [go_sem, events_max2, events_min2]
  go_simp
  refine hK _ ?_
  clear hK K
  try walk_nrm
  refine opsE_cons_k rfl (by rfl) (fun w => ?_) (fun d K hK => ?_)
  · simp [go_sem, events_max2, events_min2]
  go_simp
  refine hK _ ?_
  clear hK K
  try walk_nrm
  refine opsE_cons_k rfl (by rfl) (fun w => ?_) (fun d K hK => ?_)
  · simp [go_sem, events_max2, events_min2]
  go_simp
  refine hK _ ?_
  clear hK K
  try walk_nrm
  refine opsE_cons_k rfl (by rfl) (fun w => ?_) (fun d K hK => ?_)
  · simp [go_sem, events_max2, events_min2]
  go_simp
  refine hK _ ?_
  clear hK K
  try walk_nrm
  refine opsE_cons_k rfl (by rfl) (fun w => ?_) (fun d K hK => ?_)
  · simp [go_sem, events_max2, events_min2]
  go_simp
  refine hK _ ?_
  clear hK K
  try walk_nrm
  refine opsE_cons_k rfl (by rfl) (fun w => ?_) (fun d K hK => ?_)
  · simp [go_sem, events_max2, events_min2]
  go_simp
  refine hK _ ?_
  clear hK K
  try walk_nrm
  refine opsE_call rfl (by rfl) rfl (by walk_nrm) (hp _) ?_
  rintro u w' ⟨rfl, hd⟩
  obtain ⟨_, rfl⟩ := since_at hd
  try walk_nrm
  refine opsE_cons_k rfl (by rfl) (fun w => ?_) (fun d K hK => ?_)
  · simp [go_sem, events_max2, events_min2]
  go_simp
  refine hK _ ?_
  clear hK K
  try walk_nrm
  refine opsE_cons_k rfl (by rfl) (fun w => ?_) (fun d K hK => ?_)
  · simp [go_sem, events_max2, events_min2]
  go_simp
  refine hK _ ?_
  clear hK K
  try walk_nrm
  refine opsE_nil ?_
  simp only [Exit.then, Exit.inBlock, if_true, if_false, reduceIte]
  refine wpE_cond (t := false) rfl ?_
  simp only [if_true, if_false, Bool.false_eq_true, ↓reduceIte]
  refine wpE_skip ?_
  simp only [Exit.then, Exit.inBlock, if_true, if_false, reduceIte]
  refine wpE_seq ?_
  refine wpE_region ?_
  simp only [List.size_toArray, List.length_cons, List.length_nil, Nat.reduceAdd, Nat.zero_add, List.range, List.range.loop]
  refine opsE_cons_k rfl (by rfl) (fun w => ?_) (fun d K hK => ?_)
  · simp [go_sem, events_max2, events_min2]
  go_simp
  refine hK _ ?_
  clear hK K
  try walk_nrm
  refine opsE_call rfl (by rfl) rfl (by walk_nrm) (min110_e hb h0 h1) ?_
  rintro u w' ⟨rfl, rfl⟩
  try walk_nrm
  refine opsE_cons_k rfl (by rfl) (fun w => ?_) (fun d K hK => ?_)
  · simp [go_sem, events_max2, events_min2]
  go_simp
  refine hK _ ?_
  clear hK K
  try walk_nrm
  refine opsE_call rfl (by rfl) rfl (by walk_nrm) (max110_e hb h0 h1) ?_
  rintro u w' ⟨rfl, rfl⟩
  try walk_nrm
  refine opsE_cons_k rfl (by rfl) (fun w => ?_) (fun d K hK => ?_)
  · simp [go_sem, events_max2, events_min2]
  go_simp
  refine hK _ ?_
  clear hK K
  try walk_nrm
  refine opsE_cons_k rfl (by rfl) (fun w => ?_) (fun d K hK => ?_)
  · simp [go_sem, events_max2, events_min2]
  go_simp
  refine hK _ ?_
  clear hK K
  try walk_nrm
  refine opsE_nil ?_
  simp only [Exit.then, Exit.inBlock, if_true, if_false, reduceIte]
  refine wpE_seq ?_
  refine wpE_region ?_
  simp only [List.size_toArray, List.length_cons, List.length_nil, Nat.reduceAdd, Nat.zero_add, List.range, List.range.loop]
  refine opsE_cons_k rfl (by rfl) (fun w => ?_) (fun d K hK => ?_)
  · simp [go_sem, events_max2, events_min2]
  go_simp
  refine hK _ ?_
  clear hK K
  try walk_nrm
  refine opsE_call rfl (by rfl) rfl (by walk_nrm) (hs 100 _ (by omega) (by omega)) ?_
  rintro u w' ⟨rfl, hd⟩
  obtain ⟨_, rfl⟩ := since_at hd
  try walk_nrm
  refine opsE_cons_k rfl (by rfl) (fun w => ?_) (fun d K hK => ?_)
  · simp [go_sem, events_max2, events_min2]
  go_simp
  refine hK _ ?_
  clear hK K
  try walk_nrm
  refine opsE_cons_k rfl (by rfl) (fun w => ?_) (fun d K hK => ?_)
  · simp [go_sem, events_max2, events_min2]
  go_simp
  refine hK _ ?_
  clear hK K
  try walk_nrm
  refine opsE_call rfl (by rfl) rfl (by walk_nrm) (hs 110 _ (by omega) (by omega)) ?_
  rintro u w' ⟨rfl, hd⟩
  obtain ⟨_, rfl⟩ := since_at hd
  try walk_nrm
  refine opsE_cons_k rfl (by rfl) (fun w => ?_) (fun d K hK => ?_)
  · simp [go_sem, events_max2, events_min2]
  go_simp
  refine hK _ ?_
  clear hK K
  try walk_nrm
  refine opsE_cons_k rfl (by rfl) (fun w => ?_) (fun d K hK => ?_)
  · simp [go_sem, events_max2, events_min2]
  go_simp
  refine hK _ ?_
  clear hK K
  try walk_nrm
  refine opsE_cons_k rfl (by rfl) (fun w => ?_) (fun d K hK => ?_)
  · simp [go_sem, events_max2, events_min2]
  go_simp
  refine hK _ ?_
  clear hK K
  try walk_nrm
  refine opsE_cons_k rfl (by rfl) (fun w => ?_) (fun d K hK => ?_)
  · simp [go_sem, events_max2, events_min2]
  go_simp
  refine hK _ ?_
  clear hK K
  try walk_nrm
  refine opsE_cons_k rfl (by rfl) (fun w => ?_) (fun d K hK => ?_)
  · simp [go_sem, events_max2, events_min2]
  go_simp
  refine hK _ ?_
  clear hK K
  try walk_nrm
  refine opsE_cons_k rfl (by rfl) (fun w => ?_) (fun d K hK => ?_)
  · simp [go_sem, events_max2, events_min2]
  go_simp
  refine hK _ ?_
  clear hK K
  try walk_nrm
  refine opsE_cons_k rfl (by rfl) (fun w => ?_) (fun d K hK => ?_)
  · simp [go_sem, events_max2, events_min2]
  go_simp
  refine hK _ ?_
  clear hK K
  try walk_nrm
  refine opsE_cons_k rfl (by rfl) (fun w => ?_) (fun d K hK => ?_)
  · simp [go_sem, events_max2, events_min2]
  go_simp
  refine hK _ ?_
  clear hK K
  try walk_nrm
  refine opsE_cons_k rfl (by rfl) (fun w => ?_) (fun d K hK => ?_)
  · simp [go_sem, events_max2, events_min2]
  go_simp
  refine hK _ ?_
  clear hK K
  try walk_nrm
  refine opsE_cons_k rfl (by rfl) (fun w => ?_) (fun d K hK => ?_)
  · simp [go_sem, events_max2, events_min2]
  go_simp
  refine hK _ ?_
  clear hK K
  try walk_nrm
  refine opsE_cons_k rfl (by rfl) (fun w => ?_) (fun d K hK => ?_)
  · simp [go_sem, events_max2, events_min2]
  go_simp
  refine hK _ ?_
  clear hK K
  try walk_nrm
  refine opsE_nil ?_
  simp only [Exit.then, Exit.inBlock, if_true, if_false, reduceIte]
  refine wpE_ret ?_
  exact ⟨rfl, _, resultsC_tmp (by rfl) _, rfl, _, rfl⟩
set_option maxRecDepth 100000 in
set_option maxHeartbeats 4000000 in
theorem even111_e {Fin : Value → World → Prop} {w : World} {b : Nat} (hb : b < w.heap.size) (h0 : w.cell? ⟨b, 0, none⟩ = some (.int .i64 100)) (h1 : w.cell? ⟨b, 1, none⟩ = some (.int .i64 111)) :
    CallsE Try.prog Fin 15 #[.slice (some ⟨b, 0, none⟩) 2 2, .int .i64 10] w fun r w' => r = .bool false ∧ ∃ d, w' = w.at d := by
  refine callsE_of_wpE Try.func15 (by rfl) rfl ?_
  simp only [Try.ntmps15, List.size_toArray, List.length_cons, List.length_nil, Nat.reduceAdd, Nat.reduceSub, Array.replicate_succ, Array.replicate_zero, List.push_toArray, List.append_toArray, List.nil_append, List.cons_append]
  have hp : ∀ w : World, CallsE Try.prog Fin 24 #[.int .i64 10] w fun r w' => r = .bool true ∧ Since AtRel w w' := fun w => callsE_of_callsC 0 fun B _ => (percentok_cy (termsL B) (x := 10) (by omega)).imp fun n h => h w
  have hs : ∀ (x : Int) (w : World), 0 ≤ x → x ≤ 100000 → CallsE Try.prog Fin 23 #[.int .i64 x] w fun r w' => r = .bool true ∧ Since AtRel w w' := fun x w q1 q2 => callsE_of_callsC 0 fun B _ => (speedok_cy (termsL B) (x := x) ⟨q1, q2⟩).imp fun n h => h w
  have e1 : IntKind.i64.wrap 110 = 110 := IntWalk.i64_in _ (by omega)
  have e2 : IntKind.i64.wrap (111 * 100) = 11100 := IntWalk.i64_in _ (by omega)
  have e3 : IntKind.i64.wrap (100 * 110) = 11000 := IntWalk.i64_in _ (by omega)
  have e4 : IntKind.i64.wrap 11100 = 11100 := IntWalk.i64_in _ (by omega)
  have e5 : IntKind.i64.wrap 11000 = 11000 := IntWalk.i64_in _ (by omega)
  refine wpE_seq ?_
  refine wpE_region ?_
  simp only [List.size_toArray, List.length_cons, List.length_nil, Nat.reduceAdd, Nat.zero_add, List.range, List.range.loop]
  refine opsE_cons_k rfl (by rfl) (fun w => ?_) (fun d K hK => ?_)
  · simp [go_sem, events_max2, events_min2]
  go_simp
  refine hK _ ?_
  clear hK K
  try walk_nrm
  refine opsE_nil ?_
  simp only [Exit.then, Exit.inBlock, if_true, if_false, reduceIte]
  refine wpE_seq ?_
  refine wpE_seq ?_
  refine wpE_region ?_
  simp only [List.size_toArray, List.length_cons, List.length_nil, Nat.reduceAdd, Nat.zero_add, List.range, List.range.loop]
  refine opsE_cons_k rfl (by rfl) (fun w => ?_) (fun d K hK => ?_)
  · simp [go_sem, events_max2, events_min2]
  go_simp
  refine hK _ ?_
  clear hK K
  try walk_nrm
  refine opsE_cons_k rfl (by rfl) (fun w => ?_) (fun d K hK => ?_)
  · simp [go_sem, events_max2, events_min2]
  go_simp
  refine hK _ ?_
  clear hK K
  try walk_nrm
  refine opsE_cons_k rfl (by rfl) (fun w => ?_) (fun d K hK => ?_)
  · simp [go_sem, events_max2, events_min2]
  go_simp
  refine hK _ ?_
  clear hK K
  try walk_nrm
  refine opsE_cons_k rfl (by rfl) (fun w => ?_) (fun d K hK => ?_)
  · simp [go_sem, events_max2, events_min2]
  go_simp
  refine hK _ ?_
  clear hK K
  try walk_nrm
  refine opsE_cons_k rfl (by rfl) (fun w => ?_) (fun d K hK => ?_)
  · simp [go_sem, events_max2, events_min2]
  go_simp
  refine hK _ ?_
  clear hK K
  try walk_nrm
  refine opsE_cons_k rfl (by rfl) (fun w => ?_) (fun d K hK => ?_)
  · simp [go_sem, events_max2, events_min2]
  go_simp
  refine hK _ ?_
  clear hK K
  try walk_nrm
  refine opsE_cons_k rfl (by rfl) (fun w => ?_) (fun d K hK => ?_)
  · simp [go_sem, events_max2, events_min2]
  go_simp
  refine hK _ ?_
  clear hK K
  try walk_nrm
  refine opsE_cons_k rfl (by rfl) (fun w => ?_) (fun d K hK => ?_)
  · simp [go_sem, events_max2, events_min2]
  go_simp
  refine hK _ ?_
  clear hK K
  try walk_nrm
  refine opsE_cons_k rfl (by rfl) (fun w => ?_) (fun d K hK => ?_)
  · simp [go_sem, events_max2, events_min2]
  go_simp
  refine hK _ ?_
  clear hK K
  try walk_nrm
  refine opsE_cons_k rfl (by rfl) (fun w => ?_) (fun d K hK => ?_)
  · simp [go_sem, events_max2, events_min2]
  go_simp
  refine hK _ ?_
  clear hK K
  try walk_nrm
  refine opsE_call rfl (by rfl) rfl (by walk_nrm) (hp _) ?_
  rintro u w' ⟨rfl, hd⟩
  obtain ⟨_, rfl⟩ := since_at hd
  try walk_nrm
  refine opsE_cons_k rfl (by rfl) (fun w => ?_) (fun d K hK => ?_)
  · simp [go_sem, events_max2, events_min2]
  go_simp
  refine hK _ ?_
  clear hK K
  try walk_nrm
  refine opsE_cons_k rfl (by rfl) (fun w => ?_) (fun d K hK => ?_)
  · simp [go_sem, events_max2, events_min2]
  go_simp
  refine hK _ ?_
  clear hK K
  try walk_nrm
  refine opsE_nil ?_
  simp only [Exit.then, Exit.inBlock, if_true, if_false, reduceIte]
  refine wpE_cond (t := false) rfl ?_
  simp only [if_true, if_false, Bool.false_eq_true, ↓reduceIte]
  refine wpE_skip ?_
  simp only [Exit.then, Exit.inBlock, if_true, if_false, reduceIte]
  refine wpE_seq ?_
  refine wpE_region ?_
  simp only [List.size_toArray, List.length_cons, List.length_nil, Nat.reduceAdd, Nat.zero_add, List.range, List.range.loop]
  refine opsE_cons_k rfl (by rfl) (fun w => ?_) (fun d K hK => ?_)
  · simp [go_sem, events_max2, events_min2]
  go_simp
  refine hK _ ?_
  clear hK K
  try walk_nrm
  refine opsE_call rfl (by rfl) rfl (by walk_nrm) (min111_e hb h0 h1) ?_
  rintro u w' ⟨rfl, rfl⟩
  try walk_nrm
  refine opsE_cons_k rfl (by rfl) (fun w => ?_) (fun d K hK => ?_)
  · simp [go_sem, events_max2, events_min2]
  go_simp
  refine hK _ ?_
  clear hK K
  try walk_nrm
  refine opsE_call rfl (by rfl) rfl (by walk_nrm) (max111_e hb h0 h1) ?_
  rintro u w' ⟨rfl, rfl⟩
  try walk_nrm
  refine opsE_cons_k rfl (by rfl) (fun w => ?_) (fun d K hK => ?_)
  · simp [go_sem, events_max2, events_min2]
  go_simp
  refine hK _ ?_
  clear hK K
  try walk_nrm
  refine opsE_cons_k rfl (by rfl) (fun w => ?_) (fun d K hK => ?_)
  · simp [go_sem, events_max2, events_min2]
  go_simp
  refine hK _ ?_
  clear hK K
  try walk_nrm
  refine opsE_nil ?_
  simp only [Exit.then, Exit.inBlock, if_true, if_false, reduceIte]
  refine wpE_seq ?_
  refine wpE_region ?_
  simp only [List.size_toArray, List.length_cons, List.length_nil, Nat.reduceAdd, Nat.zero_add, List.range, List.range.loop]
  refine opsE_cons_k rfl (by rfl) (fun w => ?_) (fun d K hK => ?_)
  · simp [go_sem, events_max2, events_min2]
  go_simp
  refine hK _ ?_
  clear hK K
  try walk_nrm
  refine opsE_call rfl (by rfl) rfl (by walk_nrm) (hs 100 _ (by omega) (by omega)) ?_
  rintro u w' ⟨rfl, hd⟩
  obtain ⟨_, rfl⟩ := since_at hd
  try walk_nrm
  refine opsE_cons_k rfl (by rfl) (fun w => ?_) (fun d K hK => ?_)
  · simp [go_sem, events_max2, events_min2]
  go_simp
  refine hK _ ?_
  clear hK K
  try walk_nrm
  refine opsE_cons_k rfl (by rfl) (fun w => ?_) (fun d K hK => ?_)
  · simp [go_sem, events_max2, events_min2]
  go_simp
  refine hK _ ?_
  clear hK K
  try walk_nrm
  refine opsE_call rfl (by rfl) rfl (by walk_nrm) (hs 111 _ (by omega) (by omega)) ?_
  rintro u w' ⟨rfl, hd⟩
  obtain ⟨_, rfl⟩ := since_at hd
  try walk_nrm
  refine opsE_cons_k rfl (by rfl) (fun w => ?_) (fun d K hK => ?_)
  · simp [go_sem, events_max2, events_min2]
  go_simp
  refine hK _ ?_
  clear hK K
  try walk_nrm
  refine opsE_cons_k rfl (by rfl) (fun w => ?_) (fun d K hK => ?_)
  · simp [go_sem, events_max2, events_min2]
  go_simp
  refine hK _ ?_
  clear hK K
  try walk_nrm
  refine opsE_cons_k rfl (by rfl) (fun w => ?_) (fun d K hK => ?_)
  · simp [go_sem, events_max2, events_min2]
  go_simp
  refine hK _ ?_
  clear hK K
  try walk_nrm
  refine opsE_cons_k rfl (by rfl) (fun w => ?_) (fun d K hK => ?_)
  · simp [go_sem, events_max2, events_min2]
  go_simp
  refine hK _ ?_
  clear hK K
  try walk_nrm
  refine opsE_cons_k rfl (by rfl) (fun w => ?_) (fun d K hK => ?_)
  · simp [go_sem, events_max2, events_min2]
  go_simp
  refine hK _ ?_
  clear hK K
  try walk_nrm
  refine opsE_cons_k rfl (by rfl) (fun w => ?_) (fun d K hK => ?_)
  · simp [go_sem, events_max2, events_min2]
  go_simp
  refine hK _ ?_
  clear hK K
  try walk_nrm
  refine opsE_cons_k rfl (by rfl) (fun w => ?_) (fun d K hK => ?_)
  · simp [go_sem, events_max2, events_min2]
  go_simp
  refine hK _ ?_
  clear hK K
  try walk_nrm
  refine opsE_cons_k rfl (by rfl) (fun w => ?_) (fun d K hK => ?_)
  · simp [go_sem, events_max2, events_min2]
  go_simp
  refine hK _ ?_
  clear hK K
  try walk_nrm
  refine opsE_cons_k rfl (by rfl) (fun w => ?_) (fun d K hK => ?_)
  · simp [go_sem, events_max2, events_min2]
  go_simp
  refine hK _ ?_
  clear hK K
  try walk_nrm
  refine opsE_cons_k rfl (by rfl) (fun w => ?_) (fun d K hK => ?_)
  · simp [go_sem, events_max2, events_min2]
  go_simp
  refine hK _ ?_
  clear hK K
  try walk_nrm
  refine opsE_cons_k rfl (by rfl) (fun w => ?_) (fun d K hK => ?_)
  · simp [go_sem, events_max2, events_min2]
  go_simp
  refine hK _ ?_
  clear hK K
  try walk_nrm
  refine opsE_nil ?_
  simp only [Exit.then, Exit.inBlock, if_true, if_false, reduceIte]
  refine wpE_ret ?_
  exact ⟨rfl, _, resultsC_tmp (by rfl) _, rfl, _, rfl⟩
set_option maxRecDepth 100000 in
set_option maxHeartbeats 4000000 in
theorem big_e {Fin : Value → World → Prop} {w : World} (a : Option Addr) (n cap : Nat) (t : Bool) (ht : decide (1048576 < (n : Int)) = t) : CallsE Try.prog Fin 9 #[.slice a n cap] w fun r w' => r = .bool t ∧ w' = w := by
  refine callsE_of_wpE Try.func9 (by rfl) rfl ?_
  simp only [Try.ntmps9, List.size_toArray, List.length_cons, List.length_nil, Nat.reduceAdd, Nat.reduceSub, Array.replicate_succ, Array.replicate_zero, List.push_toArray, List.append_toArray, List.nil_append, List.cons_append]
  cases t
  · refine wpE_seq ?_
    refine wpE_region ?_
    simp only [List.size_toArray, List.length_cons, List.length_nil, Nat.reduceAdd, Nat.zero_add, List.range, List.range.loop]
    refine opsE_cons_k rfl (by rfl) (fun w => ?_) (fun d K hK => ?_)
    · simp [go_sem, events_max2, events_min2]
    go_simp
    refine hK _ ?_
    clear hK K
    try walk_nrm
    refine opsE_nil ?_
    simp only [Exit.then, Exit.inBlock, if_true, if_false, reduceIte]
    refine wpE_seq ?_
    refine wpE_region ?_
    simp only [List.size_toArray, List.length_cons, List.length_nil, Nat.reduceAdd, Nat.zero_add, List.range, List.range.loop]
    refine opsE_cons_k rfl (by rfl) (fun w => ?_) (fun d K hK => ?_)
    · simp [go_sem, events_max2, events_min2]
    go_simp
    refine hK _ ?_
    clear hK K
    try walk_nrm
    refine opsE_cons_k rfl (by rfl) (fun w => ?_) (fun d K hK => ?_)
    · simp [go_sem, events_max2, events_min2]
    go_simp
    refine hK _ ?_
    clear hK K
    try walk_nrm
    refine opsE_cons_k rfl (by rfl) (fun w => ?_) (fun d K hK => ?_)
    · simp [go_sem, events_max2, events_min2]
    go_simp
    refine hK _ ?_
    clear hK K
    try walk_nrm
    refine opsE_cons_k rfl (by rfl) (fun w => ?_) (fun d K hK => ?_)
    · simp [go_sem, events_max2, events_min2]
    go_simp
    refine hK _ ?_
    clear hK K
    try walk_nrm
    refine opsE_nil ?_
    simp only [Exit.then, Exit.inBlock, if_true, if_false, reduceIte]
    refine wpE_ret ?_
    exact ⟨rfl, _, resultsC_tmp (by rfl) _, rfl, rfl⟩
  · refine wpE_seq ?_
    refine wpE_region ?_
    simp only [List.size_toArray, List.length_cons, List.length_nil, Nat.reduceAdd, Nat.zero_add, List.range, List.range.loop]
    refine opsE_cons_k rfl (by rfl) (fun w => ?_) (fun d K hK => ?_)
    · simp [go_sem, events_max2, events_min2]
    go_simp
    refine hK _ ?_
    clear hK K
    try walk_nrm
    refine opsE_nil ?_
    simp only [Exit.then, Exit.inBlock, if_true, if_false, reduceIte]
    refine wpE_seq ?_
    refine wpE_region ?_
    simp only [List.size_toArray, List.length_cons, List.length_nil, Nat.reduceAdd, Nat.zero_add, List.range, List.range.loop]
    refine opsE_cons_k rfl (by rfl) (fun w => ?_) (fun d K hK => ?_)
    · simp [go_sem, events_max2, events_min2]
    go_simp
    refine hK _ ?_
    clear hK K
    try walk_nrm
    refine opsE_cons_k rfl (by rfl) (fun w => ?_) (fun d K hK => ?_)
    · simp [go_sem, events_max2, events_min2]
    go_simp
    refine hK _ ?_
    clear hK K
    try walk_nrm
    refine opsE_cons_k rfl (by rfl) (fun w => ?_) (fun d K hK => ?_)
    · simp [go_sem, events_max2, events_min2]
    go_simp
    refine hK _ ?_
    clear hK K
    try walk_nrm
    refine opsE_cons_k rfl (by rfl) (fun w => ?_) (fun d K hK => ?_)
    · simp [go_sem, events_max2, events_min2]
    go_simp
    refine hK _ ?_
    clear hK K
    try walk_nrm
    refine opsE_nil ?_
    simp only [Exit.then, Exit.inBlock, if_true, if_false, reduceIte]
    refine wpE_ret ?_
    exact ⟨rfl, _, resultsC_tmp (by rfl) _, rfl, rfl⟩
set_option maxRecDepth 100000 in
set_option maxHeartbeats 4000000 in
theorem at0_e {Fin : Value → World → Prop} {w : World} {v : Value} {n : Nat} (hC : Code w w.heap.size v n) (hn : n ≤ 1048576) : ∃ x : Int, 0 ≤ x ∧ x ≤ 255 ∧ ∀ w', (∃ d, w' = w.at d) → CallsE Try.prog Fin 10 #[v, .int .i64 0] w' fun r w'' => r = .int .i64 x ∧ w'' = w' := by
  rcases hC with ⟨rfl, a, cap, rfl⟩ | ⟨b, off, cap, rfl, hm, hbB, hcell⟩
  · refine ⟨0, by omega, by omega, ?_⟩
    rintro w' ⟨d0, rfl⟩
    refine callsE_of_wpE Try.func10 (by rfl) rfl ?_
    simp only [Try.ntmps10, List.size_toArray, List.length_cons, List.length_nil, Nat.reduceAdd, Nat.reduceSub, Array.replicate_succ, Array.replicate_zero, List.push_toArray, List.append_toArray, List.nil_append, List.cons_append]
    refine wpE_seq ?_
    refine wpE_region ?_
    simp only [List.size_toArray, List.length_cons, List.length_nil, Nat.reduceAdd, Nat.zero_add, List.range, List.range.loop]
    refine opsE_cons_k rfl (by rfl) (fun w => ?_) (fun d K hK => ?_)
    · simp [go_sem, events_max2, events_min2]
    go_simp
    refine hK _ ?_
    clear hK K
    try walk_nrm
    refine opsE_nil ?_
    simp only [Exit.then, Exit.inBlock, if_true, if_false, reduceIte]
    refine wpE_seq ?_
    refine wpE_seq ?_
    refine wpE_region ?_
    simp only [List.size_toArray, List.length_cons, List.length_nil, Nat.reduceAdd, Nat.zero_add, List.range, List.range.loop]
    refine opsE_cons_k rfl (by rfl) (fun w => ?_) (fun d K hK => ?_)
    · simp [go_sem, events_max2, events_min2]
    go_simp
    refine hK _ ?_
    clear hK K
    try walk_nrm
    refine opsE_cons_k rfl (by rfl) (fun w => ?_) (fun d K hK => ?_)
    · simp [go_sem, events_max2, events_min2]
    go_simp
    refine hK _ ?_
    clear hK K
    try walk_nrm
    refine opsE_cons_k rfl (by rfl) (fun w => ?_) (fun d K hK => ?_)
    · simp [go_sem, events_max2, events_min2]
    go_simp
    refine hK _ ?_
    clear hK K
    try walk_nrm
    refine opsE_nil ?_
    simp only [Exit.then, Exit.inBlock, if_true, if_false, reduceIte]
    refine wpE_cond (t := true) rfl ?_
    simp only [if_true, if_false, Bool.false_eq_true, ↓reduceIte]
    refine wpE_seq ?_
    refine wpE_region ?_
    simp only [List.size_toArray, List.length_cons, List.length_nil, Nat.reduceAdd, Nat.zero_add, List.range, List.range.loop]
    refine opsE_cons_k rfl (by rfl) (fun w => ?_) (fun d K hK => ?_)
    · simp [go_sem, events_max2, events_min2]
    go_simp
    refine hK _ ?_
    clear hK K
    try walk_nrm
    refine opsE_nil ?_
    simp only [Exit.then, Exit.inBlock, if_true, if_false, reduceIte]
    refine wpE_ret ?_
    exact ⟨rfl, _, resultsC_tmp (by rfl) _, rfl, rfl⟩
  · unfold maxLen at hm
    by_cases h0 : n = 0
    · subst h0
      refine ⟨0, by omega, by omega, ?_⟩
      rintro w' ⟨d0, rfl⟩
      refine callsE_of_wpE Try.func10 (by rfl) rfl ?_
      simp only [Try.ntmps10, List.size_toArray, List.length_cons, List.length_nil, Nat.reduceAdd, Nat.reduceSub, Array.replicate_succ, Array.replicate_zero, List.push_toArray, List.append_toArray, List.nil_append, List.cons_append]
      refine wpE_seq ?_
      refine wpE_region ?_
      simp only [List.size_toArray, List.length_cons, List.length_nil, Nat.reduceAdd, Nat.zero_add, List.range, List.range.loop]
      refine opsE_cons_k rfl (by rfl) (fun w => ?_) (fun d K hK => ?_)
      · simp [go_sem, events_max2, events_min2]
      go_simp
      refine hK _ ?_
      clear hK K
      try walk_nrm
      refine opsE_nil ?_
      simp only [Exit.then, Exit.inBlock, if_true, if_false, reduceIte]
      refine wpE_seq ?_
      refine wpE_seq ?_
      refine wpE_region ?_
      simp only [List.size_toArray, List.length_cons, List.length_nil, Nat.reduceAdd, Nat.zero_add, List.range, List.range.loop]
      refine opsE_cons_k rfl (by rfl) (fun w => ?_) (fun d K hK => ?_)
      · simp [go_sem, events_max2, events_min2]
      go_simp
      refine hK _ ?_
      clear hK K
      try walk_nrm
      refine opsE_cons_k rfl (by rfl) (fun w => ?_) (fun d K hK => ?_)
      · simp [go_sem, events_max2, events_min2]
      go_simp
      refine hK _ ?_
      clear hK K
      try walk_nrm
      refine opsE_cons_k rfl (by rfl) (fun w => ?_) (fun d K hK => ?_)
      · simp [go_sem, events_max2, events_min2]
      go_simp
      refine hK _ ?_
      clear hK K
      try walk_nrm
      refine opsE_nil ?_
      simp only [Exit.then, Exit.inBlock, if_true, if_false, reduceIte]
      refine wpE_cond (t := true) rfl ?_
      simp only [if_true, if_false, Bool.false_eq_true, ↓reduceIte]
      refine wpE_seq ?_
      refine wpE_region ?_
      simp only [List.size_toArray, List.length_cons, List.length_nil, Nat.reduceAdd, Nat.zero_add, List.range, List.range.loop]
      refine opsE_cons_k rfl (by rfl) (fun w => ?_) (fun d K hK => ?_)
      · simp [go_sem, events_max2, events_min2]
      go_simp
      refine hK _ ?_
      clear hK K
      try walk_nrm
      refine opsE_nil ?_
      simp only [Exit.then, Exit.inBlock, if_true, if_false, reduceIte]
      refine wpE_ret ?_
      exact ⟨rfl, _, resultsC_tmp (by rfl) _, rfl, rfl⟩
    · obtain ⟨z, hz0, hz1, hz⟩ := hcell (1 % n) (Nat.mod_lt _ (by omega))
      clear hcell
      refine ⟨z, hz0, hz1, ?_⟩
      rintro w' ⟨d0, rfl⟩
      refine callsE_of_wpE Try.func10 (by rfl) rfl ?_
      simp only [Try.ntmps10, List.size_toArray, List.length_cons, List.length_nil, Nat.reduceAdd, Nat.reduceSub, Array.replicate_succ, Array.replicate_zero, List.push_toArray, List.append_toArray, List.nil_append, List.cons_append]
      have h0' : ((n : Int) == 0) = false := by simpa using h0
      have hnz : ¬ (n : Int) = 0 := by omega
      have em : IntKind.i64.wrap 0 = 0 := IntWalk.i64_in _ (by omega)
      have em1 : IntKind.i64.wrap 1 = 1 := IntWalk.i64_in _ (by omega)
      have ht : (1 : Int).tmod (n : Int) = ((1 % n : Nat) : Int) := rfl
      obtain ⟨J, hJ⟩ : ∃ J, 1 % n = J := ⟨_, rfl⟩
      have hJn : J < n := by rw [← hJ]; exact Nat.mod_lt _ (by omega)
      rw [hJ] at ht hz
      have eJ : IntKind.i64.wrap (J : Int) = (J : Int) := IntWalk.i64_in _ (by omega)
      have hJi : (J : Int) < (n : Int) := by omega
      have hJ0 : (0 : Int) ≤ (J : Int) := by omega
      have hzd : ∀ d, ((w.at d0).at d).cell? ⟨b, off + J, none⟩ = some (.int .u8 z) := fun _ => hz
      have ez : IntKind.i64.wrap z = z := IntWalk.i64_in _ (by omega)
      clear hJ hz
      refine wpE_seq ?_
      refine wpE_region ?_
      simp only [List.size_toArray, List.length_cons, List.length_nil, Nat.reduceAdd, Nat.zero_add, List.range, List.range.loop]
      refine opsE_cons_k rfl (by rfl) (fun w => ?_) (fun d K hK => ?_)
      · simp [go_sem, events_max2, events_min2]
      go_simp
      refine hK _ ?_
      clear hK K
      try walk_nrm
      refine opsE_nil ?_
      simp only [Exit.then, Exit.inBlock, if_true, if_false, reduceIte]
      refine wpE_seq ?_
      refine wpE_seq ?_
      refine wpE_region ?_
      simp only [List.size_toArray, List.length_cons, List.length_nil, Nat.reduceAdd, Nat.zero_add, List.range, List.range.loop]
      refine opsE_cons_k rfl (by rfl) (fun w => ?_) (fun d K hK => ?_)
      · simp [go_sem, events_max2, events_min2]
      go_simp
      refine hK _ ?_
      clear hK K
      try walk_nrm
      refine opsE_cons_k rfl (by rfl) (fun w => ?_) (fun d K hK => ?_)
      · simp [go_sem, events_max2, events_min2]
      go_simp
      refine hK _ ?_
      clear hK K
      try walk_nrm
      refine opsE_cons_k rfl (by rfl) (fun w => ?_) (fun d K hK => ?_)
      · simp [go_sem, *]
      go_simp
      refine hK _ ?_
      clear hK K
      try walk_nrm
      refine opsE_nil ?_
      simp only [Exit.then, Exit.inBlock, if_true, if_false, reduceIte]
      refine wpE_cond (t := false) rfl ?_
      simp only [if_true, if_false, Bool.false_eq_true, ↓reduceIte]
      refine wpE_skip ?_
      simp only [Exit.then, Exit.inBlock, if_true, if_false, reduceIte]
      refine wpE_seq ?_
      refine wpE_region ?_
      simp only [List.size_toArray, List.length_cons, List.length_nil, Nat.reduceAdd, Nat.zero_add, List.range, List.range.loop]
      refine opsE_cons_k rfl (by rfl) (fun w => ?_) (fun d K hK => ?_)
      · simp [go_sem, events_max2, events_min2]
      go_simp
      refine hK _ ?_
      clear hK K
      try walk_nrm
      refine opsE_cons_k rfl (by rfl) (fun w => ?_) (fun d K hK => ?_)
      · simp [go_sem, events_max2, events_min2]
      go_simp
      refine hK _ ?_
      clear hK K
      try walk_nrm
      refine opsE_cons_k rfl (by rfl) (fun w => ?_) (fun d K hK => ?_)
      · simp [go_sem, *]
      go_simp
      refine hK _ ?_
      clear hK K
      try walk_nrm
      refine opsE_cons_k rfl (by rfl) (fun w => ?_) (fun d K hK => ?_)
      · simp [go_sem, *]
      go_simp
      refine hK _ ?_
      clear hK K
      try walk_nrm
      refine opsE_cons_k rfl (by rfl) (fun w => ?_) (fun d K hK => ?_)
      · simp [go_sem, events_max2, events_min2]
      go_simp
      refine hK _ ?_
      clear hK K
      try walk_nrm
      refine opsE_cons_k rfl (by rfl) (fun w => ?_) (fun d K hK => ?_)
      · simp [go_sem, events_max2, events_min2]
      go_simp
      refine hK _ ?_
      clear hK K
      try walk_nrm
      refine opsE_cons_k rfl (by rfl) (fun w => ?_) (fun d K hK => ?_)
      · simp [go_sem, *]
      go_simp
      refine hK _ ?_
      clear hK K
      try walk_nrm
      refine opsE_cons_k rfl (by rfl) (fun w => ?_) (fun d K hK => ?_)
      · simp [go_sem, *]
      go_simp
      refine hK _ ?_
      clear hK K
      try walk_nrm
      refine opsE_cons_ev ((w.at d0).heap.size) rfl (by rfl) (fun B hB d K hK => ?_)
      have hcc := hzd d
      go_simp
      refine hK _ (fun e he => ?_) ?_
      · have hm := mem_listed he
        simp [go_sem, *] at hm
        subst hm
        exact evL_cell _ _ (fun h => h) (by have : (w.at d0).heap.size = w.heap.size := rfl; show b < B; omega)
      clear hK K hB hcc
      try walk_nrm
      refine opsE_cons_k rfl (by rfl) (fun w => ?_) (fun d K hK => ?_)
      · simp [go_sem, *]
      go_simp
      refine hK _ ?_
      clear hK K
      try walk_nrm
      refine opsE_cons_k rfl (by rfl) (fun w => ?_) (fun d K hK => ?_)
      · simp [go_sem, events_max2, events_min2]
      go_simp
      refine hK _ ?_
      clear hK K
      try walk_nrm
      refine opsE_nil ?_
      simp only [Exit.then, Exit.inBlock, if_true, if_false, reduceIte]
      refine wpE_ret ?_
      exact ⟨rfl, _, resultsC_tmp (by rfl) _, rfl, rfl⟩
set_option maxRecDepth 100000 in
set_option maxHeartbeats 4000000 in
theorem at1_e {Fin : Value → World → Prop} {w : World} {v : Value} {n : Nat} (hC : Code w w.heap.size v n) (hn : n ≤ 1048576) : ∃ x : Int, 0 ≤ x ∧ x ≤ 255 ∧ ∀ w', (∃ d, w' = w.at d) → CallsE Try.prog Fin 10 #[v, .int .i64 1] w' fun r w'' => r = .int .i64 x ∧ w'' = w' := by
  rcases hC with ⟨rfl, a, cap, rfl⟩ | ⟨b, off, cap, rfl, hm, hbB, hcell⟩
  · refine ⟨0, by omega, by omega, ?_⟩
    rintro w' ⟨d0, rfl⟩
    refine callsE_of_wpE Try.func10 (by rfl) rfl ?_
    simp only [Try.ntmps10, List.size_toArray, List.length_cons, List.length_nil, Nat.reduceAdd, Nat.reduceSub, Array.replicate_succ, Array.replicate_zero, List.push_toArray, List.append_toArray, List.nil_append, List.cons_append]
    refine wpE_seq ?_
    refine wpE_region ?_
    simp only [List.size_toArray, List.length_cons, List.length_nil, Nat.reduceAdd, Nat.zero_add, List.range, List.range.loop]
    refine opsE_cons_k rfl (by rfl) (fun w => ?_) (fun d K hK => ?_)
    · simp [go_sem, events_max2, events_min2]
    go_simp
    refine hK _ ?_
    clear hK K
    try walk_nrm
    refine opsE_nil ?_
    simp only [Exit.then, Exit.inBlock, if_true, if_false, reduceIte]
    refine wpE_seq ?_
    refine wpE_seq ?_
    refine wpE_region ?_
    simp only [List.size_toArray, List.length_cons, List.length_nil, Nat.reduceAdd, Nat.zero_add, List.range, List.range.loop]
    refine opsE_cons_k rfl (by rfl) (fun w => ?_) (fun d K hK => ?_)
    · simp [go_sem, events_max2, events_min2]
    go_simp
    refine hK _ ?_
    clear hK K
    try walk_nrm
    refine opsE_cons_k rfl (by rfl) (fun w => ?_) (fun d K hK => ?_)
    · simp [go_sem, events_max2, events_min2]
    go_simp
    refine hK _ ?_
    clear hK K
    try walk_nrm
    refine opsE_cons_k rfl (by rfl) (fun w => ?_) (fun d K hK => ?_)
    · simp [go_sem, events_max2, events_min2]
    go_simp
    refine hK _ ?_
    clear hK K
    try walk_nrm
    refine opsE_nil ?_
    simp only [Exit.then, Exit.inBlock, if_true, if_false, reduceIte]
    refine wpE_cond (t := true) rfl ?_
    simp only [if_true, if_false, Bool.false_eq_true, ↓reduceIte]
    refine wpE_seq ?_
    refine wpE_region ?_
    simp only [List.size_toArray, List.length_cons, List.length_nil, Nat.reduceAdd, Nat.zero_add, List.range, List.range.loop]
    refine opsE_cons_k rfl (by rfl) (fun w => ?_) (fun d K hK => ?_)
    · simp [go_sem, events_max2, events_min2]
    go_simp
    refine hK _ ?_
    clear hK K
    try walk_nrm
    refine opsE_nil ?_
    simp only [Exit.then, Exit.inBlock, if_true, if_false, reduceIte]
    refine wpE_ret ?_
    exact ⟨rfl, _, resultsC_tmp (by rfl) _, rfl, rfl⟩
  · unfold maxLen at hm
    by_cases h0 : n = 0
    · subst h0
      refine ⟨0, by omega, by omega, ?_⟩
      rintro w' ⟨d0, rfl⟩
      refine callsE_of_wpE Try.func10 (by rfl) rfl ?_
      simp only [Try.ntmps10, List.size_toArray, List.length_cons, List.length_nil, Nat.reduceAdd, Nat.reduceSub, Array.replicate_succ, Array.replicate_zero, List.push_toArray, List.append_toArray, List.nil_append, List.cons_append]
      refine wpE_seq ?_
      refine wpE_region ?_
      simp only [List.size_toArray, List.length_cons, List.length_nil, Nat.reduceAdd, Nat.zero_add, List.range, List.range.loop]
      refine opsE_cons_k rfl (by rfl) (fun w => ?_) (fun d K hK => ?_)
      · simp [go_sem, events_max2, events_min2]
      go_simp
      refine hK _ ?_
      clear hK K
      try walk_nrm
      refine opsE_nil ?_
      simp only [Exit.then, Exit.inBlock, if_true, if_false, reduceIte]
      refine wpE_seq ?_
      refine wpE_seq ?_
      refine wpE_region ?_
      simp only [List.size_toArray, List.length_cons, List.length_nil, Nat.reduceAdd, Nat.zero_add, List.range, List.range.loop]
      refine opsE_cons_k rfl (by rfl) (fun w => ?_) (fun d K hK => ?_)
      · simp [go_sem, events_max2, events_min2]
      go_simp
      refine hK _ ?_
      clear hK K
      try walk_nrm
      refine opsE_cons_k rfl (by rfl) (fun w => ?_) (fun d K hK => ?_)
      · simp [go_sem, events_max2, events_min2]
      go_simp
      refine hK _ ?_
      clear hK K
      try walk_nrm
      refine opsE_cons_k rfl (by rfl) (fun w => ?_) (fun d K hK => ?_)
      · simp [go_sem, events_max2, events_min2]
      go_simp
      refine hK _ ?_
      clear hK K
      try walk_nrm
      refine opsE_nil ?_
      simp only [Exit.then, Exit.inBlock, if_true, if_false, reduceIte]
      refine wpE_cond (t := true) rfl ?_
      simp only [if_true, if_false, Bool.false_eq_true, ↓reduceIte]
      refine wpE_seq ?_
      refine wpE_region ?_
      simp only [List.size_toArray, List.length_cons, List.length_nil, Nat.reduceAdd, Nat.zero_add, List.range, List.range.loop]
      refine opsE_cons_k rfl (by rfl) (fun w => ?_) (fun d K hK => ?_)
      · simp [go_sem, events_max2, events_min2]
      go_simp
      refine hK _ ?_
      clear hK K
      try walk_nrm
      refine opsE_nil ?_
      simp only [Exit.then, Exit.inBlock, if_true, if_false, reduceIte]
      refine wpE_ret ?_
      exact ⟨rfl, _, resultsC_tmp (by rfl) _, rfl, rfl⟩
    · obtain ⟨z, hz0, hz1, hz⟩ := hcell (6 % n) (Nat.mod_lt _ (by omega))
      clear hcell
      refine ⟨z, hz0, hz1, ?_⟩
      rintro w' ⟨d0, rfl⟩
      refine callsE_of_wpE Try.func10 (by rfl) rfl ?_
      simp only [Try.ntmps10, List.size_toArray, List.length_cons, List.length_nil, Nat.reduceAdd, Nat.reduceSub, Array.replicate_succ, Array.replicate_zero, List.push_toArray, List.append_toArray, List.nil_append, List.cons_append]
      have h0' : ((n : Int) == 0) = false := by simpa using h0
      have hnz : ¬ (n : Int) = 0 := by omega
      have em : IntKind.i64.wrap 5 = 5 := IntWalk.i64_in _ (by omega)
      have em1 : IntKind.i64.wrap 6 = 6 := IntWalk.i64_in _ (by omega)
      have ht : (6 : Int).tmod (n : Int) = ((6 % n : Nat) : Int) := rfl
      obtain ⟨J, hJ⟩ : ∃ J, 6 % n = J := ⟨_, rfl⟩
      have hJn : J < n := by rw [← hJ]; exact Nat.mod_lt _ (by omega)
      rw [hJ] at ht hz
      have eJ : IntKind.i64.wrap (J : Int) = (J : Int) := IntWalk.i64_in _ (by omega)
      have hJi : (J : Int) < (n : Int) := by omega
      have hJ0 : (0 : Int) ≤ (J : Int) := by omega
      have hzd : ∀ d, ((w.at d0).at d).cell? ⟨b, off + J, none⟩ = some (.int .u8 z) := fun _ => hz
      have ez : IntKind.i64.wrap z = z := IntWalk.i64_in _ (by omega)
      clear hJ hz
      refine wpE_seq ?_
      refine wpE_region ?_
      simp only [List.size_toArray, List.length_cons, List.length_nil, Nat.reduceAdd, Nat.zero_add, List.range, List.range.loop]
      refine opsE_cons_k rfl (by rfl) (fun w => ?_) (fun d K hK => ?_)
      · simp [go_sem, events_max2, events_min2]
      go_simp
      refine hK _ ?_
      clear hK K
      try walk_nrm
      refine opsE_nil ?_
      simp only [Exit.then, Exit.inBlock, if_true, if_false, reduceIte]
      refine wpE_seq ?_
      refine wpE_seq ?_
      refine wpE_region ?_
      simp only [List.size_toArray, List.length_cons, List.length_nil, Nat.reduceAdd, Nat.zero_add, List.range, List.range.loop]
      refine opsE_cons_k rfl (by rfl) (fun w => ?_) (fun d K hK => ?_)
      · simp [go_sem, events_max2, events_min2]
      go_simp
      refine hK _ ?_
      clear hK K
      try walk_nrm
      refine opsE_cons_k rfl (by rfl) (fun w => ?_) (fun d K hK => ?_)
      · simp [go_sem, events_max2, events_min2]
      go_simp
      refine hK _ ?_
      clear hK K
      try walk_nrm
      refine opsE_cons_k rfl (by rfl) (fun w => ?_) (fun d K hK => ?_)
      · simp [go_sem, *]
      go_simp
      refine hK _ ?_
      clear hK K
      try walk_nrm
      refine opsE_nil ?_
      simp only [Exit.then, Exit.inBlock, if_true, if_false, reduceIte]
      refine wpE_cond (t := false) rfl ?_
      simp only [if_true, if_false, Bool.false_eq_true, ↓reduceIte]
      refine wpE_skip ?_
      simp only [Exit.then, Exit.inBlock, if_true, if_false, reduceIte]
      refine wpE_seq ?_
      refine wpE_region ?_
      simp only [List.size_toArray, List.length_cons, List.length_nil, Nat.reduceAdd, Nat.zero_add, List.range, List.range.loop]
      refine opsE_cons_k rfl (by rfl) (fun w => ?_) (fun d K hK => ?_)
      · simp [go_sem, events_max2, events_min2]
      go_simp
      refine hK _ ?_
      clear hK K
      try walk_nrm
      refine opsE_cons_k rfl (by rfl) (fun w => ?_) (fun d K hK => ?_)
      · simp [go_sem, events_max2, events_min2]
      go_simp
      refine hK _ ?_
      clear hK K
      try walk_nrm
      refine opsE_cons_k rfl (by rfl) (fun w => ?_) (fun d K hK => ?_)
      · simp [go_sem, *]
      go_simp
      refine hK _ ?_
      clear hK K
      try walk_nrm
      refine opsE_cons_k rfl (by rfl) (fun w => ?_) (fun d K hK => ?_)
      · simp [go_sem, *]
      go_simp
      refine hK _ ?_
      clear hK K
      try walk_nrm
      refine opsE_cons_k rfl (by rfl) (fun w => ?_) (fun d K hK => ?_)
      · simp [go_sem, events_max2, events_min2]
      go_simp
      refine hK _ ?_
      clear hK K
      try walk_nrm
      refine opsE_cons_k rfl (by rfl) (fun w => ?_) (fun d K hK => ?_)
      · simp [go_sem, events_max2, events_min2]
      go_simp
      refine hK _ ?_
      clear hK K
      try walk_nrm
      refine opsE_cons_k rfl (by rfl) (fun w => ?_) (fun d K hK => ?_)
      · simp [go_sem, *]
      go_simp
      refine hK _ ?_
      clear hK K
      try walk_nrm
      refine opsE_cons_k rfl (by rfl) (fun w => ?_) (fun d K hK => ?_)
      · simp [go_sem, *]
      go_simp
      refine hK _ ?_
      clear hK K
      try walk_nrm
      refine opsE_cons_ev ((w.at d0).heap.size) rfl (by rfl) (fun B hB d K hK => ?_)
      have hcc := hzd d
      go_simp
      refine hK _ (fun e he => ?_) ?_
      · have hm := mem_listed he
        simp [go_sem, *] at hm
        subst hm
        exact evL_cell _ _ (fun h => h) (by have : (w.at d0).heap.size = w.heap.size := rfl; show b < B; omega)
      clear hK K hB hcc
      try walk_nrm
      refine opsE_cons_k rfl (by rfl) (fun w => ?_) (fun d K hK => ?_)
      · simp [go_sem, *]
      go_simp
      refine hK _ ?_
      clear hK K
      try walk_nrm
      refine opsE_cons_k rfl (by rfl) (fun w => ?_) (fun d K hK => ?_)
      · simp [go_sem, events_max2, events_min2]
      go_simp
      refine hK _ ?_
      clear hK K
      try walk_nrm
      refine opsE_nil ?_
      simp only [Exit.then, Exit.inBlock, if_true, if_false, reduceIte]
      refine wpE_ret ?_
      exact ⟨rfl, _, resultsC_tmp (by rfl) _, rfl, rfl⟩
set_option maxRecDepth 100000 in
set_option maxHeartbeats 4000000 in
theorem at2_e {Fin : Value → World → Prop} {w : World} {v : Value} {n : Nat} (hC : Code w w.heap.size v n) (hn : n ≤ 1048576) : ∃ x : Int, 0 ≤ x ∧ x ≤ 255 ∧ ∀ w', (∃ d, w' = w.at d) → CallsE Try.prog Fin 10 #[v, .int .i64 2] w' fun r w'' => r = .int .i64 x ∧ w'' = w' := by
  rcases hC with ⟨rfl, a, cap, rfl⟩ | ⟨b, off, cap, rfl, hm, hbB, hcell⟩
  · refine ⟨0, by omega, by omega, ?_⟩
    rintro w' ⟨d0, rfl⟩
    refine callsE_of_wpE Try.func10 (by rfl) rfl ?_
    simp only [Try.ntmps10, List.size_toArray, List.length_cons, List.length_nil, Nat.reduceAdd, Nat.reduceSub, Array.replicate_succ, Array.replicate_zero, List.push_toArray, List.append_toArray, List.nil_append, List.cons_append]
    refine wpE_seq ?_
    refine wpE_region ?_
    simp only [List.size_toArray, List.length_cons, List.length_nil, Nat.reduceAdd, Nat.zero_add, List.range, List.range.loop]
    refine opsE_cons_k rfl (by rfl) (fun w => ?_) (fun d K hK => ?_)
    · simp [go_sem, events_max2, events_min2]
    go_simp
    refine hK _ ?_
    clear hK K
    try walk_nrm
    refine opsE_nil ?_
    simp only [Exit.then, Exit.inBlock, if_true, if_false, reduceIte]
    refine wpE_seq ?_
    refine wpE_seq ?_
    refine wpE_region ?_
    simp only [List.size_toArray, List.length_cons, List.length_nil, Nat.reduceAdd, Nat.zero_add, List.range, List.range.loop]
    refine opsE_cons_k rfl (by rfl) (fun w => ?_) (fun d K hK => ?_)
    · simp [go_sem, events_max2, events_min2]
    go_simp
    refine hK _ ?_
    clear hK K
    try walk_nrm
    refine opsE_cons_k rfl (by rfl) (fun w => ?_) (fun d K hK => ?_)
    · simp [go_sem, events_max2, events_min2]
    go_simp
    refine hK _ ?_
    clear hK K
    try walk_nrm
    refine opsE_cons_k rfl (by rfl) (fun w => ?_) (fun d K hK => ?_)
    · simp [go_sem, events_max2, events_min2]
    go_simp
    refine hK _ ?_
    clear hK K
    try walk_nrm
    refine opsE_nil ?_
    simp only [Exit.then, Exit.inBlock, if_true, if_false, reduceIte]
    refine wpE_cond (t := true) rfl ?_
    simp only [if_true, if_false, Bool.false_eq_true, ↓reduceIte]
    refine wpE_seq ?_
    refine wpE_region ?_
    simp only [List.size_toArray, List.length_cons, List.length_nil, Nat.reduceAdd, Nat.zero_add, List.range, List.range.loop]
    refine opsE_cons_k rfl (by rfl) (fun w => ?_) (fun d K hK => ?_)
    · simp [go_sem, events_max2, events_min2]
    go_simp
    refine hK _ ?_
    clear hK K
    try walk_nrm
    refine opsE_nil ?_
    simp only [Exit.then, Exit.inBlock, if_true, if_false, reduceIte]
    refine wpE_ret ?_
    exact ⟨rfl, _, resultsC_tmp (by rfl) _, rfl, rfl⟩
  · unfold maxLen at hm
    by_cases h0 : n = 0
    · subst h0
      refine ⟨0, by omega, by omega, ?_⟩
      rintro w' ⟨d0, rfl⟩
      refine callsE_of_wpE Try.func10 (by rfl) rfl ?_
      simp only [Try.ntmps10, List.size_toArray, List.length_cons, List.length_nil, Nat.reduceAdd, Nat.reduceSub, Array.replicate_succ, Array.replicate_zero, List.push_toArray, List.append_toArray, List.nil_append, List.cons_append]
      refine wpE_seq ?_
      refine wpE_region ?_
      simp only [List.size_toArray, List.length_cons, List.length_nil, Nat.reduceAdd, Nat.zero_add, List.range, List.range.loop]
      refine opsE_cons_k rfl (by rfl) (fun w => ?_) (fun d K hK => ?_)
      · simp [go_sem, events_max2, events_min2]
      go_simp
      refine hK _ ?_
      clear hK K
      try walk_nrm
      refine opsE_nil ?_
      simp only [Exit.then, Exit.inBlock, if_true, if_false, reduceIte]
      refine wpE_seq ?_
      refine wpE_seq ?_
      refine wpE_region ?_
      simp only [List.size_toArray, List.length_cons, List.length_nil, Nat.reduceAdd, Nat.zero_add, List.range, List.range.loop]
      refine opsE_cons_k rfl (by rfl) (fun w => ?_) (fun d K hK => ?_)
      · simp [go_sem, events_max2, events_min2]
      go_simp
      refine hK _ ?_
      clear hK K
      try walk_nrm
      refine opsE_cons_k rfl (by rfl) (fun w => ?_) (fun d K hK => ?_)
      · simp [go_sem, events_max2, events_min2]
      go_simp
      refine hK _ ?_
      clear hK K
      try walk_nrm
      refine opsE_cons_k rfl (by rfl) (fun w => ?_) (fun d K hK => ?_)
      · simp [go_sem, events_max2, events_min2]
      go_simp
      refine hK _ ?_
      clear hK K
      try walk_nrm
      refine opsE_nil ?_
      simp only [Exit.then, Exit.inBlock, if_true, if_false, reduceIte]
      refine wpE_cond (t := true) rfl ?_
      simp only [if_true, if_false, Bool.false_eq_true, ↓reduceIte]
      refine wpE_seq ?_
      refine wpE_region ?_
      simp only [List.size_toArray, List.length_cons, List.length_nil, Nat.reduceAdd, Nat.zero_add, List.range, List.range.loop]
      refine opsE_cons_k rfl (by rfl) (fun w => ?_) (fun d K hK => ?_)
      · simp [go_sem, events_max2, events_min2]
      go_simp
      refine hK _ ?_
      clear hK K
      try walk_nrm
      refine opsE_nil ?_
      simp only [Exit.then, Exit.inBlock, if_true, if_false, reduceIte]
      refine wpE_ret ?_
      exact ⟨rfl, _, resultsC_tmp (by rfl) _, rfl, rfl⟩
    · obtain ⟨z, hz0, hz1, hz⟩ := hcell (11 % n) (Nat.mod_lt _ (by omega))
      clear hcell
      refine ⟨z, hz0, hz1, ?_⟩
      rintro w' ⟨d0, rfl⟩
      refine callsE_of_wpE Try.func10 (by rfl) rfl ?_
      simp only [Try.ntmps10, List.size_toArray, List.length_cons, List.length_nil, Nat.reduceAdd, Nat.reduceSub, Array.replicate_succ, Array.replicate_zero, List.push_toArray, List.append_toArray, List.nil_append, List.cons_append]
      have h0' : ((n : Int) == 0) = false := by simpa using h0
      have hnz : ¬ (n : Int) = 0 := by omega
      have em : IntKind.i64.wrap 10 = 10 := IntWalk.i64_in _ (by omega)
      have em1 : IntKind.i64.wrap 11 = 11 := IntWalk.i64_in _ (by omega)
      have ht : (11 : Int).tmod (n : Int) = ((11 % n : Nat) : Int) := rfl
      obtain ⟨J, hJ⟩ : ∃ J, 11 % n = J := ⟨_, rfl⟩
      have hJn : J < n := by rw [← hJ]; exact Nat.mod_lt _ (by omega)
      rw [hJ] at ht hz
      have eJ : IntKind.i64.wrap (J : Int) = (J : Int) := IntWalk.i64_in _ (by omega)
      have hJi : (J : Int) < (n : Int) := by omega
      have hJ0 : (0 : Int) ≤ (J : Int) := by omega
      have hzd : ∀ d, ((w.at d0).at d).cell? ⟨b, off + J, none⟩ = some (.int .u8 z) := fun _ => hz
      have ez : IntKind.i64.wrap z = z := IntWalk.i64_in _ (by omega)
      clear hJ hz
      refine wpE_seq ?_
      refine wpE_region ?_
      simp only [List.size_toArray, List.length_cons, List.length_nil, Nat.reduceAdd, Nat.zero_add, List.range, List.range.loop]
      refine opsE_cons_k rfl (by rfl) (fun w => ?_) (fun d K hK => ?_)
      · simp [go_sem, events_max2, events_min2]
      go_simp
      refine hK _ ?_
      clear hK K
      try walk_nrm
      refine opsE_nil ?_
      simp only [Exit.then, Exit.inBlock, if_true, if_false, reduceIte]
      refine wpE_seq ?_
      refine wpE_seq ?_
      refine wpE_region ?_
      simp only [List.size_toArray, List.length_cons, List.length_nil, Nat.reduceAdd, Nat.zero_add, List.range, List.range.loop]
      refine opsE_cons_k rfl (by rfl) (fun w => ?_) (fun d K hK => ?_)
      · simp [go_sem, events_max2, events_min2]
      go_simp
      refine hK _ ?_
      clear hK K
      try walk_nrm
      refine opsE_cons_k rfl (by rfl) (fun w => ?_) (fun d K hK => ?_)
      · simp [go_sem, events_max2, events_min2]
      go_simp
      refine hK _ ?_
      clear hK K
      try walk_nrm
      refine opsE_cons_k rfl (by rfl) (fun w => ?_) (fun d K hK => ?_)
      · simp [go_sem, *]
      go_simp
      refine hK _ ?_
      clear hK K
      try walk_nrm
      refine opsE_nil ?_
      simp only [Exit.then, Exit.inBlock, if_true, if_false, reduceIte]
      refine wpE_cond (t := false) rfl ?_
      simp only [if_true, if_false, Bool.false_eq_true, ↓reduceIte]
      refine wpE_skip ?_
      simp only [Exit.then, Exit.inBlock, if_true, if_false, reduceIte]
      refine wpE_seq ?_
      refine wpE_region ?_
      simp only [List.size_toArray, List.length_cons, List.length_nil, Nat.reduceAdd, Nat.zero_add, List.range, List.range.loop]
      refine opsE_cons_k rfl (by rfl) (fun w => ?_) (fun d K hK => ?_)
      · simp [go_sem, events_max2, events_min2]
      go_simp
      refine hK _ ?_
      clear hK K
      try walk_nrm
      refine opsE_cons_k rfl (by rfl) (fun w => ?_) (fun d K hK => ?_)
      · simp [go_sem, events_max2, events_min2]
      go_simp
      refine hK _ ?_
      clear hK K
      try walk_nrm
      refine opsE_cons_k rfl (by rfl) (fun w => ?_) (fun d K hK => ?_)
      · simp [go_sem, *]
      go_simp
      refine hK _ ?_
      clear hK K
      try walk_nrm
      refine opsE_cons_k rfl (by rfl) (fun w => ?_) (fun d K hK => ?_)
      · simp [go_sem, *]
      go_simp
      refine hK _ ?_
      clear hK K
      try walk_nrm
      refine opsE_cons_k rfl (by rfl) (fun w => ?_) (fun d K hK => ?_)
      · simp [go_sem, events_max2, events_min2]
      go_simp
      refine hK _ ?_
      clear hK K
      try walk_nrm
      refine opsE_cons_k rfl (by rfl) (fun w => ?_) (fun d K hK => ?_)
      · simp [go_sem, events_max2, events_min2]
      go_simp
      refine hK _ ?_
      clear hK K
      try walk_nrm
      refine opsE_cons_k rfl (by rfl) (fun w => ?_) (fun d K hK => ?_)
      · simp [go_sem, *]
      go_simp
      refine hK _ ?_
      clear hK K
      try walk_nrm
      refine opsE_cons_k rfl (by rfl) (fun w => ?_) (fun d K hK => ?_)
      · simp [go_sem, *]
      go_simp
      refine hK _ ?_
      clear hK K
      try walk_nrm
      refine opsE_cons_ev ((w.at d0).heap.size) rfl (by rfl) (fun B hB d K hK => ?_)
      have hcc := hzd d
      go_simp
      refine hK _ (fun e he => ?_) ?_
      · have hm := mem_listed he
        simp [go_sem, *] at hm
        subst hm
        exact evL_cell _ _ (fun h => h) (by have : (w.at d0).heap.size = w.heap.size := rfl; show b < B; omega)
      clear hK K hB hcc
      try walk_nrm
      refine opsE_cons_k rfl (by rfl) (fun w => ?_) (fun d K hK => ?_)
      · simp [go_sem, *]
      go_simp
      refine hK _ ?_
      clear hK K
      try walk_nrm
      refine opsE_cons_k rfl (by rfl) (fun w => ?_) (fun d K hK => ?_)
      · simp [go_sem, events_max2, events_min2]
      go_simp
      refine hK _ ?_
      clear hK K
      try walk_nrm
      refine opsE_nil ?_
      simp only [Exit.then, Exit.inBlock, if_true, if_false, reduceIte]
      refine wpE_ret ?_
      exact ⟨rfl, _, resultsC_tmp (by rfl) _, rfl, rfl⟩
set_option maxRecDepth 100000 in
set_option maxHeartbeats 4000000 in
theorem at3_e {Fin : Value → World → Prop} {w : World} {v : Value} {n : Nat} (hC : Code w w.heap.size v n) (hn : n ≤ 1048576) : ∃ x : Int, 0 ≤ x ∧ x ≤ 255 ∧ ∀ w', (∃ d, w' = w.at d) → CallsE Try.prog Fin 10 #[v, .int .i64 3] w' fun r w'' => r = .int .i64 x ∧ w'' = w' := by
  rcases hC with ⟨rfl, a, cap, rfl⟩ | ⟨b, off, cap, rfl, hm, hbB, hcell⟩
  · refine ⟨0, by omega, by omega, ?_⟩
    rintro w' ⟨d0, rfl⟩
    refine callsE_of_wpE Try.func10 (by rfl) rfl ?_
    simp only [Try.ntmps10, List.size_toArray, List.length_cons, List.length_nil, Nat.reduceAdd, Nat.reduceSub, Array.replicate_succ, Array.replicate_zero, List.push_toArray, List.append_toArray, List.nil_append, List.cons_append]
    refine wpE_seq ?_
    refine wpE_region ?_
    simp only [List.size_toArray, List.length_cons, List.length_nil, Nat.reduceAdd, Nat.zero_add, List.range, List.range.loop]
    refine opsE_cons_k rfl (by rfl) (fun w => ?_) (fun d K hK => ?_)
    · simp [go_sem, events_max2, events_min2]
    go_simp
    refine hK _ ?_
    clear hK K
    try walk_nrm
    refine opsE_nil ?_
    simp only [Exit.then, Exit.inBlock, if_true, if_false, reduceIte]
    refine wpE_seq ?_
    refine wpE_seq ?_
    refine wpE_region ?_
    simp only [List.size_toArray, List.length_cons, List.length_nil, Nat.reduceAdd, Nat.zero_add, List.range, List.range.loop]
    refine opsE_cons_k rfl (by rfl) (fun w => ?_) (fun d K hK => ?_)
    · simp [go_sem, events_max2, events_min2]
    go_simp
    refine hK _ ?_
    clear hK K
    try walk_nrm
    refine opsE_cons_k rfl (by rfl) (fun w => ?_) (fun d K hK => ?_)
    · simp [go_sem, events_max2, events_min2]
    go_simp
    refine hK _ ?_
    clear hK K
    try walk_nrm
    refine opsE_cons_k rfl (by rfl) (fun w => ?_) (fun d K hK => ?_)
    · simp [go_sem, events_max2, events_min2]
    go_simp
    refine hK _ ?_
    clear hK K
    try walk_nrm
    refine opsE_nil ?_
    simp only [Exit.then, Exit.inBlock, if_true, if_false, reduceIte]
    refine wpE_cond (t := true) rfl ?_
    simp only [if_true, if_false, Bool.false_eq_true, ↓reduceIte]
    refine wpE_seq ?_
    refine wpE_region ?_
    simp only [List.size_toArray, List.length_cons, List.length_nil, Nat.reduceAdd, Nat.zero_add, List.range, List.range.loop]
    refine opsE_cons_k rfl (by rfl) (fun w => ?_) (fun d K hK => ?_)
    · simp [go_sem, events_max2, events_min2]
    go_simp
    refine hK _ ?_
    clear hK K
    try walk_nrm
    refine opsE_nil ?_
    simp only [Exit.then, Exit.inBlock, if_true, if_false, reduceIte]
    refine wpE_ret ?_
    exact ⟨rfl, _, resultsC_tmp (by rfl) _, rfl, rfl⟩
  · unfold maxLen at hm
    by_cases h0 : n = 0
    · subst h0
      refine ⟨0, by omega, by omega, ?_⟩
      rintro w' ⟨d0, rfl⟩
      refine callsE_of_wpE Try.func10 (by rfl) rfl ?_
      simp only [Try.ntmps10, List.size_toArray, List.length_cons, List.length_nil, Nat.reduceAdd, Nat.reduceSub, Array.replicate_succ, Array.replicate_zero, List.push_toArray, List.append_toArray, List.nil_append, List.cons_append]
      refine wpE_seq ?_
      refine wpE_region ?_
      simp only [List.size_toArray, List.length_cons, List.length_nil, Nat.reduceAdd, Nat.zero_add, List.range, List.range.loop]
      refine opsE_cons_k rfl (by rfl) (fun w => ?_) (fun d K hK => ?_)
      · simp [go_sem, events_max2, events_min2]
      go_simp
      refine hK _ ?_
      clear hK K
      try walk_nrm
      refine opsE_nil ?_
      simp only [Exit.then, Exit.inBlock, if_true, if_false, reduceIte]
      refine wpE_seq ?_
      refine wpE_seq ?_
      refine wpE_region ?_
      simp only [List.size_toArray, List.length_cons, List.length_nil, Nat.reduceAdd, Nat.zero_add, List.range, List.range.loop]
      refine opsE_cons_k rfl (by rfl) (fun w => ?_) (fun d K hK => ?_)
      · simp [go_sem, events_max2, events_min2]
      go_simp
      refine hK _ ?_
      clear hK K
      try walk_nrm
      refine opsE_cons_k rfl (by rfl) (fun w => ?_) (fun d K hK => ?_)
      · simp [go_sem, events_max2, events_min2]
      go_simp
      refine hK _ ?_
      clear hK K
      try walk_nrm
      refine opsE_cons_k rfl (by rfl) (fun w => ?_) (fun d K hK => ?_)
      · simp [go_sem, events_max2, events_min2]
      go_simp
      refine hK _ ?_
      clear hK K
      try walk_nrm
      refine opsE_nil ?_
      simp only [Exit.then, Exit.inBlock, if_true, if_false, reduceIte]
      refine wpE_cond (t := true) rfl ?_
      simp only [if_true, if_false, Bool.false_eq_true, ↓reduceIte]
      refine wpE_seq ?_
      refine wpE_region ?_
      simp only [List.size_toArray, List.length_cons, List.length_nil, Nat.reduceAdd, Nat.zero_add, List.range, List.range.loop]
      refine opsE_cons_k rfl (by rfl) (fun w => ?_) (fun d K hK => ?_)
      · simp [go_sem, events_max2, events_min2]
      go_simp
      refine hK _ ?_
      clear hK K
      try walk_nrm
      refine opsE_nil ?_
      simp only [Exit.then, Exit.inBlock, if_true, if_false, reduceIte]
      refine wpE_ret ?_
      exact ⟨rfl, _, resultsC_tmp (by rfl) _, rfl, rfl⟩
    · obtain ⟨z, hz0, hz1, hz⟩ := hcell (16 % n) (Nat.mod_lt _ (by omega))
      clear hcell
      refine ⟨z, hz0, hz1, ?_⟩
      rintro w' ⟨d0, rfl⟩
      refine callsE_of_wpE Try.func10 (by rfl) rfl ?_
      simp only [Try.ntmps10, List.size_toArray, List.length_cons, List.length_nil, Nat.reduceAdd, Nat.reduceSub, Array.replicate_succ, Array.replicate_zero, List.push_toArray, List.append_toArray, List.nil_append, List.cons_append]
      have h0' : ((n : Int) == 0) = false := by simpa using h0
      have hnz : ¬ (n : Int) = 0 := by omega
      have em : IntKind.i64.wrap 15 = 15 := IntWalk.i64_in _ (by omega)
      have em1 : IntKind.i64.wrap 16 = 16 := IntWalk.i64_in _ (by omega)
      have ht : (16 : Int).tmod (n : Int) = ((16 % n : Nat) : Int) := rfl
      obtain ⟨J, hJ⟩ : ∃ J, 16 % n = J := ⟨_, rfl⟩
      have hJn : J < n := by rw [← hJ]; exact Nat.mod_lt _ (by omega)
      rw [hJ] at ht hz
      have eJ : IntKind.i64.wrap (J : Int) = (J : Int) := IntWalk.i64_in _ (by omega)
      have hJi : (J : Int) < (n : Int) := by omega
      have hJ0 : (0 : Int) ≤ (J : Int) := by omega
      have hzd : ∀ d, ((w.at d0).at d).cell? ⟨b, off + J, none⟩ = some (.int .u8 z) := fun _ => hz
      have ez : IntKind.i64.wrap z = z := IntWalk.i64_in _ (by omega)
      clear hJ hz
      refine wpE_seq ?_
      refine wpE_region ?_
      simp only [List.size_toArray, List.length_cons, List.length_nil, Nat.reduceAdd, Nat.zero_add, List.range, List.range.loop]
      refine opsE_cons_k rfl (by rfl) (fun w => ?_) (fun d K hK => ?_)
      · simp [go_sem, events_max2, events_min2]
      go_simp
      refine hK _ ?_
      clear hK K
      try walk_nrm
      refine opsE_nil ?_
      simp only [Exit.then, Exit.inBlock, if_true, if_false, reduceIte]
      refine wpE_seq ?_
      refine wpE_seq ?_
      refine wpE_region ?_
      simp only [List.size_toArray, List.length_cons, List.length_nil, Nat.reduceAdd, Nat.zero_add, List.range, List.range.loop]
      refine opsE_cons_k rfl (by rfl) (fun w => ?_) (fun d K hK => ?_)
      · simp [go_sem, events_max2, events_min2]
      go_simp
      refine hK _ ?_
      clear hK K
      try walk_nrm
      refine opsE_cons_k rfl (by rfl) (fun w => ?_) (fun d K hK => ?_)
      · simp [go_sem, events_max2, events_min2]
      go_simp
      refine hK _ ?_
      clear hK K
      try walk_nrm
      refine opsE_cons_k rfl (by rfl) (fun w => ?_) (fun d K hK => ?_)
      · simp [go_sem, *]
      go_simp
      refine hK _ ?_
      clear hK K
      try walk_nrm
      refine opsE_nil ?_
      simp only [Exit.then, Exit.inBlock, if_true, if_false, reduceIte]
      refine wpE_cond (t := false) rfl ?_
      simp only [if_true, if_false, Bool.false_eq_true, ↓reduceIte]
      refine wpE_skip ?_
      simp only [Exit.then, Exit.inBlock, if_true, if_false, reduceIte]
      refine wpE_seq ?_
      refine wpE_region ?_
      simp only [List.size_toArray, List.length_cons, List.length_nil, Nat.reduceAdd, Nat.zero_add, List.range, List.range.loop]
      refine opsE_cons_k rfl (by rfl) (fun w => ?_) (fun d K hK => ?_)
      · simp [go_sem, events_max2, events_min2]
      go_simp
      refine hK _ ?_
      clear hK K
      try walk_nrm
      refine opsE_cons_k rfl (by rfl) (fun w => ?_) (fun d K hK => ?_)
      · simp [go_sem, events_max2, events_min2]
      go_simp
      refine hK _ ?_
      clear hK K
      try walk_nrm
      refine opsE_cons_k rfl (by rfl) (fun w => ?_) (fun d K hK => ?_)
      · simp [go_sem, *]
      go_simp
      refine hK _ ?_
      clear hK K
      try walk_nrm
      refine opsE_cons_k rfl (by rfl) (fun w => ?_) (fun d K hK => ?_)
      · simp [go_sem, *]
      go_simp
      refine hK _ ?_
      clear hK K
      try walk_nrm
      refine opsE_cons_k rfl (by rfl) (fun w => ?_) (fun d K hK => ?_)
      · simp [go_sem, events_max2, events_min2]
      go_simp
      refine hK _ ?_
      clear hK K
      try walk_nrm
      refine opsE_cons_k rfl (by rfl) (fun w => ?_) (fun d K hK => ?_)
      · simp [go_sem, events_max2, events_min2]
      go_simp
      refine hK _ ?_
      clear hK K
      try walk_nrm
      refine opsE_cons_k rfl (by rfl) (fun w => ?_) (fun d K hK => ?_)
      · simp [go_sem, *]
      go_simp
      refine hK _ ?_
      clear hK K
      try walk_nrm
      refine opsE_cons_k rfl (by rfl) (fun w => ?_) (fun d K hK => ?_)
      · simp [go_sem, *]
      go_simp
      refine hK _ ?_
      clear hK K
      try walk_nrm
      refine opsE_cons_ev ((w.at d0).heap.size) rfl (by rfl) (fun B hB d K hK => ?_)
      have hcc := hzd d
      go_simp
      refine hK _ (fun e he => ?_) ?_
      · have hm := mem_listed he
        simp [go_sem, *] at hm
        subst hm
        exact evL_cell _ _ (fun h => h) (by have : (w.at d0).heap.size = w.heap.size := rfl; show b < B; omega)
      clear hK K hB hcc
      try walk_nrm
      refine opsE_cons_k rfl (by rfl) (fun w => ?_) (fun d K hK => ?_)
      · simp [go_sem, *]
      go_simp
      refine hK _ ?_
      clear hK K
      try walk_nrm
      refine opsE_cons_k rfl (by rfl) (fun w => ?_) (fun d K hK => ?_)
      · simp [go_sem, events_max2, events_min2]
      go_simp
      refine hK _ ?_
      clear hK K
      try walk_nrm
      refine opsE_nil ?_
      simp only [Exit.then, Exit.inBlock, if_true, if_false, reduceIte]
      refine wpE_ret ?_
      exact ⟨rfl, _, resultsC_tmp (by rfl) _, rfl, rfl⟩
end Go.Proofs.Ytodpkfohihfndaa
