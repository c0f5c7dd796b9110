/- The runs of FnExactSpeedAfter and FnExactStepsUntilSteady: they end, by a return of true. No condition. Made by gen_govwalk.py. -/
import Derived.Test.YtodpkfohihfndaaGovFun
import Derived.Test.YtodpkfohihfndaaGovModel
set_option linter.unusedSimpArgs false
set_option linter.unusedVariables false
namespace Go.Proofs.Ytodpkfohihfndaa
open Go Go.Conc Go.RowKit

/-- What the runs leave. -/
def FinT (W : World) (v : Value) (w' : World) : Prop := v = .bool true ∧ Below W.heap.size W w'
theorem finT_at (W : World) : ∀ v w d, FinT W v w → FinT W v (w.at d) := fun _ _ d h => ⟨h.1, below_at h.2 d⟩
set_option maxRecDepth 100000 in
set_option maxHeartbeats 4000000 in
theorem exactafter_run (W : World) (v f b n : Int) : Ends Try.prog (FinT W) (G (Frame.enter Try.prog 5 #[.int .i64 v, .int .i64 f, .int .i64 b, .int .i64 n] .normal) []) W := by
  refine ends_entry Try.func5 rfl ?_ (fun a' w' v todo hd hr => ended_of Try.func5 (by kernel_rfl) hd hr) (finT_at W)
  simp only [Try.ntmps5, List.size_toArray, List.length_cons, List.length_nil, Nat.reduceAdd, Nat.reduceSub, Array.replicate_succ, Array.replicate_zero, List.push_toArray, List.append_toArray, List.nil_append, List.cons_append]
  have hI := fun w : World => iaft_e (Fin := FinT W) (w := w) v f b n
  have hS := fun w : World => aftS_e (Fin := FinT W) (w := w) v f b n
  generalize aftM v f b n = r at *
  refine wpE_seq ?_
  refine wpE_region ?_
  simp only [List.size_toArray, List.length_cons, List.length_nil, Nat.reduceAdd, Nat.zero_add, List.range, List.range.loop]
  refine opsE_cons_k rfl (by rfl) (fun w => ?_) (fun d K hK => ?_)
  · simp [go_sem]
  go_simp
  refine hK _ ?_
  clear hK K
  try walk_nrm
  refine opsE_nil ?_
  simp only [Exit.then, Exit.inBlock, if_true, if_false, reduceIte]
  refine wpE_seq ?_
  refine wpE_region ?_
  simp only [List.size_toArray, List.length_cons, List.length_nil, Nat.reduceAdd, Nat.zero_add, List.range, List.range.loop]
  refine opsE_cons_k rfl (by rfl) (fun w => ?_) (fun d K hK => ?_)
  · simp [go_sem]
  go_simp
  refine hK _ ?_
  clear hK K
  try walk_nrm
  refine opsE_cons_k rfl (by rfl) (fun w => ?_) (fun d K hK => ?_)
  · simp [go_sem]
  go_simp
  refine hK _ ?_
  clear hK K
  try walk_nrm
  refine opsE_cons_k rfl (by rfl) (fun w => ?_) (fun d K hK => ?_)
  · simp [go_sem]
  go_simp
  refine hK _ ?_
  clear hK K
  try walk_nrm
  refine opsE_cons_k rfl (by rfl) (fun w => ?_) (fun d K hK => ?_)
  · simp [go_sem]
  go_simp
  refine hK _ ?_
  clear hK K
  try walk_nrm
  refine opsE_call rfl (by rfl) rfl (by walk_nrm) (hS _) ?_
  rintro u w' ⟨rfl, d1, rfl⟩
  try walk_nrm
  refine opsE_cons_k rfl (by rfl) (fun w => ?_) (fun d K hK => ?_)
  · simp [go_sem]
  go_simp
  refine hK _ ?_
  clear hK K
  try walk_nrm
  refine opsE_nil ?_
  simp only [Exit.then, Exit.inBlock, if_true, if_false, reduceIte]
  refine wpE_seq ?_
  refine wpE_region ?_
  simp only [List.size_toArray, List.length_cons, List.length_nil, Nat.reduceAdd, Nat.zero_add, List.range, List.range.loop]
  refine opsE_cons_k rfl (by rfl) (fun w => ?_) (fun d K hK => ?_)
  · simp [go_sem]
  go_simp
  refine hK _ ?_
  clear hK K
  try walk_nrm
  refine opsE_cons_k rfl (by rfl) (fun w => ?_) (fun d K hK => ?_)
  · simp [go_sem]
  go_simp
  refine hK _ ?_
  clear hK K
  try walk_nrm
  refine opsE_cons_k rfl (by rfl) (fun w => ?_) (fun d K hK => ?_)
  · simp [go_sem]
  go_simp
  refine hK _ ?_
  clear hK K
  try walk_nrm
  refine opsE_cons_k rfl (by rfl) (fun w => ?_) (fun d K hK => ?_)
  · simp [go_sem]
  go_simp
  refine hK _ ?_
  clear hK K
  try walk_nrm
  refine opsE_call rfl (by rfl) rfl (by walk_nrm) (hI _) ?_
  rintro u w' ⟨rfl, hb⟩
  try walk_nrm
  refine opsE_cons_k rfl (by rfl) (fun w => ?_) (fun d K hK => ?_)
  · simp [go_sem]
  go_simp
  refine hK _ ?_
  clear hK K
  try walk_nrm
  refine opsE_nil ?_
  simp only [Exit.then, Exit.inBlock, if_true, if_false, reduceIte]
  have hb' : Below W.heap.size W w' := ⟨hb.os, hb.tape, hb.output, hb.size, hb.block⟩
  refine wpE_seq ?_
  refine wpE_seq ?_
  refine wpE_region ?_
  simp only [List.size_toArray, List.length_cons, List.length_nil, Nat.reduceAdd, Nat.zero_add, List.range, List.range.loop]
  refine opsE_cons_k rfl (by rfl) (fun w => ?_) (fun d K hK => ?_)
  · simp [go_sem]
  go_simp
  refine hK _ ?_
  clear hK K
  try walk_nrm
  refine opsE_cons_k rfl (by rfl) (fun w => ?_) (fun d K hK => ?_)
  · simp [go_sem]
  go_simp
  refine hK _ ?_
  clear hK K
  try walk_nrm
  refine opsE_cons_k rfl (by rfl) (fun w => ?_) (fun d K hK => ?_)
  · simp [go_sem]
  go_simp
  refine hK _ ?_
  clear hK K
  try walk_nrm
  refine opsE_nil ?_
  simp only [Exit.then, Exit.inBlock, if_true, if_false, reduceIte]
  refine wpE_cond (t := false) rfl ?_
  simp only [if_true, if_false, Bool.false_eq_true, ↓reduceIte]
  refine wpE_skip ?_
  simp only [Exit.then]
  refine wpE_seq ?_
  refine wpE_region ?_
  simp only [List.size_toArray, List.length_cons, List.length_nil, Nat.reduceAdd, Nat.zero_add, List.range, List.range.loop]
  refine opsE_cons_k rfl (by rfl) (fun w => ?_) (fun d K hK => ?_)
  · simp [go_sem]
  go_simp
  refine hK _ ?_
  clear hK K
  try walk_nrm
  refine opsE_nil ?_
  simp only [Exit.then, Exit.inBlock, if_true, if_false, reduceIte]
  refine wpE_ret ?_
  exact ⟨rfl, _, resultsC_tmp (by rfl) _, rfl, hb'⟩
set_option maxRecDepth 100000 in
set_option maxHeartbeats 4000000 in
theorem exactuntil_run (W : World) (v f b : Int) : Ends Try.prog (FinT W) (G (Frame.enter Try.prog 7 #[.int .i64 v, .int .i64 f, .int .i64 b] .normal) []) W := by
  refine ends_entry Try.func7 rfl ?_ (fun a' w' v todo hd hr => ended_of Try.func7 (by kernel_rfl) hd hr) (finT_at W)
  simp only [Try.ntmps7, List.size_toArray, List.length_cons, List.length_nil, Nat.reduceAdd, Nat.reduceSub, Array.replicate_succ, Array.replicate_zero, List.push_toArray, List.append_toArray, List.nil_append, List.cons_append]
  have hI := fun w : World => iunt_e (Fin := FinT W) (w := w) v f b
  have hS := fun w : World => untS_e (Fin := FinT W) (w := w) v f b
  generalize untM v f b = r at *
  refine wpE_seq ?_
  refine wpE_region ?_
  simp only [List.size_toArray, List.length_cons, List.length_nil, Nat.reduceAdd, Nat.zero_add, List.range, List.range.loop]
  refine opsE_cons_k rfl (by rfl) (fun w => ?_) (fun d K hK => ?_)
  · simp [go_sem]
  go_simp
  refine hK _ ?_
  clear hK K
  try walk_nrm
  refine opsE_nil ?_
  simp only [Exit.then, Exit.inBlock, if_true, if_false, reduceIte]
  refine wpE_seq ?_
  refine wpE_region ?_
  simp only [List.size_toArray, List.length_cons, List.length_nil, Nat.reduceAdd, Nat.zero_add, List.range, List.range.loop]
  refine opsE_cons_k rfl (by rfl) (fun w => ?_) (fun d K hK => ?_)
  · simp [go_sem]
  go_simp
  refine hK _ ?_
  clear hK K
  try walk_nrm
  refine opsE_cons_k rfl (by rfl) (fun w => ?_) (fun d K hK => ?_)
  · simp [go_sem]
  go_simp
  refine hK _ ?_
  clear hK K
  try walk_nrm
  refine opsE_cons_k rfl (by rfl) (fun w => ?_) (fun d K hK => ?_)
  · simp [go_sem]
  go_simp
  refine hK _ ?_
  clear hK K
  try walk_nrm
  refine opsE_call rfl (by rfl) rfl (by walk_nrm) (hS _) ?_
  rintro u w' ⟨rfl, d1, rfl⟩
  try walk_nrm
  refine opsE_cons_k rfl (by rfl) (fun w => ?_) (fun d K hK => ?_)
  · simp [go_sem]
  go_simp
  refine hK _ ?_
  clear hK K
  try walk_nrm
  refine opsE_nil ?_
  simp only [Exit.then, Exit.inBlock, if_true, if_false, reduceIte]
  refine wpE_seq ?_
  refine wpE_region ?_
  simp only [List.size_toArray, List.length_cons, List.length_nil, Nat.reduceAdd, Nat.zero_add, List.range, List.range.loop]
  refine opsE_cons_k rfl (by rfl) (fun w => ?_) (fun d K hK => ?_)
  · simp [go_sem]
  go_simp
  refine hK _ ?_
  clear hK K
  try walk_nrm
  refine opsE_cons_k rfl (by rfl) (fun w => ?_) (fun d K hK => ?_)
  · simp [go_sem]
  go_simp
  refine hK _ ?_
  clear hK K
  try walk_nrm
  refine opsE_cons_k rfl (by rfl) (fun w => ?_) (fun d K hK => ?_)
  · simp [go_sem]
  go_simp
  refine hK _ ?_
  clear hK K
  try walk_nrm
  refine opsE_call rfl (by rfl) rfl (by walk_nrm) (hI _) ?_
  rintro u w' ⟨rfl, hb⟩
  try walk_nrm
  refine opsE_cons_k rfl (by rfl) (fun w => ?_) (fun d K hK => ?_)
  · simp [go_sem]
  go_simp
  refine hK _ ?_
  clear hK K
  try walk_nrm
  refine opsE_nil ?_
  simp only [Exit.then, Exit.inBlock, if_true, if_false, reduceIte]
  have hb' : Below W.heap.size W w' := ⟨hb.os, hb.tape, hb.output, hb.size, hb.block⟩
  refine wpE_seq ?_
  refine wpE_seq ?_
  refine wpE_region ?_
  simp only [List.size_toArray, List.length_cons, List.length_nil, Nat.reduceAdd, Nat.zero_add, List.range, List.range.loop]
  refine opsE_cons_k rfl (by rfl) (fun w => ?_) (fun d K hK => ?_)
  · simp [go_sem]
  go_simp
  refine hK _ ?_
  clear hK K
  try walk_nrm
  refine opsE_cons_k rfl (by rfl) (fun w => ?_) (fun d K hK => ?_)
  · simp [go_sem]
  go_simp
  refine hK _ ?_
  clear hK K
  try walk_nrm
  refine opsE_cons_k rfl (by rfl) (fun w => ?_) (fun d K hK => ?_)
  · simp [go_sem]
  go_simp
  refine hK _ ?_
  clear hK K
  try walk_nrm
  refine opsE_nil ?_
  simp only [Exit.then, Exit.inBlock, if_true, if_false, reduceIte]
  refine wpE_cond (t := false) rfl ?_
  simp only [if_true, if_false, Bool.false_eq_true, ↓reduceIte]
  refine wpE_skip ?_
  simp only [Exit.then]
  refine wpE_seq ?_
  refine wpE_region ?_
  simp only [List.size_toArray, List.length_cons, List.length_nil, Nat.reduceAdd, Nat.zero_add, List.range, List.range.loop]
  refine opsE_cons_k rfl (by rfl) (fun w => ?_) (fun d K hK => ?_)
  · simp [go_sem]
  go_simp
  refine hK _ ?_
  clear hK K
  try walk_nrm
  refine opsE_nil ?_
  simp only [Exit.then, Exit.inBlock, if_true, if_false, reduceIte]
  refine wpE_ret ?_
  exact ⟨rfl, _, resultsC_tmp (by rfl) _, rfl, hb'⟩
end Go.Proofs.Ytodpkfohihfndaa
