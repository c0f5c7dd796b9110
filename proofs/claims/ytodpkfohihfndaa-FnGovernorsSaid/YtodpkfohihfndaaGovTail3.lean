/- The run of FnGovernors: its last statement. No condition. Made by gen_govmain.py. -/
import Derived.Test.YtodpkfohihfndaaGovLaws
import Derived.Test.YtodpkfohihfndaaGovEven
import Derived.Test.YtodpkfohihfndaaCells
set_option linter.unusedSimpArgs false
set_option linter.unusedVariables false
namespace Go.Proofs.Ytodpkfohihfndaa
open Go Go.Conc Go.RowKit

noncomputable def bodyG : Go.Code := Try.f3.body.getD .skip
theorem below_since {B : Nat} {a w w' : World} (h : Below B a w) (k : Since AtRel w w') : Below B a w' := by
  obtain ⟨d, rfl⟩ := since_at k
  exact below_at h d
/-- An array of 158 values, written out. -/
theorem arr158 (A : Array Value) (h : A.size = 158) : ∃ J : Nat → Value, (∀ i, J i = A.getD i undef) ∧ A = #[J 0, J 1, J 2, J 3, J 4, J 5, J 6, J 7, J 8, J 9, J 10, J 11, J 12, J 13, J 14, J 15, J 16, J 17, J 18, J 19, J 20, J 21, J 22, J 23, J 24, J 25, J 26, J 27, J 28, J 29, J 30, J 31, J 32, J 33, J 34, J 35, J 36, J 37, J 38, J 39, J 40, J 41, J 42, J 43, J 44, J 45, J 46, J 47, J 48, J 49, J 50, J 51, J 52, J 53, J 54, J 55, J 56, J 57, J 58, J 59, J 60, J 61, J 62, J 63, J 64, J 65, J 66, J 67, J 68, J 69, J 70, J 71, J 72, J 73, J 74, J 75, J 76, J 77, J 78, J 79, J 80, J 81, J 82, J 83, J 84, J 85, J 86, J 87, J 88, J 89, J 90, J 91, J 92, J 93, J 94, J 95, J 96, J 97, J 98, J 99, J 100, J 101, J 102, J 103, J 104, J 105, J 106, J 107, J 108, J 109, J 110, J 111, J 112, J 113, J 114, J 115, J 116, J 117, J 118, J 119, J 120, J 121, J 122, J 123, J 124, J 125, J 126, J 127, J 128, J 129, J 130, J 131, J 132, J 133, J 134, J 135, J 136, J 137, J 138, J 139, J 140, J 141, J 142, J 143, J 144, J 145, J 146, J 147, J 148, J 149, J 150, J 151, J 152, J 153, J 154, J 155, J 156, J 157] := by
  refine ⟨fun i => A.getD i undef, fun _ => rfl, ?_⟩
  have e : A = ((List.range 158).map (fun i => A.getD i undef)).toArray := by
    apply Array.ext
    · simp [h]
    · intro i h1 h2
      simp [h1]
  exact e
set_option maxRecDepth 1000000 in
set_option maxHeartbeats 16000000 in
theorem tail3 {W w : World} {f b v : Int} (hg : GovP v f b) (hbw : Below W.heap.size W w) (A : Array Value) (hA : A.size = 158) (a3 : A.getD 3 undef = .int .i64 f) (a4 : A.getD 4 undef = .int .i64 b) (a5 : A.getD 5 undef = .int .i64 v) :
    WpE Try.prog (FinT W) 3 (sq2 (sq2 (sq2 (sq2 (sq2 (sq2 (sq2 (sq2 (sq2 (sq2 (sq2 (sq2 bodyG)))))))))))) (bodyPostC Try.prog Try.f3 (FinT W)) ⟨A, []⟩ w := by
  obtain ⟨J, hJ, rfl⟩ := arr158 A hA
  clear hA
  rw [← hJ] at a3 a4 a5
  rw [a3, a4, a5]
  clear a3 a4 a5 hJ
  simp only [bodyG, Try.f3, Option.getD_some, sq1, sq2, inn, opz]
  have h0 : ∀ w : World, CallsE Try.prog (FinT W) 13 #[.int .i64 v, .int .i64 f, .int .i64 b, .int .i64 0] w fun r w' => r = .int .i64 v ∧ Below w.heap.size w w' := fun w => by
    have := iaft_e (Fin := (FinT W)) (w := w) v f b 0
    rwa [aftM_yes (govB_true.2 hg) (by omega)] at this
  have hS : ∀ w : World, CallsE Try.prog (FinT W) 11 #[.int .i64 10, .int .i64 10] w fun r w' => r = .int .i64 100 ∧ Since AtRel w w' := fun w => by
    have : CallsE Try.prog (FinT W) 11 #[.int .i64 10, .int .i64 10] w fun r w' => r = .int .i64 (stdM 10 10) ∧ Since AtRel w w' := callsE_of_callsC 0 fun B _ => (istd_c (main := true) (termsL B) 10 10).imp fun n h => h _
    rwa [std_ten] at this
  refine wpE_seq ?_
  refine wpE_region ?_
  simp only [List.size_toArray, List.length_cons, List.length_nil, Nat.reduceAdd, Nat.zero_add, List.range, List.range.loop]
  refine opsE_cons_k rfl (by rfl) (fun w => ?_) (fun d K hK => ?_)
  · simp [go_sem]
  go_simp
  refine hK _ ?_
  clear hK K
  try walk_nrm
  refine opsE_cons_k rfl (by rfl) (fun w => ?_) (fun d K hK => ?_)
  · simp [go_sem]
  go_simp
  refine hK _ ?_
  clear hK K
  try walk_nrm
  refine opsE_cons_k rfl (by rfl) (fun w => ?_) (fun d K hK => ?_)
  · simp [go_sem]
  go_simp
  refine hK _ ?_
  clear hK K
  try walk_nrm
  refine opsE_call rfl (by rfl) rfl (by walk_nrm) (h0 _) ?_
  rintro u w1 ⟨rfl, hb1⟩
  replace hbw := bstep hbw hb1
  clear hb1
  try walk_nrm
  refine opsE_cons_k rfl (by rfl) (fun w => ?_) (fun d K hK => ?_)
  · simp [go_sem]
  go_simp
  refine hK _ ?_
  clear hK K
  try walk_nrm
  refine opsE_cons_k rfl (by rfl) (fun w => ?_) (fun d K hK => ?_)
  · simp [go_sem]
  go_simp
  refine hK _ ?_
  clear hK K
  try walk_nrm
  refine opsE_cons_k rfl (by rfl) (fun w => ?_) (fun d K hK => ?_)
  · simp [go_sem]
  go_simp
  refine hK _ ?_
  clear hK K
  try walk_nrm
  refine opsE_call rfl (by rfl) rfl (by walk_nrm) (hS _) ?_
  rintro u w2 ⟨rfl, hs⟩
  replace hbw := below_since hbw hs
  clear hs
  try walk_nrm
  refine opsE_cons_k rfl (by rfl) (fun w => ?_) (fun d K hK => ?_)
  · simp [go_sem]
  go_simp
  refine hK _ ?_
  clear hK K
  try walk_nrm
  refine opsE_cons_k rfl (by rfl) (fun w => ?_) (fun d K hK => ?_)
  · simp [go_sem]
  go_simp
  refine hK _ ?_
  clear hK K
  try walk_nrm
  refine opsE_cons_k rfl (by rfl) (fun w => ?_) (fun d K hK => ?_)
  · simp [go_sem]
  go_simp
  refine hK _ ?_
  clear hK K
  try walk_nrm
  have q0 : (w2.alloc (.cells #[.int .i64 100, .int .i64 110] 3)).cell? ⟨w2.heap.size, 0, none⟩ = some (.int .i64 100) := World.cell?_alloc_new _ _ _ 0
  have q1 : (w2.alloc (.cells #[.int .i64 100, .int .i64 110] 3)).cell? ⟨w2.heap.size, 1, none⟩ = some (.int .i64 110) := World.cell?_alloc_new _ _ _ 1
  have q2 : w2.heap.size < (w2.alloc (.cells #[.int .i64 100, .int .i64 110] 3)).heap.size := by simp
  refine opsE_new (v := .slice (some ⟨w2.heap.size, 0, none⟩) 2 2) (ob := (.cells #[.int .i64 100, .int .i64 110] 3)) rfl (by rfl) (fun d => run_eq_of fun K hK => ?_) (fun w => ?_) ?_
  · go_simp
    exact hK
  · simp [go_sem]
  replace hbw := hbw.alloc hbw.size (.cells #[.int .i64 100, .int .i64 110] 3)
  try walk_nrm
  refine opsE_call rfl (by rfl) rfl (by walk_nrm) (even110_e q2 q0 q1) ?_
  rintro u w3 ⟨rfl, hs⟩
  replace hbw := below_since hbw (.inr hs)
  clear hs q0 q1 q2
  try walk_nrm
  refine opsE_cons_k rfl (by rfl) (fun w => ?_) (fun d K hK => ?_)
  · simp [go_sem]
  go_simp
  refine hK _ ?_
  clear hK K
  try walk_nrm
  refine opsE_cons_k rfl (by rfl) (fun w => ?_) (fun d K hK => ?_)
  · simp [go_sem]
  go_simp
  refine hK _ ?_
  clear hK K
  try walk_nrm
  have q0 : (w3.alloc (.cells #[.int .i64 100, .int .i64 111] 3)).cell? ⟨w3.heap.size, 0, none⟩ = some (.int .i64 100) := World.cell?_alloc_new _ _ _ 0
  have q1 : (w3.alloc (.cells #[.int .i64 100, .int .i64 111] 3)).cell? ⟨w3.heap.size, 1, none⟩ = some (.int .i64 111) := World.cell?_alloc_new _ _ _ 1
  have q2 : w3.heap.size < (w3.alloc (.cells #[.int .i64 100, .int .i64 111] 3)).heap.size := by simp
  refine opsE_new (v := .slice (some ⟨w3.heap.size, 0, none⟩) 2 2) (ob := (.cells #[.int .i64 100, .int .i64 111] 3)) rfl (by rfl) (fun d => run_eq_of fun K hK => ?_) (fun w => ?_) ?_
  · go_simp
    exact hK
  · simp [go_sem]
  replace hbw := hbw.alloc hbw.size (.cells #[.int .i64 100, .int .i64 111] 3)
  try walk_nrm
  refine opsE_call rfl (by rfl) rfl (by walk_nrm) (even111_e q2 q0 q1) ?_
  rintro u w4 ⟨rfl, hs⟩
  replace hbw := below_since hbw (.inr hs)
  clear hs q0 q1 q2
  try walk_nrm
  refine opsE_cons_k rfl (by rfl) (fun w => ?_) (fun d K hK => ?_)
  · simp [go_sem]
  go_simp
  refine hK _ ?_
  clear hK K
  try walk_nrm
  refine opsE_cons_k rfl (by rfl) (fun w => ?_) (fun d K hK => ?_)
  · simp [go_sem]
  go_simp
  refine hK _ ?_
  clear hK K
  try walk_nrm
  refine opsE_cons_k rfl (by rfl) (fun w => ?_) (fun d K hK => ?_)
  · simp [go_sem]
  go_simp
  refine hK _ ?_
  clear hK K
  try walk_nrm
  refine opsE_nil ?_
  simp only [Exit.then, Exit.inBlock, if_true, if_false, reduceIte]
  refine wpE_ret ?_
  exact ⟨rfl, _, resultsC_tmp (by rfl) _, rfl, hbw⟩
end Go.Proofs.Ytodpkfohihfndaa
