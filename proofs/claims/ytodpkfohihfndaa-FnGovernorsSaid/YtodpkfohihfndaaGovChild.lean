/- The worker that sends the speeds: its walks between its sends, holding the token. No condition. Made by gen_govrec.py. -/
import Derived.Test.YtodpkfohihfndaaGovCell
import Derived.Test.YtodpkfohihfndaaGovCo
set_option linter.unusedSimpArgs false
set_option linter.unusedVariables false
namespace Go.Proofs.Ytodpkfohihfndaa
open Go Go.Conc Go.RowKit

noncomputable def botG : Frame := { (default : Frame) with fn := Try.prog.funcs.size, defers := [], mode := .panicking [goexitEntry] }
noncomputable def bodyC : Go.Code := Try.f31.body.getD .skip
def frC : Frame := baseD 31
def callC (N : Nat) : Deferred := { target := .fn (.func 31) #[.pointer (some ⟨N + 5, 0, none⟩), .pointer (some ⟨N, 0, none⟩), .pointer (some ⟨N + 3, 0, none⟩), .pointer (some ⟨N + 1, 0, none⟩), .pointer (some ⟨N + 2, 0, none⟩)], args := #[] }
theorem loudC : (Try.prog.funcs[frC.fn]?).any (·.norace) = false := by kernel_rfl
theorem bornC (N : Nat) (w : World) : stepG Try.prog false (born Try.prog (callC N)) w = .go (G (frC.at ⟨#[.pointer (some ⟨N + 5, 0, none⟩), .pointer (some ⟨N, 0, none⟩), .pointer (some ⟨N + 3, 0, none⟩), .pointer (some ⟨N + 1, 0, none⟩), .pointer (some ⟨N + 2, 0, none⟩), undef, undef, undef, undef, undef, undef, undef, undef, undef, undef, undef, undef, undef, undef, undef, undef, undef, undef], []⟩ [.code bodyC]) [botG]) w #[] := by
  simp [born, callC, stepG, unwind, callDeferred, invoke, callFunc, Try.func31, Try.f31, seen, GStep.after, G, Frame.enter, Frame.at, frC, baseD, botG, bodyC]
/-- The worker's way out behind its last act. -/
theorem quitsC (T : Array Value) (todo : List Item) : QuitsD Try.prog 2 0 (G { frC.at ⟨T, []⟩ todo with mode := .returning } [botG]) := by
  refine QuitsD.ctl (g' := G botG []) rfl (fun w => ?_) ?_
  · simp [G, stepG, unwind, doReturn, results, Frame.at, frC, baseD, botG, Try.func31, Try.f31, seen, GStep.after, goexitEntry]
  refine QuitsD.ctl (g' := { G botG [] with status := .finished }) rfl (fun w => ?_) ⟨rfl, rfl⟩
  simp [G, stepG, unwind, botG, goexitEntry, Frame.catches]
  rfl

/-- The loop's body, and what of the first round stands behind a send. -/
noncomputable def loopC : Go.Code := (inn (inn (sq2 (sq2 (sq2 bodyC)))))
noncomputable def loopC1 : Go.Code := (inn (inn (sq2 (sq2 (sq2 bodyC)))))
noncomputable def lastC : Go.Code := (sq2 (sq2 (sq2 loopC)))
/-- THE WORKER AT ITS LOOP's HEAD: i rounds are done; j..: what the last round has left. -/
noncomputable def headC (N : Nat) (n i : Int) (j5 j6 j7 j10 j11 j12 j13 j14 j15 j16 j17 j18 j19 j20 j21 j22 : Value) : Goroutine := G (frC.at ⟨#[.pointer (some ⟨N + 5, 0, none⟩), .pointer (some ⟨N, 0, none⟩), .pointer (some ⟨N + 3, 0, none⟩), .pointer (some ⟨N + 1, 0, none⟩), .pointer (some ⟨N + 2, 0, none⟩), j5, j6, j7, .int .i64 n, .int .i64 i, j10, j11, j12, j13, j14, j15, j16, j17, j18, j19, j20, j21, j22], [dclose #[39] 0 #[false] (.chan (some (N + 4)))]⟩ [.code loopC1, .inLoop loopC, .inBlock 0]) [botG]
/-- Just behind its first send, and behind a later one. -/
noncomputable def sentC (N : Nat) (j6 j7 : Value) : Goroutine := G (frC.at ⟨#[.pointer (some ⟨N + 5, 0, none⟩), .pointer (some ⟨N, 0, none⟩), .pointer (some ⟨N + 3, 0, none⟩), .pointer (some ⟨N + 1, 0, none⟩), .pointer (some ⟨N + 2, 0, none⟩), .chan (some (N + 4)), j6, j7, undef, undef, undef, undef, undef, undef, undef, undef, undef, undef, undef, undef, undef, undef, undef], [dclose #[39] 0 #[false] (.chan (some (N + 4)))]⟩ (.inRegion (opz (sq1 (sq2 bodyC))) [] :: [.code (sq2 (sq2 bodyC))])) [botG]
noncomputable def againC (N : Nat) (n i : Int) (j5 j6 j7 j10 j11 j12 j13 j14 j15 j16 j17 j18 j19 j20 j21 j22 : Value) : Goroutine := G (frC.at ⟨#[.pointer (some ⟨N + 5, 0, none⟩), .pointer (some ⟨N, 0, none⟩), .pointer (some ⟨N + 3, 0, none⟩), .pointer (some ⟨N + 1, 0, none⟩), .pointer (some ⟨N + 2, 0, none⟩), j5, j6, j7, .int .i64 n, .int .i64 i, j10, j11, j12, j13, j14, j15, j16, j17, j18, j19, j20, j21, j22], [dclose #[39] 0 #[false] (.chan (some (N + 4)))]⟩ [.inRegion (opz (sq2 (sq2 (inn (sq1 (sq2 (sq2 loopC))))))) [], .inBlock 1, .code lastC, .inLoop loopC, .inBlock 0]) [botG]

section
variable {W : World} {N : Nat} {f b n x : Int} {w : World}

set_option maxRecDepth 100000 in
set_option maxHeartbeats 4000000 in
/-- FROM ITS BIRTH to its first send. -/
theorem birthC (hK : WS W N f b n x w) : Goes Try.prog false AtRel (DQ (StillS N) (N + 6)) (fun g w' => (∃ d, w' = w.at d) ∧ AtGive Try.prog false (StillS N) (N + 6) (N + 4) (.int .i64 x) (fun g => ∃ j6 j7, g = sentC N j6 j7) g w') 12 (born Try.prog (callC N)) w := by
  q_in
  rw [bornC]
  refine ⟨dq_none _, ?_⟩
  simp only [bodyC, Try.f31, Option.getD_some]
  q_c stepG_seq
  q_reg
  q_ld [(WS.at hK dd).k.c, (WS.at hK dd).k.cz, (WS.at hK dd).x, (WS.at hK dd).xz, (WS.at hK dd).f, (WS.at hK dd).fz, (WS.at hK dd).b, (WS.at hK dd).bz, (WS.at hK dd).n, (WS.at hK dd).nz]
  q_in
  rw [stepG_defer_close rfl (by rfl) (by decide) rfl]
  simp only [goes_go]
  refine ⟨dq_none _, ?_⟩
  walk_nrm
  q_c stepG_region_end
  q_c stepG_seq
  q_reg
  q_ld [(WS.at hK dd).k.c, (WS.at hK dd).k.cz, (WS.at hK dd).x, (WS.at hK dd).xz, (WS.at hK dd).f, (WS.at hK dd).fz, (WS.at hK dd).b, (WS.at hK dd).bz, (WS.at hK dd).n, (WS.at hK dd).nz]
  q_ld [(WS.at hK dd).k.c, (WS.at hK dd).k.cz, (WS.at hK dd).x, (WS.at hK dd).xz, (WS.at hK dd).f, (WS.at hK dd).fz, (WS.at hK dd).b, (WS.at hK dd).bz, (WS.at hK dd).n, (WS.at hK dd).nz]
  refine Goes.stop (fun w₁ h₁ => ?_)
  obtain ⟨d, rfl⟩ := h₁
  refine ⟨⟨d, rfl⟩, ?_⟩
  refine atGive_of (z' := .tuple #[]) rfl rfl (by decide) (fun w => by simp [execOp, scase, Act.eval]) (fun w => by simp [go_sem, execOp, Act.eval]) ?_ _
  rw [served_fr, Frame.finish_at]
  exact ⟨_, _, rfl⟩

set_option maxRecDepth 100000 in
set_option maxHeartbeats 4000000 in
/-- Behind its first send: to the loop. -/
theorem firstC (hK : WS W N f b n x w) (j6 j7 : Value) : Goes Try.prog false AtRel (DQ (StillS N) (N + 6)) (fun g w' => (∃ d, w' = w.at d) ∧ ∃ j5 j6 j7 j10 j11 j12 j13 j14 j15 j16 j17 j18 j19 j20 j21 j22, g = headC N n 0 j5 j6 j7 j10 j11 j12 j13 j14 j15 j16 j17 j18 j19 j20 j21 j22) 12 (sentC N j6 j7) w := by
  simp only [sentC, bodyC, Try.f31, Option.getD_some, sq1, sq2, inn, opz]
  q_c stepG_region_end
  q_c stepG_seq
  q_reg
  q_ld [(WS.at hK dd).k.c, (WS.at hK dd).k.cz, (WS.at hK dd).x, (WS.at hK dd).xz, (WS.at hK dd).f, (WS.at hK dd).fz, (WS.at hK dd).b, (WS.at hK dd).bz, (WS.at hK dd).n, (WS.at hK dd).nz]
  q_op
  q_c stepG_region_end
  q_c stepG_block
  q_c stepG_loop
  refine Goes.stop (fun w₁ h₁ => ?_)
  obtain ⟨d, rfl⟩ := h₁
  exact ⟨⟨d, rfl⟩, _, _, _, _, _, _, _, _, _, _, _, _, _, _, _, _, rfl⟩

set_option maxRecDepth 100000 in
set_option maxHeartbeats 4000000 in
/-- Behind a later send: to the next round. -/
theorem nextC (hK : WS W N f b n x w) (i : Int) (hi : IntKind.i64.wrap (i + 1) = i + 1) (j5 j6 j7 j10 j11 j12 j13 j14 j15 j16 j17 j18 j19 j20 j21 j22 : Value) : Goes Try.prog false AtRel (DQ (StillS N) (N + 6)) (fun g w' => (∃ d, w' = w.at d) ∧ ∃ j5 j6 j7 j10 j11 j12 j13 j14 j15 j16 j17 j18 j19 j20 j21 j22, g = headC N n (i + 1) j5 j6 j7 j10 j11 j12 j13 j14 j15 j16 j17 j18 j19 j20 j21 j22) 12 (againC N n i j5 j6 j7 j10 j11 j12 j13 j14 j15 j16 j17 j18 j19 j20 j21 j22) w := by
  simp only [againC, lastC, loopC, bodyC, Try.f31, Option.getD_some, sq1, sq2, inn, opz]
  q_c stepG_region_end
  q_c stepG_inBlock
  q_reg
  q_op
  q_op
  q_c stepG_region_end
  q_c stepG_inLoop
  refine Goes.stop (fun w₁ h₁ => ?_)
  obtain ⟨d, rfl⟩ := h₁
  exact ⟨⟨d, rfl⟩, _, _, _, _, _, _, _, _, _, _, _, _, _, _, _, _, rfl⟩

set_option maxRecDepth 100000 in
set_option maxHeartbeats 4000000 in
/-- All steps are done: to the close. -/
theorem doneC (hK : WS W N f b n x w) (i : Int) (hi : decide (i < n) = false) (j5 j6 j7 j10 j11 j12 j13 j14 j15 j16 j17 j18 j19 j20 j21 j22 : Value) : Goes Try.prog false AtRel (DQ (StillS N) (N + 6)) (fun g w' => (∃ d, w' = w.at d) ∧ AtShut Try.prog false (N + 4) (fun g => QuitsD Try.prog 2 0 g) g w') 14 (headC N n i j5 j6 j7 j10 j11 j12 j13 j14 j15 j16 j17 j18 j19 j20 j21 j22) w := by
  simp only [headC, loopC1, bodyC, Try.f31, Option.getD_some, sq1, sq2, inn, opz]
  q_c stepG_seq
  q_reg
  q_op
  q_c stepG_region_end
  q_c stepG_seq
  q_cond false
  q_exit
  q_c stepG_end
  refine Goes.stop (fun w₁ h₁ => ?_)
  obtain ⟨d, rfl⟩ := h₁
  exact ⟨⟨d, rfl⟩, atShut_unwind rfl loudC (quitsC _ _) _⟩

theorem termsQ : Terms AtRel (DQ (StillS N) (N + 6)) := ⟨atRel_trans, fun w => dq_none w⟩
/-- Ahead of the store of the next speed; behind it. -/
noncomputable def storeC (N : Nat) (n i y : Int) (j5 j6 j7 j10 j11 j12 j13 j14 j15 j16 j17 j18 j20 j21 j22 : Value) : Goroutine := G (frC.at ⟨#[.pointer (some ⟨N + 5, 0, none⟩), .pointer (some ⟨N, 0, none⟩), .pointer (some ⟨N + 3, 0, none⟩), .pointer (some ⟨N + 1, 0, none⟩), .pointer (some ⟨N + 2, 0, none⟩), j5, j6, j7, .int .i64 n, .int .i64 i, j10, j11, j12, j13, j14, j15, j16, j17, j18, .int .i64 y, j20, j21, j22], [dclose #[39] 0 #[false] (.chan (some (N + 4)))]⟩ [.inRegion (opz (sq1 (sq2 (inn (sq1 (sq2 (sq2 loopC))))))) [5], .code (sq2 (sq2 (inn (sq1 (sq2 (sq2 loopC)))))), .inBlock 1, .code lastC, .inLoop loopC, .inBlock 0]) [botG]
noncomputable def storedC (N : Nat) (n i y : Int) (j5 j6 j7 j10 j11 j12 j13 j14 j15 j16 j17 j18 j20 j21 j22 : Value) : Goroutine := G (frC.at ⟨#[.pointer (some ⟨N + 5, 0, none⟩), .pointer (some ⟨N, 0, none⟩), .pointer (some ⟨N + 3, 0, none⟩), .pointer (some ⟨N + 1, 0, none⟩), .pointer (some ⟨N + 2, 0, none⟩), j5, j6, j7, .int .i64 n, .int .i64 i, j10, j11, j12, j13, j14, j15, j16, j17, j18, .int .i64 y, j20, j21, j22], [dclose #[39] 0 #[false] (.chan (some (N + 4)))]⟩ [.inRegion (opz (sq1 (sq2 (inn (sq1 (sq2 (sq2 loopC))))))) [], .code (sq2 (sq2 (inn (sq1 (sq2 (sq2 loopC)))))), .inBlock 1, .code lastC, .inLoop loopC, .inBlock 0]) [botG]

set_option maxRecDepth 100000 in
set_option maxHeartbeats 8000000 in
/-- The speed stays: to the close. -/
theorem steadyC (hK : WS W N f b n x w) (i : Int) (hi : decide (i < n) = true) (hs : (nxtM x f b == x) = true) (j5 j6 j7 j10 j11 j12 j13 j14 j15 j16 j17 j18 j19 j20 j21 j22 : Value) : ∃ m, Goes Try.prog false AtRel (DQ (StillS N) (N + 6)) (fun g w' => (∃ d, w' = w.at d) ∧ AtShut Try.prog false (N + 4) (fun g => QuitsD Try.prog 2 0 g) g w') m (headC N n i j5 j6 j7 j10 j11 j12 j13 j14 j15 j16 j17 j18 j19 j20 j21 j22) w := by
  obtain ⟨ns, ks⟩ := isteady_c (main := false) (termsQ (N := N)) x f b
  rw [hs] at ks
  refine ⟨(40 + ns + 3) + 15, ?_⟩
  simp only [headC, loopC1, bodyC, Try.f31, Option.getD_some, sq1, sq2, inn, opz]
  q_c stepG_seq
  q_reg
  q_op
  q_c stepG_region_end
  q_c stepG_seq
  q_cond true
  q_c stepG_skip
  q_c stepG_seq
  q_c stepG_block
  q_c stepG_seq
  q_c stepG_seq
  q_reg
  q_ld [(WS.at hK dd).k.c, (WS.at hK dd).k.cz, (WS.at hK dd).x, (WS.at hK dd).xz, (WS.at hK dd).f, (WS.at hK dd).fz, (WS.at hK dd).b, (WS.at hK dd).bz, (WS.at hK dd).n, (WS.at hK dd).nz]
  q_ld [(WS.at hK dd).k.c, (WS.at hK dd).k.cz, (WS.at hK dd).x, (WS.at hK dd).xz, (WS.at hK dd).f, (WS.at hK dd).fz, (WS.at hK dd).b, (WS.at hK dd).bz, (WS.at hK dd).n, (WS.at hK dd).nz]
  q_ld [(WS.at hK dd).k.c, (WS.at hK dd).k.cz, (WS.at hK dd).x, (WS.at hK dd).xz, (WS.at hK dd).f, (WS.at hK dd).fz, (WS.at hK dd).b, (WS.at hK dd).bz, (WS.at hK dd).n, (WS.at hK dd).nz]
  refine Goes.call termsQ rfl rfl (by decide) rfl (by walk_nrm; exact ks _) ?_
  rintro v w2 ⟨rfl, hs2⟩
  obtain ⟨d2, rfl⟩ := since_at hs2
  clear hs2
  walk_nrm
  q_c stepG_region_end
  q_cond true
  q_c stepG_ret'
  refine Goes.stop (fun w₁ h₁ => ?_)
  obtain ⟨d, rfl⟩ := h₁
  exact ⟨⟨d, rfl⟩, atShut_unwind rfl loudC (quitsC _ _) _⟩

set_option maxRecDepth 100000 in
set_option maxHeartbeats 8000000 in
/-- The speed changes: to the store of the next one. -/
theorem moveC (hK : WS W N f b n x w) (i : Int) (hi : decide (i < n) = true) (hs : (nxtM x f b == x) = false) {y : Int} (hy : (if 100000 < nxtM x f b then 100000 else nxtM x f b) = y) (j5 j6 j7 j10 j11 j12 j13 j14 j15 j16 j17 j18 j19 j20 j21 j22 : Value) :
    ∃ m, Goes Try.prog false AtRel (DQ (StillS N) (N + 6)) (fun g w' => (∃ d, w' = w.at d) ∧ ∃ j5 j6 j7 j10 j11 j12 j13 j14 j15 j16 j17 j18 j20 j21 j22, g = storeC N n i y j5 j6 j7 j10 j11 j12 j13 j14 j15 j16 j17 j18 j20 j21 j22) m (headC N n i j5 j6 j7 j10 j11 j12 j13 j14 j15 j16 j17 j18 j19 j20 j21 j22) w := by
  obtain ⟨ns, ks⟩ := isteady_c (main := false) (termsQ (N := N)) x f b
  obtain ⟨nx, kx⟩ := inxt_c (main := false) (termsQ (N := N)) x f b
  rw [hs] at ks
  generalize nxtM x f b = r at *
  refine ⟨((40 + nx + 3) + 8 + ns + 3) + 15, ?_⟩
  simp only [headC, loopC1, bodyC, Try.f31, Option.getD_some, sq1, sq2, inn, opz]
  q_c stepG_seq
  q_reg
  q_op
  q_c stepG_region_end
  q_c stepG_seq
  q_cond true
  q_c stepG_skip
  q_c stepG_seq
  q_c stepG_block
  q_c stepG_seq
  q_c stepG_seq
  q_reg
  q_ld [(WS.at hK dd).k.c, (WS.at hK dd).k.cz, (WS.at hK dd).x, (WS.at hK dd).xz, (WS.at hK dd).f, (WS.at hK dd).fz, (WS.at hK dd).b, (WS.at hK dd).bz, (WS.at hK dd).n, (WS.at hK dd).nz]
  q_ld [(WS.at hK dd).k.c, (WS.at hK dd).k.cz, (WS.at hK dd).x, (WS.at hK dd).xz, (WS.at hK dd).f, (WS.at hK dd).fz, (WS.at hK dd).b, (WS.at hK dd).bz, (WS.at hK dd).n, (WS.at hK dd).nz]
  q_ld [(WS.at hK dd).k.c, (WS.at hK dd).k.cz, (WS.at hK dd).x, (WS.at hK dd).xz, (WS.at hK dd).f, (WS.at hK dd).fz, (WS.at hK dd).b, (WS.at hK dd).bz, (WS.at hK dd).n, (WS.at hK dd).nz]
  refine Goes.call termsQ rfl rfl (by decide) rfl (by walk_nrm; exact ks _) ?_
  rintro v w2 ⟨rfl, hs2⟩
  obtain ⟨d2, rfl⟩ := since_at hs2
  clear hs2
  walk_nrm
  q_c stepG_region_end
  q_cond false
  q_c stepG_skip
  q_c stepG_seq
  q_reg
  q_ld [(WS.at hK dd).k.c, (WS.at hK dd).k.cz, (WS.at hK dd).x, (WS.at hK dd).xz, (WS.at hK dd).f, (WS.at hK dd).fz, (WS.at hK dd).b, (WS.at hK dd).bz, (WS.at hK dd).n, (WS.at hK dd).nz]
  q_ld [(WS.at hK dd).k.c, (WS.at hK dd).k.cz, (WS.at hK dd).x, (WS.at hK dd).xz, (WS.at hK dd).f, (WS.at hK dd).fz, (WS.at hK dd).b, (WS.at hK dd).bz, (WS.at hK dd).n, (WS.at hK dd).nz]
  q_ld [(WS.at hK dd).k.c, (WS.at hK dd).k.cz, (WS.at hK dd).x, (WS.at hK dd).xz, (WS.at hK dd).f, (WS.at hK dd).fz, (WS.at hK dd).b, (WS.at hK dd).bz, (WS.at hK dd).n, (WS.at hK dd).nz]
  refine Goes.call termsQ rfl rfl (by decide) rfl (by walk_nrm; exact kx _) ?_
  rintro v w3 ⟨rfl, hs3⟩
  obtain ⟨d3, rfl⟩ := since_at hs3
  clear hs3
  walk_nrm
  q_in
  refine goes_oper_k rfl rfl (by decide) (fun K hK' => ?_)
  go_simp
  refine hK' _ _ ⟨⟨rfl, fun e he => ?_⟩, ?_⟩
  · have hm := mem_listed he
    simp [go_sem, events_min2] at hm
  clear hK' K
  refine Goes.stop (fun w₁ h₁ => ?_)
  obtain ⟨d, rfl⟩ := h₁
  exact ⟨⟨d, rfl⟩, _, _, _, _, _, _, _, _, _, _, _, _, _, _, _, by first | rfl | (rw [← hy]; rfl)⟩

/-- The worker's guarantee where it stores. -/
def DW (N : Nat) (w w' : World) (es : Array Event) : Prop := (w' = w ∨ ∃ u, w' = w.setCell (spA N) u) ∧ ∀ e ∈ es, EvHd (StillS N) (N + 6) e
set_option maxRecDepth 100000 in
set_option maxHeartbeats 4000000 in
theorem putC (hK : WS W N f b n x w) (i y : Int) (j5 j6 j7 j10 j11 j12 j13 j14 j15 j16 j17 j18 j20 j21 j22 : Value) : Goes Try.prog false AtRel (DW N) (fun g w' => (∃ d, w' = (w.setCell (spA N) (.int .i64 y)).at d) ∧ g = storedC N n i y j5 j6 j7 j10 j11 j12 j13 j14 j15 j16 j17 j18 j20 j21 j22) 1 (storeC N n i y j5 j6 j7 j10 j11 j12 j13 j14 j15 j16 j17 j18 j20 j21 j22) w := by
  simp only [storeC, loopC, bodyC, Try.f31, Option.getD_some, sq1, sq2, inn, opz]
  q_in
  refine goes_oper_k rfl rfl (by decide) (fun K hK' => ?_)
  have hx := (WS.at hK dd).x
  have hz := (WS.at hK dd).xz
  go_simp
  refine hK' _ _ ⟨⟨.inr ⟨_, rfl⟩, fun e he => ?_⟩, ?_⟩
  · have hm := mem_listed he
    simp [go_sem, storedEv, *] at hm
    subst hm
    exact evHd_write _ (by simp [StillS]) (by simp)
  clear hK' K
  refine Goes.stop (fun w₁ h₁ => ?_)
  obtain ⟨d, rfl⟩ := h₁
  exact ⟨⟨d, rfl⟩, rfl⟩
set_option maxRecDepth 100000 in
set_option maxHeartbeats 4000000 in
theorem sendC (hK : WS W N f b n x w) (i y : Int) (j5 j6 j7 j10 j11 j12 j13 j14 j15 j16 j17 j18 j20 j21 j22 : Value) : Goes Try.prog false AtRel (DQ (StillS N) (N + 6)) (fun g w' => (∃ d, w' = w.at d) ∧ AtGive Try.prog false (StillS N) (N + 6) (N + 4) (.int .i64 x) (fun g => ∃ j5 j6 j7 j10 j11 j12 j13 j14 j15 j16 j17 j18 j19 j20 j21 j22, g = againC N n i j5 j6 j7 j10 j11 j12 j13 j14 j15 j16 j17 j18 j19 j20 j21 j22) g w') 8 (storedC N n i y j5 j6 j7 j10 j11 j12 j13 j14 j15 j16 j17 j18 j20 j21 j22) w := by
  simp only [storedC, loopC, bodyC, Try.f31, Option.getD_some, sq1, sq2, inn, opz]
  q_c stepG_region_end
  q_reg
  q_ld [(WS.at hK dd).k.c, (WS.at hK dd).k.cz, (WS.at hK dd).x, (WS.at hK dd).xz, (WS.at hK dd).f, (WS.at hK dd).fz, (WS.at hK dd).b, (WS.at hK dd).bz, (WS.at hK dd).n, (WS.at hK dd).nz]
  q_ld [(WS.at hK dd).k.c, (WS.at hK dd).k.cz, (WS.at hK dd).x, (WS.at hK dd).xz, (WS.at hK dd).f, (WS.at hK dd).fz, (WS.at hK dd).b, (WS.at hK dd).bz, (WS.at hK dd).n, (WS.at hK dd).nz]
  refine Goes.stop (fun w₁ h₁ => ?_)
  obtain ⟨d, rfl⟩ := h₁
  refine ⟨⟨d, rfl⟩, ?_⟩
  refine atGive_of (z' := .tuple #[]) rfl rfl (by decide) (fun w => by simp [execOp, scase, Act.eval]) (fun w => by simp [go_sem, execOp, Act.eval]) ?_ _
  rw [served_fr, Frame.finish_at]
  exact ⟨_, _, _, _, _, _, _, _, _, _, _, _, _, _, _, _, rfl⟩
end
end Go.Proofs.Ytodpkfohihfndaa
