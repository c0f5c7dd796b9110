/- SpeedAfter's side: goroutine 0 starts the worker and takes every speed. No condition. Made by gen_govtake.py. -/
import Derived.Test.YtodpkfohihfndaaGovRun
import Derived.Test.YtodpkfohihfndaaGovMake
set_option linter.unusedSimpArgs false
set_option linter.unusedVariables false
namespace Go.Proofs.Ytodpkfohihfndaa
open Go Go.Conc Go.RowKit

noncomputable def bodyA : Go.Code := Try.f13.body.getD .skip
noncomputable def takeA : Go.Code := (sq1 (sq2 (sq2 (sq2 bodyA))))
noncomputable def loopA : Go.Code := (inn (inn (sq2 takeA)))
/-- GOROUTINE 0 AT ITS RECEIVE. -/
noncomputable def waitGorA (N : Nat) (v f b n : Int) (l : Int) (k : List Item) (cs : List Frame) (j10 j11 j12 j13 j14 j15 j16 j17 j18 j19 j20 j21 j22 j23 j24 j25 j26 j27 j28 j30 j31 j32 j33 j34 : Value) : Goroutine :=
  G ((base 13).at ⟨#[.int .i64 v, .int .i64 f, .int .i64 b, .int .i64 n, undef, undef, undef, undef, .int .i64 0, .int .i64 l, j10, j11, j12, j13, j14, j15, j16, j17, j18, j19, j20, j21, j22, j23, j24, j25, j26, j27, j28, .chan (some (N + 4)), j30, j31, j32, j33, j34], []⟩ (.inRegion (opz (sq1 loopA)) [0, 1] :: .code (sq2 loopA) :: .inLoop loopA :: .inBlock 0 :: k)) cs
def homeA (N : Nat) (v f b n : Int) (k : List Item) (cs : List Frame) (st : Int) (g : Goroutine) : Prop := ∃ j10 j11 j12 j13 j14 j15 j16 j17 j18 j19 j20 j21 j22 j23 j24 j25 j26 j27 j28 j30 j31 j32 j33 j34, g = waitGorA N v f b n st k cs j10 j11 j12 j13 j14 j15 j16 j17 j18 j19 j20 j21 j22 j23 j24 j25 j26 j27 j28 j30 j31 j32 j33 j34
noncomputable def seatA (N : Nat) (v f b n : Int) (k : List Item) (cs : List Frame) (st : Int) : Seat := Seat.one (N + 4) (.int .i64 0) true (homeA N v f b n k cs st)
theorem atA (W : World) (N B : Nat) (v f b n : Int) (st : Int) (k : List Item) (cs : List Frame) (j10 j11 j12 j13 j14 j15 j16 j17 j18 j19 j20 j21 j22 j23 j24 j25 j26 j27 j28 j30 j31 j32 j33 j34 : Value) :
    AtIn Try.prog true (KS W N) (StillS N) B (seatA N v f b n k cs st) (waitGorA N v f b n st k cs j10 j11 j12 j13 j14 j15 j16 j17 j18 j19 j20 j21 j22 j23 j24 j25 j26 j27 j28 j30 j31 j32 j33 j34) (waitGorA N v f b n st k cs j10 j11 j12 j13 j14 j15 j16 j17 j18 j19 j20 j21 j22 j23 j24 j25 j26 j27 j28 j30 j31 j32 j33 j34) :=
  atIn_of (s := seatA N v f b n k cs st) rfl rfl (by decide) (fun w => by simp [go_sem, execOp, rcase, Act.eval, seatA, Seat.one, loopA, takeA, bodyA, Try.f13, sq1, sq2, inn, opz]) (fun w => by simp [go_sem, execOp, Act.eval, loopA, takeA, bodyA, Try.f13, sq1, sq2, inn, opz]) ⟨_, _, _, _, _, _, _, _, _, _, _, _, _, _, _, _, _, _, _, _, _, _, _, _, rfl⟩

set_option maxRecDepth 100000 in
set_option maxHeartbeats 8000000 in
/-- Served with a speed it goes round and sits down again. -/
theorem nextA {W : World} {N B : Nat} (v f b n : Int) (k : List Item) (cs : List Frame) (st : Int) (u : Int) (g₂ : Goroutine) (h : homeA N v f b n k cs st g₂) :
    Sits Try.prog true (KS W N) (StillS N) B (Seat.one (N + 4) (.int .i64 0) true (homeA N v f b n k cs (u))) 31 (Go.Conc.served g₂ (recvd true (.int .i64 u) true)) := by
  obtain ⟨j10, j11, j12, j13, j14, j15, j16, j17, j18, j19, j20, j21, j22, j23, j24, j25, j26, j27, j28, j30, j31, j32, j33, j34, rfl⟩ := h
  refine .inl ⟨30, default, rfl, ?_⟩
  simp only [waitGorA, loopA, takeA, bodyA, Try.f13, Option.getD_some, sq1, sq2, inn, opz]
  rw [served_fr, Frame.finish_at]
  simp only [recvd, if_true]
  walk_nrm
  k_in
  refine goes_oper_k rfl rfl (by decide) (fun K hK => ?_)
  go_simp
  refine hK _ _ ⟨⟨rfl, fun e he => ?_⟩, ?_⟩
  · have hm := mem_listed he
    simp [go_sem] at hm
  clear hK K
  k_c stepG_region_end
  k_c stepG_seq
  k_in
  rw [stepG_cond (t := true) rfl]
  simp only [goes_go, if_true, if_false, Bool.false_eq_true, ↓reduceIte]
  refine ⟨ds_none _, ?_⟩
  k_c stepG_skip
  k_c stepG_block
  k_c stepG_seq
  k_reg
  k_in
  refine goes_oper_k rfl rfl (by decide) (fun K hK => ?_)
  go_simp
  refine hK _ _ ⟨⟨rfl, fun e he => ?_⟩, ?_⟩
  · have hm := mem_listed he
    simp [go_sem] at hm
  clear hK K
  k_in
  refine goes_oper_k rfl rfl (by decide) (fun K hK => ?_)
  go_simp
  refine hK _ _ ⟨⟨rfl, fun e he => ?_⟩, ?_⟩
  · have hm := mem_listed he
    simp [go_sem] at hm
  clear hK K
  k_c stepG_region_end
  k_reg
  k_in
  refine goes_oper_k rfl rfl (by decide) (fun K hK => ?_)
  go_simp
  refine hK _ _ ⟨⟨rfl, fun e he => ?_⟩, ?_⟩
  · have hm := mem_listed he
    simp [go_sem] at hm
  clear hK K
  k_in
  refine goes_oper_k rfl rfl (by decide) (fun K hK => ?_)
  go_simp
  refine hK _ _ ⟨⟨rfl, fun e he => ?_⟩, ?_⟩
  · have hm := mem_listed he
    simp [go_sem] at hm
  clear hK K
  k_c stepG_region_end
  k_c stepG_inBlock
  k_c stepG_inLoop
  k_c stepG_seq
  k_reg
  exact Goes.stop (fun _ _ => ⟨_, atA W N B v f b n (u) k cs _ _ _ _ _ _ _ _ _ _ _ _ _ _ _ _ _ _ _ _ _ _ _ _⟩)

set_option maxRecDepth 100000 in
set_option maxHeartbeats 8000000 in
/-- Served with the close it leaves the loop. -/
theorem overA {Fin : Value → World → Prop} {W : World} {N : Nat} (v f b n : Int) (k : List Item) (cs : List Frame) (st : Int) (g₂ : Goroutine) (h : homeA N v f b n k cs st g₂) (w : World) (hK : KS W N w)
    (hc : ∀ (j10 j11 j12 j13 j14 j15 j16 j17 j18 j19 j20 j21 j22 j23 j24 j25 j26 j27 j28 j29 j30 j31 j32 j33 j34 : Value), Ends Try.prog Fin (G ((base 13).at ⟨#[.int .i64 v, .int .i64 f, .int .i64 b, .int .i64 n, undef, undef, undef, undef, .int .i64 0, .int .i64 st, j10, j11, j12, j13, j14, j15, j16, j17, j18, j19, j20, j21, j22, j23, j24, j25, j26, j27, j28, j29, j30, j31, j32, j33, j34], []⟩ k) cs) w) : Ends Try.prog Fin (Go.Conc.served g₂ (recvd true (.int .i64 0) false)) w := by
  obtain ⟨j10, j11, j12, j13, j14, j15, j16, j17, j18, j19, j20, j21, j22, j23, j24, j25, j26, j27, j28, j30, j31, j32, j33, j34, rfl⟩ := h
  refine Ends.walk (N + 6) fun B hB => ⟨12, goes_dl (Still := StillS N) hB ?_⟩
  simp only [waitGorA, loopA, takeA, bodyA, Try.f13, Option.getD_some, sq1, sq2, inn, opz]
  rw [served_fr, Frame.finish_at]
  simp only [recvd, if_true]
  walk_nrm
  q_op
  q_c stepG_region_end
  q_c stepG_seq
  q_cond false
  q_exit
  refine Goes.stop (fun w₁ h₁ => ?_)
  obtain ⟨d, rfl⟩ := h₁
  exact Ends.at (hc _ _ _ _ _ _ _ _ _ _ _ _ _ _ _ _ _ _ _ _ _ _ _ _ _) d

set_option maxRecDepth 100000 in
set_option maxHeartbeats 16000000 in
/-- THE WHOLE STATEMENT: the call that starts the worker, the loop that takes the speeds. -/
theorem takeA_e {Fin : Value → World → Prop} {w : World} (v f b n : Int) (l : Int) (hg : GovP v f b) (hn : 0 ≤ n ∧ n ≤ 1000) (j10 j11 j12 j13 j14 j15 j16 j17 j18 j19 j20 j21 j22 j23 j24 j25 j26 j27 j28 j29 j30 j31 j32 j33 j34 : Value) :
    WpE Try.prog Fin 13 takeA (fun e a' w' => e = .normal ∧ Below w.heap.size w w' ∧ ∃ j10 j11 j12 j13 j14 j15 j16 j17 j18 j19 j20 j21 j22 j23 j24 j25 j26 j27 j28 j29 j30 j31 j32 j33 j34, a' = ⟨#[.int .i64 v, .int .i64 f, .int .i64 b, .int .i64 n, undef, undef, undef, undef, .int .i64 0, .int .i64 (lastI l (v :: seqL f b n.toNat v)), j10, j11, j12, j13, j14, j15, j16, j17, j18, j19, j20, j21, j22, j23, j24, j25, j26, j27, j28, j29, j30, j31, j32, j33, j34], []⟩) ⟨#[.int .i64 v, .int .i64 f, .int .i64 b, .int .i64 n, undef, undef, undef, undef, .int .i64 0, .int .i64 l, j10, j11, j12, j13, j14, j15, j16, j17, j18, j19, j20, j21, j22, j23, j24, j25, j26, j27, j28, j29, j30, j31, j32, j33, j34], []⟩ w := by
  intro k cs hc
  obtain ⟨N, hN⟩ : ∃ N, w.heap.size = N := ⟨_, rfl⟩
  have hmc := mkSp
  have hme := mkSpE
  refine Ends.walk (N + 6) fun B hB => ⟨60, goes_first hB ?_⟩
  simp only [takeA, bodyA, Try.f13, Option.getD_some, sq1, sq2, inn, opz]
  i_c stepG_seq
  i_reg
  i_op
  i_op
  i_op
  i_op
  i_in
  refine goes_call rfl rfl (by decide) rfl Try.func25 (by rfl) rfl ?_
  refine ⟨dh_none _, ?_⟩
  walk_nrmf Try.f25
  i_c stepG_seq
  i_reg
  i_op
  i_op
  i_op
  i_op
  i_op
  i_c stepG_region_end
  i_c stepG_seq
  i_reg
  i_op
  i_op
  i_op
  i_c stepG_region_end
  i_c stepG_seq
  i_reg
  i_mf
  clear hmc hme
  refine Goes.stop (fun w₁ h₁ => ?_)
  obtain ⟨d₁, rfl⟩ := h₁
  have hW := ws6 hN v f b n
  refine Ends.at (w := w6 w N v f b n) ?_ _
  refine Ends.hire (K := KS w N) (Still := StillS N) (c := N + 4) (z := .int .i64 0) (home := homeA N v f b n k cs l) (C0 := N + 6) (child := born Try.prog (callC N)) (nh := 41) still_mem ksAt hW.k (by omega) (ch6 hN v f b n) (fun B' hB' => ?_) (fun B' M hB' hM => ?_)
  · refine atHire_of (d := callC N) rfl rfl (by decide) (fun w => by simp [go_sem, execOp, Act.eval, callC]) rfl (fun w => by simp [go_sem, execOp, Act.eval]) (by rfl) ?_ _
    walk_nrm
    refine .inl ⟨40, default, rfl, ?_⟩
    k_c stepG_region_end
    k_c stepG_seq
    k_reg
    k_in
    refine goes_oper_k rfl rfl (by decide) (fun K hK => ?_)
    have hc5 := KS.c h₁
    have hz5 := KS.cz h₁
    go_simp
    refine hK _ _ ⟨⟨rfl, fun e he => ?_⟩, ?_⟩
    · have hm := mem_listed he
      simp [go_sem, *] at hm
      subst hm
      exact evC_read _ (by rfl) (by simp; omega)
    clear hK K hc5 hz5
    k_in
    refine goes_oper_k rfl rfl (by decide) (fun K hK => ?_)
    go_simp
    refine hK _ _ ⟨⟨rfl, fun e he => ?_⟩, ?_⟩
    · have hm := mem_listed he
      simp [go_sem] at hm
    clear hK K
    k_c stepG_region_end
    k_c stepG_ret'
    k_in
    refine goes_leave1 rfl rfl Try.func25 rfl ?_
    refine ⟨ds_none _, ?_⟩
    walk_nrm
    k_c stepG_region_end
    k_c stepG_block
    k_c stepG_loop
    k_c stepG_seq
    k_reg
    exact Goes.stop (fun _ _ => ⟨_, atA w N B' v f b n l k cs _ _ _ _ _ _ _ _ _ _ _ _ _ _ _ _ _ _ _ _ _ _ _ _⟩)
  · refine workC hB' hM (by omega) hn.2 hn.1 (fun st u g₂ h => nextA v f b n k cs st u g₂ h) hg hW fun g₂ h w' hk => ?_
    rw [fold_last] at h
    exact overA v f b n k cs _ g₂ h w' hk fun j10 j11 j12 j13 j14 j15 j16 j17 j18 j19 j20 j21 j22 j23 j24 j25 j26 j27 j28 j29 j30 j31 j32 j33 j34 => hc .normal _ w' ⟨rfl, by rw [hN]; exact hk.low, j10, j11, j12, j13, j14, j15, j16, j17, j18, j19, j20, j21, j22, j23, j24, j25, j26, j27, j28, j29, j30, j31, j32, j33, j34, rfl⟩
end Go.Proofs.Ytodpkfohihfndaa
