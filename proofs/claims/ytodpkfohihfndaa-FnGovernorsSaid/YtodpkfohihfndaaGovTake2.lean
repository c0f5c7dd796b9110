/- StepsUntilSteady's side: goroutine 0 starts the worker, takes and counts every speed. No condition. Made by gen_govtake.py. -/
import Derived.Test.YtodpkfohihfndaaGovRun
import Derived.Test.YtodpkfohihfndaaGovMake
set_option linter.unusedSimpArgs false
set_option linter.unusedVariables false
namespace Go.Proofs.Ytodpkfohihfndaa
open Go Go.Conc Go.RowKit

noncomputable def bodyB : Go.Code := Try.f14.body.getD .skip
noncomputable def takeB : Go.Code := (sq1 (sq2 (sq2 (sq2 bodyB))))
noncomputable def loopB : Go.Code := (inn (inn (sq2 takeB)))
/-- GOROUTINE 0 AT ITS RECEIVE. -/
noncomputable def waitGorB (N : Nat) (v f b : Int) (l c : Int) (k : List Item) (cs : List Frame) (j9 j10 j11 j12 j13 j14 j15 j16 j17 j18 j19 j20 j21 j22 j24 j25 j26 j27 j28 j29 j30 j31 j32 j33 j34 j35 : Value) : Goroutine :=
  G ((base 14).at ⟨#[.int .i64 v, .int .i64 f, .int .i64 b, undef, undef, undef, .int .i64 0, .int .i64 l, .int .i64 c, j9, j10, j11, j12, j13, j14, j15, j16, j17, j18, j19, j20, j21, j22, .chan (some (N + 4)), j24, j25, j26, j27, j28, j29, j30, j31, j32, j33, j34, j35], []⟩ (.inRegion (opz (sq1 loopB)) [0, 1] :: .code (sq2 loopB) :: .inLoop loopB :: .inBlock 0 :: k)) cs
def homeB (N : Nat) (v f b : Int) (k : List Item) (cs : List Frame) (st : Int × Int) (g : Goroutine) : Prop := ∃ j9 j10 j11 j12 j13 j14 j15 j16 j17 j18 j19 j20 j21 j22 j24 j25 j26 j27 j28 j29 j30 j31 j32 j33 j34 j35, g = waitGorB N v f b st.1 st.2 k cs j9 j10 j11 j12 j13 j14 j15 j16 j17 j18 j19 j20 j21 j22 j24 j25 j26 j27 j28 j29 j30 j31 j32 j33 j34 j35
noncomputable def seatB (N : Nat) (v f b : Int) (k : List Item) (cs : List Frame) (st : Int × Int) : Seat := Seat.one (N + 4) (.int .i64 0) true (homeB N v f b k cs st)
theorem atB (W : World) (N B : Nat) (v f b : Int) (st : Int × Int) (k : List Item) (cs : List Frame) (j9 j10 j11 j12 j13 j14 j15 j16 j17 j18 j19 j20 j21 j22 j24 j25 j26 j27 j28 j29 j30 j31 j32 j33 j34 j35 : Value) :
    AtIn Try.prog true (KS W N) (StillS N) B (seatB N v f b k cs st) (waitGorB N v f b st.1 st.2 k cs j9 j10 j11 j12 j13 j14 j15 j16 j17 j18 j19 j20 j21 j22 j24 j25 j26 j27 j28 j29 j30 j31 j32 j33 j34 j35) (waitGorB N v f b st.1 st.2 k cs j9 j10 j11 j12 j13 j14 j15 j16 j17 j18 j19 j20 j21 j22 j24 j25 j26 j27 j28 j29 j30 j31 j32 j33 j34 j35) :=
  atIn_of (s := seatB N v f b k cs st) rfl rfl (by decide) (fun w => by simp [go_sem, execOp, rcase, Act.eval, seatB, Seat.one, loopB, takeB, bodyB, Try.f14, sq1, sq2, inn, opz]) (fun w => by simp [go_sem, execOp, Act.eval, loopB, takeB, bodyB, Try.f14, sq1, sq2, inn, opz]) ⟨_, _, _, _, _, _, _, _, _, _, _, _, _, _, _, _, _, _, _, _, _, _, _, _, _, _, rfl⟩

set_option maxRecDepth 100000 in
set_option maxHeartbeats 8000000 in
/-- Served with a speed it goes round and sits down again. -/
theorem nextB {W : World} {N B : Nat} (v f b : Int) (k : List Item) (cs : List Frame) (st : Int × Int) (u : Int) (g₂ : Goroutine) (h : homeB N v f b k cs st g₂) :
    Sits Try.prog true (KS W N) (StillS N) B (Seat.one (N + 4) (.int .i64 0) true (homeB N v f b k cs ((u, IntKind.i64.wrap (st.2 + 1))))) 31 (Go.Conc.served g₂ (recvd true (.int .i64 u) true)) := by
  obtain ⟨j9, j10, j11, j12, j13, j14, j15, j16, j17, j18, j19, j20, j21, j22, j24, j25, j26, j27, j28, j29, j30, j31, j32, j33, j34, j35, rfl⟩ := h
  refine .inl ⟨30, default, rfl, ?_⟩
  simp only [waitGorB, loopB, takeB, bodyB, Try.f14, Option.getD_some, sq1, sq2, inn, opz]
  rw [served_fr, Frame.finish_at]
  simp only [recvd, if_true]
  walk_nrm
  k_in
  refine goes_oper_k rfl rfl (by decide) (fun K hK => ?_)
  go_simp
  refine hK _ _ ⟨⟨rfl, fun e he => ?_⟩, ?_⟩
  · have hm := mem_listed he
    simp [go_sem] at hm
  clear hK K
  k_c stepG_region_end
  k_c stepG_seq
  k_in
  rw [stepG_cond (t := true) rfl]
  simp only [goes_go, if_true, if_false, Bool.false_eq_true, ↓reduceIte]
  refine ⟨ds_none _, ?_⟩
  k_c stepG_skip
  k_c stepG_block
  k_c stepG_seq
  k_reg
  k_in
  refine goes_oper_k rfl rfl (by decide) (fun K hK => ?_)
  go_simp
  refine hK _ _ ⟨⟨rfl, fun e he => ?_⟩, ?_⟩
  · have hm := mem_listed he
    simp [go_sem] at hm
  clear hK K
  k_in
  refine goes_oper_k rfl rfl (by decide) (fun K hK => ?_)
  go_simp
  refine hK _ _ ⟨⟨rfl, fun e he => ?_⟩, ?_⟩
  · have hm := mem_listed he
    simp [go_sem] at hm
  clear hK K
  k_c stepG_region_end
  k_c stepG_seq
  k_reg
  k_in
  refine goes_oper_k rfl rfl (by decide) (fun K hK => ?_)
  go_simp
  refine hK _ _ ⟨⟨rfl, fun e he => ?_⟩, ?_⟩
  · have hm := mem_listed he
    simp [go_sem] at hm
  clear hK K
  k_in
  refine goes_oper_k rfl rfl (by decide) (fun K hK => ?_)
  go_simp
  refine hK _ _ ⟨⟨rfl, fun e he => ?_⟩, ?_⟩
  · have hm := mem_listed he
    simp [go_sem] at hm
  clear hK K
  k_c stepG_region_end
  k_reg
  k_in
  refine goes_oper_k rfl rfl (by decide) (fun K hK => ?_)
  go_simp
  refine hK _ _ ⟨⟨rfl, fun e he => ?_⟩, ?_⟩
  · have hm := mem_listed he
    simp [go_sem] at hm
  clear hK K
  k_in
  refine goes_oper_k rfl rfl (by decide) (fun K hK => ?_)
  go_simp
  refine hK _ _ ⟨⟨rfl, fun e he => ?_⟩, ?_⟩
  · have hm := mem_listed he
    simp [go_sem] at hm
  clear hK K
  k_in
  refine goes_oper_k rfl rfl (by decide) (fun K hK => ?_)
  go_simp
  refine hK _ _ ⟨⟨rfl, fun e he => ?_⟩, ?_⟩
  · have hm := mem_listed he
    simp [go_sem] at hm
  clear hK K
  k_c stepG_region_end
  k_c stepG_inBlock
  k_c stepG_inLoop
  k_c stepG_seq
  k_reg
  exact Goes.stop (fun _ _ => ⟨_, atB W N B v f b ((u, IntKind.i64.wrap (st.2 + 1))) k cs _ _ _ _ _ _ _ _ _ _ _ _ _ _ _ _ _ _ _ _ _ _ _ _ _ _⟩)

set_option maxRecDepth 100000 in
set_option maxHeartbeats 8000000 in
/-- Served with the close it leaves the loop. -/
theorem overB {Fin : Value → World → Prop} {W : World} {N : Nat} (v f b : Int) (k : List Item) (cs : List Frame) (st : Int × Int) (g₂ : Goroutine) (h : homeB N v f b k cs st g₂) (w : World) (hK : KS W N w)
    (hc : ∀ (j9 j10 j11 j12 j13 j14 j15 j16 j17 j18 j19 j20 j21 j22 j23 j24 j25 j26 j27 j28 j29 j30 j31 j32 j33 j34 j35 : Value), Ends Try.prog Fin (G ((base 14).at ⟨#[.int .i64 v, .int .i64 f, .int .i64 b, undef, undef, undef, .int .i64 0, .int .i64 st.1, .int .i64 st.2, j9, j10, j11, j12, j13, j14, j15, j16, j17, j18, j19, j20, j21, j22, j23, j24, j25, j26, j27, j28, j29, j30, j31, j32, j33, j34, j35], []⟩ k) cs) w) : Ends Try.prog Fin (Go.Conc.served g₂ (recvd true (.int .i64 0) false)) w := by
  obtain ⟨j9, j10, j11, j12, j13, j14, j15, j16, j17, j18, j19, j20, j21, j22, j24, j25, j26, j27, j28, j29, j30, j31, j32, j33, j34, j35, rfl⟩ := h
  refine Ends.walk (N + 6) fun B hB => ⟨12, goes_dl (Still := StillS N) hB ?_⟩
  simp only [waitGorB, loopB, takeB, bodyB, Try.f14, Option.getD_some, sq1, sq2, inn, opz]
  rw [served_fr, Frame.finish_at]
  simp only [recvd, if_true]
  walk_nrm
  q_op
  q_c stepG_region_end
  q_c stepG_seq
  q_cond false
  q_exit
  refine Goes.stop (fun w₁ h₁ => ?_)
  obtain ⟨d, rfl⟩ := h₁
  exact Ends.at (hc _ _ _ _ _ _ _ _ _ _ _ _ _ _ _ _ _ _ _ _ _ _ _ _ _ _ _) d

set_option maxRecDepth 100000 in
set_option maxHeartbeats 16000000 in
/-- THE WHOLE STATEMENT: the call that starts the worker, the loop that takes the speeds. -/
theorem takeB_e {Fin : Value → World → Prop} {w : World} (v f b : Int) (l c : Int) (hg : GovP v f b) (hcc : -1 ≤ c ∧ c ≤ 1000) (j9 j10 j11 j12 j13 j14 j15 j16 j17 j18 j19 j20 j21 j22 j23 j24 j25 j26 j27 j28 j29 j30 j31 j32 j33 j34 j35 : Value) :
    WpE Try.prog Fin 14 takeB (fun e a' w' => e = .normal ∧ Below w.heap.size w w' ∧ ∃ j9 j10 j11 j12 j13 j14 j15 j16 j17 j18 j19 j20 j21 j22 j23 j24 j25 j26 j27 j28 j29 j30 j31 j32 j33 j34 j35, a' = ⟨#[.int .i64 v, .int .i64 f, .int .i64 b, undef, undef, undef, .int .i64 0, .int .i64 (lastI l (v :: seqL f b 1000 v)), .int .i64 (c + 1 + ((seqL f b 1000 v).length : Int)), j9, j10, j11, j12, j13, j14, j15, j16, j17, j18, j19, j20, j21, j22, j23, j24, j25, j26, j27, j28, j29, j30, j31, j32, j33, j34, j35], []⟩) ⟨#[.int .i64 v, .int .i64 f, .int .i64 b, undef, undef, undef, .int .i64 0, .int .i64 l, .int .i64 c, j9, j10, j11, j12, j13, j14, j15, j16, j17, j18, j19, j20, j21, j22, j23, j24, j25, j26, j27, j28, j29, j30, j31, j32, j33, j34, j35], []⟩ w := by
  intro k cs hc
  obtain ⟨N, hN⟩ : ∃ N, w.heap.size = N := ⟨_, rfl⟩
  have hmc := mkSp
  have hme := mkSpE
  refine Ends.walk (N + 6) fun B hB => ⟨60, goes_first hB ?_⟩
  simp only [takeB, bodyB, Try.f14, Option.getD_some, sq1, sq2, inn, opz]
  i_c stepG_seq
  i_reg
  i_op
  i_op
  i_op
  i_in
  refine goes_call rfl rfl (by decide) rfl Try.func25 (by rfl) rfl ?_
  refine ⟨dh_none _, ?_⟩
  walk_nrmf Try.f25
  i_c stepG_seq
  i_reg
  i_op
  i_op
  i_op
  i_op
  i_op
  i_c stepG_region_end
  i_c stepG_seq
  i_reg
  i_op
  i_op
  i_op
  i_c stepG_region_end
  i_c stepG_seq
  i_reg
  i_mf
  clear hmc hme
  refine Goes.stop (fun w₁ h₁ => ?_)
  obtain ⟨d₁, rfl⟩ := h₁
  have hW := ws6 hN v f b 1000
  refine Ends.at (w := w6 w N v f b 1000) ?_ _
  refine Ends.hire (K := KS w N) (Still := StillS N) (c := N + 4) (z := .int .i64 0) (home := homeB N v f b k cs (l, c)) (C0 := N + 6) (child := born Try.prog (callC N)) (nh := 41) still_mem ksAt hW.k (by omega) (ch6 hN v f b 1000) (fun B' hB' => ?_) (fun B' M hB' hM => ?_)
  · refine atHire_of (d := callC N) rfl rfl (by decide) (fun w => by simp [go_sem, execOp, Act.eval, callC]) rfl (fun w => by simp [go_sem, execOp, Act.eval]) (by rfl) ?_ _
    walk_nrm
    refine .inl ⟨40, default, rfl, ?_⟩
    k_c stepG_region_end
    k_c stepG_seq
    k_reg
    k_in
    refine goes_oper_k rfl rfl (by decide) (fun K hK => ?_)
    have hc5 := KS.c h₁
    have hz5 := KS.cz h₁
    go_simp
    refine hK _ _ ⟨⟨rfl, fun e he => ?_⟩, ?_⟩
    · have hm := mem_listed he
      simp [go_sem, *] at hm
      subst hm
      exact evC_read _ (by rfl) (by simp; omega)
    clear hK K hc5 hz5
    k_in
    refine goes_oper_k rfl rfl (by decide) (fun K hK => ?_)
    go_simp
    refine hK _ _ ⟨⟨rfl, fun e he => ?_⟩, ?_⟩
    · have hm := mem_listed he
      simp [go_sem] at hm
    clear hK K
    k_c stepG_region_end
    k_c stepG_ret'
    k_in
    refine goes_leave1 rfl rfl Try.func25 rfl ?_
    refine ⟨ds_none _, ?_⟩
    walk_nrm
    k_c stepG_region_end
    k_c stepG_block
    k_c stepG_loop
    k_c stepG_seq
    k_reg
    exact Goes.stop (fun _ _ => ⟨_, atB w N B' v f b (l, c) k cs _ _ _ _ _ _ _ _ _ _ _ _ _ _ _ _ _ _ _ _ _ _ _ _ _ _⟩)
  · refine workC hB' hM (by omega) (by omega) (by omega) (fun st u g₂ h => nextB v f b k cs st u g₂ h) hg hW fun g₂ h w' hk => ?_
    rw [show (1000 : Int).toNat = 1000 from rfl, fold_pair (v :: seqL f b 1000 v) l c (by omega) (by have := seqL_len f b 1000 v; simp only [List.length_cons]; omega), List.length_cons, show c + (((seqL f b 1000 v).length + 1 : Nat) : Int) = c + 1 + ((seqL f b 1000 v).length : Int) by omega] at h
    exact overB v f b k cs _ g₂ h w' hk fun j9 j10 j11 j12 j13 j14 j15 j16 j17 j18 j19 j20 j21 j22 j23 j24 j25 j26 j27 j28 j29 j30 j31 j32 j33 j34 j35 => hc .normal _ w' ⟨rfl, by rw [hN]; exact hk.low, j9, j10, j11, j12, j13, j14, j15, j16, j17, j18, j19, j20, j21, j22, j23, j24, j25, j26, j27, j28, j29, j30, j31, j32, j33, j34, j35, rfl⟩
end Go.Proofs.Ytodpkfohihfndaa
