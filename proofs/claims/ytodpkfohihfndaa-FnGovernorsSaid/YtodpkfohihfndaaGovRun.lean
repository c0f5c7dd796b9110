/- The worker that sends speeds, whole: from its birth to its close, goroutine 0 taking each. Made by gen_govrun.py. No condition. -/
import Derived.Test.YtodpkfohihfndaaGovChild
import Derived.Test.YtodpkfohihfndaaGovSeq
import Derived.Test.YtodpkfohihfndaaRunHold
set_option linter.unusedSimpArgs false
set_option linter.unusedVariables false
namespace Go.Proofs.Ytodpkfohihfndaa
open Go Go.Conc Go.RowKit

theorem ksAt {W : World} {N : Nat} : ∀ w d, KS W N w → KS W N (w.at d) := fun _ d h => h.at d
theorem ksChan {W : World} {N : Nat} : ∀ w cap buf cl a b tm, KS W N w → KS W N (w.setChan (N + 4) cap buf cl a b tm) := fun _ _ _ _ _ _ _ h => h.setChan _ _ _ _ _ _
theorem still_mem {N : Nat} : ∀ l, StillS N l → l.isMemory = true := fun l h => by rw [show l = .cell (chA N) from h]; rfl
theorem dq_to {W : World} {N B : Nat} (hB : N + 6 ≤ B) (Inb : Nat → Option Seat) : ∀ w w' es, DQ (StillS N) (N + 6) w w' es → DH (KS W N) (StillS N) B Inb w w' es := fun _ _ _ ⟨e, h⟩ => e ▸ ⟨id, fun _ _ _ _ _ => rfl, fun x hx => evHd_mono hB (h x hx)⟩
theorem dw_to {W : World} {N B : Nat} (hB : N + 6 ≤ B) {z : Value} {home : Goroutine → Prop} : ∀ w w' es, DW N w w' es → DH (KS W N) (StillS N) B (InbZ (N + 4) z home) w w' es := fun w w' es ⟨e, h⟩ => by
  refine ⟨fun hk => ?_, fun i s c hi hc => ?_, fun x hx => evHd_mono hB (h x hx)⟩
  · rcases e with rfl | ⟨u, rfl⟩
    · exact hk
    · exact hk.setCell u
  · have := inbZ_has hi hc
    rcases e with rfl | ⟨u, rfl⟩
    · rfl
    · rw [Below.heap_setCell _ _ _ _ (by simp; omega)]
theorem give_mono {P : Program} {main : Bool} {Still : Loc → Prop} {B B' c : Nat} {v : Value} {After : Goroutine → Prop} {g : Goroutine} {w : World} (hB : B ≤ B') (h : AtGive P main Still B c v After g w) : AtGive P main Still B' c v After g w := by
  obtain ⟨h1, g₂, z, es, h2, h3, h4⟩ := h
  exact ⟨h1, g₂, z, es, fun e he => evHd_mono hB (h2 e he), h3, h4⟩

section
variable {W : World} {N B h M : Nat} {f b n : Int} {Fin : Value → World → Prop} {St : Type} {home : St → Goroutine → Prop} {nxt : St → Int → St} {nC : Nat}

set_option maxHeartbeats 1000000 in
/-- From the loop's head with m rounds to go. -/
theorem runC (hB : N + 6 ≤ B) (h0 : 0 < h) (hM : 0 < M) (hn : n ≤ 1000)
    (hC : ∀ st v g₂, home st g₂ → Sits Try.prog true (KS W N) (StillS N) B (Seat.one (N + 4) (.int .i64 0) true (home (nxt st v))) nC (Go.Conc.served g₂ (recvd true (.int .i64 v) true))) :
    ∀ (m : Nat) (i x : Int) (st : St) (w : World), i + m = n → 0 ≤ i → GovP x f b → WS W N f b n x w →
      (∀ g₂, home ((seqL f b m x).foldl nxt st) g₂ → ∀ w', KS W N w' → Ends Try.prog Fin (Go.Conc.served g₂ (recvd true (.int .i64 0) false)) w') →
      ∀ (j5 j6 j7 j10 j11 j12 j13 j14 j15 j16 j17 j18 j19 j20 j21 j22 : Value), Holds Try.prog Fin (KS W N) (StillS N) B (InbZ (N + 4) (.int .i64 0) (home st)) h M (headC N n i j5 j6 j7 j10 j11 j12 j13 j14 j15 j16 j17 j18 j19 j20 j21 j22) w := by
  -- the close
  have hclose : ∀ (st : St) (w : World) (g : Goroutine) (k : Nat), w.heap[N + 4]? = some (.chan 0 #[] false k k false) →
      (∀ g₂, home st g₂ → ∀ w', KS W N w' → Ends Try.prog Fin (Go.Conc.served g₂ (recvd true (.int .i64 0) false)) w') → AtShut Try.prog false (N + 4) (fun g => QuitsD Try.prog 2 0 g) g w →
      Holds Try.prog Fin (KS W N) (StillS N) B (InbZ (N + 4) (.int .i64 0) (home st)) h M g w := fun st w g k hk hE hS => Holds.close ksAt ksChan h0 hM hS hk hE
  intro m
  induction m with
  | zero =>
    intro i x st w him hi0 hg hK hE j5 j6 j7 j10 j11 j12 j13 j14 j15 j16 j17 j18 j19 j20 j21 j22
    obtain ⟨k, hk⟩ := hK.ch
    refine Holds.step ksAt (dq_to hB _) (by omega) (doneC hK i (decide_eq_false (by omega)) j5 j6 j7 j10 j11 j12 j13 j14 j15 j16 j17 j18 j19 j20 j21 j22) fun g w' ⟨⟨d, hd⟩, hS⟩ => ?_
    subst hd
    exact hclose st _ g k hk hE hS
  | succ m ih =>
    intro i x st w him hi0 hg hK hE j5 j6 j7 j10 j11 j12 j13 j14 j15 j16 j17 j18 j19 j20 j21 j22
    obtain ⟨k, hk⟩ := hK.ch
    have hnx := nxtM_yes (govB_true.2 hg)
    by_cases q : nxtQ x f b = x
    · obtain ⟨r, hr⟩ := steadyC hK i (decide_eq_true (by omega)) (by rw [hnx, q]; exact beq_self_eq_true x) j5 j6 j7 j10 j11 j12 j13 j14 j15 j16 j17 j18 j19 j20 j21 j22
      refine Holds.step ksAt (dq_to hB _) (by omega) hr fun g w' ⟨⟨d, hd⟩, hS⟩ => ?_
      subst hd
      rw [seqL_stay q] at hE
      exact hclose st _ g k hk hE hS
    · rw [seqL_move q] at hE
      have hy : (if 100000 < nxtM x f b then 100000 else nxtM x f b) = stpQ x f b := by rw [hnx]; unfold stpQ; split <;> omega
      obtain ⟨r, hr⟩ := moveC hK i (decide_eq_true (by omega)) (by rw [hnx, beq_eq_false_iff_ne]; exact q) hy j5 j6 j7 j10 j11 j12 j13 j14 j15 j16 j17 j18 j19 j20 j21 j22
      refine Holds.step ksAt (dq_to hB _) (by omega) hr fun g w' ⟨⟨d, hd⟩, j5, j6, j7, j10, j11, j12, j13, j14, j15, j16, j17, j18, j20, j21, j22, hS⟩ => ?_
      subst hd hS
      have hK1 := hK.at d
      refine Holds.step ksAt (dw_to hB) (by omega) (putC hK1 i (stpQ x f b) j5 j6 j7 j10 j11 j12 j13 j14 j15 j16 j17 j18 j20 j21 j22) fun g w' ⟨⟨d2, hd⟩, hS⟩ => ?_
      subst hd hS
      have hK2 := (hK1.setCell (stpQ x f b)).at d2
      refine Holds.step ksAt (dq_to hB _) (by omega) (sendC hK2 i (stpQ x f b) j5 j6 j7 j10 j11 j12 j13 j14 j15 j16 j17 j18 j20 j21 j22) fun g w' ⟨⟨d3, hd⟩, hS⟩ => ?_
      subst hd
      have hK3 := hK2.at d3
      obtain ⟨k3, hk3⟩ := hK3.ch
      refine Holds.send ksAt ksChan (by omega) hM (give_mono hB hS) hk3 (hC st (stpQ x f b)) ?_
      rintro g' ⟨j5, j6, j7, j10, j11, j12, j13, j14, j15, j16, j17, j18, j19, j20, j21, j22, rfl⟩ d4
      have hK4 := (hK3.at d4).setChan (k3 + 1)
      refine Holds.step ksAt (dq_to hB _) (by omega) (nextC hK4 i (IntWalk.i64_in _ (by omega)) j5 j6 j7 j10 j11 j12 j13 j14 j15 j16 j17 j18 j19 j20 j21 j22) fun g w' ⟨⟨d5, hd⟩, j5, j6, j7, j10, j11, j12, j13, j14, j15, j16, j17, j18, j19, j20, j21, j22, hS⟩ => ?_
      subst hd hS
      exact ih (i + 1) (stpQ x f b) (nxt st (stpQ x f b)) _ (by omega) (by omega) (stp_gov hg) (hK4.at d5) hE j5 j6 j7 j10 j11 j12 j13 j14 j15 j16 j17 j18 j19 j20 j21 j22

set_option maxHeartbeats 1000000 in
/-- From its birth. -/
theorem workC (hB : N + 6 ≤ B) (h0 : 0 < h) (hM : 0 < M) (hn : n ≤ 1000) (hn0 : 0 ≤ n) {x : Int} {st : St} {w : World}
    (hC : ∀ st v g₂, home st g₂ → Sits Try.prog true (KS W N) (StillS N) B (Seat.one (N + 4) (.int .i64 0) true (home (nxt st v))) nC (Go.Conc.served g₂ (recvd true (.int .i64 v) true)))
    (hg : GovP x f b) (hK : WS W N f b n x w) (hE : ∀ g₂, home ((x :: seqL f b n.toNat x).foldl nxt st) g₂ → ∀ w', KS W N w' → Ends Try.prog Fin (Go.Conc.served g₂ (recvd true (.int .i64 0) false)) w') :
    Holds Try.prog Fin (KS W N) (StillS N) B (InbZ (N + 4) (.int .i64 0) (home st)) h M (born Try.prog (callC N)) w := by
  refine Holds.step ksAt (dq_to hB _) (by omega) (birthC hK) fun g w' ⟨⟨d, hd⟩, hS⟩ => ?_
  subst hd
  have hK1 := hK.at d
  obtain ⟨k1, hk1⟩ := hK1.ch
  refine Holds.send ksAt ksChan (by omega) hM (give_mono hB hS) hk1 (hC st x) ?_
  rintro g' ⟨j6, j7, rfl⟩ d2
  have hK2 := (hK1.at d2).setChan (k1 + 1)
  refine Holds.step ksAt (dq_to hB _) (by omega) (firstC hK2 j6 j7) fun g w' ⟨⟨d3, hd⟩, j5, j6, j7, j10, j11, j12, j13, j14, j15, j16, j17, j18, j19, j20, j21, j22, hS⟩ => ?_
  subst hd hS
  exact runC hB h0 hM hn hC n.toNat 0 x (nxt st x) _ (by omega) (Int.le_refl 0) hg (hK2.at d3) hE j5 j6 j7 j10 j11 j12 j13 j14 j15 j16 j17 j18 j19 j20 j21 j22
end
end Go.Proofs.Ytodpkfohihfndaa
