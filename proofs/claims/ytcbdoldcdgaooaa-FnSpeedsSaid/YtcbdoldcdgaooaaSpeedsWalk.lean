/- The walk of the law FnSpeeds. No condition. Made by gen_speeds.py. -/
import Derived.Test.YtcbdoldcdgaooaaSpeedSpec
import Derived.Test.YtcbdoldcdgaooaaImplSpeed
import Derived.Test.YtcbdoldcdgaooaaTuneDraw
import Derived.Test.YtcbdoldcdgaooaaChangeSpec2
import Derived.Deep.CutRange
import Derived.Deep.RegionHeld3
namespace Go.Proofs.Ytcbdoldcdgaooaa
open Go.ChangeShapes Go.WideShapes Go.ChangeAt Go.RowKit

theorem atV_any {w : World} {v : Value} {n : Nat} {B : Nat} (i : Nat) (hi : i ≤ 20) (hC : Code w B v n) (hn : n ≤ 1048576) :
    Calls Try.prog 13 #[v, .int .i64 (i : Nat)] w fun e w' => ∃ x : Int, 0 ≤ x ∧ x ≤ 255 ∧ e = .returned (.int .i64 x) ∧ w = w' := by
  rcases hC with ⟨rfl, a, cap, rfl⟩ | ⟨b, off, cap, rfl, hm, hbB, hcell⟩
  · go_enter Try.func13, Try.ntmps13
    go_wp2
    go_ret
    exact ⟨0, by omega, by omega, rfl, rfl⟩
  · unfold maxLen at hm
    by_cases h0 : n = 0
    · subst h0
      clear hcell
      go_enter Try.func13, Try.ntmps13
      go_wp2
      go_ret
      exact ⟨0, by omega, by omega, rfl, rfl⟩
    · obtain ⟨z, hz0, hz1, hz⟩ := hcell ((i * 5 + 1) % n) (Nat.mod_lt _ (by omega))
      clear hcell
      have h0' : ((n : Int) == 0) = false := by simpa using h0
      have hm0 : (0 : Int) ≤ ((i : Int) * 5 + 1) % (n : Int) := Int.emod_nonneg _ (by omega)
      have hm1 : ((i : Int) * 5 + 1) % (n : Int) < (n : Int) := Int.emod_lt_of_pos _ (by omega)
      have hm2 : (((i : Int) * 5 + 1) % (n : Int)).toNat = (i * 5 + 1) % n := by
        have e : ((i : Int) * 5 + 1) % (n : Int) = (((i * 5 + 1) % n : Nat) : Int) := by rw [Int.natCast_emod, Int.natCast_add, Int.natCast_mul]; rfl
        rw [e]; exact Int.toNat_natCast _
      go_enter Try.func13, Try.ntmps13
      go_wp2
      go_ret
      exact ⟨z, hz0, hz1, rfl, rfl⟩


theorem btoi_any (b : Bool) (w : World) : Calls Try.prog 51 #[.bool b] w fun e w' => e = .returned (.int .i64 (if b then 1 else 0)) ∧ w' = w := by
  cases b
  all_goals
    go_enter Try.func51, Try.ntmps51
    go_wp2
    go_ret
    exact ⟨rfl, rfl⟩

theorem btoi_yes (w : World) : Calls Try.prog 51 #[.bool true] w fun e w' => e = .returned (.int .i64 1) ∧ w' = w := btoi_any true w
theorem btoi_no (w : World) : Calls Try.prog 51 #[.bool false] w fun e w' => e = .returned (.int .i64 0) ∧ w' = w := btoi_any false w

/-- The drawn tune, slower and later. -/
theorem drawn_changes {t : List (Int × Int)} (h : TuneDrawn t) : slowerM 3 t = (shiftL 3 0 0 t, true) ∧ laterM 7 (shiftL 3 0 0 t) = (shiftL 3 7 0 t, true) ∧ SpeedP t (shiftL 3 7 0 t) (shortM t) (beatsM t) := by
  obtain ⟨_, ht, hd⟩ := h
  have h1 : tuneB (shiftL 3 0 0 t) = true := shift_tune (by omega) ht fun p hp => by have := hd p hp; omega
  have e : shiftL 1 7 0 (shiftL 3 0 0 t) = shiftL 3 7 0 t := by
    unfold shiftL; rw [List.map_map]
    refine List.map_congr_left fun p _ => ?_
    simp only [Function.comp]
    exact Prod.ext (by simp only; omega) (by simp only; omega)
  have h2 : tuneB (shiftL 3 7 0 t) = true := shift_tune (by omega) ht fun p hp => by have := hd p hp; omega
  refine ⟨changeM_yes (inB_true ⟨by omega, by omega⟩) ht h1, ?_, speed_of ht h2⟩
  rw [← e]
  exact changeM_yes (inB_true ⟨by omega, by omega⟩) h1 (by rw [e]; exact h2)

set_option maxHeartbeats 4000000 in
set_option maxRecDepth 1000000 in
theorem speeds_walk {w : World} {v : Value} {n : Nat} (hC : Code w w.heap.size v n) :
    Calls Try.prog 7 #[v] w fun e w' => e = .returned (.bool true) ∧ Below w.heap.size w w' := by
  by_cases hbig : 1048576 < n
  · go_enter Try.func7, Try.ntmps7
    go_wp2_with fail
    refine (big_yes hC hbig).mono ?_
    rintro e w1 ⟨rfl, rfl⟩
    go_wp2
    go_ret
    exact ⟨rfl, Below.refl _ _⟩
  · go_enter Try.func7, Try.ntmps7
    go_wp2_with fail
    refine (big_no hC hbig).mono ?_
    rintro e w1 ⟨rfl, rfl⟩
    go_wp2_with fail
    refine (atV_any 0 (by omega) hC (by omega)).mono ?_
    rintro e w1 ⟨x, hx0, hx1, rfl, rfl⟩
    have hx2 : 0 ≤ x % 96 := Int.emod_nonneg _ (by omega)
    have hx3 : x % 96 < 96 := Int.emod_lt_of_pos _ (by omega)
    have hx4 : x.tmod 96 = x % 96 := Int.tmod_eq_emod_of_nonneg hx0
    have hx5 : IntKind.i64.wrap (x % 96) = x % 96 := IntWalk.i64_in _ (by omega)
    have hx6 : IntKind.i64.wrap (1 + x % 96) = 1 + x % 96 := IntWalk.i64_in _ (by omega)
    go_wp2_with fail
    obtain ⟨a, ha⟩ : ∃ a, 1 + x % 96 = a := ⟨_, rfl⟩
    have ha1 : 1 ≤ a ∧ a ≤ 96 := by omega
    rw [ha]
    clear ha hx0 hx1 hx2 hx3 hx4 hx5 hx6
    refine (atV_any 1 (by omega) hC (by omega)).mono ?_
    rintro e w1 ⟨y, hy0, hy1, rfl, rfl⟩
    have hy5 : IntKind.i64.wrap (y * 3) = y * 3 := IntWalk.i64_in _ (by omega)
    have hy6 : IntKind.i64.wrap (1 + y * 3) = 1 + y * 3 := IntWalk.i64_in _ (by omega)
    go_wp2_with fail
    obtain ⟨b, hb⟩ : ∃ b, 1 + y * 3 = b := ⟨_, rfl⟩
    have hb1 : 1 ≤ b ∧ b ≤ 1000 := by omega
    rw [hb]
    clear hb hy0 hy1 hy5 hy6
    refine (atV_any 2 (by omega) hC (by omega)).mono ?_
    rintro e w1 ⟨s, hs0, hs1, rfl, rfl⟩
    have hT : TurnP a b := ⟨ha1, hb1⟩
    have hp := turn_pos hT
    have hs : 0 ≤ s ∧ s ≤ 3600 := ⟨by omega, by omega⟩
    have HTF : Hid (∀ W : World, Calls Try.prog 43 #[.int .i64 a, .int .i64 b, .int .i64 s] W (fun e w' => e = .returned (.int .i64 (tfM a b s)) ∧ W = w')) := Lib.hid fun W => tfI_any a b s
    have HTT : Hid (∀ W : World, Calls Try.prog 44 #[.int .i64 a, .int .i64 b] W (fun e w' => e = .returned (.int .i64 (a * b)) ∧ W = w')) := Lib.hid fun W => by have := ttI_any (w := W) a b; rwa [ttM_yes hT] at this
    have HP1 : Hid (∀ N, tfM a b s = N → 0 ≤ N → ∃ P, s ≤ P ∧ ∀ W : World, Calls Try.prog 45 #[.int .i64 a, .int .i64 b, .int .i64 N] W (fun e w' => e = .returned (.int .i64 P) ∧ W = w')) := Lib.hid fun N hN h => by subst hN; exact ⟨_, speed_enough hT hs h, fun W => plI_any a b _⟩
    have HP2 : Hid (∀ N, tfM a b s = N → 0 < N → ∃ P, P < s ∧ ∀ W : World, Calls Try.prog 45 #[.int .i64 a, .int .i64 b, .int .i64 (N - 1)] W (fun e w' => e = .returned (.int .i64 P) ∧ W = w')) := Lib.hid fun N hN h => by subst hN; exact ⟨_, speed_less hT hs h, fun W => plI_any a b _⟩
    have HP3 : Hid (∀ N, tfM a b s = N → N < 0 → ∃ P, P < s ∧ ∀ W : World, Calls Try.prog 45 #[.int .i64 a, .int .i64 b, .int .i64 1000] W (fun e w' => e = .returned (.int .i64 P) ∧ W = w')) := Lib.hid fun N hN h => by subst hN; exact ⟨_, speed_most hT hs h, fun W => plI_any a b _⟩
    have hN1 : -1 ≤ tfM a b s ∧ tfM a b s ≤ 1000 := by
      unfold tfM; split
      · rename_i k; exact ⟨by have := tfQ_pos hp.1 hs.1; omega, k.2.2⟩
      · omega
    have ew : IntKind.i64.wrap (a * b) = a * b := IntWalk.i64_in _ (by omega)
    have hn40 : n ≤ 1048576 := by omega
    clear hT hs hs0 hs1 hbig hp
    go_wp2_with fail
    refine (HTF.out _).mono ?_
    rintro e w1 ⟨rfl, rfl⟩
    generalize hN : tfM a b s = N at *
    have HN := Lib.hid hN
    clear hN HTF
    have eN : IntKind.i64.wrap (N - 1) = N - 1 := IntWalk.i64_in _ (by omega)
    go_upto_region 7 with fail
    go_cut [75] from 33 to 75 (fun s75 wx => s75 = .bool false ∧ w = wx)
    case first =>
      by_cases h0 : 0 ≤ N
      · have hn0 : ¬ N < 0 := by omega
        obtain ⟨P, hP, hPc⟩ := HP1.out N rfl h0
        have HPC := Lib.hid hPc
        have hP' : ¬ P < s := by omega
        clear hPc hP
        by_cases h1 : 0 < N
        · obtain ⟨Q, hQ, hQc⟩ := HP2.out N rfl h1
          have HQC := Lib.hid hQc
          have hQ' : ¬ s ≤ Q := by omega
          clear hQc hQ
          go_wp2_with fail
          refine (HTT.out _).mono ?_
          rintro e w1 ⟨rfl, rfl⟩
          go_wp2_with fail
          refine (HPC.out _).mono ?_
          rintro e w1 ⟨rfl, rfl⟩
          go_wp2_with fail
          refine (HQC.out _).mono ?_
          rintro e w1 ⟨rfl, rfl⟩
          go_wp2_with fail
          go_meet
          exact ⟨by first | rfl | (simp; done) | (simp; omega), rfl⟩
        · go_wp2_with fail
          refine (HTT.out _).mono ?_
          rintro e w1 ⟨rfl, rfl⟩
          go_wp2_with fail
          refine (HPC.out _).mono ?_
          rintro e w1 ⟨rfl, rfl⟩
          go_wp2_with fail
          go_meet
          exact ⟨by first | rfl | (simp; done) | (simp; omega), rfl⟩
      · have hn0 : N < 0 := by omega
        obtain ⟨P, hP, hPc⟩ := HP3.out N rfl hn0
        have HPC := Lib.hid hPc
        have hP' : ¬ s ≤ P := by omega
        clear hPc hP
        go_wp2_with fail
        refine (HTT.out _).mono ?_
        rintro e w1 ⟨rfl, rfl⟩
        go_wp2_with fail
        refine (HPC.out _).mono ?_
        rintro e w1 ⟨rfl, rfl⟩
        go_wp2_with fail
        go_meet
        exact ⟨by first | rfl | (simp; done) | (simp; omega), rfl⟩
    case rest =>
    obtain ⟨rfl, rfl⟩ := hcut
    clear HP1 HP2 HP3 HTT ew eN HN hN1
    go_wp2_with fail
    refine (drawtune_any hC).mono ?_
    rintro e w2 ⟨t, vt, htd, rfl, ot2, g2⟩
    clear hC
    obtain ⟨hsl, hla, hSP⟩ := drawn_changes htd
    have ht11 : t.length ≤ 11 := htd.1
    have HSL : Hid (∀ (W : World) (U : Value), Rd2 W U t → Calls Try.prog 47 #[U, .int .i64 3] W (NewNotesB W (shiftL 3 0 0 t) true)) := Lib.hid fun W U h => by
      have := slower_any 3 h (by omega)
      rwa [hsl] at this
    have HLA : Hid (∀ (W : World) (U : Value), Rd2 W U (shiftL 3 0 0 t) → Calls Try.prog 48 #[U, .int .i64 7] W (NewNotesB W (shiftL 3 7 0 t) true)) := Lib.hid fun W U h => by
      have := later_any 7 h (by rw [shiftL_len]; omega)
      rwa [hla] at this
    have hrp : ∀ p ∈ t, (0 ≤ p.1 ∧ p.1 ≤ 15) := fun p hp => (htd.2.2 p hp).1
    have HRP := Lib.hid hrp
    clear hsl hla htd hrp
    generalize shiftL 3 0 0 t = u at *
    generalize shiftL 3 7 0 t = vv at *
    generalize shortM t = x at *
    generalize beatsM t = g at *
    have HSP := Lib.hid hSP
    have hg1000 := hSP.le
    clear hSP
    have HB1 : Hid (∀ (W : World) (U : Value), Rc2 W U t → Calls Try.prog 49 #[U] W (fun e w' => e = .returned (.int .i64 (g : Int)) ∧ Below W.heap.size W w')) := Lib.hid fun W U h => by
      have := beatsI_any h
      rwa [HSP.out.beats] at this
    have HB2 : Hid (∀ (W : World) (U : Value), Rc2 W U vv → Calls Try.prog 49 #[U] W (fun e w' => e = .returned (.int .i64 (3 * (g : Int))) ∧ Below W.heap.size W w')) := Lib.hid fun W U h => by
      have := beatsI_any h
      rw [HSP.out.more, Int.natCast_mul] at this
      exact this
    have HS1 : Hid (∀ (W : World) (U : Value), Rc2 W U t → Calls Try.prog 50 #[U] W (NewNotes W x)) := Lib.hid fun W U h => by
      have := shortI_any h
      rwa [HSP.out.short] at this
    have HS2 : Hid (∀ (W : World) (U : Value), Rc2 W U vv → Calls Try.prog 50 #[U] W (NewNotes W x)) := Lib.hid fun W U h => by
      have := shortI_any h
      rwa [HSP.out.same] at this
    have HB3 : Hid (∀ (W : World) (U : Value), Rc2 W U x → Calls Try.prog 49 #[U] W (fun e w' => e = .returned (.int .i64 (if 0 < g then 1 else 0)) ∧ Below W.heap.size W w')) := Lib.hid fun W U h => by
      have := beatsI_any h
      rw [HSP.out.one] at this
      by_cases hg : 0 < g
      · rw [if_pos hg] at this ⊢; exact this
      · rw [if_neg hg] at this ⊢; exact this
    have HF16 : Hid (∀ (W : World) (U : Value), Rc2 W U t → Calls Try.prog 52 #[U, .int .i64 16] W (fun e w' => e = .returned (.bool (decide (endT x < 16))) ∧ Below W.heap.size W w')) := Lib.hid fun W U h => by
      have := fitsI_any 16 h
      rwa [HSP.out.fit16] at this
    have HF4 : Hid (∀ (W : World) (U : Value), Rc2 W U t → Calls Try.prog 52 #[U, .int .i64 4] W (fun e w' => e = .returned (.bool (decide (endT x < 4))) ∧ Below W.heap.size W w')) := Lib.hid fun W U h => by
      have := fitsI_any 4 h
      rwa [HSP.out.fit4] at this
    have HF0 : Hid (∀ (W : World), Calls Try.prog 52 #[.slice none 0 0, .int .i64 4] W (fun e w' => e = .returned (.bool true) ∧ Below W.heap.size W w')) := Lib.hid fun W => by
      have := fitsI_any (w := W) (v := .slice none 0 0) (l := []) 4 ⟨⟨rfl, by simp [maxLen], Or.inl ⟨rfl, _, _, rfl⟩⟩, ⟨none, 0, 0, rfl, Nat.le_refl _⟩⟩
      rwa [fits_nil] at this
    have HLEN := Lib.hid HSP.out.len
    have e3g : IntKind.i64.wrap (3 * (g : Int)) = 3 * (g : Int) := IntWalk.i64_in _ (by omega)
    have hg0 : ¬ (g : Int) < 0 := by omega
    obtain ⟨at_, ct, rfl⟩ := ownS_slice ot2
    go_wp2_with fail
    refine (HSL.out _ _ (Rd.of_own ot2)).mono ?_
    rintro e w3 ⟨vu, rfl, ou3, k3⟩
    have ot3 := ownS_below ot2 k3
    have g3 := bstep g2 k3
    clear k3 ot2 g2 HSL
    go_wp2_with fail
    refine (HLA.out _ _ (Rd.of_own ou3)).mono ?_
    rintro e w4 ⟨vw, rfl, ov4, k4⟩
    have ot4 := ownS_below ot3 k4
    have g4 := bstep g3 k4
    clear k4 ot3 g3 ou3 HLA
    go_wp2_with fail
    refine (HB1.out _ _ (Rc2.of_own ot4)).mono ?_
    rintro e w5 ⟨rfl, k5⟩
    have ot5 := ownS_below ot4 k5
    have ov5 := ownS_below ov4 k5
    have g5 := bstep g4 k5
    clear k5 ot4 ov4 g4 HB1
    go_wp2_with fail
    refine (HS1.out _ _ (Rc2.of_own ot5)).mono ?_
    rintro e w6 ⟨vx, rfl, ox6, k6⟩
    have ot6 := ownS_below ot5 k6
    have ov6 := ownS_below ov5 k6
    have g6 := bstep g5 k6
    clear k6 ot5 ov5 g5 HS1
    go_wp2_with fail
    refine (HS2.out _ _ (Rc2.of_own ov6)).mono ?_
    rintro e w7 ⟨vy, rfl, oy7, k7⟩
    have ot7 := ownS_below ot6 k7
    have ov7 := ownS_below ov6 k7
    have ox7 := ownS_below ox6 k7
    have g7 := bstep g6 k7
    clear k7 ot6 ov6 ox6 g6 HS2
    go_wp2_with fail
    refine (HB2.out _ _ (Rc2.of_own ov7)).mono ?_
    rintro e w8 ⟨rfl, k8⟩
    have RT := Lib.hid (Rc2.of_own (ownS_below ot7 k8))
    have RX := Lib.hid (Rc2.of_own (ownS_below ox7 k8))
    have RY := Lib.hid (Rc2.of_own (ownS_below oy7 k8))
    have g8 := bstep g7 k8
    obtain ⟨ax, cx, rfl⟩ := ownS_slice ox7
    obtain ⟨ay, cy, rfl⟩ := ownS_slice oy7
    clear k8 ot7 ov7 ox7 oy7 g7 HB2
    have HXP : Hid (∀ k : Nat, x[k]? = none → t.length ≤ k) := Lib.hid fun k h => by rw [← HLEN.out]; exact List.getElem?_eq_none_iff.1 h
    generalize hm : x.length = m at *
    have HM : Hid (x.length = m) := Lib.hid hm
    obtain rfl : m = t.length := HLEN.out
    clear hm HLEN
    go_wp2_with fail
    go_loopw [15] (fun v15 wr => ∃ k : Nat, k ≤ t.length ∧ v15 = .int .i64 (k : Int) ∧ Below w8.heap.size w8 wr) (fun v15 _ => t.length - (intOf v15).toNat)
    case atStart => exact ⟨0, Nat.zero_le _, rfl, Below.refl _ _⟩
    case round =>
      obtain ⟨k, hk, rfl, hbr⟩ := hrel
      by_cases hlt : k < t.length
      · obtain ⟨p, hp⟩ : ∃ p, t[k]? = some p := ⟨_, List.getElem?_eq_getElem hlt⟩
        obtain ⟨q, c, hq, hc, hq2, hqa, hqb, hqg, hqz⟩ := HSP.out.at_ k p hp
        have hrp := HRP.out p (List.mem_of_getElem? hp)
        have hrc := HRP.out c (List.mem_of_getElem? hc)
        have hpos : 0 < t.length := by omega
        have hlti : (k : Int) < (t.length : Int) := by omega
        obtain ⟨b1, o1, c1, hv1, p0, p1⟩ := Rd2.cells (Rd.below RT.out.1 hbr) hp
        obtain ⟨b2, o2, c2, hv2, a0, -⟩ := Rd2.cells (Rd.below RT.out.1 hbr) hc
        obtain ⟨b3, o3, c3, hv3, x0, x1⟩ := Rd2.cells (Rd.below RX.out.1 hbr) hq
        obtain ⟨b4, o4, c4, hv4, y0, y1⟩ := Rd2.cells (Rd.below RY.out.1 hbr) hq
        rw [HM.out] at hv3 hv4
        simp only [Value.slice.injEq, true_and] at hv1 hv2 hv3 hv4
        obtain ⟨rfl, rfl⟩ := hv1
        simp only [Option.some.injEq, Addr.mk.injEq, and_true] at hv2
        obtain ⟨⟨rfl, rfl⟩, rfl⟩ := hv2
        obtain ⟨rfl, rfl⟩ := hv3
        obtain ⟨rfl, rfl⟩ := hv4
        rw [Nat.zero_mul, Nat.add_zero] at a0
        have ew1 : IntKind.i64.wrap (p.1 - c.1) = p.1 - c.1 := IntWalk.i64_in _ (by omega)
        have hne : ∀ W : World, (binOp .neq 41 (.agg #[.int .i64 q.1, .int .i64 q.2]) (.agg #[.int .i64 q.1, .int .i64 q.2])).run Try.prog W = .ok (.bool false) W := fun W => neq_no rfl W
        rw [hq2] at hne x1 y1
        have hb2 : (p.2 != p.2) = false := by simp
        clear hp hq hc hrp hrc
        go_wp2_with fail
        by_cases hg : 0 < g
        · have hgi : (0 : Int) < (g : Int) := by omega
          have hgz : ((g : Int) == 0) = false := by rw [beq_eq_false_iff_ne]; omega
          have eg := hqg hg
          have ew2 : IntKind.i64.wrap (q.1 * (g : Int)) = p.1 - c.1 := by rw [eg]; exact ew1
          clear hqg hqz eg
          go_quiet (fail)
          have g9 := below_drewN hbr nq
          generalize wr.drewN nq = w9 at *
          clear p0 p1 a0 x0 x1 y0 y1 hbr
          go_wp2
          go_roundw
          case rel => exact ⟨k + 1, by omega, by go_num, g9⟩
          case measure => simp [intOf]; omega
        · have hgi : ¬ (0 : Int) < (g : Int) := by omega
          have hgd : decide ((0 : Int) < (g : Int)) = false := decide_eq_false hgi
          have hgz : ((g : Int) == 0) = true := by rw [beq_iff_eq]; omega
          have hq0 := hqz (by omega)
          rw [hq0] at x0 y0 hne
          clear hqg hqz
          go_quiet (fail)
          have g9 := below_drewN hbr nq
          generalize wr.drewN nq = w9 at *
          clear p0 p1 a0 x0 x1 y0 y1 hbr
          go_wp2
          go_roundw
          case rel => exact ⟨k + 1, by omega, by go_num, g9⟩
          case measure => simp [intOf]; omega
      · obtain rfl : k = t.length := by omega
        have g9 := bstep g8 hbr
        have RT9 := Lib.hid (RT.out.below hbr)
        have RX9 := Lib.hid (RX.out.below hbr)
        clear RY RT RX hbr g8
        have hnl : ¬ (t.length : Int) < (t.length : Int) := by omega
        go_upto_if 183 with fail
        go_cut [16] from 181 to 190 (fun s16 wx => s16 = .int .i64 (endT x) ∧ wr = wx)
        case first =>
          by_cases h0 : t.length = 0
          · have hx : endT x = 0 := by
              have : x = [] := List.length_eq_zero_iff.1 (by rw [HM.out]; exact h0)
              rw [this]; rfl
            have h0d : decide (0 < (t.length : Int)) = false := decide_eq_false (by omega)
            have h0n : ¬ 0 < (t.length : Int) := by omega
            clear h0
            go_wp2_with fail
            go_meet
            exact ⟨by rw [hx], rfl⟩
          · obtain ⟨q, hq⟩ : ∃ q, x[x.length - 1]? = some q := ⟨_, List.getElem?_eq_getElem (by have := HM.out; omega)⟩
            have HE := Lib.hid (endT_at hq)
            obtain ⟨b3, o3, c3, hv3, x0, x1⟩ := Rd2.cells RX9.out.1 hq
            rw [HM.out] at hv3 x0
            simp only [Value.slice.injEq, true_and] at hv3
            obtain ⟨rfl, rfl⟩ := hv3
            have hpos : 0 < t.length := by omega
            have hd : decide (0 < (t.length : Int)) = true := decide_eq_true (by omega)
            have j1 : (0 : Int) ≤ (t.length : Int) - 1 := by omega
            have j2 : (1 : Int) ≤ (t.length : Int) := by omega
            have j3 : (t.length : Int) - 1 < (t.length : Int) := by omega
            have j4 : 1 ≤ t.length := by omega
            have ej1 : IntKind.i64.wrap ((t.length : Int) - 1) = (t.length : Int) - 1 := IntWalk.i64_in _ (by omega)
            have ej2 : ((t.length : Int) - 1).toNat = t.length - 1 := by omega
            clear hq x1
            go_wp2_with fail
            go_meet
            exact ⟨by rw [HE.out], rfl⟩
        case rest =>
        obtain ⟨rfl, rfl⟩ := hcut
        clear hlt hk hnl
        generalize endT x = L at *
        go_wp2_with fail
        refine (HB3.out _ _ RX9.out).mono ?_
        rintro e w10 ⟨rfl, k10⟩
        have RT10 := Lib.hid (RT9.out.below k10)
        have g10 := bstep g9 k10
        clear k10 RX9 RT9 g9 HB3
        by_cases hg : 0 < g
        all_goals
          first
            | rw [if_pos hg]
            | rw [if_neg hg]
          first
            | have hgi : (0 : Int) < (g : Int) := by omega
            | (have hgi : ¬ (0 : Int) < (g : Int) := by omega)
          go_wp2_with fail
          first
            | refine (btoi_yes _).mono ?_
            | refine (btoi_no _).mono ?_
          rintro e w11 ⟨rfl, rfl⟩
          go_wp2_with fail
          refine (HF16.out _ _ RT10.out).mono ?_
          rintro e w12 ⟨rfl, k12⟩
          have RT12 := Lib.hid (RT10.out.below k12)
          have g12 := bstep g10 k12
          clear k12 RT10 g10
          go_wp2_with fail
          refine (HF4.out _ _ RT12.out).mono ?_
          rintro e w13 ⟨rfl, k13⟩
          have g13 := bstep g12 k13
          clear k13 RT12 g12
          go_wp2_with fail
          refine (HF0.out _).mono ?_
          rintro e w14 ⟨rfl, k14⟩
          have g14 := bstep g13 k14
          clear k14 g13
          go_wp2
          go_ret
          exact ⟨rfl, g14⟩
end Go.Proofs.Ytcbdoldcdgaooaa
