/- The walk of the law FnSprings: THE PROGRAM'S OWN CONTRACTS ARE PREMISES. Made by gen_springs.py. -/
import Derived.Test.YtghigeeplponlaaSprDraw
import Derived.Deep.CutRange
import Derived.Deep.RegionHeld3
namespace Go.Proofs.Ytghigeeplponlaa
open Go.ChangeShapes Go.WideShapes Go.ChangeAt Go.RowKit

theorem atS_any {w : World} {v : Value} {n : Nat} {B : Nat} (i : Nat) (hi : i ≤ 20) (hC : Code w B v n) (hn : n ≤ 1048576) :
    Calls Try.prog 12 #[v, .int .i64 (i : Nat)] w fun e w' => ∃ x : Int, 0 ≤ x ∧ x ≤ 255 ∧ e = .returned (.int .i64 x) ∧ w = w' := by
  rcases hC with ⟨rfl, a, cap, rfl⟩ | ⟨b, off, cap, rfl, hm, hbB, hcell⟩
  · go_enter Try.func12, Try.ntmps12
    go_wp2
    go_ret
    exact ⟨0, by omega, by omega, rfl, rfl⟩
  · unfold maxLen at hm
    by_cases h0 : n = 0
    · subst h0
      clear hcell
      go_enter Try.func12, Try.ntmps12
      go_wp2
      go_ret
      exact ⟨0, by omega, by omega, rfl, rfl⟩
    · obtain ⟨z, hz0, hz1, hz⟩ := hcell ((i * 5 + 1) % n) (Nat.mod_lt _ (by omega))
      clear hcell
      have h0' : ((n : Int) == 0) = false := by simpa using h0
      have hm0 : (0 : Int) ≤ ((i : Int) * 5 + 1) % (n : Int) := Int.emod_nonneg _ (by omega)
      have hm1 : ((i : Int) * 5 + 1) % (n : Int) < (n : Int) := Int.emod_lt_of_pos _ (by omega)
      have hm2 : (((i : Int) * 5 + 1) % (n : Int)).toNat = (i * 5 + 1) % n := by
        have e : ((i : Int) * 5 + 1) % (n : Int) = (((i * 5 + 1) % n : Nat) : Int) := by rw [Int.natCast_emod, Int.natCast_add, Int.natCast_mul]; rfl
        rw [e]; exact Int.toNat_natCast _
      go_enter Try.func12, Try.ntmps12
      go_wp2
      go_ret
      exact ⟨z, hz0, hz1, rfl, rfl⟩


/-- All that FnSprings asks of winding: the turns w afterwards, those that were possible a. -/
theorem wind_facts {t m f n : Int} (h : SprP t m f) (hn : 0 ≤ n ∧ n ≤ 29) : ∃ u a : Int, windM t m f n = (u, a) ∧ unwM u m f a = (t, a) ∧ (0 ≤ a ∧ a ≤ n) ∧ u = t + a ∧ SprP u m f ∧ frcQ t m f ≤ frcQ u m f ∧ (a = n ∨ u = m) := by
  have hs := sprB_true.2 h
  obtain ⟨hm, ht, hf⟩ := id h
  have hu : SprP (t + min n (m - t)) m f := ⟨hm, ⟨by omega, by omega⟩, hf⟩
  refine ⟨_, _, windM_yes hs ⟨hn.1, by omega⟩, ?_, ⟨by omega, by omega⟩, rfl, hu, frc_mono h (by omega), by omega⟩
  rw [unwM_yes (sprB_true.2 hu) ⟨by omega, by omega⟩]
  exact Prod.ext (by show t + min n (m - t) - min (min n (m - t)) (t + min n (m - t)) = t; omega) (by show min (min n (m - t)) (t + min n (m - t)) = min n (m - t); omega)

set_option maxHeartbeats 4000000 in
set_option maxRecDepth 1000000 in
theorem springs_walk {w : World} {v : Value} {n : Nat}
    (hO : ∀ (W : World) (t m f : Int), Calls Try.prog 17 #[.agg #[.int .i64 t, .int .i64 m, .int .i64 f]] W (fun e w' => e = .returned (.bool (sprB t m f)) ∧ Below W.heap.size W w'))
    (hF : ∀ (W : World) (t m f : Int), Calls Try.prog 15 #[.agg #[.int .i64 t, .int .i64 m, .int .i64 f]] W (fun e w' => e = .returned (.int .i64 (frcM t m f)) ∧ Below W.heap.size W w'))
    (hW : ∀ (W : World) (t m f n : Int), Calls Try.prog 13 #[.agg #[.int .i64 t, .int .i64 m, .int .i64 f], .int .i64 n] W (SprAns W (windM t m f n).1 m f (windM t m f n).2))
    (hU : ∀ (W : World) (t m f n : Int), Calls Try.prog 14 #[.agg #[.int .i64 t, .int .i64 m, .int .i64 f], .int .i64 n] W (SprAns W (unwM t m f n).1 m f (unwM t m f n).2))
    (hT : ∀ (W : World) (t m f n : Int), Calls Try.prog 16 #[.agg #[.int .i64 t, .int .i64 m, .int .i64 f], .int .i64 n] W (fun e w' => e = .returned (.int .i64 (twM t m f n)) ∧ Below W.heap.size W w'))
    (hK : ∀ (W : World) (t m f : Int), Calls Try.prog 19 #[.agg #[.int .i64 t, .int .i64 m, .int .i64 f]] W (fun e w' => e = .returned (.int .i64 (wkM t m f)) ∧ Below W.heap.size W w'))
    (hC : Code w w.heap.size v n) :
    Calls Try.prog 3 #[v] w fun e w' => e = .returned (.bool true) ∧ Below w.heap.size w w' := by
  by_cases hbig : 1048576 < n
  · go_enter Try.func3, Try.ntmps3
    go_wp2_with fail
    refine (big_yes hC hbig).mono ?_
    rintro e w1 ⟨rfl, rfl⟩
    go_wp2
    go_ret
    exact ⟨rfl, Below.refl _ _⟩
  · have P := Lib.hid (And.intro hO (And.intro hF (And.intro hW (And.intro hU (And.intro hT hK)))))
    clear hO hF hW hU hT hK
    go_enter Try.func3, Try.ntmps3
    go_wp2_with fail
    refine (big_no hC hbig).mono ?_
    rintro e w1 ⟨rfl, rfl⟩
    go_wp2_with fail
    refine (drawspring_any hC).mono ?_
    rintro e w2 ⟨T, m, f, ⟨hs, hm20⟩, rfl, hb2⟩
    have HCD := Lib.hid hC
    have HS := Lib.hid hs
    clear hC
    obtain ⟨⟨hm0, -⟩, ⟨ht0, ht1⟩, hf0, hf1⟩ := id hs
    clear hs
    obtain ⟨t, htT⟩ : ∃ t : Int, (T : Int) = t := ⟨_, rfl⟩
    have HTT := Lib.hid htT
    rw [htT] at HS ht0 ht1
    simp only [htT]
    clear htT
    have g2 := hb2.alloc hb2.size (.cells #[.int .i64 t, .int .i64 m, .int .i64 f] 25)
    have hX := b3_new w2 t m f 25
    clear hb2
    go_wp2_with fail
    generalize w2.alloc (.cells #[.int .i64 t, .int .i64 m, .int .i64 f] 25) = W2 at *
    generalize w2.heap.size = bs at *
    refine (atS_any 0 (by omega) (HCD.out.below g2) (by omega)).mono ?_
    rintro e w3 ⟨x, hx0, hx1, rfl, rfl⟩
    have hx2 : 0 ≤ x % 30 := Int.emod_nonneg _ (by omega)
    have hx3 : x % 30 ≤ 29 := by omega
    obtain ⟨u, a, hwind, hunw, ⟨ha0, ha1⟩, hua, hus, hfu, hend⟩ := wind_facts HS.out ⟨hx2, hx3⟩
    have HW : Hid (∀ W : World, Calls Try.prog 13 #[.agg #[.int .i64 t, .int .i64 m, .int .i64 f], .int .i64 (x % 30)] W (SprAns W u m f a)) := Lib.hid fun W => by
      have := P.out.2.2.1 W t m f (x % 30); rw [hwind] at this; exact this
    have HU : Hid (∀ W : World, Calls Try.prog 14 #[.agg #[.int .i64 u, .int .i64 m, .int .i64 f], .int .i64 a] W (SprAns W t m f a)) := Lib.hid fun W => by
      have := P.out.2.2.2.1 W u m f a; rw [hunw] at this; exact this
    obtain ⟨F, hF⟩ : ∃ F, frcQ t m f = F := ⟨_, rfl⟩
    have HF : Hid (∀ W : World, Calls Try.prog 15 #[.agg #[.int .i64 t, .int .i64 m, .int .i64 f]] W (fun e w' => e = .returned (.int .i64 F) ∧ Below W.heap.size W w')) := Lib.hid fun W => by
      have := P.out.2.1 W t m f; rw [frcM_yes (sprB_true.2 HS.out), hF] at this; exact this
    obtain ⟨G, hG⟩ : ∃ G, frcQ u m f = G := ⟨_, rfl⟩
    have HG : Hid (∀ W : World, Calls Try.prog 15 #[.agg #[.int .i64 u, .int .i64 m, .int .i64 f]] W (fun e w' => e = .returned (.int .i64 G) ∧ Below W.heap.size W w')) := Lib.hid fun W => by
      have := P.out.2.1 W u m f; rw [frcM_yes (sprB_true.2 hus), hG] at this; exact this
    have HO : Hid (∀ W : World, Calls Try.prog 17 #[.agg #[.int .i64 u, .int .i64 m, .int .i64 f]] W (fun e w' => e = .returned (.bool true) ∧ Below W.heap.size W w')) := Lib.hid fun W => by
      have := P.out.1 W u m f; rw [sprB_true.2 hus] at this; exact this
    have HT0 : Hid (∀ W : World, Calls Try.prog 16 #[.agg #[.int .i64 t, .int .i64 m, .int .i64 f], .int .i64 0] W (fun e w' => e = .returned (.int .i64 t) ∧ Below W.heap.size W w')) := Lib.hid fun W => by
      have := P.out.2.2.2.2.1 W t m f 0
      rw [twM_yes (sprB_true.2 HS.out) ⟨by omega, by omega⟩, show t.toNat = T by have := HTT.out; omega, tw_zero (by rw [HTT.out]; exact HS.out), HTT.out] at this; exact this
    have HWK : Hid (∀ W : World, Calls Try.prog 19 #[.agg #[.int .i64 t, .int .i64 m, .int .i64 f]] W (fun e w' => e = .returned (.int .i64 (wkQ m f T)) ∧ Below W.heap.size W w')) := Lib.hid fun W => by
      have := P.out.2.2.2.2.2 W t m f
      rw [wkM_yes (sprB_true.2 HS.out), show t.toNat = T by have := HTT.out; omega] at this; exact this
    have HFQ : Hid (∀ q : Nat, q ≤ T → (0 ≤ frcQ (q : Int) m f ∧ frcQ (q : Int) m f ≤ 10000) ∧ (∀ W : World, Calls Try.prog 15 #[.agg #[.int .i64 (q : Int), .int .i64 m, .int .i64 f]] W (fun e w' => e = .returned (.int .i64 (frcQ (q : Int) m f)) ∧ Below W.heap.size W w')) ∧ ((1 : Int) ≤ (q : Int) → ∀ W : World, Calls Try.prog 18 #[.agg #[.int .i64 (q : Int), .int .i64 m, .int .i64 f], .int .i64 1] W (SprAns W ((q : Int) - 1) m f 1))) := Lib.hid fun q hq => by
      have hp : SprP (q : Int) m f := spr_less HS.out (by omega) (by have := HTT.out; omega)
      refine ⟨⟨(frc_bounds hp).2.2.1, (frc_bounds hp).2.2.2.2⟩, fun W => ?_, fun h1 W => ?_⟩
      · have := P.out.2.1 W (q : Int) m f; rw [frcM_yes (sprB_true.2 hp)] at this; exact this
      · have := unwG_any (w := W) (q : Int) m f 1
        rw [unwM_yes (sprB_true.2 hp) ⟨by omega, by omega⟩, show min 1 (q : Int) = 1 by omega] at this; exact this
    have hFb := (frc_bounds HS.out).2.2
    rw [hF] at hFb
    obtain ⟨hFb0, hFb1, -⟩ := hFb
    rw [hF, hG] at hfu
    -- the turns with the need
    have HTW : Hid (∀ need : Int, 0 ≤ need → need ≤ 510 → ∃ K : Int, (0 ≤ K ∧ K ≤ t) ∧ (0 < K → need ≤ F) ∧ (∀ W : World, Calls Try.prog 16 #[.agg #[.int .i64 t, .int .i64 m, .int .i64 f], .int .i64 need] W (fun e w' => e = .returned (.int .i64 K) ∧ Below W.heap.size W w')) ∧ (∀ W : World, Calls Try.prog 18 #[.agg #[.int .i64 t, .int .i64 m, .int .i64 f], .int .i64 K] W (SprAns W (t - K) m f K)) ∧ (K < t → ∃ H : Int, H < need ∧ ∀ W : World, Calls Try.prog 15 #[.agg #[.int .i64 (t - K), .int .i64 m, .int .i64 f]] W (fun e w' => e = .returned (.int .i64 H) ∧ Below W.heap.size W w'))) := Lib.hid fun need h0 h1 => by
      have hle := twQ_le m f need T
      have htt := HTT.out
      have hbd := HS.out
      have h50 := hbd.1.2
      have h51 := hbd.2.1.2
      refine ⟨((twQ m f need T : Nat) : Int), ⟨by omega, by omega⟩, fun q => ?_, fun W => ?_, fun W => ?_, fun q => ⟨frcQ (t - ((twQ m f need T : Nat) : Int)) m f, ?_, fun W => ?_⟩⟩
      · have := tw_first (m := m) (f := f) (need := need) (t := T) (by omega); rw [htt, hF] at this; exact this
      · have := P.out.2.2.2.2.1 W t m f need
        rw [twM_yes (sprB_true.2 hbd) ⟨h0, by omega⟩, show t.toNat = T by omega] at this; exact this
      · have := unwG_any (w := W) t m f ((twQ m f need T : Nat) : Int)
        rw [unwM_yes (sprB_true.2 hbd) ⟨by omega, by omega⟩, show min ((twQ m f need T : Nat) : Int) t = ((twQ m f need T : Nat) : Int) by omega] at this; exact this
      · have := tw_after (m := m) (f := f) (need := need) (t := T) (by omega)
        rw [show ((T - twQ m f need T : Nat) : Int) = t - ((twQ m f need T : Nat) : Int) by omega] at this; exact this
      · have := P.out.2.1 W (t - ((twQ m f need T : Nat) : Int)) m f
        rw [frcM_yes (sprB_true.2 (spr_less hbd (by omega) (by omega)))] at this; exact this
    have HEND := Lib.hid hend
    have HUA := Lib.hid hua
    have ewa : IntKind.i64.wrap (t + a) = u := by rw [hua]; exact IntWalk.i64_in _ (by omega)
    have ewb : wrap64 (t + a) = u := by rw [hua]; unfold wrap64; omega
    clear hwind hunw hus hend hF hG P HS hua
    -- wind
    obtain ⟨-, ⟨x0, x1, x2⟩, -⟩ := id hX
    go_wp2_with fail
    generalize x % 30 = nn at *
    refine (HW.out _).mono ?_
    rintro e w4 ⟨rfl, k4⟩
    have g4 := (bstep g2 k4).alloc (bstep g2 k4).size (.cells #[.int .i64 u, .int .i64 m, .int .i64 f] 25)
    have kA : Below w4.heap.size w4 (w4.alloc (.cells #[.int .i64 u, .int .i64 m, .int .i64 f] 25)) := (Below.refl _ _).alloc (Nat.le_refl _) _
    have hX4 := (hX.below k4).below kA
    have hY := b3_new w4 u m f 25
    clear g2 k4 kA hX x0 x1 x2
    obtain ⟨-, ⟨y0, y1, y2⟩, -⟩ := id hY
    go_wp2_with fail
    generalize w4.alloc (.cells #[.int .i64 u, .int .i64 m, .int .i64 f] 25) = W4 at *
    generalize w4.heap.size = bw at *
    -- unwind
    refine (HU.out _).mono ?_
    rintro e w5 ⟨rfl, k5⟩
    have g5 := (bstep g4 k5).alloc (bstep g4 k5).size (.cells #[.int .i64 t, .int .i64 m, .int .i64 f] 25)
    have kA : Below w5.heap.size w5 (w5.alloc (.cells #[.int .i64 t, .int .i64 m, .int .i64 f] 25)) := (Below.refl _ _).alloc (Nat.le_refl _) _
    have hX5 := (hX4.below k5).below kA
    have hY5 := (hY.below k5).below kA
    have hZ := b3_new w5 t m f 25
    clear g4 k5 kA hX4 hY y0 y1 y2
    obtain ⟨-, ⟨x0, x1, x2⟩, -⟩ := id hX5
    go_wp2_with fail
    generalize w5.alloc (.cells #[.int .i64 t, .int .i64 m, .int .i64 f] 25) = W5 at *
    generalize w5.heap.size = bu at *
    -- the force
    refine (HF.out _).mono ?_
    rintro e w6 ⟨rfl, k6⟩
    have g6 := bstep g5 k6
    have hX6 := hX5.below k6
    have hY6 := hY5.below k6
    have hZ6 := hZ.below k6
    clear g5 k6 hX5 hY5 hZ x0 x1 x2
    go_wp2_with fail
    refine (atS_any 1 (by omega) (HCD.out.below g6) (by omega)).mono ?_
    rintro e w7 ⟨y, hy0, hy1, rfl, rfl⟩
    have ewy : IntKind.i64.wrap (y * 2) = y * 2 := IntWalk.i64_in _ (by omega)
    have ewy2 : wrap64 (y * 2) = y * 2 := by unfold wrap64; omega
    obtain ⟨K, ⟨hK0, hK1⟩, hKF, hKT, hKU, hKH⟩ := HTW.out (y * 2) (by omega) (by omega)
    have HKF := Lib.hid hKF
    have HKT := Lib.hid hKT
    have HKU := Lib.hid hKU
    have HKH := Lib.hid hKH
    clear HTW hKF hKT hKU hKH
    obtain ⟨-, ⟨x0, x1, x2⟩, -⟩ := id hX6
    go_wp2_with fail
    generalize y * 2 = need at *
    refine (HKT.out _).mono ?_
    rintro e w8 ⟨rfl, k8⟩
    have g8 := bstep g6 k8
    have hX8 := hX6.below k8
    have hY8 := hY6.below k8
    have hZ8 := hZ6.below k8
    clear g6 k8 hX6 hY6 hZ6 x0 x1 x2
    obtain ⟨-, ⟨x0, x1, x2⟩, -⟩ := id hX8
    obtain ⟨-, ⟨y0, y1, y2⟩, -⟩ := id hY8
    obtain ⟨-, ⟨z0, z1, z2⟩, -⟩ := id hZ8
    go_wp2_with fail
    refine (HG.out _).mono ?_
    rintro e w9 ⟨rfl, k9⟩
    have g9 := bstep g8 k9
    have hX9 := hX8.below k9
    have hY9 := hY8.below k9
    clear g8 k9 hX8 hY8 hZ8 x0 x1 x2 y0 y1 y2 z0 z1 z2
    obtain ⟨-, ⟨x0, x1, x2⟩, -⟩ := id hX9
    obtain ⟨-, ⟨y0, y1, y2⟩, -⟩ := id hY9
    go_wp2_with fail
    refine (HO.out _).mono ?_
    rintro e wA ⟨rfl, kA⟩
    have gA := bstep g9 kA
    have hXA := hX9.below kA
    have hYA := hY9.below kA
    clear g9 kA hX9 hY9 x0 x1 x2 y0 y1 y2
    obtain ⟨-, ⟨x0, x1, x2⟩, -⟩ := id hXA
    go_wp2_with fail
    -- what is left with less than the need
    refine (HKU.out _).mono ?_
    rintro e wB ⟨rfl, kB⟩
    have gB := (bstep gA kB).alloc (bstep gA kB).size (.cells #[.int .i64 (t - K), .int .i64 m, .int .i64 f] 25)
    have kC : Below wB.heap.size wB (wB.alloc (.cells #[.int .i64 (t - K), .int .i64 m, .int .i64 f] 25)) := (Below.refl _ _).alloc (Nat.le_refl _) _
    have hXB := (hXA.below kB).below kC
    have hYB := (hYA.below kB).below kC
    have hVB := b3_new wB (t - K) m f 25
    clear gA kB kC hXA hYA x0 x1 x2 HW HU HF HG HO HKT HKU
    obtain ⟨-, ⟨x0, x1, x2⟩, -⟩ := id hXB
    obtain ⟨-, ⟨v0, v1, v2⟩, -⟩ := id hVB
    go_upto_region 13 with fail
    generalize wB.alloc (.cells #[.int .i64 (t - K), .int .i64 m, .int .i64 f] 25) = WB at *
    generalize wB.heap.size = bv at *
    go_cut [124] from 106 to 124 (fun s124 wx => s124 = .bool false ∧ Below WB.heap.size WB wx)
    case first =>
      by_cases hlt : K < t
      · obtain ⟨H, hH, hHC⟩ := HKH.out hlt
        have HHC := Lib.hid hHC
        have hHd : decide (H ≥ need) = false := decide_eq_false (by omega)
        clear hHC
        by_cases hk0 : 0 < K
        · have hFn := HKF.out hk0
          have hFd : decide (F < need) = false := decide_eq_false (by omega)
          have hKd : decide (K > 0) = true := decide_eq_true hk0
          go_wp2_with fail
          refine (HHC.out _).mono ?_
          rintro e wC ⟨rfl, kC⟩
          go_wp2_with fail
          go_meet
          exact ⟨rfl, kC⟩
        · have hKd : decide (K > 0) = false := decide_eq_false hk0
          go_wp2_with fail
          refine (HHC.out _).mono ?_
          rintro e wC ⟨rfl, kC⟩
          go_wp2_with fail
          go_meet
          exact ⟨rfl, kC⟩
      · by_cases hk0 : 0 < K
        · have hFn := HKF.out hk0
          have hFd : decide (F < need) = false := decide_eq_false (by omega)
          have hKd : decide (K > 0) = true := decide_eq_true hk0
          go_wp2_with fail
          go_meet
          exact ⟨rfl, Below.refl _ _⟩
        · have hKd : decide (K > 0) = false := decide_eq_false hk0
          go_wp2_with fail
          go_meet
          exact ⟨rfl, Below.refl _ _⟩
    case rest =>
    obtain ⟨rfl, hcb⟩ := hcut
    rename World => wC
    have gC := bstep gB hcb
    have hXC := hXB.below hcb
    have hYC := hYB.below hcb
    clear hcb gB hXB hYB hVB x0 x1 x2 v0 v1 v2 HKF HKH
    obtain ⟨-, ⟨x0, x1, x2⟩, -⟩ := id hXC
    -- the work, turn by turn
    have gD := gC.alloc gC.size (.cells #[.int .i64 t, .int .i64 m, .int .i64 f] 25)
    have kD : Below wC.heap.size wC (wC.alloc (.cells #[.int .i64 t, .int .i64 m, .int .i64 f] 25)) := (Below.refl _ _).alloc (Nat.le_refl _) _
    have hXD := hXC.below kD
    have hYD := hYC.below kD
    have hVD := b3_new wC t m f 25
    have hles := gC.size
    have hbsl := hXC.1
    have hbwl := hYC.1
    clear kD gC hXC hYC
    go_wp2_with fail
    generalize wC.alloc (.cells #[.int .i64 t, .int .i64 m, .int .i64 f] 25) = WD at *
    obtain ⟨bv2, hbv⟩ : ∃ b, b = wC.heap.size := ⟨_, rfl⟩
    rw [← hbv] at hVD hles hbsl hbwl
    simp only [← hbv]
    clear hbv x0 x1 x2
    have hn1 : bv2 ≠ bs := by omega
    have hn2 : bv2 ≠ bw := by omega
    clear hbsl hbwl
    go_loopw [14] (fun v14 wr => ∃ (q : Nat) (R : Int), q ≤ T ∧ v14 = .int .i64 R ∧ (0 ≤ R ∧ R ≤ 10000 * ((T : Int) - (q : Int))) ∧ Hid (wkQ m f T = R + wkQ m f q) ∧ B3 wr bv2 (q : Int) m f ∧ B3 wr bs t m f ∧ B3 wr bw u m f ∧ Below w.heap.size w wr) (fun _ wr => tOf wr bv2)
    case atStart => exact ⟨T, 0, Nat.le_refl _, rfl, ⟨by omega, by omega⟩, Lib.hid (by omega), by rw [HTT.out]; exact hVD, hXD, hYD, gD⟩
    case round =>
      obtain ⟨q, R, hq, rfl, ⟨hR0, hR1⟩, HR, hB, hXr, hYr, hbr⟩ := hrel
      clear hVD hXD hYD gD
      have hTt : T ≤ 50 := by have := HTT.out; omega
      obtain ⟨-, ⟨v0, v1, v2⟩, vf⟩ := id hB
      cases q with
      | succ q =>
        obtain ⟨⟨hf0', hf1'⟩, hfc, huc⟩ := HFQ.out (q + 1) hq
        have HFC := Lib.hid hfc
        have HUC := Lib.hid (huc (by omega))
        obtain ⟨U, hU⟩ : ∃ U : Int, U = ((q + 1 : Nat) : Int) := ⟨_, rfl⟩
        have HN : Hid (wkQ m f T = (R + frcQ U m f) + wkQ m f q) := Lib.hid (by rw [HR.out, hU]; simp only [wkQ]; omega)
        have HTM := Lib.hid (tOf_b3 hB)
        have HU1 : Hid (U - 1 = (q : Int)) := Lib.hid (by omega)
        rw [← hU] at v0 hB hf0' hf1' HFC HUC hR1
        rw [HU1.out] at HUC
        have hUp : U > 0 := by omega
        clear hU hfc huc
        generalize frcQ U m f = Z at *
        go_wp2_with fail
        refine (HFC.out _).mono ?_
        rintro e wE ⟨rfl, kE⟩
        have hBE := hB.below kE
        have hXE := hXr.below kE
        have hYE := hYr.below kE
        have gE := bstep hbr kE
        clear hB hXr hYr kE hbr v0 v1 v2 vf
        obtain ⟨-, ⟨v0, v1, v2⟩, -⟩ := id hBE
        have ew : IntKind.i64.wrap (R + Z) = R + Z := IntWalk.i64_in _ (by omega)
        go_wp2_with fail
        refine (HUC.out _).mono ?_
        rintro e wF ⟨rfl, kF⟩
        have hBF := hBE.below kF
        have hXF := hXE.below kF
        have hYF := hYE.below kF
        have gF := bstep gE kF
        clear hBE hXE hYE kF gE v0 v1 v2
        obtain ⟨-, ⟨v0, v1, v2⟩, vf⟩ := id hBF
        have vf0 := vf 0
        have vf1 := vf 1
        have vf2 := vf 2
        obtain ⟨hBG, q1, q2⟩ := b3_all hBF (q : Int) m f
        have hXG := wrS_far hXF hn1 (q : Int) m f
        have hYG := wrS_far hYF hn2 (q : Int) m f
        have gG := wrS_below gF hles (q : Int) m f
        have HTG := Lib.hid (tOf_b3 hBG)
        unfold wrS at hBG hXG hYG gG HTG
        clear hBF hXF hYF gF
        go_wp2
        go_roundw
        case rel => exact ⟨q, R + Z, by omega, rfl, ⟨by omega, by have := HU1.out; omega⟩, HN, hBG, hXG, hYG, gG⟩
        case measure => rw [HTM.out, HTG.out]; omega
      | zero =>
        have HWR : Hid (wkQ m f T = R) := Lib.hid (by rw [HR.out]; simp [wkQ])
        rw [HWR.out] at HWK
        clear HR HFQ HWR HTT
        obtain ⟨-, ⟨x0, x1, x2⟩, -⟩ := id hXr
        obtain ⟨-, ⟨y0, y1, y2⟩, -⟩ := id hYr
        clear hB hXr hYr v1 v2 vf
        have hRR : (R == R) = true := by rw [beq_iff_eq]
        have htt : (t == t) = true := by rw [beq_iff_eq]
        go_upto_region 20 with fail
        clear v0
        by_cases hE : a = nn
        · have hEd : (a == nn) = true := by rw [beq_iff_eq]; exact hE
          clear hE HEND HUA
          refine wp_region_held_drew (S := fun w' => (w'.cell? ⟨bs, 0, none⟩ = some (.int .i64 t) ∧ w'.cell? ⟨bs, 1, none⟩ = some (.int .i64 m) ∧ w'.cell? ⟨bs, 2, none⟩ = some (.int .i64 f)) ∧ w'.cell? ⟨bw, 0, none⟩ = some (.int .i64 u)) (by kernel_rfl) ?_ (fun hHeld => ?_)
          · (try dsimp only); go_keep
          refine wpAnyH_take (i := 0) (oi := { dst := some 138, op := _, type := _, pos := _, after := _, guard := _ }) (v := ?v138n1) rfl (by kernel_rfl) (by kernel_rfl) (by kernel_rfl) (fun _ _ _ h => h) (Or.inl ⟨by rfl, ?hy138n1⟩) (by assumption) ?rest138n1
          case hy138n1 => ((intro w' hSw; (try dsimp only at hSw); go_simp); try (with_reducible rfl))
          try simp only [Act.put, List.setIfInBounds_toArray, List.set_cons_zero, List.set_cons_succ]
          refine wpAnyH_take (i := 2) (oi := { dst := some 140, op := _, type := _, pos := _, after := _, guard := _ }) (v := ?v140n2) rfl (by kernel_rfl) (by kernel_rfl) (by kernel_rfl) (fun _ _ _ h => h) (Or.inl ⟨by rfl, ?hy140n2⟩) (by assumption) ?rest140n2
          case hy140n2 => ((intro w' hSw; (try dsimp only at hSw); go_simp); try (with_reducible rfl))
          try simp only [Act.put, List.setIfInBounds_toArray, List.set_cons_zero, List.set_cons_succ]
          refine wpAnyH_ready (rs := [1]) (by kernel_rfl) (by simp) ?_
          refine AllReadyH.cons rfl (fun K hK => ?_) ?_
          · go_simp
            go_at_call 19
            (with_reducible refine (HWK.out _).mono ?_)
            rintro e wa ⟨rfl, ka0⟩
            have ka := below_undrew ka0
            have p0 := kept_b ka x0
            have p1 := kept_b ka x1
            have p2 := kept_b ka x2
            have p3 := kept_b ka y0
            clear ka0
            refine hK.out _ _ ?_ (fun hHeld => ?_)
            · (try dsimp only); go_keep
            clear hK K
            try simp only [Act.put, List.setIfInBounds_toArray, List.set_cons_zero, List.set_cons_succ]
            refine wpAnyH_take (i := 3) (oi := { dst := some 141, op := _, type := _, pos := _, after := _, guard := _ }) (v := ?v141n18) rfl (by kernel_rfl) (by kernel_rfl) (by kernel_rfl) (fun _ _ _ h => h) (Or.inl ⟨by rfl, ?hy141n18⟩) (by assumption) ?rest141n18
            case hy141n18 => ((intro w' hSw; (try dsimp only at hSw); go_simp); try (with_reducible rfl))
            try simp only [Act.put, List.setIfInBounds_toArray, List.set_cons_zero, List.set_cons_succ]
            refine wpAnyH_take (i := 4) (oi := { dst := some 142, op := _, type := _, pos := _, after := _, guard := _ }) (v := ?v142n19) rfl (by kernel_rfl) (by kernel_rfl) (by kernel_rfl) (fun _ _ _ h => h) (Or.inl ⟨by rfl, ?hy142n19⟩) (by assumption) ?rest142n19
            case hy142n19 => ((intro w' hSw; (try dsimp only at hSw); go_simp); try (with_reducible rfl))
            try simp only [Act.put, List.setIfInBounds_toArray, List.set_cons_zero, List.set_cons_succ]
            refine wpAnyH_take (i := 5) (oi := { dst := some 143, op := _, type := _, pos := _, after := _, guard := _ }) (v := ?v143n20) rfl (by kernel_rfl) (by kernel_rfl) (by kernel_rfl) (fun _ _ _ h => h) (Or.inl ⟨by rfl, ?hy143n20⟩) (by assumption) ?rest143n20
            case hy143n20 => ((intro w' hSw; (try dsimp only at hSw); go_simp); try (with_reducible rfl))
            try simp only [Act.put, List.setIfInBounds_toArray, List.set_cons_zero, List.set_cons_succ]
            refine wpAnyH_take (i := 7) (oi := { dst := some 145, op := _, type := _, pos := _, after := _, guard := _ }) (v := ?v145n21) rfl (by kernel_rfl) (by kernel_rfl) (by kernel_rfl) (fun _ _ _ h => h) (Or.inl ⟨by rfl, ?hy145n21⟩) (by assumption) ?rest145n21
            case hy145n21 => ((intro w' hSw; (try dsimp only at hSw); go_simp); try (with_reducible rfl))
            try simp only [Act.put, List.setIfInBounds_toArray, List.set_cons_zero, List.set_cons_succ]
            refine wpAnyH_take (i := 8) (oi := { dst := some 146, op := _, type := _, pos := _, after := _, guard := _ }) (v := ?v146n22) rfl (by kernel_rfl) (by kernel_rfl) (by kernel_rfl) (fun _ _ _ h => h) (Or.inl ⟨by rfl, ?hy146n22⟩) (by assumption) ?rest146n22
            case hy146n22 => ((intro w' hSw; (try dsimp only at hSw); go_simp); try (with_reducible rfl))
            try simp only [Act.put, List.setIfInBounds_toArray, List.set_cons_zero, List.set_cons_succ]
            refine wpAnyH_ready (rs := [6]) (by kernel_rfl) (by simp) ?_
            refine AllReadyH.cons rfl (fun K hK => ?_) ?_
            · go_simp
              go_at_call 16
              (with_reducible refine (HT0.out _).mono ?_)
              rintro e wb ⟨rfl, kb0⟩
              have kb := bstep ka kb0
              have q0 := kept_b kb0 p0
              have q1 := kept_b kb0 p1
              have q2 := kept_b kb0 p2
              have q3 := kept_b kb0 p3
              clear kb0
              refine hK.out _ _ ?_ (fun hHeld => ?_)
              · (try dsimp only); go_keep
              clear hK K
              try simp only [Act.put, List.setIfInBounds_toArray, List.set_cons_zero, List.set_cons_succ]
              refine wpAnyH_take (i := 9) (oi := { dst := some 147, op := _, type := _, pos := _, after := _, guard := _ }) (v := ?v147n3) rfl (by kernel_rfl) (by kernel_rfl) (by kernel_rfl) (fun _ _ _ h => h) (Or.inl ⟨by rfl, ?hy147n3⟩) (by assumption) ?rest147n3
              case hy147n3 => ((intro w' hSw; (try dsimp only at hSw); go_simp); try (with_reducible rfl))
              try simp only [Act.put, List.setIfInBounds_toArray, List.set_cons_zero, List.set_cons_succ]
              refine wpAnyH_take (i := 10) (oi := { dst := some 148, op := _, type := _, pos := _, after := _, guard := _ }) (v := ?v148n4) rfl (by kernel_rfl) (by kernel_rfl) (by kernel_rfl) (fun _ _ _ h => h) (Or.inl ⟨by rfl, ?hy148n4⟩) (by assumption) ?rest148n4
              case hy148n4 => ((intro w' hSw; (try dsimp only at hSw); go_simp); try (with_reducible rfl))
              try simp only [Act.put, List.setIfInBounds_toArray, List.set_cons_zero, List.set_cons_succ]
              refine wpAnyH_take (i := 11) (oi := { dst := some 149, op := _, type := _, pos := _, after := _, guard := _ }) (v := ?v149n5) rfl (by kernel_rfl) (by kernel_rfl) (by kernel_rfl) (fun _ _ _ h => h) (Or.inl ⟨by rfl, ?hy149n5⟩) (by assumption) ?rest149n5
              case hy149n5 => ((intro w' hSw; (try dsimp only at hSw); go_simp); try (with_reducible rfl))
              try simp only [Act.put, List.setIfInBounds_toArray, List.set_cons_zero, List.set_cons_succ]
              refine wpAnyH_take (i := 12) (oi := { dst := some 150, op := _, type := _, pos := _, after := _, guard := _ }) (v := ?v150n6) rfl (by kernel_rfl) (by kernel_rfl) (by kernel_rfl) (fun _ _ _ h => h) (Or.inl ⟨by rfl, ?hy150n6⟩) (by assumption) ?rest150n6
              case hy150n6 => ((intro w' hSw; (try dsimp only at hSw); go_simp); try (with_reducible rfl))
              try simp only [Act.put, List.setIfInBounds_toArray, List.set_cons_zero, List.set_cons_succ]
              refine wpAnyH_take (i := 13) (oi := { dst := some 151, op := _, type := _, pos := _, after := _, guard := _ }) (v := ?v151n7) rfl (by kernel_rfl) (by kernel_rfl) (by kernel_rfl) (fun _ _ _ h => h) (Or.inl ⟨by rfl, ?hy151n7⟩) (by assumption) ?rest151n7
              case hy151n7 => ((intro w' hSw; (try dsimp only at hSw); go_simp); try (with_reducible rfl))
              try simp only [Act.put, List.setIfInBounds_toArray, List.set_cons_zero, List.set_cons_succ]
              refine wpAnyH_take (i := 14) (oi := { dst := some 152, op := _, type := _, pos := _, after := _, guard := _ }) (v := ?v152n8) rfl (by kernel_rfl) (by kernel_rfl) (by kernel_rfl) (fun _ _ _ h => h) (Or.inl ⟨by rfl, ?hy152n8⟩) (by assumption) ?rest152n8
              case hy152n8 => ((intro w' hSw; (try dsimp only at hSw); go_simp); try (with_reducible rfl))
              try simp only [Act.put, List.setIfInBounds_toArray, List.set_cons_zero, List.set_cons_succ]
              refine wpAnyH_take (i := 15) (oi := { dst := some 153, op := _, type := _, pos := _, after := _, guard := _ }) (v := ?v153n9) rfl (by kernel_rfl) (by kernel_rfl) (by kernel_rfl) (fun _ _ _ h => h) (Or.inl ⟨by rfl, ?hy153n9⟩) (by assumption) ?rest153n9
              case hy153n9 => ((intro w' hSw; (try dsimp only at hSw); go_simp); try (with_reducible rfl))
              try simp only [Act.put, List.setIfInBounds_toArray, List.set_cons_zero, List.set_cons_succ]
              refine wpAnyH_take (i := 16) (oi := { dst := some 154, op := _, type := _, pos := _, after := _, guard := _ }) (v := undef) rfl (by kernel_rfl) (by kernel_rfl) (by kernel_rfl) (fun _ _ _ h => h) (Or.inr ⟨by rfl, rfl⟩) (by assumption) ?rest154n10
              try simp only [Act.put, List.setIfInBounds_toArray, List.set_cons_zero, List.set_cons_succ]
              refine wpAnyH_take (i := 17) (oi := { dst := some 155, op := _, type := _, pos := _, after := _, guard := _ }) (v := undef) rfl (by kernel_rfl) (by kernel_rfl) (by kernel_rfl) (fun _ _ _ h => h) (Or.inr ⟨by rfl, rfl⟩) (by assumption) ?rest155n11
              try simp only [Act.put, List.setIfInBounds_toArray, List.set_cons_zero, List.set_cons_succ]
              refine wpAnyH_take (i := 18) (oi := { dst := some 156, op := _, type := _, pos := _, after := _, guard := _ }) (v := undef) rfl (by kernel_rfl) (by kernel_rfl) (by kernel_rfl) (fun _ _ _ h => h) (Or.inr ⟨by rfl, rfl⟩) (by assumption) ?rest156n12
              try simp only [Act.put, List.setIfInBounds_toArray, List.set_cons_zero, List.set_cons_succ]
              refine wpAnyH_take (i := 19) (oi := { dst := some 157, op := _, type := _, pos := _, after := _, guard := _ }) (v := undef) rfl (by kernel_rfl) (by kernel_rfl) (by kernel_rfl) (fun _ _ _ h => h) (Or.inr ⟨by rfl, rfl⟩) (by assumption) ?rest157n13
              try simp only [Act.put, List.setIfInBounds_toArray, List.set_cons_zero, List.set_cons_succ]
              refine wpAnyH_take (i := 20) (oi := { dst := some 158, op := _, type := _, pos := _, after := _, guard := _ }) (v := undef) rfl (by kernel_rfl) (by kernel_rfl) (by kernel_rfl) (fun _ _ _ h => h) (Or.inr ⟨by rfl, rfl⟩) (by assumption) ?rest158n14
              try simp only [Act.put, List.setIfInBounds_toArray, List.set_cons_zero, List.set_cons_succ]
              refine wpAnyH_take (i := 21) (oi := { dst := some 159, op := _, type := _, pos := _, after := _, guard := _ }) (v := ?v159n15) rfl (by kernel_rfl) (by kernel_rfl) (by kernel_rfl) (fun _ _ _ h => h) (Or.inl ⟨by rfl, ?hy159n15⟩) (by assumption) ?rest159n15
              case hy159n15 => ((intro w' hSw; (try dsimp only at hSw); go_simp); try (with_reducible rfl))
              try simp only [Act.put, List.setIfInBounds_toArray, List.set_cons_zero, List.set_cons_succ]
              refine wpAnyH_take (i := 22) (oi := { dst := some 160, op := _, type := _, pos := _, after := _, guard := _ }) (v := ?v160n16) rfl (by kernel_rfl) (by kernel_rfl) (by kernel_rfl) (fun _ _ _ h => h) (Or.inl ⟨by rfl, ?hy160n16⟩) (by assumption) ?rest160n16
              case hy160n16 => ((intro w' hSw; (try dsimp only at hSw); go_simp); try (with_reducible rfl))
              try simp only [Act.put, List.setIfInBounds_toArray, List.set_cons_zero, List.set_cons_succ]
              refine wpAnyH_take (i := 23) (oi := { dst := some 2, op := _, type := _, pos := _, after := _, guard := _ }) (v := ?v2n17) rfl (by kernel_rfl) (by kernel_rfl) (by kernel_rfl) (fun _ _ _ h => h) (Or.inl ⟨by rfl, ?hy2n17⟩) (by assumption) ?rest2n17
              case hy2n17 => ((intro w' hSw; (try dsimp only at hSw); go_simp); try (with_reducible rfl))
              try simp only [Act.put, List.setIfInBounds_toArray, List.set_cons_zero, List.set_cons_succ]
              refine wpAnyH_done (by kernel_rfl) ?_ _
              try go_wp2
              go_ret
              exact ⟨rfl, bstep hbr kb⟩
            exact AllReadyH.nil
          exact AllReadyH.nil
        · have hum : u = m := by rcases HEND.out with q | q; exact absurd q hE; exact q
          have hEd : (a == nn) = false := by rw [beq_eq_false_iff_ne]; exact hE
          have hUMd : (u == m) = true := by rw [beq_iff_eq]; exact hum
          clear hE HEND HUA hum
          refine wp_region_held_drew (S := fun w' => (w'.cell? ⟨bs, 0, none⟩ = some (.int .i64 t) ∧ w'.cell? ⟨bs, 1, none⟩ = some (.int .i64 m) ∧ w'.cell? ⟨bs, 2, none⟩ = some (.int .i64 f)) ∧ w'.cell? ⟨bw, 0, none⟩ = some (.int .i64 u)) (by kernel_rfl) ?_ (fun hHeld => ?_)
          · (try dsimp only); go_keep
          refine wpAnyH_take (i := 0) (oi := { dst := some 138, op := _, type := _, pos := _, after := _, guard := _ }) (v := ?v138n23) rfl (by kernel_rfl) (by kernel_rfl) (by kernel_rfl) (fun _ _ _ h => h) (Or.inl ⟨by rfl, ?hy138n23⟩) (by assumption) ?rest138n23
          case hy138n23 => ((intro w' hSw; (try dsimp only at hSw); go_simp); try (with_reducible rfl))
          try simp only [Act.put, List.setIfInBounds_toArray, List.set_cons_zero, List.set_cons_succ]
          refine wpAnyH_take (i := 2) (oi := { dst := some 140, op := _, type := _, pos := _, after := _, guard := _ }) (v := ?v140n24) rfl (by kernel_rfl) (by kernel_rfl) (by kernel_rfl) (fun _ _ _ h => h) (Or.inl ⟨by rfl, ?hy140n24⟩) (by assumption) ?rest140n24
          case hy140n24 => ((intro w' hSw; (try dsimp only at hSw); go_simp); try (with_reducible rfl))
          try simp only [Act.put, List.setIfInBounds_toArray, List.set_cons_zero, List.set_cons_succ]
          refine wpAnyH_ready (rs := [1]) (by kernel_rfl) (by simp) ?_
          refine AllReadyH.cons rfl (fun K hK => ?_) ?_
          · go_simp
            go_at_call 19
            (with_reducible refine (HWK.out _).mono ?_)
            rintro e wa ⟨rfl, ka0⟩
            have ka := below_undrew ka0
            have p0 := kept_b ka x0
            have p1 := kept_b ka x1
            have p2 := kept_b ka x2
            have p3 := kept_b ka y0
            clear ka0
            refine hK.out _ _ ?_ (fun hHeld => ?_)
            · (try dsimp only); go_keep
            clear hK K
            try simp only [Act.put, List.setIfInBounds_toArray, List.set_cons_zero, List.set_cons_succ]
            refine wpAnyH_take (i := 3) (oi := { dst := some 141, op := _, type := _, pos := _, after := _, guard := _ }) (v := ?v141n40) rfl (by kernel_rfl) (by kernel_rfl) (by kernel_rfl) (fun _ _ _ h => h) (Or.inl ⟨by rfl, ?hy141n40⟩) (by assumption) ?rest141n40
            case hy141n40 => ((intro w' hSw; (try dsimp only at hSw); go_simp); try (with_reducible rfl))
            try simp only [Act.put, List.setIfInBounds_toArray, List.set_cons_zero, List.set_cons_succ]
            refine wpAnyH_take (i := 4) (oi := { dst := some 142, op := _, type := _, pos := _, after := _, guard := _ }) (v := ?v142n41) rfl (by kernel_rfl) (by kernel_rfl) (by kernel_rfl) (fun _ _ _ h => h) (Or.inl ⟨by rfl, ?hy142n41⟩) (by assumption) ?rest142n41
            case hy142n41 => ((intro w' hSw; (try dsimp only at hSw); go_simp); try (with_reducible rfl))
            try simp only [Act.put, List.setIfInBounds_toArray, List.set_cons_zero, List.set_cons_succ]
            refine wpAnyH_take (i := 5) (oi := { dst := some 143, op := _, type := _, pos := _, after := _, guard := _ }) (v := ?v143n42) rfl (by kernel_rfl) (by kernel_rfl) (by kernel_rfl) (fun _ _ _ h => h) (Or.inl ⟨by rfl, ?hy143n42⟩) (by assumption) ?rest143n42
            case hy143n42 => ((intro w' hSw; (try dsimp only at hSw); go_simp); try (with_reducible rfl))
            try simp only [Act.put, List.setIfInBounds_toArray, List.set_cons_zero, List.set_cons_succ]
            refine wpAnyH_take (i := 7) (oi := { dst := some 145, op := _, type := _, pos := _, after := _, guard := _ }) (v := ?v145n43) rfl (by kernel_rfl) (by kernel_rfl) (by kernel_rfl) (fun _ _ _ h => h) (Or.inl ⟨by rfl, ?hy145n43⟩) (by assumption) ?rest145n43
            case hy145n43 => ((intro w' hSw; (try dsimp only at hSw); go_simp); try (with_reducible rfl))
            try simp only [Act.put, List.setIfInBounds_toArray, List.set_cons_zero, List.set_cons_succ]
            refine wpAnyH_take (i := 8) (oi := { dst := some 146, op := _, type := _, pos := _, after := _, guard := _ }) (v := ?v146n44) rfl (by kernel_rfl) (by kernel_rfl) (by kernel_rfl) (fun _ _ _ h => h) (Or.inl ⟨by rfl, ?hy146n44⟩) (by assumption) ?rest146n44
            case hy146n44 => ((intro w' hSw; (try dsimp only at hSw); go_simp); try (with_reducible rfl))
            try simp only [Act.put, List.setIfInBounds_toArray, List.set_cons_zero, List.set_cons_succ]
            refine wpAnyH_ready (rs := [6]) (by kernel_rfl) (by simp) ?_
            refine AllReadyH.cons rfl (fun K hK => ?_) ?_
            · go_simp
              go_at_call 16
              (with_reducible refine (HT0.out _).mono ?_)
              rintro e wb ⟨rfl, kb0⟩
              have kb := bstep ka kb0
              have q0 := kept_b kb0 p0
              have q1 := kept_b kb0 p1
              have q2 := kept_b kb0 p2
              have q3 := kept_b kb0 p3
              clear kb0
              refine hK.out _ _ ?_ (fun hHeld => ?_)
              · (try dsimp only); go_keep
              clear hK K
              try simp only [Act.put, List.setIfInBounds_toArray, List.set_cons_zero, List.set_cons_succ]
              refine wpAnyH_take (i := 9) (oi := { dst := some 147, op := _, type := _, pos := _, after := _, guard := _ }) (v := ?v147n25) rfl (by kernel_rfl) (by kernel_rfl) (by kernel_rfl) (fun _ _ _ h => h) (Or.inl ⟨by rfl, ?hy147n25⟩) (by assumption) ?rest147n25
              case hy147n25 => ((intro w' hSw; (try dsimp only at hSw); go_simp); try (with_reducible rfl))
              try simp only [Act.put, List.setIfInBounds_toArray, List.set_cons_zero, List.set_cons_succ]
              refine wpAnyH_take (i := 10) (oi := { dst := some 148, op := _, type := _, pos := _, after := _, guard := _ }) (v := ?v148n26) rfl (by kernel_rfl) (by kernel_rfl) (by kernel_rfl) (fun _ _ _ h => h) (Or.inl ⟨by rfl, ?hy148n26⟩) (by assumption) ?rest148n26
              case hy148n26 => ((intro w' hSw; (try dsimp only at hSw); go_simp); try (with_reducible rfl))
              try simp only [Act.put, List.setIfInBounds_toArray, List.set_cons_zero, List.set_cons_succ]
              refine wpAnyH_take (i := 11) (oi := { dst := some 149, op := _, type := _, pos := _, after := _, guard := _ }) (v := ?v149n27) rfl (by kernel_rfl) (by kernel_rfl) (by kernel_rfl) (fun _ _ _ h => h) (Or.inl ⟨by rfl, ?hy149n27⟩) (by assumption) ?rest149n27
              case hy149n27 => ((intro w' hSw; (try dsimp only at hSw); go_simp); try (with_reducible rfl))
              try simp only [Act.put, List.setIfInBounds_toArray, List.set_cons_zero, List.set_cons_succ]
              refine wpAnyH_take (i := 12) (oi := { dst := some 150, op := _, type := _, pos := _, after := _, guard := _ }) (v := ?v150n28) rfl (by kernel_rfl) (by kernel_rfl) (by kernel_rfl) (fun _ _ _ h => h) (Or.inl ⟨by rfl, ?hy150n28⟩) (by assumption) ?rest150n28
              case hy150n28 => ((intro w' hSw; (try dsimp only at hSw); go_simp); try (with_reducible rfl))
              try simp only [Act.put, List.setIfInBounds_toArray, List.set_cons_zero, List.set_cons_succ]
              refine wpAnyH_take (i := 13) (oi := { dst := some 151, op := _, type := _, pos := _, after := _, guard := _ }) (v := ?v151n29) rfl (by kernel_rfl) (by kernel_rfl) (by kernel_rfl) (fun _ _ _ h => h) (Or.inl ⟨by rfl, ?hy151n29⟩) (by assumption) ?rest151n29
              case hy151n29 => ((intro w' hSw; (try dsimp only at hSw); go_simp); try (with_reducible rfl))
              try simp only [Act.put, List.setIfInBounds_toArray, List.set_cons_zero, List.set_cons_succ]
              refine wpAnyH_take (i := 14) (oi := { dst := some 152, op := _, type := _, pos := _, after := _, guard := _ }) (v := ?v152n30) rfl (by kernel_rfl) (by kernel_rfl) (by kernel_rfl) (fun _ _ _ h => h) (Or.inl ⟨by rfl, ?hy152n30⟩) (by assumption) ?rest152n30
              case hy152n30 => ((intro w' hSw; (try dsimp only at hSw); go_simp); try (with_reducible rfl))
              try simp only [Act.put, List.setIfInBounds_toArray, List.set_cons_zero, List.set_cons_succ]
              refine wpAnyH_take (i := 15) (oi := { dst := some 153, op := _, type := _, pos := _, after := _, guard := _ }) (v := ?v153n31) rfl (by kernel_rfl) (by kernel_rfl) (by kernel_rfl) (fun _ _ _ h => h) (Or.inl ⟨by rfl, ?hy153n31⟩) (by assumption) ?rest153n31
              case hy153n31 => ((intro w' hSw; (try dsimp only at hSw); go_simp); try (with_reducible rfl))
              try simp only [Act.put, List.setIfInBounds_toArray, List.set_cons_zero, List.set_cons_succ]
              refine wpAnyH_take (i := 16) (oi := { dst := some 154, op := _, type := _, pos := _, after := _, guard := _ }) (v := ?v154n32) rfl (by kernel_rfl) (by kernel_rfl) (by kernel_rfl) (fun _ _ _ h => h) (Or.inl ⟨by rfl, ?hy154n32⟩) (by assumption) ?rest154n32
              case hy154n32 => ((intro w' hSw; (try dsimp only at hSw); go_simp); try (with_reducible rfl))
              try simp only [Act.put, List.setIfInBounds_toArray, List.set_cons_zero, List.set_cons_succ]
              refine wpAnyH_take (i := 17) (oi := { dst := some 155, op := _, type := _, pos := _, after := _, guard := _ }) (v := ?v155n33) rfl (by kernel_rfl) (by kernel_rfl) (by kernel_rfl) (fun _ _ _ h => h) (Or.inl ⟨by rfl, ?hy155n33⟩) (by assumption) ?rest155n33
              case hy155n33 => ((intro w' hSw; (try dsimp only at hSw); go_simp); try (with_reducible rfl))
              try simp only [Act.put, List.setIfInBounds_toArray, List.set_cons_zero, List.set_cons_succ]
              refine wpAnyH_take (i := 18) (oi := { dst := some 156, op := _, type := _, pos := _, after := _, guard := _ }) (v := ?v156n34) rfl (by kernel_rfl) (by kernel_rfl) (by kernel_rfl) (fun _ _ _ h => h) (Or.inl ⟨by rfl, ?hy156n34⟩) (by assumption) ?rest156n34
              case hy156n34 => ((intro w' hSw; (try dsimp only at hSw); go_simp); try (with_reducible rfl))
              try simp only [Act.put, List.setIfInBounds_toArray, List.set_cons_zero, List.set_cons_succ]
              refine wpAnyH_take (i := 19) (oi := { dst := some 157, op := _, type := _, pos := _, after := _, guard := _ }) (v := ?v157n35) rfl (by kernel_rfl) (by kernel_rfl) (by kernel_rfl) (fun _ _ _ h => h) (Or.inl ⟨by rfl, ?hy157n35⟩) (by assumption) ?rest157n35
              case hy157n35 => ((intro w' hSw; (try dsimp only at hSw); go_simp); try (with_reducible rfl))
              try simp only [Act.put, List.setIfInBounds_toArray, List.set_cons_zero, List.set_cons_succ]
              refine wpAnyH_take (i := 20) (oi := { dst := some 158, op := _, type := _, pos := _, after := _, guard := _ }) (v := ?v158n36) rfl (by kernel_rfl) (by kernel_rfl) (by kernel_rfl) (fun _ _ _ h => h) (Or.inl ⟨by rfl, ?hy158n36⟩) (by assumption) ?rest158n36
              case hy158n36 => ((intro w' hSw; (try dsimp only at hSw); go_simp); try (with_reducible rfl))
              try simp only [Act.put, List.setIfInBounds_toArray, List.set_cons_zero, List.set_cons_succ]
              refine wpAnyH_take (i := 21) (oi := { dst := some 159, op := _, type := _, pos := _, after := _, guard := _ }) (v := ?v159n37) rfl (by kernel_rfl) (by kernel_rfl) (by kernel_rfl) (fun _ _ _ h => h) (Or.inl ⟨by rfl, ?hy159n37⟩) (by assumption) ?rest159n37
              case hy159n37 => ((intro w' hSw; (try dsimp only at hSw); go_simp); try (with_reducible rfl))
              try simp only [Act.put, List.setIfInBounds_toArray, List.set_cons_zero, List.set_cons_succ]
              refine wpAnyH_take (i := 22) (oi := { dst := some 160, op := _, type := _, pos := _, after := _, guard := _ }) (v := ?v160n38) rfl (by kernel_rfl) (by kernel_rfl) (by kernel_rfl) (fun _ _ _ h => h) (Or.inl ⟨by rfl, ?hy160n38⟩) (by assumption) ?rest160n38
              case hy160n38 => ((intro w' hSw; (try dsimp only at hSw); go_simp); try (with_reducible rfl))
              try simp only [Act.put, List.setIfInBounds_toArray, List.set_cons_zero, List.set_cons_succ]
              refine wpAnyH_take (i := 23) (oi := { dst := some 2, op := _, type := _, pos := _, after := _, guard := _ }) (v := ?v2n39) rfl (by kernel_rfl) (by kernel_rfl) (by kernel_rfl) (fun _ _ _ h => h) (Or.inl ⟨by rfl, ?hy2n39⟩) (by assumption) ?rest2n39
              case hy2n39 => ((intro w' hSw; (try dsimp only at hSw); go_simp); try (with_reducible rfl))
              try simp only [Act.put, List.setIfInBounds_toArray, List.set_cons_zero, List.set_cons_succ]
              refine wpAnyH_done (by kernel_rfl) ?_ _
              try go_wp2
              go_ret
              exact ⟨rfl, bstep hbr kb⟩
            exact AllReadyH.nil
          exact AllReadyH.nil
end Go.Proofs.Ytghigeeplponlaa
