/- The walk of the law FnShifts: the model's and the program's contracts. No condition. -/
import Derived.Test.YtemhmbaacpfnaaaPairDraw
import Derived.Test.YtemhmbaacpfnaaaPinsKit
import Derived.Test.YtemhmbaacpfnaaaShiftsMath
import Derived.Test.YtemhmbaacpfnaaaImplHold
import Derived.Test.YtemhmbaacpfnaaaImplPartAt
import Derived.Test.YtemhmbaacpfnaaaImplDist
import Derived.Deep.CutRange
namespace Go.Proofs.Ytemhmbaacpfnaaa
open Go.ChangeShapes Go.WideShapes Go.ChangeAt Go.RowKit

theorem pair_row (W : World) (s t : Int) (la lb : List (Int × Int)) (va vb : Value) : (W.alloc (.cells #[.int .i64 s, .int .i64 t, va, .int .i64 s, .int .i64 t, vb] 26)).ownsRow W.heap.size 26 3 (.slice (some ⟨W.heap.size, 0, none⟩) 2 2) 2 (flatY [va, vb] [(s, t, la), (s, t, lb)]) :=
  ⟨rfl, .inr ⟨W.heap.size, 2, _, rfl, Nat.le_refl _, heap_alloc_new W _, Nat.le_refl _, by unfold maxLen; omega, rfl, rfl⟩⟩
theorem pair_rd {W W' : World} {s t : Int} {la lb : List (Int × Int)} {va vb : Value} (hW : W' = W.alloc (.cells #[.int .i64 s, .int .i64 t, va, .int .i64 s, .int .i64 t, vb] 26)) (ha : Rd2 W' va la) (hb : Rd2 W' vb lb) :
    RdY W' (.slice (some ⟨W.heap.size, 0, none⟩) 2 2) [va, vb] [(s, t, la), (s, t, lb)] := by
  refine ⟨rfl, by rw [hW]; exact Rd.of_own (pair_row W s t la lb va vb), fun i u c hu hc => ?_⟩
  match i, hu, hc with
  | 0, hu, hc =>
    obtain rfl := Option.some.inj hu
    obtain rfl := Option.some.inj hc
    exact ha
  | 1, hu, hc =>
    obtain rfl := Option.some.inj hu
    obtain rfl := Option.some.inj hc
    exact hb
  | i + 2, hu, _ => simp at hu

set_option maxHeartbeats 8000000 in
set_option maxRecDepth 1000000 in
theorem shifts_walk {w : World} {v : Value} {n : Nat} (hC : Code w w.heap.size v n) :
    Calls Try.prog 3 #[v] w fun e w' => e = .returned (.bool true) ∧ Below w.heap.size w w' := by
  by_cases hbig : 1048576 < n
  · go_enter Try.func3, Try.ntmps3
    go_wp2_with fail
    refine (big_yes hC hbig).mono ?_
    rintro e w1 ⟨rfl, rfl⟩
    go_wp2
    go_ret
    exact ⟨rfl, Below.refl _ _⟩
  · go_enter Try.func3, Try.ntmps3
    go_wp2_with fail
    refine (big_no hC hbig).mono ?_
    rintro e w0 ⟨rfl, rfl⟩
    go_wp2_with fail
    refine (drawpair_any hC).mono ?_
    rintro e w1 ⟨s, t, la, lb, vA, vB, hD, hE, rfl, rA_0, rB_0, g_0⟩
    obtain ⟨hs4, ht1, hla, hca⟩ := hD
    obtain ⟨hlb, hcb⟩ := hE
    have HCA := Lib.hid hca
    have HCB := Lib.hid hcb
    have HMG := Lib.hid (shifts_merge hca hcb hla hlb)
    have HS1 := Lib.hid (shifts_one hca ht1)
    obtain ⟨m, hH, hml, hcm, hP0, hP1, hP2⟩ := shifts_hold hca hcb ht1 hla hlb
    have HH := Lib.hid hH
    have HML := Lib.hid hml
    have HCM := Lib.hid hcm
    have HP0 := Lib.hid hP0
    have HP1 := Lib.hid hP1
    have HP2 := Lib.hid hP2
    have hm18 : m.length ≤ 18 := by omega
    have hD1 := shifts_dist (r := 1) hca hcb (by omega)
    have hD3 := shifts_dist (r := 3) hca hcb (by omega)
    have hD4 := shifts_dist (r := 3) hcb hca (by omega)
    rw [distN_symm] at hD4
    have hmono := distN_mono (s := s) (show (1 : Int) ≤ 3 by omega) la lb
    have HD1 := Lib.hid hD1
    have HD3 := Lib.hid hD3
    have HD4 := Lib.hid hD4
    have hne1 : ((m.length : Int) != (la.length : Int) + (lb.length : Int)) = false := by rw [hml]; simp
    have ew1 : IntKind.i64.wrap ((la.length : Int) + (lb.length : Int)) = (la.length : Int) + (lb.length : Int) := IntWalk.i64_in _ (by omega)
    have hmono1 : distN s 1 la lb ≤ distN s 3 la lb := hmono
    clear hca hcb hH hml hcm hP0 hP1 hP2 hD1 hD3 hD4 hmono hbig
    obtain ⟨aA, cA, rfl⟩ := Rd.slice rA_0
    obtain ⟨aB, cB, rfl⟩ := Rd.slice rB_0
    obtain ⟨w2, hw2⟩ : ∃ W, W = (w1.alloc (.cells #[.int .i64 s, .int .i64 t, .slice aA la.length cA] 26)).alloc (.cells #[.int .i64 s, .int .i64 t, .slice aB lb.length cB] 26) := ⟨_, rfl⟩
    obtain ⟨w3, hw3⟩ : ∃ W, W = w2.alloc (.cells #[.int .i64 s, .int .i64 t, .slice aA la.length cA, .int .i64 s, .int .i64 t, .slice aB lb.length cB] 26) := ⟨_, rfl⟩
    have hbX : Below (w1.alloc (.cells #[.int .i64 s, .int .i64 t, .slice aA la.length cA] 26)).heap.size (w1.alloc (.cells #[.int .i64 s, .int .i64 t, .slice aA la.length cA] 26)) w2 := by rw [hw2]; exact (Below.refl _ _).alloc (Nat.le_refl _) _
    have hbY : Below w2.heap.size w2 w3 := by rw [hw3]; exact (Below.refl _ _).alloc (Nat.le_refl _) _
    have hb12 : Below w1.heap.size w1 w2 := bstep ((Below.refl _ _).alloc (Nat.le_refl _) _) hbX
    have bA_1 : Box w3 w1.heap.size s t (.slice aA la.length cA) := ((box_new _ _ _ _ _).below hbX).below hbY
    have bB_1 : Box w3 (w1.heap.size + 1) s t (.slice aB lb.length cB) := by
      have := box_new (w1.alloc (.cells #[.int .i64 s, .int .i64 t, .slice aA la.length cA] 26)) s t (.slice aB lb.length cB) 26
      rw [size_alloc, ← hw2] at this; exact this.below hbY
    have hb13 := bstep hb12 hbY
    have rA_1 := Rd.below rA_0 hb13
    have rB_1 := Rd.below rB_0 hb13
    have g_1 := bstep g_0 hb13
    have hY := pair_rd hw3 rA_1 rB_1
    have hsz : w2.heap.size = w1.heap.size + 1 + 1 := by rw [hw2]; simp
    rw [hsz] at hY
    have hw4 := hw3
    rw [hw2] at hw4
    go_wp2_with fail
    rw [← hw4]
    clear hw4 hw3 hw2 hsz hbX hbY hb12 hb13 rA_0 rB_0 g_0
    have C1 : Calls Try.prog 11 #[.slice (some ⟨w1.heap.size + 1 + 1, 0, none⟩) 2 2, .int .i64 3] w3 (NewCylB w3 s 100 m true) := by
      have := ihold_any 3 hY; rw [HH.out] at this; exact this
    clear hY
    generalize w1.heap.size = kA at *
    refine (C1).mono ?_
    rintro e w_2 ⟨vC, rfl, oC, hb2⟩
    obtain ⟨aC, cC, rfl⟩ := ownS_slice oC
    have rC_0 : Rd2 w_2 (.slice aC (m).length cC) (m) := Rd.of_own oC
    clear oC
    have bA_3 := bA_1.below hb2
    have bB_3 := bB_1.below hb2
    have rA_3 := Rd.below rA_1 hb2
    have rB_3 := Rd.below rB_1 hb2
    have g_3 := bstep g_1 hb2
    clear hb2 bA_1 bB_1 rA_1 rB_1 g_1
    obtain ⟨w_4, hw4⟩ : ∃ W, W = (w_2.alloc (.cells #[.int .i64 s, .int .i64 100, .slice aC (m).length cC] 26)) := ⟨_, rfl⟩
    have hb4 : Below w_2.heap.size w_2 w_4 := by rw [hw4]; exact (Below.refl _ _).alloc (Nat.le_refl _) _
    have bC_0 : Box w_4 w_2.heap.size s 100 (.slice aC (m).length cC) := by rw [hw4]; exact box_new _ _ _ _ _
    have bA_5 := bA_3.below hb4
    have bB_5 := bB_3.below hb4
    have rA_5 := Rd.below rA_3 hb4
    have rB_5 := Rd.below rB_3 hb4
    have rC_5 := Rd.below rC_0 hb4
    have g_5 := bstep g_3 hb4
    clear hb4 bA_3 bB_3 rA_3 rB_3 rC_0 g_3
    clear C1
    have CP0 := Lib.hid (show ∀ (W : World) (U : Value), Rd2 W U m → Calls Try.prog 12 #[.agg #[.int .i64 s, .int .i64 100, U], .int .i64 3, .int .i64 0] W (NewCylB W s 34 (la) true) from fun W U h => by
      have := ipart_any (s, 100, m) 3 0 h; rw [HP0.out] at this; exact this)
    have CP1 := Lib.hid (show ∀ (W : World) (U : Value), Rd2 W U m → Calls Try.prog 12 #[.agg #[.int .i64 s, .int .i64 100, U], .int .i64 3, .int .i64 1] W (NewCylB W s 34 (lb) true) from fun W U h => by
      have := ipart_any (s, 100, m) 3 1 h; rw [HP1.out] at this; exact this)
    have CP2 := Lib.hid (show ∀ (W : World) (U : Value), Rd2 W U m → Calls Try.prog 12 #[.agg #[.int .i64 s, .int .i64 100, U], .int .i64 3, .int .i64 2] W (NewCylB W s 34 ([]) true) from fun W U h => by
      have := ipart_any (s, 100, m) 3 2 h; rw [HP2.out] at this; exact this)
    obtain ⟨-, mC0, mC1, mC2⟩ := id bC_0
    rw [hw4] at mC0 mC1 mC2
    go_wp2_with fail
    clear mC0 mC1 mC2
    rw [← hw4]
    clear hw4
    generalize w_2.heap.size = kC at *
    refine (CP0.out _ _ rC_5).mono ?_
    rintro e w_6 ⟨vX, rfl, oX, hb6⟩
    obtain ⟨aX, cX, rfl⟩ := ownS_slice oX
    have rX_0 : Rd2 w_6 (.slice aX (la).length cX) (la) := Rd.of_own oX
    clear oX
    have bA_7 := bA_5.below hb6
    have bB_7 := bB_5.below hb6
    have bC_7 := bC_0.below hb6
    have rA_7 := Rd.below rA_5 hb6
    have rB_7 := Rd.below rB_5 hb6
    have rC_7 := Rd.below rC_5 hb6
    have g_7 := bstep g_5 hb6
    clear hb6 bA_5 bB_5 bC_0 rA_5 rB_5 rC_5 g_5
    obtain ⟨w_8, hw8⟩ : ∃ W, W = (w_6.alloc (.cells #[.int .i64 s, .int .i64 34, .slice aX (la).length cX] 26)) := ⟨_, rfl⟩
    have hb8 : Below w_6.heap.size w_6 w_8 := by rw [hw8]; exact (Below.refl _ _).alloc (Nat.le_refl _) _
    have bX_0 : Box w_8 w_6.heap.size s 34 (.slice aX (la).length cX) := by rw [hw8]; exact box_new _ _ _ _ _
    have bA_9 := bA_7.below hb8
    have bB_9 := bB_7.below hb8
    have bC_9 := bC_7.below hb8
    have rA_9 := Rd.below rA_7 hb8
    have rB_9 := Rd.below rB_7 hb8
    have rC_9 := Rd.below rC_7 hb8
    have rX_9 := Rd.below rX_0 hb8
    have g_9 := bstep g_7 hb8
    clear hb8 bA_7 bB_7 bC_7 rA_7 rB_7 rC_7 rX_0 g_7
    obtain ⟨-, mC0, mC1, mC2⟩ := id bC_9
    rw [hw8] at mC0 mC1 mC2
    go_wp2_with fail
    clear mC0 mC1 mC2
    rw [← hw8]
    clear hw8
    generalize w_6.heap.size = kX at *
    refine (CP1.out _ _ rC_9).mono ?_
    rintro e w_10 ⟨vY, rfl, oY, hb10⟩
    obtain ⟨aY, cY, rfl⟩ := ownS_slice oY
    have rY_0 : Rd2 w_10 (.slice aY (lb).length cY) (lb) := Rd.of_own oY
    clear oY
    have bA_11 := bA_9.below hb10
    have bB_11 := bB_9.below hb10
    have bC_11 := bC_9.below hb10
    have bX_11 := bX_0.below hb10
    have rA_11 := Rd.below rA_9 hb10
    have rB_11 := Rd.below rB_9 hb10
    have rC_11 := Rd.below rC_9 hb10
    have rX_11 := Rd.below rX_9 hb10
    have g_11 := bstep g_9 hb10
    clear hb10 bA_9 bB_9 bC_9 bX_0 rA_9 rB_9 rC_9 rX_9 g_9
    obtain ⟨w_12, hw12⟩ : ∃ W, W = (w_10.alloc (.cells #[.int .i64 s, .int .i64 34, .slice aY (lb).length cY] 26)) := ⟨_, rfl⟩
    have hb12 : Below w_10.heap.size w_10 w_12 := by rw [hw12]; exact (Below.refl _ _).alloc (Nat.le_refl _) _
    have bY_0 : Box w_12 w_10.heap.size s 34 (.slice aY (lb).length cY) := by rw [hw12]; exact box_new _ _ _ _ _
    have bA_13 := bA_11.below hb12
    have bB_13 := bB_11.below hb12
    have bC_13 := bC_11.below hb12
    have bX_13 := bX_11.below hb12
    have rA_13 := Rd.below rA_11 hb12
    have rB_13 := Rd.below rB_11 hb12
    have rC_13 := Rd.below rC_11 hb12
    have rX_13 := Rd.below rX_11 hb12
    have rY_13 := Rd.below rY_0 hb12
    have g_13 := bstep g_11 hb12
    clear hb12 bA_11 bB_11 bC_11 bX_11 rA_11 rB_11 rC_11 rX_11 rY_0 g_11
    obtain ⟨-, mC0, mC1, mC2⟩ := id bC_13
    rw [hw12] at mC0 mC1 mC2
    go_wp2_with fail
    clear mC0 mC1 mC2
    rw [← hw12]
    clear hw12
    generalize w_10.heap.size = kY at *
    refine (CP2.out _ _ rC_13).mono ?_
    rintro e w_14 ⟨vZ, rfl, oZ, hb14⟩
    obtain ⟨aZ, cZ, rfl⟩ := ownS_slice oZ
    have rZ_0 : Rd2 w_14 (.slice aZ 0 cZ) (([] : List (Int × Int))) := Rd.of_own oZ
    clear oZ
    have bA_15 := bA_13.below hb14
    have bB_15 := bB_13.below hb14
    have bC_15 := bC_13.below hb14
    have bX_15 := bX_13.below hb14
    have bY_15 := bY_0.below hb14
    have rA_15 := Rd.below rA_13 hb14
    have rB_15 := Rd.below rB_13 hb14
    have rC_15 := Rd.below rC_13 hb14
    have rX_15 := Rd.below rX_13 hb14
    have rY_15 := Rd.below rY_13 hb14
    have g_15 := bstep g_13 hb14
    clear hb14 bA_13 bB_13 bC_13 bX_13 bY_0 rA_13 rB_13 rC_13 rX_13 rY_13 g_13
    obtain ⟨w_16, hw16⟩ : ∃ W, W = (w_14.alloc (.cells #[.int .i64 s, .int .i64 34, .slice aZ 0 cZ] 26)) := ⟨_, rfl⟩
    have hb16 : Below w_14.heap.size w_14 w_16 := by rw [hw16]; exact (Below.refl _ _).alloc (Nat.le_refl _) _
    have bZ_0 : Box w_16 w_14.heap.size s 34 (.slice aZ 0 cZ) := by rw [hw16]; exact box_new _ _ _ _ _
    have bA_17 := bA_15.below hb16
    have bB_17 := bB_15.below hb16
    have bC_17 := bC_15.below hb16
    have bX_17 := bX_15.below hb16
    have bY_17 := bY_15.below hb16
    have rA_17 := Rd.below rA_15 hb16
    have rB_17 := Rd.below rB_15 hb16
    have rC_17 := Rd.below rC_15 hb16
    have rX_17 := Rd.below rX_15 hb16
    have rY_17 := Rd.below rY_15 hb16
    have rZ_17 := Rd.below rZ_0 hb16
    have g_17 := bstep g_15 hb16
    clear hb16 bA_15 bB_15 bC_15 bX_15 bY_15 rA_15 rB_15 rC_15 rX_15 rY_15 rZ_0 g_15
    obtain ⟨-, mA0, mA1, mA2⟩ := id bA_17
    obtain ⟨-, mB0, mB1, mB2⟩ := id bB_17
    obtain ⟨-, mC0, mC1, mC2⟩ := id bC_17
    obtain ⟨-, mX0, mX1, mX2⟩ := id bX_17
    obtain ⟨-, mY0, mY1, mY2⟩ := id bY_17
    obtain ⟨-, mZ0, mZ1, mZ2⟩ := id bZ_0
    rw [hw16] at mA0 mA1 mA2 mB0 mB1 mB2 mC0 mC1 mC2 mX0 mX1 mX2 mY0 mY1 mY2 mZ0 mZ1 mZ2
    go_upto_region 12 with fail
    clear mA0 mA1 mA2 mB0 mB1 mB2 mC0 mC1 mC2 mX0 mX1 mX2 mY0 mY1 mY2 mZ0 mZ1 mZ2
    rw [← hw16]
    clear hw16
    generalize w_14.heap.size = kZ at *
    clear CP0 CP1 CP2
    go_wp2_with fail
    go_loopw [13] (fun v13 wr => ∃ k : Nat, k ≤ la.length ∧ v13 = .int .i64 k ∧ Below w_16.heap.size w_16 wr) (fun v13 _ => la.length - (intOf v13).toNat)
    case atStart => exact ⟨0, Nat.zero_le _, rfl, Below.refl _ _⟩
    case round =>
      obtain ⟨k, hk, rfl, hbr⟩ := hrel
      obtain ⟨-, m0, m1, m2⟩ := bX_17.below hbr
      obtain ⟨-, m3, m4, m5⟩ := bA_17.below hbr
      by_cases hlt : k < la.length
      · obtain ⟨p, hp⟩ : ∃ p, la[k]? = some p := ⟨_, List.getElem?_eq_getElem hlt⟩
        obtain ⟨b1, o1, c1, hv1, x1, y1⟩ := Rd2.cells (Rd.below rX_17 hbr) hp
        simp only [Value.slice.injEq, true_and] at hv1
        obtain ⟨rfl, rfl⟩ := hv1
        obtain ⟨b2, o2, c2, hv2, x2, y2⟩ := Rd2.cells (Rd.below rA_17 hbr) hp
        simp only [Value.slice.injEq, true_and] at hv2
        obtain ⟨rfl, rfl⟩ := hv2
        have hne := neq_noP (show p = p from rfl)
        go_wp2_with fail
        go_quiet (fail)
        clear x1 y1 x2 y2 m0 m1 m2 m3 m4 m5
        go_wp2
        go_roundw
        case rel => exact ⟨k + 1, by omega, by go_num, below_drewN hbr _⟩
        case measure => simp [intOf]; omega
      · obtain rfl : k = la.length := by omega
        go_wp2_with fail
        clear m0 m1 m2 m3 m4 m5
        obtain ⟨wA, hwA⟩ : ∃ x, x = wr := ⟨_, rfl⟩
        rw [← hwA] at hbr ⊢
        clear hwA
        have bA_18 := bA_17.below hbr
        have bB_18 := bB_17.below hbr
        have bC_18 := bC_17.below hbr
        have bX_18 := bX_17.below hbr
        have bY_18 := bY_17.below hbr
        have bZ_18 := bZ_0.below hbr
        have rA_18 := Rd.below rA_17 hbr
        have rB_18 := Rd.below rB_17 hbr
        have rC_18 := Rd.below rC_17 hbr
        have rX_18 := Rd.below rX_17 hbr
        have rY_18 := Rd.below rY_17 hbr
        have rZ_18 := Rd.below rZ_17 hbr
        have g_18 := bstep g_17 hbr
        clear hbr bA_17 bB_17 bC_17 bX_17 bY_17 bZ_0 rA_17 rB_17 rC_17 rX_17 rY_17 rZ_17 g_17
        go_wp2_with fail
        go_loopw [14] (fun v13 wr => ∃ k : Nat, k ≤ lb.length ∧ v13 = .int .i64 k ∧ Below wA.heap.size wA wr) (fun v13 _ => lb.length - (intOf v13).toNat)
        case atStart => exact ⟨0, Nat.zero_le _, rfl, Below.refl _ _⟩
        case round =>
          obtain ⟨k, hk, rfl, hbr⟩ := hrel
          obtain ⟨-, m0, m1, m2⟩ := bY_18.below hbr
          obtain ⟨-, m3, m4, m5⟩ := bB_18.below hbr
          by_cases hlt : k < lb.length
          · obtain ⟨p, hp⟩ : ∃ p, lb[k]? = some p := ⟨_, List.getElem?_eq_getElem hlt⟩
            obtain ⟨b1, o1, c1, hv1, x1, y1⟩ := Rd2.cells (Rd.below rY_18 hbr) hp
            simp only [Value.slice.injEq, true_and] at hv1
            obtain ⟨rfl, rfl⟩ := hv1
            obtain ⟨b2, o2, c2, hv2, x2, y2⟩ := Rd2.cells (Rd.below rB_18 hbr) hp
            simp only [Value.slice.injEq, true_and] at hv2
            obtain ⟨rfl, rfl⟩ := hv2
            have hne := neq_noP (show p = p from rfl)
            go_wp2_with fail
            go_quiet (fail)
            clear x1 y1 x2 y2 m0 m1 m2 m3 m4 m5
            go_wp2
            go_roundw
            case rel => exact ⟨k + 1, by omega, by go_num, below_drewN hbr _⟩
            case measure => simp [intOf]; omega
          · obtain rfl : k = lb.length := by omega
            obtain ⟨-, z0, z1, z2⟩ := bA_18.below hbr
            go_wp2_with fail
            clear m0 m1 m2 m3 m4 m5 z0 z1 z2
            obtain ⟨wB, hwB⟩ : ∃ x, x = wr := ⟨_, rfl⟩
            rw [← hwB] at hbr ⊢
            clear hwB
            have bA_19 := bA_18.below hbr
            have bB_19 := bB_18.below hbr
            have bC_19 := bC_18.below hbr
            have bX_19 := bX_18.below hbr
            have bY_19 := bY_18.below hbr
            have bZ_19 := bZ_18.below hbr
            have rA_19 := Rd.below rA_18 hbr
            have rB_19 := Rd.below rB_18 hbr
            have rC_19 := Rd.below rC_18 hbr
            have rX_19 := Rd.below rX_18 hbr
            have rY_19 := Rd.below rY_18 hbr
            have rZ_19 := Rd.below rZ_18 hbr
            have g_19 := bstep g_18 hbr
            clear hbr bA_18 bB_18 bC_18 bX_18 bY_18 bZ_18 rA_18 rB_18 rC_18 rX_18 rY_18 rZ_18 g_18
            obtain ⟨S, T, R, tb, HMR, HCS⟩ : ∃ (S T : Int) (R : List (Int × Int)) (tb : Bool), Hid (∀ (W : World) (U V : Value), Rd2 W U la → Rd2 W V lb → Calls Try.prog 13 #[.agg #[.int .i64 s, .int .i64 t, U], .agg #[.int .i64 s, .int .i64 t, V]] W (NewCylB W S T R tb)) ∧ Hid ((tb = true ∧ distN s 1 la lb = 0 ∧ R.length = la.length + lb.length) ∨ (tb = false ∧ distN s 1 la lb ≠ 0)) := by
              rcases HMG.out with ⟨h0, m', h1, h2⟩ | ⟨h0, h1⟩
              · exact ⟨s, t, m', true, Lib.hid (fun W U V hU hV => imerge_some (a := (s, t, la)) (b := (s, t, lb)) h1 hU hV), Lib.hid (Or.inl ⟨rfl, h0, h2⟩)⟩
              · exact ⟨0, 0, [], false, Lib.hid (fun W U V hU hV => imerge_none (a := (s, t, la)) (b := (s, t, lb)) h1 hU hV), Lib.hid (Or.inr ⟨rfl, h0⟩)⟩
            have HDA := Lib.hid (show ∀ (W : World) (U V : Value), Rd2 W U la → Rd2 W V lb → Calls Try.prog 14 #[.agg #[.int .i64 s, .int .i64 t, U], .agg #[.int .i64 s, .int .i64 t, V], .int .i64 1] W (fun e w' => e = .returned (.int .i64 (distN s 1 la lb : Int)) ∧ Below W.heap.size W w') from fun W U V hU hV => by
              have := idist_any (s, t, la) (s, t, lb) 1 hU hV; rw [HD1.out] at this; exact this)
            have HDB := Lib.hid (show ∀ (W : World) (U V : Value), Rd2 W U la → Rd2 W V lb → Calls Try.prog 14 #[.agg #[.int .i64 s, .int .i64 t, U], .agg #[.int .i64 s, .int .i64 t, V], .int .i64 3] W (fun e w' => e = .returned (.int .i64 (distN s 3 la lb : Int)) ∧ Below W.heap.size W w') from fun W U V hU hV => by
              have := idist_any (s, t, la) (s, t, lb) 3 hU hV; rw [HD3.out] at this; exact this)
            have HDC := Lib.hid (show ∀ (W : World) (U V : Value), Rd2 W U lb → Rd2 W V la → Calls Try.prog 14 #[.agg #[.int .i64 s, .int .i64 t, U], .agg #[.int .i64 s, .int .i64 t, V], .int .i64 3] W (fun e w' => e = .returned (.int .i64 (distN s 3 la lb : Int)) ∧ Below W.heap.size W w') from fun W U V hU hV => by
              have := idist_any (s, t, lb) (s, t, la) 3 hU hV; rw [HD4.out] at this; exact this)
            have HSH := Lib.hid (show ∀ (W : World) (U : Value), Rd2 W U la → Calls Try.prog 15 #[.agg #[.int .i64 s, .int .i64 t, U], .int .i64 2, .int .i64 1] W (NewCylB W s 100 (shiftL 2 1 la) true) from fun W U hU => ishift_some (c := (s, t, la)) HS1.out hU)
            clear HMG HD1 HD3 HD4 HS1 HP0 HP1 HP2 HH
            clear rX_19 bX_19
            clear rY_19 bY_19
            clear rZ_19 bZ_19
            refine (HMR.out _ _ _ rA_19 rB_19).mono ?_
            rintro e w_20 ⟨vM, rfl, oM, hb20⟩
            obtain ⟨aM, cM, rfl⟩ := ownS_slice oM
            have rM_0 : Rd2 w_20 (.slice aM (R).length cM) (R) := Rd.of_own oM
            clear oM
            have bA_21 := bA_19.below hb20
            have bB_21 := bB_19.below hb20
            have bC_21 := bC_19.below hb20
            have rA_21 := Rd.below rA_19 hb20
            have rB_21 := Rd.below rB_19 hb20
            have rC_21 := Rd.below rC_19 hb20
            have g_21 := bstep g_19 hb20
            clear hb20 bA_19 bB_19 bC_19 rA_19 rB_19 rC_19 g_19
            obtain ⟨w_22, hw22⟩ : ∃ W, W = (w_20.alloc (.cells #[.int .i64 S, .int .i64 T, .slice aM (R).length cM] 26)) := ⟨_, rfl⟩
            have hb22 : Below w_20.heap.size w_20 w_22 := by rw [hw22]; exact (Below.refl _ _).alloc (Nat.le_refl _) _
            have bM_0 : Box w_22 w_20.heap.size S T (.slice aM (R).length cM) := by rw [hw22]; exact box_new _ _ _ _ _
            have bA_23 := bA_21.below hb22
            have bB_23 := bB_21.below hb22
            have bC_23 := bC_21.below hb22
            have rA_23 := Rd.below rA_21 hb22
            have rB_23 := Rd.below rB_21 hb22
            have rC_23 := Rd.below rC_21 hb22
            have rM_23 := Rd.below rM_0 hb22
            have g_23 := bstep g_21 hb22
            clear hb22 bA_21 bB_21 bC_21 rA_21 rB_21 rC_21 rM_0 g_21
            obtain ⟨-, mA0, mA1, mA2⟩ := id bA_23
            obtain ⟨-, mB0, mB1, mB2⟩ := id bB_23
            rw [hw22] at mA0 mA1 mA2 mB0 mB1 mB2
            go_wp2_with fail
            clear mA0 mA1 mA2 mB0 mB1 mB2
            rw [← hw22]
            clear hw22
            generalize w_20.heap.size = kM at *
            refine (HDA.out _ _ _ rA_23 rB_23).mono ?_
            rintro e w_24 ⟨rfl, hb24⟩
            have bA_25 := bA_23.below hb24
            have bB_25 := bB_23.below hb24
            have bC_25 := bC_23.below hb24
            have bM_25 := bM_0.below hb24
            have rA_25 := Rd.below rA_23 hb24
            have rB_25 := Rd.below rB_23 hb24
            have rC_25 := Rd.below rC_23 hb24
            have rM_25 := Rd.below rM_23 hb24
            have g_25 := bstep g_23 hb24
            clear hb24 bA_23 bB_23 bC_23 bM_0 rA_23 rB_23 rC_23 rM_23 g_23
            obtain ⟨D1, hD1⟩ : ∃ D, D = distN s 1 la lb := ⟨_, rfl⟩
            obtain ⟨D3, hD3⟩ : ∃ D, D = distN s 3 la lb := ⟨_, rfl⟩
            rw [← hD1] at hmono1 HCS HDA ⊢
            rw [← hD3] at hmono1 HDB HDC
            clear hD1 hD3
            obtain ⟨-, mA0, mA1, mA2⟩ := id bA_25
            go_wp2_with fail
            clear mA0 mA1 mA2
            have hsl : (shiftL 2 1 la).length = la.length := shift_len _ _ _
            have HSL := Lib.hid hsl
            clear hsl
            refine (HSH.out _ _ rA_25).mono ?_
            rintro e w_26 ⟨vH, rfl, oH, hb26⟩
            obtain ⟨aH, cH, rfl⟩ := ownS_slice oH
            rw [HSL.out]
            have rH_0 : Rd2 w_26 (.slice aH la.length cH) (shiftL 2 1 la) := by rw [← HSL.out]; exact Rd.of_own oH
            clear oH
            have bA_27 := bA_25.below hb26
            have bB_27 := bB_25.below hb26
            have bC_27 := bC_25.below hb26
            have bM_27 := bM_25.below hb26
            have rA_27 := Rd.below rA_25 hb26
            have rB_27 := Rd.below rB_25 hb26
            have rC_27 := Rd.below rC_25 hb26
            have rM_27 := Rd.below rM_25 hb26
            have g_27 := bstep g_25 hb26
            clear hb26 bA_25 bB_25 bC_25 bM_25 rA_25 rB_25 rC_25 rM_25 g_25
            obtain ⟨w_28, hw28⟩ : ∃ W, W = (w_26.alloc (.cells #[.int .i64 s, .int .i64 100, .slice aH la.length cH] 26)) := ⟨_, rfl⟩
            have hb28 : Below w_26.heap.size w_26 w_28 := by rw [hw28]; exact (Below.refl _ _).alloc (Nat.le_refl _) _
            have bH_0 : Box w_28 w_26.heap.size s 100 (.slice aH la.length cH) := by rw [hw28]; exact box_new _ _ _ _ _
            have bA_29 := bA_27.below hb28
            have bB_29 := bB_27.below hb28
            have bC_29 := bC_27.below hb28
            have bM_29 := bM_27.below hb28
            have rA_29 := Rd.below rA_27 hb28
            have rB_29 := Rd.below rB_27 hb28
            have rC_29 := Rd.below rC_27 hb28
            have rM_29 := Rd.below rM_27 hb28
            have rH_29 := Rd.below rH_0 hb28
            have g_29 := bstep g_27 hb28
            clear hb28 bA_27 bB_27 bC_27 bM_27 rA_27 rB_27 rC_27 rM_27 rH_0 g_27
            obtain ⟨-, mA0, mA1, mA2⟩ := id bA_29
            obtain ⟨-, mH0, mH1, mH2⟩ := id bH_0
            rw [hw28] at mA0 mA1 mA2 mH0 mH1 mH2
            go_wp2_with fail
            clear mA0 mA1 mA2 mH0 mH1 mH2
            rw [← hw28]
            clear hw28
            generalize w_26.heap.size = kH at *
            go_loopw [20] (fun v20 wr => ∃ k : Nat, k ≤ la.length ∧ v20 = .int .i64 k ∧ Below w_28.heap.size w_28 wr) (fun v20 _ => la.length - (intOf v20).toNat)
            case atStart => exact ⟨0, Nat.zero_le _, rfl, Below.refl _ _⟩
            case round =>
              obtain ⟨k, hk, rfl, hbr⟩ := hrel
              obtain ⟨-, m0, m1, m2⟩ := bH_0.below hbr
              obtain ⟨-, m3, m4, m5⟩ := bA_29.below hbr
              by_cases hlt : k < la.length
              · obtain ⟨p, hp⟩ : ∃ p, la[k]? = some p := ⟨_, List.getElem?_eq_getElem hlt⟩
                have hpb := cyl_bd HCA.out (List.mem_of_getElem? hp)
                have hp' : (shiftL 2 1 la)[k]? = some (p.1 * 2 + 1, p.2) := by unfold shiftL; rw [List.getElem?_map, hp]; rfl
                obtain ⟨b1, o1, c1, hv1, x1, y1⟩ := Rd2.cells (Rd.below rH_29 hbr) hp'
                rw [HSL.out] at hv1
                simp only [Value.slice.injEq, true_and] at hv1
                obtain ⟨rfl, rfl⟩ := hv1
                obtain ⟨b2, o2, c2, hv2, x2, y2⟩ := Rd2.cells (Rd.below rA_29 hbr) hp
                simp only [Value.slice.injEq, true_and] at hv2
                obtain ⟨rfl, rfl⟩ := hv2
                have e1 : IntKind.i64.wrap (2 * p.1) = 2 * p.1 := IntWalk.i64_in _ (by omega)
                have e2 : IntKind.i64.wrap (2 * p.1 + 1) = 2 * p.1 + 1 := IntWalk.i64_in _ (by omega)
                have hne : ((p.1 * 2 + 1) != 2 * p.1 + 1) = false := by rw [bne_eq_false_iff_eq]; omega
                clear hp hp'
                go_wp2_with fail
                go_quiet (fail)
                clear x1 y1 x2 y2 m0 m1 m2 m3 m4 m5
                go_wp2
                go_roundw
                case rel => exact ⟨k + 1, by omega, by go_num, below_drewN hbr _⟩
                case measure => simp [intOf]; omega
              · obtain rfl : k = la.length := by omega
                go_upto_region 32 with fail
                clear m0 m1 m2 m3 m4 m5
                obtain ⟨wC, hwC⟩ : ∃ x, x = wr := ⟨_, rfl⟩
                rw [← hwC] at hbr ⊢
                clear hwC
                have bA_30 := bA_29.below hbr
                have bB_30 := bB_29.below hbr
                have bC_30 := bC_29.below hbr
                have bM_30 := bM_29.below hbr
                have bH_30 := bH_0.below hbr
                have rA_30 := Rd.below rA_29 hbr
                have rB_30 := Rd.below rB_29 hbr
                have rC_30 := Rd.below rC_29 hbr
                have rM_30 := Rd.below rM_29 hbr
                have rH_30 := Rd.below rH_29 hbr
                have g_30 := bstep g_29 hbr
                clear hbr bA_29 bB_29 bC_29 bM_29 bH_0 rA_29 rB_29 rC_29 rM_29 rH_29 g_29
                clear rH_30 bH_30
                have HB3 := Lib.hid (fun (X : World) (hX : Below wC.heap.size wC X) => HDB.out X _ _ (Rd.below rA_30 hX) (Rd.below rB_30 hX))
                have HC3 := Lib.hid (fun (X : World) (hX : Below wC.heap.size wC X) => HDC.out X _ _ (Rd.below rB_30 hX) (Rd.below rA_30 hX))
                have HK3 := Lib.hid (fun (X : World) (hX : Below wC.heap.size wC X) => icyl_yes (Rd.below rC_30 hX) (cylB_true.2 HCM.out))
                have hge : decide ((0 : Int) ≤ (D1 : Int)) = true := decide_eq_true (by omega)
                have hge3 : decide ((D1 : Int) ≤ (D3 : Int)) = true := decide_eq_true (by omega)
                clear HDA HDB HDC HMR HSH
                obtain ⟨-, n0, n1, n2⟩ := id bA_30
                obtain ⟨-, n3, n4, n5⟩ := id bB_30
                obtain ⟨-, n6, n7, n8⟩ := id bC_30
                obtain ⟨-, n9, n10, n11⟩ := id bM_30
                rcases HCS.out with ⟨rfl, h0, hRl⟩ | ⟨rfl, h0⟩
                · have hd0 : ((D1 : Int) == 0) = true := by rw [beq_iff_eq]; omega
                  have hRb : ((R.length : Int) == (la.length : Int) + (lb.length : Int)) = true := by rw [beq_iff_eq]; omega
                  clear hRl h0 HCS
                  go_region_held3 (fun w' => (w'.cell? ⟨kA, 0, none⟩ = some (.int .i64 s) ∧ w'.cell? ⟨kA, 1, none⟩ = some (.int .i64 t) ∧ w'.cell? ⟨kA, 2, none⟩ = some (.slice aA la.length cA)) ∧ (w'.cell? ⟨kA + 1, 0, none⟩ = some (.int .i64 s) ∧ w'.cell? ⟨kA + 1, 1, none⟩ = some (.int .i64 t) ∧ w'.cell? ⟨kA + 1, 2, none⟩ = some (.slice aB lb.length cB)) ∧ (w'.cell? ⟨kC, 0, none⟩ = some (.int .i64 s) ∧ w'.cell? ⟨kC, 1, none⟩ = some (.int .i64 100) ∧ w'.cell? ⟨kC, 2, none⟩ = some (.slice aC m.length cC)) ∧ (w'.cell? ⟨kM, 0, none⟩ = some (.int .i64 S) ∧ w'.cell? ⟨kM, 1, none⟩ = some (.int .i64 T) ∧ w'.cell? ⟨kM, 2, none⟩ = some (.slice aM R.length cM))) (go_keep)
                    ((first
                        | (go_at_call 14; (with_reducible refine (HC3.out _ (Below.refl wC.heap.size wC).drew).mono ?_); rintro e wd1 ⟨rfl, hb1⟩; have hd1 := below_undrew hb1; have q0 := old_cell hd1 n0; have q1 := old_cell hd1 n1; have q2 := old_cell hd1 n2; have q3 := old_cell hd1 n3; have q4 := old_cell hd1 n4; have q5 := old_cell hd1 n5; have q6 := old_cell hd1 n6; have q7 := old_cell hd1 n7; have q8 := old_cell hd1 n8; have q9 := old_cell hd1 n9; have q10 := old_cell hd1 n10; have q11 := old_cell hd1 n11)
                        | (go_at_call 14; (with_reducible refine (HB3.out _ hd2).mono ?_); rintro e wd3 ⟨rfl, hb3⟩; have hd3 := bstep hd2 hb3; have sq0 := old_cell hd3 n0; have sq1 := old_cell hd3 n1; have sq2 := old_cell hd3 n2; have sq3 := old_cell hd3 n3; have sq4 := old_cell hd3 n4; have sq5 := old_cell hd3 n5; have sq6 := old_cell hd3 n6; have sq7 := old_cell hd3 n7; have sq8 := old_cell hd3 n8; have sq9 := old_cell hd3 n9; have sq10 := old_cell hd3 n10; have sq11 := old_cell hd3 n11)
                        | (go_at_call 14; (with_reducible refine (HB3.out _ hd1).mono ?_); rintro e wd2 ⟨rfl, hb2⟩; have hd2 := bstep hd1 hb2; have rq0 := old_cell hd2 n0; have rq1 := old_cell hd2 n1; have rq2 := old_cell hd2 n2; have rq3 := old_cell hd2 n3; have rq4 := old_cell hd2 n4; have rq5 := old_cell hd2 n5; have rq6 := old_cell hd2 n6; have rq7 := old_cell hd2 n7; have rq8 := old_cell hd2 n8; have rq9 := old_cell hd2 n9; have rq10 := old_cell hd2 n10; have rq11 := old_cell hd2 n11)
                        | (go_at_call 16; (with_reducible refine (HK3.out _ hd3).mono ?_); rintro e wd4 ⟨rfl, hb4⟩; have hd4 := bstep hd3 hb4; have tq0 := old_cell hd4 n0; have tq1 := old_cell hd4 n1; have tq2 := old_cell hd4 n2; have tq3 := old_cell hd4 n3; have tq4 := old_cell hd4 n4; have tq5 := old_cell hd4 n5; have tq6 := old_cell hd4 n6; have tq7 := old_cell hd4 n7; have tq8 := old_cell hd4 n8; have tq9 := old_cell hd4 n9; have tq10 := old_cell hd4 n10; have tq11 := old_cell hd4 n11)))
                  go_wp2
                  go_ret
                  exact ⟨rfl, bstep g_30 hd4⟩
                · have hd0 : ((D1 : Int) == 0) = false := by rw [beq_eq_false_iff_ne]; omega
                  clear h0 HCS
                  refine wp_region_held_drew (S := fun w' => (w'.cell? ⟨kA, 0, none⟩ = some (.int .i64 s) ∧ w'.cell? ⟨kA, 1, none⟩ = some (.int .i64 t) ∧ w'.cell? ⟨kA, 2, none⟩ = some (.slice aA la.length cA)) ∧ (w'.cell? ⟨kA + 1, 0, none⟩ = some (.int .i64 s) ∧ w'.cell? ⟨kA + 1, 1, none⟩ = some (.int .i64 t) ∧ w'.cell? ⟨kA + 1, 2, none⟩ = some (.slice aB lb.length cB)) ∧ (w'.cell? ⟨kC, 0, none⟩ = some (.int .i64 s) ∧ w'.cell? ⟨kC, 1, none⟩ = some (.int .i64 100) ∧ w'.cell? ⟨kC, 2, none⟩ = some (.slice aC m.length cC)) ∧ (w'.cell? ⟨kM, 0, none⟩ = some (.int .i64 S) ∧ w'.cell? ⟨kM, 1, none⟩ = some (.int .i64 T) ∧ w'.cell? ⟨kM, 2, none⟩ = some (.slice aM R.length cM))) (by kernel_rfl) ?_ (fun hHeld => ?_)
                  · (try dsimp only); go_keep
                  refine wpAnyH_take (i := 0) (oi := { dst := some 197, op := _, type := _, pos := _, after := _, guard := _ }) (v := ?v197n1) rfl (by kernel_rfl) (by kernel_rfl) (by kernel_rfl) (fun _ _ _ h => h) (Or.inl ⟨by rfl, ?hy197n1⟩) (by assumption) ?rest197n1
                  case hy197n1 => ((intro w' hSw; (try dsimp only at hSw); go_simp); try (with_reducible rfl))
                  try simp only [Act.put, List.setIfInBounds_toArray, List.set_cons_zero, List.set_cons_succ]
                  refine wpAnyH_take (i := 1) (oi := { dst := some 198, op := _, type := _, pos := _, after := _, guard := _ }) (v := ?v198n2) rfl (by kernel_rfl) (by kernel_rfl) (by kernel_rfl) (fun _ _ _ h => h) (Or.inl ⟨by rfl, ?hy198n2⟩) (by assumption) ?rest198n2
                  case hy198n2 => ((intro w' hSw; (try dsimp only at hSw); go_simp); try (with_reducible rfl))
                  try simp only [Act.put, List.setIfInBounds_toArray, List.set_cons_zero, List.set_cons_succ]
                  refine wpAnyH_take (i := 2) (oi := { dst := some 199, op := _, type := _, pos := _, after := _, guard := _ }) (v := ?v199n3) rfl (by kernel_rfl) (by kernel_rfl) (by kernel_rfl) (fun _ _ _ h => h) (Or.inl ⟨by rfl, ?hy199n3⟩) (by assumption) ?rest199n3
                  case hy199n3 => ((intro w' hSw; (try dsimp only at hSw); go_simp); try (with_reducible rfl))
                  try simp only [Act.put, List.setIfInBounds_toArray, List.set_cons_zero, List.set_cons_succ]
                  refine wpAnyH_take (i := 3) (oi := { dst := some 200, op := _, type := _, pos := _, after := _, guard := _ }) (v := ?v200n4) rfl (by kernel_rfl) (by kernel_rfl) (by kernel_rfl) (fun _ _ _ h => h) (Or.inl ⟨by rfl, ?hy200n4⟩) (by assumption) ?rest200n4
                  case hy200n4 => ((intro w' hSw; (try dsimp only at hSw); go_simp); try (with_reducible rfl))
                  try simp only [Act.put, List.setIfInBounds_toArray, List.set_cons_zero, List.set_cons_succ]
                  refine wpAnyH_take (i := 4) (oi := { dst := some 201, op := _, type := _, pos := _, after := _, guard := _ }) (v := ?v201n5) rfl (by kernel_rfl) (by kernel_rfl) (by kernel_rfl) (fun _ _ _ h => h) (Or.inl ⟨by rfl, ?hy201n5⟩) (by assumption) ?rest201n5
                  case hy201n5 => ((intro w' hSw; (try dsimp only at hSw); go_simp); try (with_reducible rfl))
                  try simp only [Act.put, List.setIfInBounds_toArray, List.set_cons_zero, List.set_cons_succ]
                  refine wpAnyH_take (i := 5) (oi := { dst := some 202, op := _, type := _, pos := _, after := _, guard := _ }) (v := ?v202n6) rfl (by kernel_rfl) (by kernel_rfl) (by kernel_rfl) (fun _ _ _ h => h) (Or.inl ⟨by rfl, ?hy202n6⟩) (by assumption) ?rest202n6
                  case hy202n6 => ((intro w' hSw; (try dsimp only at hSw); go_simp); try (with_reducible rfl))
                  try simp only [Act.put, List.setIfInBounds_toArray, List.set_cons_zero, List.set_cons_succ]
                  refine wpAnyH_take (i := 6) (oi := { dst := some 203, op := _, type := _, pos := _, after := _, guard := _ }) (v := ?v203n7) rfl (by kernel_rfl) (by kernel_rfl) (by kernel_rfl) (fun _ _ _ h => h) (Or.inl ⟨by rfl, ?hy203n7⟩) (by assumption) ?rest203n7
                  case hy203n7 => ((intro w' hSw; (try dsimp only at hSw); go_simp); try (with_reducible rfl))
                  try simp only [Act.put, List.setIfInBounds_toArray, List.set_cons_zero, List.set_cons_succ]
                  refine wpAnyH_take (i := 7) (oi := { dst := some 204, op := _, type := _, pos := _, after := _, guard := _ }) (v := ?v204n8) rfl (by kernel_rfl) (by kernel_rfl) (by kernel_rfl) (fun _ _ _ h => h) (Or.inl ⟨by rfl, ?hy204n8⟩) (by assumption) ?rest204n8
                  case hy204n8 => ((intro w' hSw; (try dsimp only at hSw); go_simp); try (with_reducible rfl))
                  try simp only [Act.put, List.setIfInBounds_toArray, List.set_cons_zero, List.set_cons_succ]
                  refine wpAnyH_take (i := 8) (oi := { dst := some 205, op := _, type := _, pos := _, after := _, guard := _ }) (v := ?v205n9) rfl (by kernel_rfl) (by kernel_rfl) (by kernel_rfl) (fun _ _ _ h => h) (Or.inl ⟨by rfl, ?hy205n9⟩) (by assumption) ?rest205n9
                  case hy205n9 => ((intro w' hSw; (try dsimp only at hSw); go_simp); try (with_reducible rfl))
                  try simp only [Act.put, List.setIfInBounds_toArray, List.set_cons_zero, List.set_cons_succ]
                  refine wpAnyH_take (i := 9) (oi := { dst := some 206, op := _, type := _, pos := _, after := _, guard := _ }) (v := ?v206n10) rfl (by kernel_rfl) (by kernel_rfl) (by kernel_rfl) (fun _ _ _ h => h) (Or.inl ⟨by rfl, ?hy206n10⟩) (by assumption) ?rest206n10
                  case hy206n10 => ((intro w' hSw; (try dsimp only at hSw); go_simp); try (with_reducible rfl))
                  try simp only [Act.put, List.setIfInBounds_toArray, List.set_cons_zero, List.set_cons_succ]
                  refine wpAnyH_take (i := 10) (oi := { dst := some 207, op := _, type := _, pos := _, after := _, guard := _ }) (v := ?v207n11) rfl (by kernel_rfl) (by kernel_rfl) (by kernel_rfl) (fun _ _ _ h => h) (Or.inl ⟨by rfl, ?hy207n11⟩) (by assumption) ?rest207n11
                  case hy207n11 => ((intro w' hSw; (try dsimp only at hSw); go_simp); try (with_reducible rfl))
                  try simp only [Act.put, List.setIfInBounds_toArray, List.set_cons_zero, List.set_cons_succ]
                  refine wpAnyH_take (i := 11) (oi := { dst := some 208, op := _, type := _, pos := _, after := _, guard := _ }) (v := ?v208n12) rfl (by kernel_rfl) (by kernel_rfl) (by kernel_rfl) (fun _ _ _ h => h) (Or.inl ⟨by rfl, ?hy208n12⟩) (by assumption) ?rest208n12
                  case hy208n12 => ((intro w' hSw; (try dsimp only at hSw); go_simp); try (with_reducible rfl))
                  try simp only [Act.put, List.setIfInBounds_toArray, List.set_cons_zero, List.set_cons_succ]
                  refine wpAnyH_take (i := 12) (oi := { dst := some 209, op := _, type := _, pos := _, after := _, guard := _ }) (v := undef) rfl (by kernel_rfl) (by kernel_rfl) (by kernel_rfl) (fun _ _ _ h => h) (Or.inr ⟨by rfl, rfl⟩) (by assumption) ?rest209n13
                  try simp only [Act.put, List.setIfInBounds_toArray, List.set_cons_zero, List.set_cons_succ]
                  refine wpAnyH_take (i := 13) (oi := { dst := some 210, op := _, type := _, pos := _, after := _, guard := _ }) (v := undef) rfl (by kernel_rfl) (by kernel_rfl) (by kernel_rfl) (fun _ _ _ h => h) (Or.inr ⟨by rfl, rfl⟩) (by assumption) ?rest210n14
                  try simp only [Act.put, List.setIfInBounds_toArray, List.set_cons_zero, List.set_cons_succ]
                  refine wpAnyH_take (i := 14) (oi := { dst := some 211, op := _, type := _, pos := _, after := _, guard := _ }) (v := undef) rfl (by kernel_rfl) (by kernel_rfl) (by kernel_rfl) (fun _ _ _ h => h) (Or.inr ⟨by rfl, rfl⟩) (by assumption) ?rest211n15
                  try simp only [Act.put, List.setIfInBounds_toArray, List.set_cons_zero, List.set_cons_succ]
                  refine wpAnyH_take (i := 15) (oi := { dst := some 212, op := _, type := _, pos := _, after := _, guard := _ }) (v := undef) rfl (by kernel_rfl) (by kernel_rfl) (by kernel_rfl) (fun _ _ _ h => h) (Or.inr ⟨by rfl, rfl⟩) (by assumption) ?rest212n16
                  try simp only [Act.put, List.setIfInBounds_toArray, List.set_cons_zero, List.set_cons_succ]
                  refine wpAnyH_take (i := 16) (oi := { dst := some 213, op := _, type := _, pos := _, after := _, guard := _ }) (v := undef) rfl (by kernel_rfl) (by kernel_rfl) (by kernel_rfl) (fun _ _ _ h => h) (Or.inr ⟨by rfl, rfl⟩) (by assumption) ?rest213n17
                  try simp only [Act.put, List.setIfInBounds_toArray, List.set_cons_zero, List.set_cons_succ]
                  refine wpAnyH_take (i := 17) (oi := { dst := some 214, op := _, type := _, pos := _, after := _, guard := _ }) (v := undef) rfl (by kernel_rfl) (by kernel_rfl) (by kernel_rfl) (fun _ _ _ h => h) (Or.inr ⟨by rfl, rfl⟩) (by assumption) ?rest214n18
                  try simp only [Act.put, List.setIfInBounds_toArray, List.set_cons_zero, List.set_cons_succ]
                  refine wpAnyH_take (i := 18) (oi := { dst := some 215, op := _, type := _, pos := _, after := _, guard := _ }) (v := undef) rfl (by kernel_rfl) (by kernel_rfl) (by kernel_rfl) (fun _ _ _ h => h) (Or.inr ⟨by rfl, rfl⟩) (by assumption) ?rest215n19
                  try simp only [Act.put, List.setIfInBounds_toArray, List.set_cons_zero, List.set_cons_succ]
                  refine wpAnyH_take (i := 19) (oi := { dst := some 216, op := _, type := _, pos := _, after := _, guard := _ }) (v := undef) rfl (by kernel_rfl) (by kernel_rfl) (by kernel_rfl) (fun _ _ _ h => h) (Or.inr ⟨by rfl, rfl⟩) (by assumption) ?rest216n20
                  try simp only [Act.put, List.setIfInBounds_toArray, List.set_cons_zero, List.set_cons_succ]
                  refine wpAnyH_take (i := 20) (oi := { dst := some 217, op := _, type := _, pos := _, after := _, guard := _ }) (v := undef) rfl (by kernel_rfl) (by kernel_rfl) (by kernel_rfl) (fun _ _ _ h => h) (Or.inr ⟨by rfl, rfl⟩) (by assumption) ?rest217n21
                  try simp only [Act.put, List.setIfInBounds_toArray, List.set_cons_zero, List.set_cons_succ]
                  refine wpAnyH_take (i := 21) (oi := { dst := some 218, op := _, type := _, pos := _, after := _, guard := _ }) (v := undef) rfl (by kernel_rfl) (by kernel_rfl) (by kernel_rfl) (fun _ _ _ h => h) (Or.inr ⟨by rfl, rfl⟩) (by assumption) ?rest218n22
                  try simp only [Act.put, List.setIfInBounds_toArray, List.set_cons_zero, List.set_cons_succ]
                  refine wpAnyH_take (i := 22) (oi := { dst := some 219, op := _, type := _, pos := _, after := _, guard := _ }) (v := undef) rfl (by kernel_rfl) (by kernel_rfl) (by kernel_rfl) (fun _ _ _ h => h) (Or.inr ⟨by rfl, rfl⟩) (by assumption) ?rest219n23
                  try simp only [Act.put, List.setIfInBounds_toArray, List.set_cons_zero, List.set_cons_succ]
                  refine wpAnyH_take (i := 23) (oi := { dst := some 220, op := _, type := _, pos := _, after := _, guard := _ }) (v := ?v220n24) rfl (by kernel_rfl) (by kernel_rfl) (by kernel_rfl) (fun _ _ _ h => h) (Or.inl ⟨by rfl, ?hy220n24⟩) (by assumption) ?rest220n24
                  case hy220n24 => ((intro w' hSw; (try dsimp only at hSw); go_simp); try (with_reducible rfl))
                  try simp only [Act.put, List.setIfInBounds_toArray, List.set_cons_zero, List.set_cons_succ]
                  refine wpAnyH_take (i := 24) (oi := { dst := some 221, op := _, type := _, pos := _, after := _, guard := _ }) (v := ?v221n25) rfl (by kernel_rfl) (by kernel_rfl) (by kernel_rfl) (fun _ _ _ h => h) (Or.inl ⟨by rfl, ?hy221n25⟩) (by assumption) ?rest221n25
                  case hy221n25 => ((intro w' hSw; (try dsimp only at hSw); go_simp); try (with_reducible rfl))
                  try simp only [Act.put, List.setIfInBounds_toArray, List.set_cons_zero, List.set_cons_succ]
                  refine wpAnyH_take (i := 25) (oi := { dst := some 222, op := _, type := _, pos := _, after := _, guard := _ }) (v := ?v222n26) rfl (by kernel_rfl) (by kernel_rfl) (by kernel_rfl) (fun _ _ _ h => h) (Or.inl ⟨by rfl, ?hy222n26⟩) (by assumption) ?rest222n26
                  case hy222n26 => ((intro w' hSw; (try dsimp only at hSw); go_simp); try (with_reducible rfl))
                  try simp only [Act.put, List.setIfInBounds_toArray, List.set_cons_zero, List.set_cons_succ]
                  refine wpAnyH_take (i := 26) (oi := { dst := some 223, op := _, type := _, pos := _, after := _, guard := _ }) (v := ?v223n27) rfl (by kernel_rfl) (by kernel_rfl) (by kernel_rfl) (fun _ _ _ h => h) (Or.inl ⟨by rfl, ?hy223n27⟩) (by assumption) ?rest223n27
                  case hy223n27 => ((intro w' hSw; (try dsimp only at hSw); go_simp); try (with_reducible rfl))
                  try simp only [Act.put, List.setIfInBounds_toArray, List.set_cons_zero, List.set_cons_succ]
                  refine wpAnyH_take (i := 27) (oi := { dst := some 224, op := _, type := _, pos := _, after := _, guard := _ }) (v := ?v224n28) rfl (by kernel_rfl) (by kernel_rfl) (by kernel_rfl) (fun _ _ _ h => h) (Or.inl ⟨by rfl, ?hy224n28⟩) (by assumption) ?rest224n28
                  case hy224n28 => ((intro w' hSw; (try dsimp only at hSw); go_simp); try (with_reducible rfl))
                  try simp only [Act.put, List.setIfInBounds_toArray, List.set_cons_zero, List.set_cons_succ]
                  refine wpAnyH_take (i := 29) (oi := { dst := some 226, op := _, type := _, pos := _, after := _, guard := _ }) (v := ?v226n29) rfl (by kernel_rfl) (by kernel_rfl) (by kernel_rfl) (fun _ _ _ h => h) (Or.inl ⟨by rfl, ?hy226n29⟩) (by assumption) ?rest226n29
                  case hy226n29 => ((intro w' hSw; (try dsimp only at hSw); go_simp); try (with_reducible rfl))
                  try simp only [Act.put, List.setIfInBounds_toArray, List.set_cons_zero, List.set_cons_succ]
                  refine wpAnyH_take (i := 30) (oi := { dst := some 227, op := _, type := _, pos := _, after := _, guard := _ }) (v := ?v227n30) rfl (by kernel_rfl) (by kernel_rfl) (by kernel_rfl) (fun _ _ _ h => h) (Or.inl ⟨by rfl, ?hy227n30⟩) (by assumption) ?rest227n30
                  case hy227n30 => ((intro w' hSw; (try dsimp only at hSw); go_simp); try (with_reducible rfl))
                  try simp only [Act.put, List.setIfInBounds_toArray, List.set_cons_zero, List.set_cons_succ]
                  refine wpAnyH_ready (rs := [28]) (by kernel_rfl) (by simp) ?_
                  refine AllReadyH.cons rfl (fun K hK => ?_) ?_
                  · go_simp
                    go_at_call 14
                    (with_reducible refine (HC3.out _ (Below.refl wC.heap.size wC).drew).mono ?_)
                    rintro e wd1 ⟨rfl, hb1⟩
                    have hd1 := below_undrew hb1
                    have q0 := old_cell hd1 n0; have q1 := old_cell hd1 n1; have q2 := old_cell hd1 n2; have q3 := old_cell hd1 n3; have q4 := old_cell hd1 n4; have q5 := old_cell hd1 n5; have q6 := old_cell hd1 n6; have q7 := old_cell hd1 n7; have q8 := old_cell hd1 n8; have q9 := old_cell hd1 n9; have q10 := old_cell hd1 n10; have q11 := old_cell hd1 n11
                    refine hK.out _ _ ?_ (fun hHeld => ?_)
                    · (try dsimp only); go_keep
                    clear hK K
                    try simp only [Act.put, List.setIfInBounds_toArray, List.set_cons_zero, List.set_cons_succ]
                    refine wpAnyH_ready (rs := [31]) (by kernel_rfl) (by simp) ?_
                    refine AllReadyH.cons rfl (fun K hK => ?_) ?_
                    · go_simp
                      go_at_call 14
                      (with_reducible refine (HB3.out _ hd1).mono ?_)
                      rintro e wd2 ⟨rfl, hb2⟩
                      have hd2 := bstep hd1 hb2
                      have rq0 := old_cell hd2 n0; have rq1 := old_cell hd2 n1; have rq2 := old_cell hd2 n2; have rq3 := old_cell hd2 n3; have rq4 := old_cell hd2 n4; have rq5 := old_cell hd2 n5; have rq6 := old_cell hd2 n6; have rq7 := old_cell hd2 n7; have rq8 := old_cell hd2 n8; have rq9 := old_cell hd2 n9; have rq10 := old_cell hd2 n10; have rq11 := old_cell hd2 n11
                      refine hK.out _ _ ?_ (fun hHeld => ?_)
                      · (try dsimp only); go_keep
                      clear hK K
                      try simp only [Act.put, List.setIfInBounds_toArray, List.set_cons_zero, List.set_cons_succ]
                      refine wpAnyH_take (i := 32) (oi := { dst := some 229, op := _, type := _, pos := _, after := _, guard := _ }) (v := ?v229n31) rfl (by kernel_rfl) (by kernel_rfl) (by kernel_rfl) (fun _ _ _ h => h) (Or.inl ⟨by rfl, ?hy229n31⟩) (by assumption) ?rest229n31
                      case hy229n31 => ((intro w' hSw; (try dsimp only at hSw); go_simp); try (with_reducible rfl))
                      try simp only [Act.put, List.setIfInBounds_toArray, List.set_cons_zero, List.set_cons_succ]
                      refine wpAnyH_take (i := 33) (oi := { dst := some 230, op := _, type := _, pos := _, after := _, guard := _ }) (v := ?v230n32) rfl (by kernel_rfl) (by kernel_rfl) (by kernel_rfl) (fun _ _ _ h => h) (Or.inl ⟨by rfl, ?hy230n32⟩) (by assumption) ?rest230n32
                      case hy230n32 => ((intro w' hSw; (try dsimp only at hSw); go_simp); try (with_reducible rfl))
                      try simp only [Act.put, List.setIfInBounds_toArray, List.set_cons_zero, List.set_cons_succ]
                      refine wpAnyH_take (i := 34) (oi := { dst := some 231, op := _, type := _, pos := _, after := _, guard := _ }) (v := ?v231n33) rfl (by kernel_rfl) (by kernel_rfl) (by kernel_rfl) (fun _ _ _ h => h) (Or.inl ⟨by rfl, ?hy231n33⟩) (by assumption) ?rest231n33
                      case hy231n33 => ((intro w' hSw; (try dsimp only at hSw); go_simp); try (with_reducible rfl))
                      try simp only [Act.put, List.setIfInBounds_toArray, List.set_cons_zero, List.set_cons_succ]
                      refine wpAnyH_take (i := 35) (oi := { dst := some 232, op := _, type := _, pos := _, after := _, guard := _ }) (v := ?v232n34) rfl (by kernel_rfl) (by kernel_rfl) (by kernel_rfl) (fun _ _ _ h => h) (Or.inl ⟨by rfl, ?hy232n34⟩) (by assumption) ?rest232n34
                      case hy232n34 => ((intro w' hSw; (try dsimp only at hSw); go_simp); try (with_reducible rfl))
                      try simp only [Act.put, List.setIfInBounds_toArray, List.set_cons_zero, List.set_cons_succ]
                      refine wpAnyH_take (i := 36) (oi := { dst := some 233, op := _, type := _, pos := _, after := _, guard := _ }) (v := ?v233n35) rfl (by kernel_rfl) (by kernel_rfl) (by kernel_rfl) (fun _ _ _ h => h) (Or.inl ⟨by rfl, ?hy233n35⟩) (by assumption) ?rest233n35
                      case hy233n35 => ((intro w' hSw; (try dsimp only at hSw); go_simp); try (with_reducible rfl))
                      try simp only [Act.put, List.setIfInBounds_toArray, List.set_cons_zero, List.set_cons_succ]
                      refine wpAnyH_take (i := 38) (oi := { dst := some 235, op := _, type := _, pos := _, after := _, guard := _ }) (v := ?v235n36) rfl (by kernel_rfl) (by kernel_rfl) (by kernel_rfl) (fun _ _ _ h => h) (Or.inl ⟨by rfl, ?hy235n36⟩) (by assumption) ?rest235n36
                      case hy235n36 => ((intro w' hSw; (try dsimp only at hSw); go_simp); try (with_reducible rfl))
                      try simp only [Act.put, List.setIfInBounds_toArray, List.set_cons_zero, List.set_cons_succ]
                      refine wpAnyH_ready (rs := [37]) (by kernel_rfl) (by simp) ?_
                      refine AllReadyH.cons rfl (fun K hK => ?_) ?_
                      · go_simp
                        go_at_call 14
                        (with_reducible refine (HB3.out _ hd2).mono ?_)
                        rintro e wd3 ⟨rfl, hb3⟩
                        have hd3 := bstep hd2 hb3
                        have sq0 := old_cell hd3 n0; have sq1 := old_cell hd3 n1; have sq2 := old_cell hd3 n2; have sq3 := old_cell hd3 n3; have sq4 := old_cell hd3 n4; have sq5 := old_cell hd3 n5; have sq6 := old_cell hd3 n6; have sq7 := old_cell hd3 n7; have sq8 := old_cell hd3 n8; have sq9 := old_cell hd3 n9; have sq10 := old_cell hd3 n10; have sq11 := old_cell hd3 n11
                        refine hK.out _ _ ?_ (fun hHeld => ?_)
                        · (try dsimp only); go_keep
                        clear hK K
                        try simp only [Act.put, List.setIfInBounds_toArray, List.set_cons_zero, List.set_cons_succ]
                        refine wpAnyH_take (i := 39) (oi := { dst := some 236, op := _, type := _, pos := _, after := _, guard := _ }) (v := ?v236n37) rfl (by kernel_rfl) (by kernel_rfl) (by kernel_rfl) (fun _ _ _ h => h) (Or.inl ⟨by rfl, ?hy236n37⟩) (by assumption) ?rest236n37
                        case hy236n37 => ((intro w' hSw; (try dsimp only at hSw); go_simp); try (with_reducible rfl))
                        try simp only [Act.put, List.setIfInBounds_toArray, List.set_cons_zero, List.set_cons_succ]
                        refine wpAnyH_take (i := 40) (oi := { dst := some 237, op := _, type := _, pos := _, after := _, guard := _ }) (v := ?v237n38) rfl (by kernel_rfl) (by kernel_rfl) (by kernel_rfl) (fun _ _ _ h => h) (Or.inl ⟨by rfl, ?hy237n38⟩) (by assumption) ?rest237n38
                        case hy237n38 => ((intro w' hSw; (try dsimp only at hSw); go_simp); try (with_reducible rfl))
                        try simp only [Act.put, List.setIfInBounds_toArray, List.set_cons_zero, List.set_cons_succ]
                        refine wpAnyH_take (i := 41) (oi := { dst := some 238, op := _, type := _, pos := _, after := _, guard := _ }) (v := ?v238n39) rfl (by kernel_rfl) (by kernel_rfl) (by kernel_rfl) (fun _ _ _ h => h) (Or.inl ⟨by rfl, ?hy238n39⟩) (by assumption) ?rest238n39
                        case hy238n39 => ((intro w' hSw; (try dsimp only at hSw); go_simp); try (with_reducible rfl))
                        try simp only [Act.put, List.setIfInBounds_toArray, List.set_cons_zero, List.set_cons_succ]
                        refine wpAnyH_take (i := 42) (oi := { dst := some 239, op := _, type := _, pos := _, after := _, guard := _ }) (v := ?v239n40) rfl (by kernel_rfl) (by kernel_rfl) (by kernel_rfl) (fun _ _ _ h => h) (Or.inl ⟨by rfl, ?hy239n40⟩) (by assumption) ?rest239n40
                        case hy239n40 => ((intro w' hSw; (try dsimp only at hSw); go_simp); try (with_reducible rfl))
                        try simp only [Act.put, List.setIfInBounds_toArray, List.set_cons_zero, List.set_cons_succ]
                        refine wpAnyH_ready (rs := [43]) (by kernel_rfl) (by simp) ?_
                        refine AllReadyH.cons rfl (fun K hK => ?_) ?_
                        · go_simp
                          go_at_call 16
                          (with_reducible refine (HK3.out _ hd3).mono ?_)
                          rintro e wd4 ⟨rfl, hb4⟩
                          have hd4 := bstep hd3 hb4
                          have tq0 := old_cell hd4 n0; have tq1 := old_cell hd4 n1; have tq2 := old_cell hd4 n2; have tq3 := old_cell hd4 n3; have tq4 := old_cell hd4 n4; have tq5 := old_cell hd4 n5; have tq6 := old_cell hd4 n6; have tq7 := old_cell hd4 n7; have tq8 := old_cell hd4 n8; have tq9 := old_cell hd4 n9; have tq10 := old_cell hd4 n10; have tq11 := old_cell hd4 n11
                          refine hK.out _ _ ?_ (fun hHeld => ?_)
                          · (try dsimp only); go_keep
                          clear hK K
                          try simp only [Act.put, List.setIfInBounds_toArray, List.set_cons_zero, List.set_cons_succ]
                          refine wpAnyH_take (i := 44) (oi := { dst := some 241, op := _, type := _, pos := _, after := _, guard := _ }) (v := ?v241n41) rfl (by kernel_rfl) (by kernel_rfl) (by kernel_rfl) (fun _ _ _ h => h) (Or.inl ⟨by rfl, ?hy241n41⟩) (by assumption) ?rest241n41
                          case hy241n41 => ((intro w' hSw; (try dsimp only at hSw); go_simp); try (with_reducible rfl))
                          try simp only [Act.put, List.setIfInBounds_toArray, List.set_cons_zero, List.set_cons_succ]
                          refine wpAnyH_take (i := 45) (oi := { dst := some 2, op := _, type := _, pos := _, after := _, guard := _ }) (v := ?v2n42) rfl (by kernel_rfl) (by kernel_rfl) (by kernel_rfl) (fun _ _ _ h => h) (Or.inl ⟨by rfl, ?hy2n42⟩) (by assumption) ?rest2n42
                          case hy2n42 => ((intro w' hSw; (try dsimp only at hSw); go_simp); try (with_reducible rfl))
                          try simp only [Act.put, List.setIfInBounds_toArray, List.set_cons_zero, List.set_cons_succ]
                          refine wpAnyH_done (by kernel_rfl) ?_ _
                          go_wp2
                          go_ret
                          exact ⟨rfl, bstep g_30 hd4⟩
                        exact AllReadyH.nil
                      exact AllReadyH.nil
                    exact AllReadyH.nil
                  exact AllReadyH.nil
end Go.Proofs.Ytemhmbaacpfnaaa
