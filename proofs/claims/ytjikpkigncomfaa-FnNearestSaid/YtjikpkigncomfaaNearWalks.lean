/- The walks of chapter 11's exact laws: THE PROGRAM'S OWN CONTRACT IS A PREMISE (hI). Made by mk_exact.py. -/
import Derived.Test.YtjikpkigncomfaaNearSpec2
import Derived.Test.YtjikpkigncomfaaFracSpec
import Derived.Test.YtjikpkigncomfaaGearWalks2
import Derived.Test.YtjikpkigncomfaaIntsArg
namespace Go.Proofs.Ytjikpkigncomfaa
open Go.ChangeShapes Go.WideShapes Go.ChangeAt Go.RowKit

/-- The answer of FractionOf, three in one. -/
noncomputable def frac3 (q : List Int) : Int × Int × Bool := ((fracM q).1.1, (fracM q).1.2, (fracM q).2)
theorem frac3_any {w : World} {v : Value} {q : List Int} (h : Rd1 w v q) : Calls Try.prog 24 #[v] w (fun e w' => e = .returned (.tuple #[.int .i64 (frac3 q).1, .int .i64 (frac3 q).2.1, .bool (frac3 q).2.2]) ∧ Below w.heap.size w w') := fracS_any h
set_option maxHeartbeats 8000000 in
set_option maxRecDepth 100000 in
theorem exactfrac_walk {w : World} {qq : Value} {q : List Int}  (hI : ∀ (W : World) (U0 : Value), Rd1 W U0 q → q.length ≤ 1048576 → Calls Try.prog 12 #[U0] W (fun e w' => e = .returned (.tuple #[.int .i64 (frac3 q).1, .int .i64 (frac3 q).2.1, .bool (frac3 q).2.2]) ∧ Below W.heap.size W w')) (hq : Rd1 w qq q) :
    Calls Try.prog 5 #[qq] w fun e w' => e = .returned (.bool true) ∧ Below w.heap.size w w' := by
  obtain ⟨ad_q, cap_q, rfl⟩ := Rd.slice hq
  have hmq := hq.2.1
  unfold maxLen at hmq
  by_cases hsq : q.length ≤ 1048576
  · skip
    have HI := Lib.hid (fun (W : World) (U0 : Value) (pq : Rd1 W U0 q) => hI W U0 pq hsq)
    have HS := Lib.hid (fun (W : World) (U0 : Value) (pq : Rd1 W U0 q) => frac3_any pq)
    clear hI
    generalize (frac3 q).1 = r0 at *
    generalize (frac3 q).2.1 = r1 at *
    generalize (frac3 q).2.2 = r2 at *
    go_enter Try.func5, Try.ntmps5

    have g0 := Below.refl w.heap.size w
    go_wp2_with fail
    refine (toInts_any (Rd.below hq g0) hsq).mono ?_
    rintro e w_1 ⟨vPq, rfl, hPq0, hb1⟩
    have gbPq := g0
    have g1 := bstep g0 hb1
    clear hb1 
    go_wp2_with fail
    refine (HS.out _ _ (Rd.of_own hPq0)).mono ?_
    rintro e w_2 ⟨rfl, hb2⟩
    have hPq2 := ownS_below hPq0 hb2
    have g2 := bstep g1 hb2
    clear hb2 hPq0
    clear hPq2
    go_wp2_with fail
    refine (toInts_any (Rd.below hq g2) hsq).mono ?_
    rintro e w_3 ⟨vXq, rfl, hXq0, hb3⟩
    have gbXq := g2
    have g3 := bstep g2 hb3
    clear hb3 
    go_wp2_with fail
    refine (HI.out _ _ (Rd.of_own hXq0)).mono ?_
    rintro e w_4 ⟨rfl, hb4⟩
    have hXq4 := ownS_below hXq0 hb4
    have g4 := bstep g3 hb4
    clear hb4 hXq0
    go_wp2_with fail
    refine (toInts_any (Rd.below hq g4) hsq).mono ?_
    rintro e w_5 ⟨vT, rfl, hT0, hb5⟩
    have apXqT := apartS hXq4 hT0
    have apTXq := apartS' hXq4 hT0
    have gbT := g4
    have hXq5 := ownS_below hXq4 hb5
    have g5 := bstep g4 hb5
    clear hb5 hXq4
    go_wp2_with fail
    refine (eqInts_same (Rd.of_own hXq5) (Rd.of_own hT0)).mono ?_
    rintro e w_6 ⟨rfl, hb6⟩
    have hXq6 := ownS_below hXq5 hb6
    have hT6 := ownS_below hT0 hb6
    have g6 := bstep g5 hb6
    clear hb6 hXq5 hT0
    clear hT6
    go_wp2
    go_ret
    exact ⟨rfl, g6⟩
  · go_enter Try.func5, Try.ntmps5
    go_wp2
    go_ret
    exact ⟨rfl, Below.refl _ _⟩

set_option maxHeartbeats 4000000 in
set_option maxRecDepth 100000 in
theorem exactcont_walk {w : World} (top bottom : Int) (hI : ∀ W : World, Calls Try.prog 11 #[.int .i64 top, .int .i64 bottom] W (NewInts W (contM top bottom))) :
    Calls Try.prog 4 #[.int .i64 top, .int .i64 bottom] w fun e w' => e = .returned (.bool true) ∧ Below w.heap.size w w' := by
  have HI := Lib.hid hI
  have HS := Lib.hid (fun W : World => contS_any (w := W) top bottom)
  have hbd : (contM top bottom).length ≤ 1048576 := Nat.le_trans (contM_len top bottom) (by omega)
  clear hI
  generalize contM top bottom = R at *
  go_enter Try.func4, Try.ntmps4
  have g0 := Below.refl w.heap.size w
  go_wp2_with fail
  refine (HS.out _).mono ?_
  rintro e w_1 ⟨vS, rfl, hS0, hb1⟩
  have gbS := g0
  have g1 := bstep g0 hb1
  clear hb1 
  go_wp2_with fail
  refine (HI.out _).mono ?_
  rintro e w_2 ⟨vI, rfl, hI0, hb2⟩
  have apSI := apartS hS0 hI0
  have apIS := apartS' hS0 hI0
  have gbI := g1
  have hS2 := ownS_below hS0 hb2
  have g2 := bstep g1 hb2
  clear hb2 hS0
  go_wp2_with fail
  refine (eqInts_same (Rd.of_own hI0) (Rd.of_own hS2)).mono ?_
  rintro e w_3 ⟨rfl, hb3⟩
  have hS3 := ownS_below hS2 hb3
  have hI3 := ownS_below hI0 hb3
  have g3 := bstep g2 hb3
  clear hb3 hS2 hI0
  go_wp2_with fail
  refine (markInts_any 1 (by omega) hI3).mono ?_
  rintro e w_4 ⟨rfl, hg4, ys, hy4, hmk4⟩
  have hS4 := World.ownsRow.kept hS3 hg4 apSI
  have g4 := g3.grown hg4 g3.size (fun k hk => Nat.le_trans gbI.size (hI3.lt k hk).1)
  have HMK := Lib.hid hmk4
  clear hmk4
  clear hg4 hI3 hS3
  go_wp2_with fail
  refine (heldInts_any 1 (by omega) (Rd.of_own hy4) HMK.out).mono ?_
  rintro e w_5 ⟨rfl, hb5⟩
  have hS5 := ownS_below hS4 hb5
  have hI5 := ownS_below hy4 hb5
  have g5 := bstep g4 hb5
  clear hb5 hS4 hy4
  go_wp2_with fail
  refine (HI.out _).mono ?_
  rintro e w_6 ⟨vH, rfl, hH0, hb6⟩
  have apSH := apartS hS5 hH0
  have apHS := apartS' hS5 hH0
  have apIH := apartS hI5 hH0
  have apHI := apartS' hI5 hH0
  have gbH := g5
  have hS6 := ownS_below hS5 hb6
  have hI6 := ownS_below hI5 hb6
  have g6 := bstep g5 hb6
  clear hb6 hS5 hI5
  go_wp2_with fail
  refine (eqInts_same (Rd.of_own hH0) (Rd.of_own hS6)).mono ?_
  rintro e w_7 ⟨rfl, hb7⟩
  have hS7 := ownS_below hS6 hb7
  have hI7 := ownS_below hI6 hb7
  have hH7 := ownS_below hH0 hb7
  have g7 := bstep g6 hb7
  clear hb7 hS6 hI6 hH0
  clear hH7
  clear hS7
  go_wp2_with fail
  refine (heldInts_any 1 (by omega) (Rd.of_own hI7) HMK.out).mono ?_
  rintro e w_8 ⟨rfl, hb8⟩
  have hI8 := ownS_below hI7 hb8
  have g8 := bstep g7 hb8
  clear hb8 hI7
  go_wp2
  go_ret
  exact ⟨rfl, g8⟩
theorem exactclos_walk {w : World} (t u a b c d : Int) (hI : ∀ W : World, Calls Try.prog 16 #[.int .i64 t, .int .i64 u, .int .i64 a, .int .i64 b, .int .i64 c, .int .i64 d] W (fun e w' => e = .returned (.int .i64 (closM6 t u a b c d)) ∧ Below W.heap.size W w')) :
    Calls Try.prog 6 #[.int .i64 t, .int .i64 u, .int .i64 a, .int .i64 b, .int .i64 c, .int .i64 d] w fun e w' => e = .returned (.bool true) ∧ Below w.heap.size w w' := by
  have HI := Lib.hid hI
  have HS := Lib.hid (fun W : World => closS_any (w := W) t u a b c d)
  clear hI
  generalize closM6 t u a b c d = R at *
  go_enter Try.func6, Try.ntmps6
  go_wp2_with fail
  refine (HS.out _).mono ?_
  rintro e w1 ⟨rfl, rfl⟩
  go_wp2_with fail
  refine (HI.out _).mono ?_
  rintro e w2 ⟨rfl, hb2⟩
  go_wp2
  go_ret
  exact ⟨rfl, hb2⟩
set_option maxHeartbeats 1000000 in
theorem exactnear_walk {w : World} (top bottom : Int) (hI : ∀ W : World, Calls Try.prog 13 #[.int .i64 top, .int .i64 bottom] W (GearAns W (nearA top bottom).1 (nearA top bottom).2)) :
    Calls Try.prog 7 #[.int .i64 top, .int .i64 bottom] w fun e w' => e = .returned (.bool true) ∧ Below w.heap.size w w' := by
  have HI := Lib.hid hI
  have HS := Lib.hid (fun W : World => nearS_any (w := W) top bottom)
  clear hI
  generalize (nearA top bottom).1 = g at *
  generalize (nearA top bottom).2 = b at *
  go_enter Try.func7, Try.ntmps7
  go_wp2_with fail
  refine (HS.out _).mono ?_
  rintro e w1 ⟨rfl, hb1⟩
  have hbA := hb1.alloc hb1.size (.cells #[.int .i64 g.1, .int .i64 g.2] 31)
  have hX := box2_new w1 (.int .i64 g.1) (.int .i64 g.2) 31
  go_wp2_with fail
  generalize w1.alloc (.cells #[.int .i64 g.1, .int .i64 g.2] 31) = W1 at *
  generalize w1.heap.size = b1 at *
  refine (HI.out _).mono ?_
  rintro e w2 ⟨rfl, hb2⟩
  have hbB := bstep hbA hb2
  have hX2 := hX.below hb2
  have hbC : Below w2.heap.size w2 (w2.alloc (.cells #[.int .i64 g.1, .int .i64 g.2] 31)) := (Below.refl _ _).alloc (Nat.le_refl _) _
  have hY := box2_new w2 (.int .i64 g.1) (.int .i64 g.2) 31
  have hX3 := hX2.below hbC
  have hbD := bstep hbB hbC
  obtain ⟨-, ⟨x0, x1⟩, -⟩ := id hX3
  obtain ⟨-, ⟨y0, y1⟩, -⟩ := id hY
  clear hbA hb2 hX hX2 hbC hbB hX3 hY
  go_wp2_with fail
  generalize w2.alloc (.cells #[.int .i64 g.1, .int .i64 g.2] 31) = W2 at *
  refine (eqGear_same g.1 g.2).mono ?_
  rintro e w3 ⟨rfl, hb3⟩
  have hbE := bstep hbD hb3
  clear hb3 hbD x0 x1 y0 y1
  cases b <;> (go_wp2; go_ret; exact ⟨rfl, hbE⟩)
set_option maxHeartbeats 1000000 in
theorem exacterr_walk {w : World} (t u : Int) (p : Int × Int) (hI : ∀ W : World, Calls Try.prog 17 #[.int .i64 t, .int .i64 u, .agg #[.int .i64 p.1, .int .i64 p.2]] W (fun e w' => e = .returned (.int .i64 (errM t u p)) ∧ Below W.heap.size W w')) :
    Calls Try.prog 8 #[.int .i64 t, .int .i64 u, .agg #[.int .i64 p.1, .int .i64 p.2]] w fun e w' => e = .returned (.bool true) ∧ Below w.heap.size w w' := by
  have hb0 : Below w.heap.size w (w.alloc (.cells #[.int .i64 p.1, .int .i64 p.2] 45)) := (Below.refl _ _).alloc (Nat.le_refl _) _
  have hX := box2_new w (.int .i64 p.1) (.int .i64 p.2) 45
  have HI := Lib.hid hI
  have HS := Lib.hid (fun W : World => errS_any (w := W) t u p)
  clear hI
  generalize errM t u p = R at *
  go_enter Try.func8, Try.ntmps8
  go_wp2_with fail
  generalize w.alloc (.cells #[.int .i64 p.1, .int .i64 p.2] 45) = W at *
  refine (toGear_any p.1 p.2).mono ?_
  rintro e w1 ⟨rfl, hb1⟩
  have hX1 := hX.below hb1
  have g1 := bstep hb0 hb1
  clear hX hb0 hb1
  go_wp2_with fail
  refine (HS.out _).mono ?_
  rintro e w2 ⟨rfl, hb2⟩
  obtain ⟨-, ⟨x0, x1⟩, -⟩ := hX1.below hb2
  have g2 := bstep g1 hb2
  clear hX1 hb2 g1
  go_wp2_with fail
  refine (toGear_any p.1 p.2).mono ?_
  rintro e w3 ⟨rfl, hb3⟩
  have g3 := bstep g2 hb3
  clear x0 x1 hb3 g2
  go_wp2_with fail
  refine (HI.out _).mono ?_
  rintro e w4 ⟨rfl, hb4⟩
  have g4 := bstep g3 hb4
  go_wp2
  go_ret
  exact ⟨rfl, g4⟩
end Go.Proofs.Ytjikpkigncomfaa
