/- The walks of the exact laws of chapter 15: THE PROGRAM'S OWN CONTRACT IS A PREMISE. Made by gen_filewalks.py. -/
import Derived.Test.YtfkjaofepilnkaaFileSpec
namespace Go.Proofs.Ytfkjaofepilnkaa
open Go.ChangeShapes Go.WideShapes Go.ChangeAt Go.RowKit

set_option maxHeartbeats 1000000 in
theorem exacttoothok_walk {w : World} (t p r : Int) (hI : ∀ W : World, Calls Try.prog 9 #[.agg #[.int .i64 t, .int .i64 p, .int .i64 r]] W (fun e w' => e = .returned (.bool (tooB t p r)) ∧ Below W.heap.size W w')) :
    Calls Try.prog 3 #[.agg #[.int .i64 t, .int .i64 p, .int .i64 r]] w fun e w' => e = .returned (.bool true) ∧ Below w.heap.size w w' := by
  have HI := Lib.hid hI
  have HS := Lib.hid (fun W : World => toothG_any (w := W) t p r)
  clear hI
  have hb0 : Below w.heap.size w (w.alloc (.cells #[.int .i64 t, .int .i64 p, .int .i64 r] 23)) := (Below.refl _ _).alloc (Nat.le_refl _) _
  have hX := b3_new w t p r 23
  generalize tooB t p r = b at *
  go_enter Try.func3, Try.ntmps3
  go_wp2_with fail
  generalize (w.alloc (.cells #[.int .i64 t, .int .i64 p, .int .i64 r] 23)) = W at *
  generalize hbx : w.heap.size = bx at hX ⊢
  refine (toTooth_any t p r).mono ?_
  rintro e w1 ⟨rfl, k1⟩
  have g1 := bstep hb0 k1
  have hX1 := hX.below k1
  clear hb0 k1 hX
  go_wp2_with fail
  refine (HS.out _).mono ?_
  rintro e w2 ⟨rfl, k2⟩
  have g2 := bstep g1 k2
  have hX2 := hX1.below k2
  clear g1 k2 hX1
  obtain ⟨-, ⟨x0, x1, x2⟩, -⟩ := id hX2
  go_wp2_with fail
  refine (toTooth_any t p r).mono ?_
  rintro e w3 ⟨rfl, k3⟩
  have g3 := bstep g2 k3
  clear g2 k3 hX2 x0 x1 x2
  go_wp2_with fail
  refine (HI.out _).mono ?_
  rintro e w4 ⟨rfl, k4⟩
  have g4 := bstep g3 k4
  clear g3 k4
  subst hbx
  cases b <;> (go_wp2; go_ret; exact ⟨rfl, g4⟩)

set_option maxHeartbeats 1000000 in
theorem exacttip_walk {w : World} (t p r : Int) (hI : ∀ W : World, Calls Try.prog 11 #[.agg #[.int .i64 t, .int .i64 p, .int .i64 r]] W (TooAns W (tipA t p r))) :
    Calls Try.prog 4 #[.agg #[.int .i64 t, .int .i64 p, .int .i64 r]] w fun e w' => e = .returned (.bool true) ∧ Below w.heap.size w w' := by
  have HI := Lib.hid hI
  have HS := Lib.hid (fun W : World => tipG_any (w := W) t p r)
  clear hI
  have hb0 : Below w.heap.size w (w.alloc (.cells #[.int .i64 t, .int .i64 p, .int .i64 r] 23)) := (Below.refl _ _).alloc (Nat.le_refl _) _
  have hX := b3_new w t p r 23
  generalize tipA t p r = R at *
  obtain ⟨u, v, x, b⟩ := R
  go_enter Try.func4, Try.ntmps4
  go_wp2_with fail
  generalize (w.alloc (.cells #[.int .i64 t, .int .i64 p, .int .i64 r] 23)) = W at *
  generalize hbx : w.heap.size = bx at hX ⊢
  refine (toTooth_any t p r).mono ?_
  rintro e w1 ⟨rfl, k1⟩
  have g1 := bstep hb0 k1
  have hX1 := hX.below k1
  clear hb0 k1 hX
  go_wp2_with fail
  refine (HS.out _).mono ?_
  rintro e w2 ⟨rfl, k2⟩
  have g2 := (bstep g1 k2).alloc (bstep g1 k2).size (.cells #[.int .i64 u, .int .i64 v, .int .i64 x] 25)
  have kA : Below w2.heap.size w2 (w2.alloc (.cells #[.int .i64 u, .int .i64 v, .int .i64 x] 25)) := (Below.refl _ _).alloc (Nat.le_refl _) _
  have hX2 := (hX1.below k2).below kA
  have hY := b3_new w2 u v x 25
  clear g1 k2 hX1 kA
  obtain ⟨-, ⟨x0, x1, x2⟩, -⟩ := id hX2
  go_wp2_with fail
  generalize w2.alloc (.cells #[.int .i64 u, .int .i64 v, .int .i64 x] 25) = W2 at *
  generalize w2.heap.size = b2 at *
  refine (toTooth_any t p r).mono ?_
  rintro e w3 ⟨rfl, k3⟩
  have g3 := bstep g2 k3
  have hY3 := hY.below k3
  clear g2 k3 hX2 x0 x1 x2 hY
  go_wp2_with fail
  refine (HI.out _).mono ?_
  rintro e w4 ⟨rfl, k4⟩
  have g4 := (bstep g3 k4).alloc (bstep g3 k4).size (.cells #[.int .i64 u, .int .i64 v, .int .i64 x] 25)
  have kA : Below w4.heap.size w4 (w4.alloc (.cells #[.int .i64 u, .int .i64 v, .int .i64 x] 25)) := (Below.refl _ _).alloc (Nat.le_refl _) _
  have hY4 := (hY3.below k4).below kA
  have hZ := b3_new w4 u v x 25
  clear g3 k4 kA hY3
  obtain ⟨-, ⟨y0, y1, y2⟩, -⟩ := id hY4
  obtain ⟨-, ⟨z0, z1, z2⟩, -⟩ := id hZ
  clear hY4 hZ
  go_wp2_with fail
  generalize w4.alloc (.cells #[.int .i64 u, .int .i64 v, .int .i64 x] 25) = W4 at *
  refine (eqTooth_same u v x).mono ?_
  rintro e w5 ⟨rfl, k5⟩
  have g5 := bstep g4 k5
  clear k5 g4 y0 y1 y2 z0 z1 z2
  subst hbx
  cases b <;> (go_wp2; go_ret; exact ⟨rfl, g5⟩)

set_option maxHeartbeats 1000000 in
theorem exactroot_walk {w : World} (t p r : Int) (hI : ∀ W : World, Calls Try.prog 14 #[.agg #[.int .i64 t, .int .i64 p, .int .i64 r]] W (TooAns W (rootA t p r))) :
    Calls Try.prog 5 #[.agg #[.int .i64 t, .int .i64 p, .int .i64 r]] w fun e w' => e = .returned (.bool true) ∧ Below w.heap.size w w' := by
  have HI := Lib.hid hI
  have HS := Lib.hid (fun W : World => rootG_any (w := W) t p r)
  clear hI
  have hb0 : Below w.heap.size w (w.alloc (.cells #[.int .i64 t, .int .i64 p, .int .i64 r] 23)) := (Below.refl _ _).alloc (Nat.le_refl _) _
  have hX := b3_new w t p r 23
  generalize rootA t p r = R at *
  obtain ⟨u, v, x, b⟩ := R
  go_enter Try.func5, Try.ntmps5
  go_wp2_with fail
  generalize (w.alloc (.cells #[.int .i64 t, .int .i64 p, .int .i64 r] 23)) = W at *
  generalize hbx : w.heap.size = bx at hX ⊢
  refine (toTooth_any t p r).mono ?_
  rintro e w1 ⟨rfl, k1⟩
  have g1 := bstep hb0 k1
  have hX1 := hX.below k1
  clear hb0 k1 hX
  go_wp2_with fail
  refine (HS.out _).mono ?_
  rintro e w2 ⟨rfl, k2⟩
  have g2 := (bstep g1 k2).alloc (bstep g1 k2).size (.cells #[.int .i64 u, .int .i64 v, .int .i64 x] 25)
  have kA : Below w2.heap.size w2 (w2.alloc (.cells #[.int .i64 u, .int .i64 v, .int .i64 x] 25)) := (Below.refl _ _).alloc (Nat.le_refl _) _
  have hX2 := (hX1.below k2).below kA
  have hY := b3_new w2 u v x 25
  clear g1 k2 hX1 kA
  obtain ⟨-, ⟨x0, x1, x2⟩, -⟩ := id hX2
  go_wp2_with fail
  generalize w2.alloc (.cells #[.int .i64 u, .int .i64 v, .int .i64 x] 25) = W2 at *
  generalize w2.heap.size = b2 at *
  refine (toTooth_any t p r).mono ?_
  rintro e w3 ⟨rfl, k3⟩
  have g3 := bstep g2 k3
  have hY3 := hY.below k3
  clear g2 k3 hX2 x0 x1 x2 hY
  go_wp2_with fail
  refine (HI.out _).mono ?_
  rintro e w4 ⟨rfl, k4⟩
  have g4 := (bstep g3 k4).alloc (bstep g3 k4).size (.cells #[.int .i64 u, .int .i64 v, .int .i64 x] 25)
  have kA : Below w4.heap.size w4 (w4.alloc (.cells #[.int .i64 u, .int .i64 v, .int .i64 x] 25)) := (Below.refl _ _).alloc (Nat.le_refl _) _
  have hY4 := (hY3.below k4).below kA
  have hZ := b3_new w4 u v x 25
  clear g3 k4 kA hY3
  obtain ⟨-, ⟨y0, y1, y2⟩, -⟩ := id hY4
  obtain ⟨-, ⟨z0, z1, z2⟩, -⟩ := id hZ
  clear hY4 hZ
  go_wp2_with fail
  generalize w4.alloc (.cells #[.int .i64 u, .int .i64 v, .int .i64 x] 25) = W4 at *
  refine (eqTooth_same u v x).mono ?_
  rintro e w5 ⟨rfl, k5⟩
  have g5 := bstep g4 k5
  clear k5 g4 y0 y1 y2 z0 z1 z2
  subst hbx
  cases b <;> (go_wp2; go_ret; exact ⟨rfl, g5⟩)

set_option maxHeartbeats 1000000 in
theorem exactclosest_walk {w : World} (t p r n : Int) (hI : ∀ W : World, Calls Try.prog 16 #[.agg #[.int .i64 t, .int .i64 p, .int .i64 r], .int .i64 n] W (fun e w' => e = .returned (.int .i64 (clM t p r n)) ∧ Below W.heap.size W w')) :
    Calls Try.prog 6 #[.agg #[.int .i64 t, .int .i64 p, .int .i64 r], .int .i64 n] w fun e w' => e = .returned (.bool true) ∧ Below w.heap.size w w' := by
  have HI := Lib.hid hI
  have HS := Lib.hid (fun W : World => clG_any (w := W) t p r n)
  clear hI
  have hb0 : Below w.heap.size w (w.alloc (.cells #[.int .i64 t, .int .i64 p, .int .i64 r] 23)) := (Below.refl _ _).alloc (Nat.le_refl _) _
  have hX := b3_new w t p r 23
  generalize clM t p r n = b at *
  go_enter Try.func6, Try.ntmps6
  go_wp2_with fail
  generalize (w.alloc (.cells #[.int .i64 t, .int .i64 p, .int .i64 r] 23)) = W at *
  generalize hbx : w.heap.size = bx at hX ⊢
  refine (toTooth_any t p r).mono ?_
  rintro e w1 ⟨rfl, k1⟩
  have g1 := bstep hb0 k1
  have hX1 := hX.below k1
  clear hb0 k1 hX
  go_wp2_with fail
  refine (HS.out _).mono ?_
  rintro e w2 ⟨rfl, k2⟩
  have g2 := bstep g1 k2
  have hX2 := hX1.below k2
  clear g1 k2 hX1
  obtain ⟨-, ⟨x0, x1, x2⟩, -⟩ := id hX2
  go_wp2_with fail
  refine (toTooth_any t p r).mono ?_
  rintro e w3 ⟨rfl, k3⟩
  have g3 := bstep g2 k3
  clear g2 k3 hX2 x0 x1 x2
  go_wp2_with fail
  refine (HI.out _).mono ?_
  rintro e w4 ⟨rfl, k4⟩
  have g4 := bstep g3 k4
  clear g3 k4
  subst hbx
  go_wp2
  go_ret
  exact ⟨rfl, g4⟩

end Go.Proofs.Ytfkjaofepilnkaa
