/- The walks of the six exact laws of chapter 12: THE PROGRAM'S OWN CONTRACT IS A PREMISE. Made by gen_sprwalks.py. -/
import Derived.Test.YtghigeeplponlaaSprSpec
namespace Go.Proofs.Ytghigeeplponlaa
open Go.ChangeShapes Go.WideShapes Go.ChangeAt Go.RowKit

set_option maxHeartbeats 1000000 in
theorem exactspringok_walk {w : World} (t m f : Int) (hI : ∀ W : World, Calls Try.prog 17 #[.agg #[.int .i64 t, .int .i64 m, .int .i64 f]] W (fun e w' => e = .returned (.bool (sprB t m f)) ∧ Below W.heap.size W w')) :
    Calls Try.prog 4 #[.agg #[.int .i64 t, .int .i64 m, .int .i64 f]] w fun e w' => e = .returned (.bool true) ∧ Below w.heap.size w w' := by
  have HI := Lib.hid hI
  have HS := Lib.hid (fun W : World => springG_any (w := W) t m f)
  clear hI
  have hb0 : Below w.heap.size w (w.alloc (.cells #[.int .i64 t, .int .i64 m, .int .i64 f] 33)) := (Below.refl _ _).alloc (Nat.le_refl _) _
  have hX := b3_new w t m f 33
  generalize sprB t m f = b at *
  go_enter Try.func4, Try.ntmps4
  go_wp2_with fail
  generalize (w.alloc (.cells #[.int .i64 t, .int .i64 m, .int .i64 f] 33)) = W at *
  generalize hbx : w.heap.size = bx at hX ⊢
  refine (toSpring_any t m f).mono ?_
  rintro e w1 ⟨rfl, k1⟩
  have g1 := bstep hb0 k1
  have hX1 := hX.below k1
  clear hb0 k1 hX
  go_wp2_with fail
  refine (HS.out _).mono ?_
  rintro e w2 ⟨rfl, k2⟩
  have g2 := bstep g1 k2
  have hX2 := hX1.below k2
  clear g1 k2 hX1
  obtain ⟨-, ⟨x0, x1, x2⟩, -⟩ := id hX2
  go_wp2_with fail
  refine (toSpring_any t m f).mono ?_
  rintro e w3 ⟨rfl, k3⟩
  have g3 := bstep g2 k3
  clear g2 k3 hX2 x0 x1 x2
  go_wp2_with fail
  refine (HI.out _).mono ?_
  rintro e w4 ⟨rfl, k4⟩
  have g4 := bstep g3 k4
  clear g3 k4
  subst hbx
  cases b <;> (go_wp2; go_ret; exact ⟨rfl, g4⟩)

set_option maxHeartbeats 1000000 in
theorem exactforce_walk {w : World} (t m f : Int) (hI : ∀ W : World, Calls Try.prog 15 #[.agg #[.int .i64 t, .int .i64 m, .int .i64 f]] W (fun e w' => e = .returned (.int .i64 (frcM t m f)) ∧ Below W.heap.size W w')) :
    Calls Try.prog 5 #[.agg #[.int .i64 t, .int .i64 m, .int .i64 f]] w fun e w' => e = .returned (.bool true) ∧ Below w.heap.size w w' := by
  have HI := Lib.hid hI
  have HS := Lib.hid (fun W : World => forceG_any (w := W) t m f)
  clear hI
  have hb0 : Below w.heap.size w (w.alloc (.cells #[.int .i64 t, .int .i64 m, .int .i64 f] 33)) := (Below.refl _ _).alloc (Nat.le_refl _) _
  have hX := b3_new w t m f 33
  generalize frcM t m f = b at *
  go_enter Try.func5, Try.ntmps5
  go_wp2_with fail
  generalize (w.alloc (.cells #[.int .i64 t, .int .i64 m, .int .i64 f] 33)) = W at *
  generalize hbx : w.heap.size = bx at hX ⊢
  refine (toSpring_any t m f).mono ?_
  rintro e w1 ⟨rfl, k1⟩
  have g1 := bstep hb0 k1
  have hX1 := hX.below k1
  clear hb0 k1 hX
  go_wp2_with fail
  refine (HS.out _).mono ?_
  rintro e w2 ⟨rfl, k2⟩
  have g2 := bstep g1 k2
  have hX2 := hX1.below k2
  clear g1 k2 hX1
  obtain ⟨-, ⟨x0, x1, x2⟩, -⟩ := id hX2
  go_wp2_with fail
  refine (toSpring_any t m f).mono ?_
  rintro e w3 ⟨rfl, k3⟩
  have g3 := bstep g2 k3
  clear g2 k3 hX2 x0 x1 x2
  go_wp2_with fail
  refine (HI.out _).mono ?_
  rintro e w4 ⟨rfl, k4⟩
  have g4 := bstep g3 k4
  clear g3 k4
  subst hbx
  go_wp2
  go_ret
  exact ⟨rfl, g4⟩

set_option maxHeartbeats 1000000 in
theorem exactwind_walk {w : World} (t m f n : Int) (hI : ∀ W : World, Calls Try.prog 13 #[.agg #[.int .i64 t, .int .i64 m, .int .i64 f], .int .i64 n] W (SprAns W (windM t m f n).1 m f (windM t m f n).2)) :
    Calls Try.prog 6 #[.agg #[.int .i64 t, .int .i64 m, .int .i64 f], .int .i64 n] w fun e w' => e = .returned (.bool true) ∧ Below w.heap.size w w' := by
  have HI := Lib.hid hI
  have HS := Lib.hid (fun W : World => windG_any (w := W) t m f n)
  clear hI
  have hb0 : Below w.heap.size w (w.alloc (.cells #[.int .i64 t, .int .i64 m, .int .i64 f] 33)) := (Below.refl _ _).alloc (Nat.le_refl _) _
  have hX := b3_new w t m f 33
  generalize (windM t m f n).1 = u at *
  generalize (windM t m f n).2 = x at *
  go_enter Try.func6, Try.ntmps6
  go_wp2_with fail
  generalize (w.alloc (.cells #[.int .i64 t, .int .i64 m, .int .i64 f] 33)) = W at *
  generalize hbx : w.heap.size = bx at hX ⊢
  refine (toSpring_any t m f).mono ?_
  rintro e w1 ⟨rfl, k1⟩
  have g1 := bstep hb0 k1
  have hX1 := hX.below k1
  clear hb0 k1 hX
  go_wp2_with fail
  refine (HS.out _).mono ?_
  rintro e w2 ⟨rfl, k2⟩
  have g2 := (bstep g1 k2).alloc (bstep g1 k2).size (.cells #[.int .i64 u, .int .i64 m, .int .i64 f] 25)
  have kA : Below w2.heap.size w2 (w2.alloc (.cells #[.int .i64 u, .int .i64 m, .int .i64 f] 25)) := (Below.refl _ _).alloc (Nat.le_refl _) _
  have hX2 := (hX1.below k2).below kA
  have hY := b3_new w2 u m f 25
  clear g1 k2 hX1 kA
  obtain ⟨-, ⟨x0, x1, x2⟩, -⟩ := id hX2
  go_wp2_with fail
  generalize w2.alloc (.cells #[.int .i64 u, .int .i64 m, .int .i64 f] 25) = W2 at *
  generalize w2.heap.size = b2 at *
  refine (toSpring_any t m f).mono ?_
  rintro e w3 ⟨rfl, k3⟩
  have g3 := bstep g2 k3
  have hY3 := hY.below k3
  clear g2 k3 hX2 x0 x1 x2 hY
  go_wp2_with fail
  refine (HI.out _).mono ?_
  rintro e w4 ⟨rfl, k4⟩
  have g4 := (bstep g3 k4).alloc (bstep g3 k4).size (.cells #[.int .i64 u, .int .i64 m, .int .i64 f] 25)
  have kA : Below w4.heap.size w4 (w4.alloc (.cells #[.int .i64 u, .int .i64 m, .int .i64 f] 25)) := (Below.refl _ _).alloc (Nat.le_refl _) _
  have hY4 := (hY3.below k4).below kA
  have hZ := b3_new w4 u m f 25
  clear g3 k4 kA hY3
  obtain ⟨-, ⟨y0, y1, y2⟩, -⟩ := id hY4
  obtain ⟨-, ⟨z0, z1, z2⟩, -⟩ := id hZ
  clear hY4 hZ
  go_wp2_with fail
  generalize w4.alloc (.cells #[.int .i64 u, .int .i64 m, .int .i64 f] 25) = W4 at *
  refine (eqSpring_same u m f).mono ?_
  rintro e w5 ⟨rfl, k5⟩
  have g5 := bstep g4 k5
  clear k5 g4 y0 y1 y2 z0 z1 z2
  subst hbx
  go_wp2
  go_ret
  exact ⟨rfl, g5⟩

set_option maxHeartbeats 1000000 in
theorem exactunwind_walk {w : World} (t m f n : Int) (hI : ∀ W : World, Calls Try.prog 14 #[.agg #[.int .i64 t, .int .i64 m, .int .i64 f], .int .i64 n] W (SprAns W (unwM t m f n).1 m f (unwM t m f n).2)) :
    Calls Try.prog 7 #[.agg #[.int .i64 t, .int .i64 m, .int .i64 f], .int .i64 n] w fun e w' => e = .returned (.bool true) ∧ Below w.heap.size w w' := by
  have HI := Lib.hid hI
  have HS := Lib.hid (fun W : World => unwG_any (w := W) t m f n)
  clear hI
  have hb0 : Below w.heap.size w (w.alloc (.cells #[.int .i64 t, .int .i64 m, .int .i64 f] 33)) := (Below.refl _ _).alloc (Nat.le_refl _) _
  have hX := b3_new w t m f 33
  generalize (unwM t m f n).1 = u at *
  generalize (unwM t m f n).2 = x at *
  go_enter Try.func7, Try.ntmps7
  go_wp2_with fail
  generalize (w.alloc (.cells #[.int .i64 t, .int .i64 m, .int .i64 f] 33)) = W at *
  generalize hbx : w.heap.size = bx at hX ⊢
  refine (toSpring_any t m f).mono ?_
  rintro e w1 ⟨rfl, k1⟩
  have g1 := bstep hb0 k1
  have hX1 := hX.below k1
  clear hb0 k1 hX
  go_wp2_with fail
  refine (HS.out _).mono ?_
  rintro e w2 ⟨rfl, k2⟩
  have g2 := (bstep g1 k2).alloc (bstep g1 k2).size (.cells #[.int .i64 u, .int .i64 m, .int .i64 f] 25)
  have kA : Below w2.heap.size w2 (w2.alloc (.cells #[.int .i64 u, .int .i64 m, .int .i64 f] 25)) := (Below.refl _ _).alloc (Nat.le_refl _) _
  have hX2 := (hX1.below k2).below kA
  have hY := b3_new w2 u m f 25
  clear g1 k2 hX1 kA
  obtain ⟨-, ⟨x0, x1, x2⟩, -⟩ := id hX2
  go_wp2_with fail
  generalize w2.alloc (.cells #[.int .i64 u, .int .i64 m, .int .i64 f] 25) = W2 at *
  generalize w2.heap.size = b2 at *
  refine (toSpring_any t m f).mono ?_
  rintro e w3 ⟨rfl, k3⟩
  have g3 := bstep g2 k3
  have hY3 := hY.below k3
  clear g2 k3 hX2 x0 x1 x2 hY
  go_wp2_with fail
  refine (HI.out _).mono ?_
  rintro e w4 ⟨rfl, k4⟩
  have g4 := (bstep g3 k4).alloc (bstep g3 k4).size (.cells #[.int .i64 u, .int .i64 m, .int .i64 f] 25)
  have kA : Below w4.heap.size w4 (w4.alloc (.cells #[.int .i64 u, .int .i64 m, .int .i64 f] 25)) := (Below.refl _ _).alloc (Nat.le_refl _) _
  have hY4 := (hY3.below k4).below kA
  have hZ := b3_new w4 u m f 25
  clear g3 k4 kA hY3
  obtain ⟨-, ⟨y0, y1, y2⟩, -⟩ := id hY4
  obtain ⟨-, ⟨z0, z1, z2⟩, -⟩ := id hZ
  clear hY4 hZ
  go_wp2_with fail
  generalize w4.alloc (.cells #[.int .i64 u, .int .i64 m, .int .i64 f] 25) = W4 at *
  refine (eqSpring_same u m f).mono ?_
  rintro e w5 ⟨rfl, k5⟩
  have g5 := bstep g4 k5
  clear k5 g4 y0 y1 y2 z0 z1 z2
  subst hbx
  go_wp2
  go_ret
  exact ⟨rfl, g5⟩

set_option maxHeartbeats 1000000 in
theorem exactturnswith_walk {w : World} (t m f n : Int) (hI : ∀ W : World, Calls Try.prog 16 #[.agg #[.int .i64 t, .int .i64 m, .int .i64 f], .int .i64 n] W (fun e w' => e = .returned (.int .i64 (twM t m f n)) ∧ Below W.heap.size W w')) :
    Calls Try.prog 8 #[.agg #[.int .i64 t, .int .i64 m, .int .i64 f], .int .i64 n] w fun e w' => e = .returned (.bool true) ∧ Below w.heap.size w w' := by
  have HI := Lib.hid hI
  have HS := Lib.hid (fun W : World => twG_any (w := W) t m f n)
  clear hI
  have hb0 : Below w.heap.size w (w.alloc (.cells #[.int .i64 t, .int .i64 m, .int .i64 f] 33)) := (Below.refl _ _).alloc (Nat.le_refl _) _
  have hX := b3_new w t m f 33
  generalize twM t m f n = b at *
  go_enter Try.func8, Try.ntmps8
  go_wp2_with fail
  generalize (w.alloc (.cells #[.int .i64 t, .int .i64 m, .int .i64 f] 33)) = W at *
  generalize hbx : w.heap.size = bx at hX ⊢
  refine (toSpring_any t m f).mono ?_
  rintro e w1 ⟨rfl, k1⟩
  have g1 := bstep hb0 k1
  have hX1 := hX.below k1
  clear hb0 k1 hX
  go_wp2_with fail
  refine (HS.out _).mono ?_
  rintro e w2 ⟨rfl, k2⟩
  have g2 := bstep g1 k2
  have hX2 := hX1.below k2
  clear g1 k2 hX1
  obtain ⟨-, ⟨x0, x1, x2⟩, -⟩ := id hX2
  go_wp2_with fail
  refine (toSpring_any t m f).mono ?_
  rintro e w3 ⟨rfl, k3⟩
  have g3 := bstep g2 k3
  clear g2 k3 hX2 x0 x1 x2
  go_wp2_with fail
  refine (HI.out _).mono ?_
  rintro e w4 ⟨rfl, k4⟩
  have g4 := bstep g3 k4
  clear g3 k4
  subst hbx
  go_wp2
  go_ret
  exact ⟨rfl, g4⟩

set_option maxHeartbeats 1000000 in
theorem exactwork_walk {w : World} (t m f : Int) (hI : ∀ W : World, Calls Try.prog 19 #[.agg #[.int .i64 t, .int .i64 m, .int .i64 f]] W (fun e w' => e = .returned (.int .i64 (wkM t m f)) ∧ Below W.heap.size W w')) :
    Calls Try.prog 9 #[.agg #[.int .i64 t, .int .i64 m, .int .i64 f]] w fun e w' => e = .returned (.bool true) ∧ Below w.heap.size w w' := by
  have HI := Lib.hid hI
  have HS := Lib.hid (fun W : World => wkG_any (w := W) t m f)
  clear hI
  have hb0 : Below w.heap.size w (w.alloc (.cells #[.int .i64 t, .int .i64 m, .int .i64 f] 33)) := (Below.refl _ _).alloc (Nat.le_refl _) _
  have hX := b3_new w t m f 33
  generalize wkM t m f = b at *
  go_enter Try.func9, Try.ntmps9
  go_wp2_with fail
  generalize (w.alloc (.cells #[.int .i64 t, .int .i64 m, .int .i64 f] 33)) = W at *
  generalize hbx : w.heap.size = bx at hX ⊢
  refine (toSpring_any t m f).mono ?_
  rintro e w1 ⟨rfl, k1⟩
  have g1 := bstep hb0 k1
  have hX1 := hX.below k1
  clear hb0 k1 hX
  go_wp2_with fail
  refine (HS.out _).mono ?_
  rintro e w2 ⟨rfl, k2⟩
  have g2 := bstep g1 k2
  have hX2 := hX1.below k2
  clear g1 k2 hX1
  obtain ⟨-, ⟨x0, x1, x2⟩, -⟩ := id hX2
  go_wp2_with fail
  refine (toSpring_any t m f).mono ?_
  rintro e w3 ⟨rfl, k3⟩
  have g3 := bstep g2 k3
  clear g2 k3 hX2 x0 x1 x2
  go_wp2_with fail
  refine (HI.out _).mono ?_
  rintro e w4 ⟨rfl, k4⟩
  have g4 := bstep g3 k4
  clear g3 k4
  subst hbx
  go_wp2
  go_ret
  exact ⟨rfl, g4⟩

end Go.Proofs.Ytghigeeplponlaa
