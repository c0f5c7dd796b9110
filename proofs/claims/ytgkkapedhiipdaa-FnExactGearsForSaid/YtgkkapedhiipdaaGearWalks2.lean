/- The walks of FnExactGearOk and FnExactGearsFor: THE PROGRAM'S OWN CONTRACT IS A PREMISE (hI). -/
import Derived.Test.YtgkkapedhiipdaaGearSpec2
namespace Go.Proofs.Ytgkkapedhiipdaa
open Go.ChangeShapes Go.WideShapes Go.ChangeAt Go.RowKit

theorem exactgearok_walk {w : World} (p : Int × Int) (hI : ∀ W : World, Calls Try.prog 16 #[.agg #[.int .i64 p.1, .int .i64 p.2]] W (fun e w' => e = .returned (.bool (gearB p)) ∧ Below W.heap.size W w')) :
    Calls Try.prog 4 #[.agg #[.int .i64 p.1, .int .i64 p.2]] w fun e w' => e = .returned (.bool true) ∧ Below w.heap.size w w' := by
  have hb0 : Below w.heap.size w (w.alloc (.cells #[.int .i64 p.1, .int .i64 p.2] 37)) := (Below.refl _ _).alloc (Nat.le_refl _) _
  have hX := box2_new w (.int .i64 p.1) (.int .i64 p.2) 37
  have HI := Lib.hid hI
  clear hI
  go_enter Try.func4, Try.ntmps4
  go_wp2_with fail
  generalize w.alloc (.cells #[.int .i64 p.1, .int .i64 p.2] 37) = W at *
  refine (toGear_any p.1 p.2).mono ?_
  rintro e w1 ⟨rfl, hb1⟩
  have g1 := bstep hb0 hb1
  have hX1 := hX.below hb1
  clear hb0 hb1 hX
  go_wp2_with fail
  refine (gearG_any p).mono ?_
  rintro e w2 ⟨rfl, hb2⟩
  have g2 := bstep g1 hb2
  obtain ⟨-, ⟨x0, x1⟩, -⟩ := hX1.below hb2
  clear hb2 g1 hX1
  go_wp2_with fail
  refine (toGear_any p.1 p.2).mono ?_
  rintro e w3 ⟨rfl, hb3⟩
  have g3 := bstep g2 hb3
  clear hb3 g2 x0 x1
  go_wp2_with fail
  refine (HI.out _).mono ?_
  rintro e w4 ⟨rfl, hb4⟩
  have g4 := bstep g3 hb4
  clear hb4 g3
  generalize gearB p = b at *
  cases b <;> (go_wp2; go_ret; exact ⟨rfl, g4⟩)

set_option maxHeartbeats 1000000 in
theorem exactgfor_walk {w : World} (top bottom : Int) (hI : ∀ W : World, Calls Try.prog 17 #[.int .i64 top, .int .i64 bottom] W (GearAns W (gearsM top bottom).1 (gearsM top bottom).2)) :
    Calls Try.prog 9 #[.int .i64 top, .int .i64 bottom] w fun e w' => e = .returned (.bool true) ∧ Below w.heap.size w w' := by
  have HI := Lib.hid hI
  have HS := Lib.hid (fun W : World => gforG_any (w := W) top bottom)
  clear hI
  generalize (gearsM top bottom).1 = g at *
  generalize (gearsM top bottom).2 = b at *
  go_enter Try.func9, Try.ntmps9
  go_wp2_with fail
  refine (HS.out _).mono ?_
  rintro e w1 ⟨rfl, hb1⟩
  have hbA := hb1.alloc hb1.size (.cells #[.int .i64 g.1, .int .i64 g.2] 34)
  have hX := box2_new w1 (.int .i64 g.1) (.int .i64 g.2) 34
  go_wp2_with fail
  generalize w1.alloc (.cells #[.int .i64 g.1, .int .i64 g.2] 34) = W1 at *
  generalize w1.heap.size = b1 at *
  refine (HI.out _).mono ?_
  rintro e w2 ⟨rfl, hb2⟩
  have hbB := bstep hbA hb2
  have hX2 := hX.below hb2
  have hbC : Below w2.heap.size w2 (w2.alloc (.cells #[.int .i64 g.1, .int .i64 g.2] 34)) := (Below.refl _ _).alloc (Nat.le_refl _) _
  have hY := box2_new w2 (.int .i64 g.1) (.int .i64 g.2) 34
  have hX3 := hX2.below hbC
  have hbD := bstep hbB hbC
  obtain ⟨-, ⟨x0, x1⟩, -⟩ := id hX3
  obtain ⟨-, ⟨y0, y1⟩, -⟩ := id hY
  clear hbA hb2 hX hX2 hbC hbB hX3 hY
  go_wp2_with fail
  generalize w2.alloc (.cells #[.int .i64 g.1, .int .i64 g.2] 34) = W2 at *
  refine (eqGear_same g.1 g.2).mono ?_
  rintro e w3 ⟨rfl, hb3⟩
  have hbE := bstep hbD hb3
  clear hb3 hbD x0 x1 y0 y1
  cases b <;> (go_wp2; go_ret; exact ⟨rfl, hbE⟩)
end Go.Proofs.Ytgkkapedhiipdaa
