/- The walks of the exact laws of chapter 15: THE PROGRAM'S OWN CONTRACT IS A PREMISE. Made by gen_filewalks.py. -/
import Derived.Test.YtfkjaofepilnkaaDoorFileSpec
import Derived.Test.YtfkjaofepilnkaaDoorImplSteps
namespace Go.Proofs.YtfkjaofepilnkaaDoor
open Go.ChangeShapes Go.WideShapes Go.ChangeAt Go.RowKit

set_option maxHeartbeats 1000000 in
theorem exactsteps_walk {w : World} {a : Addr} (t p r n : Int) (hE : ErrAt w a) (hI : ∀ W : World, ErrAt W a → Calls Tryd.prog 10 #[.agg #[.int .i64 t, .int .i64 p, .int .i64 r], .int .i64 n] W (StAns W (stM t p r n))) :
    Calls Tryd.prog 4 #[.agg #[.int .i64 t, .int .i64 p, .int .i64 r], .int .i64 n] w fun e w' => e = .returned (.bool true) ∧ Below w.heap.size w w' := by
  have HI := Lib.hid hI
  have HS := Lib.hid (fun W : World => stG_any (w := W) t p r n)
  clear hI
  have hb0 : Below w.heap.size w (w.alloc (.cells #[.int .i64 t, .int .i64 p, .int .i64 r] 34)) := (Below.refl _ _).alloc (Nat.le_refl _) _
  have hX := b3_new w t p r 34
  replace hE := hE.below hb0
  generalize stM t p r n = R at *
  obtain ⟨u, v, b⟩ := R
  go_enter Tryd.func4, Tryd.ntmps4
  go_wp2_with fail
  generalize (w.alloc (.cells #[.int .i64 t, .int .i64 p, .int .i64 r] 34)) = W at *
  generalize hbx : w.heap.size = bx at hX ⊢
  refine (toTooth_any t p r).mono ?_
  rintro e w1 ⟨rfl, k1⟩
  have g1 := bstep hb0 k1
  have hX1 := hX.below k1
  replace hE := hE.below k1
  clear hb0 k1 hX
  go_wp2_with fail
  refine (HS.out _).mono ?_
  rintro e w2 ⟨rfl, k2⟩
  have g2 := bstep g1 k2
  have hX2 := hX1.below k2
  replace hE := hE.below k2
  clear g1 k2 hX1
  obtain ⟨-, ⟨x0, x1, x2⟩, -⟩ := id hX2
  go_wp2_with fail
  refine (toTooth_any t p r).mono ?_
  rintro e w3 ⟨rfl, k3⟩
  have g3 := bstep g2 k3
  replace hE := hE.below k3
  clear g2 k3 hX2 x0 x1 x2
  go_wp2_with fail
  refine (HI.out _ hE).mono ?_
  rintro e w4 ⟨rfl, k4⟩
  have g4 := bstep g3 k4
  clear g3 k4 hE
  subst hbx
  cases b <;> (go_wp2; go_ret; exact ⟨rfl, g4⟩)

end Go.Proofs.YtfkjaofepilnkaaDoor
