/- The walks of chapter 16's exact laws: StepsOf, RootOf. Made by mk_exact.py. -/
import Derived.Test.YtceebblokibapaaRootSpec
import Derived.Test.YtceebblokibapaaImplTri
import Derived.Test.YtceebblokibapaaWalkKit
import Derived.Test.YtceebblokibapaaIntsArg
namespace Go.Proofs.Ytceebblokibapaa
open Go.ChangeShapes Go.WideShapes Go.ChangeAt Go.RowKit

theorem exactstepsof_walk {w : World} (a b : Int) :
    Calls Try.prog 3 #[.int .i64 a, .int .i64 b] w fun e w' => e = .returned (.bool true) ∧ Below w.heap.size w w' := by
  have HS := Lib.hid (fun W : World => stepG_any (w := W) a b)
  have HI := Lib.hid (fun W : World => stepI_any (w := W) a b)
  generalize stepsI a b = R at *
  go_enter Try.func3, Try.ntmps3
  go_wp2_with fail
  refine (HS.out _).mono ?_
  rintro e w1 ⟨rfl, rfl⟩
  go_wp2_with fail
  refine (HI.out _).mono ?_
  rintro e w1 ⟨rfl, rfl⟩
  go_wp2
  go_ret
  exact ⟨rfl, Below.refl _ _⟩

set_option maxHeartbeats 8000000 in
set_option maxRecDepth 100000 in
theorem exactroot16_walk {w : World} {ql : Value} {l : List Int}  (hI : ∀ (W : World) (U0 : Value), Rd1 W U0 l → l.length ≤ 1048576 → Calls Try.prog 9 #[U0] W (fun e w' => e = .returned (.int .i64 (rootI l)) ∧ Below W.heap.size W w')) (hl : Rd1 w ql l) :
    Calls Try.prog 4 #[ql] w fun e w' => e = .returned (.bool true) ∧ Below w.heap.size w w' := by
  obtain ⟨ad_l, cap_l, rfl⟩ := Rd.slice hl
  have hml := hl.2.1
  unfold maxLen at hml
  by_cases hsl : l.length ≤ 1048576
  · skip
    have HI := Lib.hid (fun (W : World) (U0 : Value) (pl : Rd1 W U0 l) => hI W U0 pl hsl)
    have HS := Lib.hid (fun (W : World) (U0 : Value) (pl : Rd1 W U0 l) => rootG_any pl)
    clear hI
    generalize (rootI l) = r0 at *
    go_enter Try.func4, Try.ntmps4

    have g0 := Below.refl w.heap.size w
    go_wp2_with fail
    refine (toInts_any (Rd.below hl g0) hsl).mono ?_
    rintro e w_1 ⟨vPl, rfl, hPl0, hb1⟩
    have gbPl := g0
    have g1 := bstep g0 hb1
    clear hb1 
    go_wp2_with fail
    refine (HS.out _ _ (Rd.of_own hPl0)).mono ?_
    rintro e w_2 ⟨rfl, hb2⟩
    have hPl2 := ownS_below hPl0 hb2
    have g2 := bstep g1 hb2
    clear hb2 hPl0
    clear hPl2
    go_wp2_with fail
    refine (toInts_any (Rd.below hl g2) hsl).mono ?_
    rintro e w_3 ⟨vXl, rfl, hXl0, hb3⟩
    have gbXl := g2
    have g3 := bstep g2 hb3
    clear hb3 
    go_wp2_with fail
    refine (HI.out _ _ (Rd.of_own hXl0)).mono ?_
    rintro e w_4 ⟨rfl, hb4⟩
    have hXl4 := ownS_below hXl0 hb4
    have g4 := bstep g3 hb4
    clear hb4 hXl0
    go_wp2_with fail
    refine (toInts_any (Rd.below hl g4) hsl).mono ?_
    rintro e w_5 ⟨vT, rfl, hT0, hb5⟩
    have apXlT := apartS hXl4 hT0
    have apTXl := apartS' hXl4 hT0
    have gbT := g4
    have hXl5 := ownS_below hXl4 hb5
    have g5 := bstep g4 hb5
    clear hb5 hXl4
    go_wp2_with fail
    refine (eqInts_same (Rd.of_own hXl5) (Rd.of_own hT0)).mono ?_
    rintro e w_6 ⟨rfl, hb6⟩
    have hXl6 := ownS_below hXl5 hb6
    have hT6 := ownS_below hT0 hb6
    have g6 := bstep g5 hb6
    clear hb6 hXl5 hT0
    clear hT6
    go_wp2
    go_ret
    exact ⟨rfl, g6⟩
  · go_enter Try.func4, Try.ntmps4
    go_wp2
    go_ret
    exact ⟨rfl, Below.refl _ _⟩

end Go.Proofs.Ytceebblokibapaa
