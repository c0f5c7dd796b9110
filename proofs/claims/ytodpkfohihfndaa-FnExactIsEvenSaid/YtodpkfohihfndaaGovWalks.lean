/- The walks of chapter 13's exact laws that start no goroutine. Made by mk_exact.py. -/
import Derived.Test.YtodpkfohihfndaaImplGov
import Derived.Test.YtodpkfohihfndaaRdCap
import Derived.Test.YtodpkfohihfndaaIntsArg
import Derived.Test.YtodpkfohihfndaaWalkKit
namespace Go.Proofs.Ytodpkfohihfndaa
open Go.ChangeShapes Go.WideShapes Go.ChangeAt Go.RowKit

theorem evenS_below {w : World} {v : Value} {l : List Int} (p : Int) (h : Rd1 w v l) : Calls Try.prog 20 #[v, .int .i64 p] w (fun e w' => e = .returned (.bool (evenM l p)) ∧ Below w.heap.size w w') :=
  (evenS_any p h).mono fun _ _ ⟨he, hw⟩ => ⟨he, hw ▸ Below.refl _ _⟩
theorem exactnext_walk {w : World} (v f b : Int) : Calls Try.prog 4 #[.int .i64 v, .int .i64 f, .int .i64 b] w fun e w' => e = .returned (.bool true) ∧ Below w.heap.size w w' := by
  have HI := Lib.hid (fun W : World => inxt_any (w := W) v f b)
  have HS := Lib.hid (fun W : World => nxtS_any (w := W) v f b)
  generalize nxtM v f b = R at *
  go_enter Try.func4, Try.ntmps4
  go_wp2_with fail
  refine (HS.out _).mono ?_
  rintro e w1 ⟨rfl, rfl⟩
  go_wp2_with fail
  refine (HI.out _).mono ?_
  rintro e w2 ⟨rfl, rfl⟩
  go_wp2
  go_ret
  exact ⟨rfl, Below.refl _ _⟩
theorem exactsteady_walk {w : World} (f b : Int) : Calls Try.prog 6 #[.int .i64 f, .int .i64 b] w fun e w' => e = .returned (.bool true) ∧ Below w.heap.size w w' := by
  have HI := Lib.hid (fun W : World => istd_any (w := W) f b)
  have HS := Lib.hid (fun W : World => stdS_any (w := W) f b)
  generalize stdM f b = R at *
  go_enter Try.func6, Try.ntmps6
  go_wp2_with fail
  refine (HS.out _).mono ?_
  rintro e w1 ⟨rfl, rfl⟩
  go_wp2_with fail
  refine (HI.out _).mono ?_
  rintro e w2 ⟨rfl, rfl⟩
  go_wp2
  go_ret
  exact ⟨rfl, Below.refl _ _⟩
set_option maxHeartbeats 8000000 in
set_option maxRecDepth 100000 in
theorem exacteven_walk {w : World} {ql : Value} {l : List Int} (p : Int) (hI : ∀ (W : World) (U0 : Value), Rd1 W U0 l → l.length ≤ 1048576 → Calls Try.prog 15 #[U0, .int .i64 p] W (fun e w' => e = .returned (.bool (evenM l p)) ∧ Below W.heap.size W w')) (hl : Rd1 w ql l) :
    Calls Try.prog 8 #[ql, .int .i64 p] w fun e w' => e = .returned (.bool true) ∧ Below w.heap.size w w' := by
  obtain ⟨ad_l, cap_l, rfl⟩ := Rd.slice hl
  have hml := hl.2.1
  unfold maxLen at hml
  by_cases hsl : l.length ≤ 1048576
  · skip
    have HI := Lib.hid (fun (W : World) (U0 : Value) (pl : Rd1 W U0 l) => hI W U0 pl hsl)
    have HS := Lib.hid (fun (W : World) (U0 : Value) (pl : Rd1 W U0 l) => evenS_below p pl)
    clear hI
    generalize (evenM l p) = r0 at *
    go_enter Try.func8, Try.ntmps8

    have g0 := Below.refl w.heap.size w
    go_wp2_with fail
    refine (toInts_any (Rd.below hl g0) hsl).mono ?_
    rintro e w_1 ⟨vPl, rfl, hPl0, hb1⟩
    have gbPl := g0
    have g1 := bstep g0 hb1
    clear hb1 
    go_wp2_with fail
    refine (HS.out _ _ (Rd.of_own hPl0)).mono ?_
    rintro e w_2 ⟨rfl, hb2⟩
    have hPl2 := ownS_below hPl0 hb2
    have g2 := bstep g1 hb2
    clear hb2 hPl0
    clear hPl2
    go_wp2_with fail
    refine (toInts_any (Rd.below hl g2) hsl).mono ?_
    rintro e w_3 ⟨vXl, rfl, hXl0, hb3⟩
    have gbXl := g2
    have g3 := bstep g2 hb3
    clear hb3 
    go_wp2_with fail
    refine (HI.out _ _ (Rd.of_own hXl0)).mono ?_
    rintro e w_4 ⟨rfl, hb4⟩
    have hXl4 := ownS_below hXl0 hb4
    have g4 := bstep g3 hb4
    clear hb4 hXl0
    go_wp2_with fail
    refine (toInts_any (Rd.below hl g4) hsl).mono ?_
    rintro e w_5 ⟨vT, rfl, hT0, hb5⟩
    have apXlT := apartS hXl4 hT0
    have apTXl := apartS' hXl4 hT0
    have gbT := g4
    have hXl5 := ownS_below hXl4 hb5
    have g5 := bstep g4 hb5
    clear hb5 hXl4
    go_wp2_with fail
    refine (eqInts_same (Rd.of_own hXl5) (Rd.of_own hT0)).mono ?_
    rintro e w_6 ⟨rfl, hb6⟩
    have hXl6 := ownS_below hXl5 hb6
    have hT6 := ownS_below hT0 hb6
    have g6 := bstep g5 hb6
    clear hb6 hXl5 hT0
    clear hT6
    go_wp2
    go_ret
    exact ⟨rfl, g6⟩
  · go_enter Try.func8, Try.ntmps8
    go_wp2
    go_ret
    exact ⟨rfl, Below.refl _ _⟩

end Go.Proofs.Ytodpkfohihfndaa
