/- The walks of chapter 14's exact laws. Made by mk_exact.py. -/
import Derived.Test.YtcbdoldcdgaooaaSpeedSpec
import Derived.Test.YtcbdoldcdgaooaaImplSpeed
import Derived.Test.YtcbdoldcdgaooaaWalkKit
namespace Go.Proofs.Ytcbdoldcdgaooaa
open Go.ChangeShapes Go.WideShapes Go.ChangeAt Go.RowKit

theorem sz0_nat {w : World} {n cap : Nat} {a : Option Addr} (h : n ≤ 1048576) :
    Calls Try.prog 22 #[.slice a n cap, .int .i64 1048576] w fun e w' => ∃ x : Int, 0 ≤ x ∧ x = ((1048576 - n : Nat) : Int) ∧ e = .returned (.int .i64 x) ∧ w = w' :=
  (szNote_yes 1048576 (Nat.le_refl _) h).mono fun _ _ ⟨he, hw⟩ => ⟨_, by omega, rfl, he, hw⟩
set_option maxHeartbeats 8000000 in
set_option maxRecDepth 100000 in
theorem exactbeats_walk {w : World} {ql : Value} {l : List (Int × Int)}  (hI : ∀ (W : World) (U0 : Value), Rc2 W U0 l → l.length ≤ 1048576 → Calls Try.prog 49 #[U0] W (fun e w' => e = .returned (.int .i64 ((beatsM l : Int))) ∧ Below W.heap.size W w')) (hl : Rd2 w ql l) :
    Calls Try.prog 8 #[ql] w fun e w' => e = .returned (.bool true) ∧ Below w.heap.size w w' := by
  obtain ⟨ad_l, cap_l, rfl⟩ := Rd.slice hl
  have hml := hl.2.1
  unfold maxLen at hml
  by_cases hsl : l.length ≤ 1048576
  · skip
    have HI := Lib.hid (fun (W : World) (U0 : Value) (pl : Rc2 W U0 l) => hI W U0 pl hsl)
    have HS := Lib.hid (fun (W : World) (U0 : Value) (pl : Rd2 W U0 l) => beatsG_any pl)
    clear hI
    generalize ((beatsM l : Int)) = r0 at *
    go_enter Try.func8, Try.ntmps8
    go_wp2_with fail
    refine (sz0_nat hsl).mono ?_
    rintro e w0 ⟨x0, hx0, hxe0, rfl, rfl⟩
    have HX0 := Lib.hid hxe0
    clear hxe0
    have g0 := Below.refl w.heap.size w
    go_wp2_with fail
    refine (toNotes_any (Rd.below hl g0) hsl).mono ?_
    rintro e w_1 ⟨vPl, rfl, hPl0, hb1⟩
    have gbPl := g0
    have g1 := bstep g0 hb1
    clear hb1 
    go_wp2_with fail
    refine (HS.out _ _ (Rd.of_own hPl0)).mono ?_
    rintro e w_2 ⟨rfl, hb2⟩
    have hPl2 := ownS_below hPl0 hb2
    have g2 := bstep g1 hb2
    clear hb2 hPl0
    clear hPl2
    go_wp2_with fail
    refine (toNotes_any (Rd.below hl g2) hsl).mono ?_
    rintro e w_3 ⟨vXl, rfl, hXl0, hb3⟩
    have gbXl := g2
    have g3 := bstep g2 hb3
    clear hb3 
    go_wp2_with fail
    refine (HI.out _ _ (Rc2.of_own hXl0)).mono ?_
    rintro e w_4 ⟨rfl, hb4⟩
    have hXl4 := ownS_below hXl0 hb4
    have g4 := bstep g3 hb4
    clear hb4 hXl0
    go_wp2_with fail
    refine (toNotes_any (Rd.below hl g4) hsl).mono ?_
    rintro e w_5 ⟨vT, rfl, hT0, hb5⟩
    have apXlT := apartS hXl4 hT0
    have apTXl := apartS' hXl4 hT0
    have gbT := g4
    have hXl5 := ownS_below hXl4 hb5
    have g5 := bstep g4 hb5
    clear hb5 hXl4
    go_wp2_with fail
    refine (eqNotes_same (Rd.of_own hXl5) (Rd.of_own hT0)).mono ?_
    rintro e w_6 ⟨rfl, hb6⟩
    have hXl6 := ownS_below hXl5 hb6
    have hT6 := ownS_below hT0 hb6
    have g6 := bstep g5 hb6
    clear hb6 hXl5 hT0
    clear hT6
    go_wp2
    go_ret
    exact ⟨rfl, g6⟩
  · go_enter Try.func8, Try.ntmps8
    go_wp2_with fail
    refine (sz0_no hsl hml).mono ?_
    rintro e w0 ⟨rfl, rfl⟩
    go_wp2
    go_ret
    exact ⟨rfl, Below.refl _ _⟩

set_option maxHeartbeats 8000000 in
set_option maxRecDepth 100000 in
theorem exactshort_walk {w : World} {ql : Value} {l : List (Int × Int)}  (hI : ∀ (W : World) (U0 : Value), Rc2 W U0 l → l.length ≤ 1048576 → Calls Try.prog 50 #[U0] W (NewNotes W (shortM l))) (hl : Rd2 w ql l) :
    Calls Try.prog 9 #[ql] w fun e w' => e = .returned (.bool true) ∧ Below w.heap.size w w' := by
  obtain ⟨ad_l, cap_l, rfl⟩ := Rd.slice hl
  have hml := hl.2.1
  unfold maxLen at hml
  by_cases hsl : l.length ≤ 1048576
  · skip
    have HI := Lib.hid (fun (W : World) (U0 : Value) (pl : Rc2 W U0 l) => hI W U0 pl hsl)
    have HS := Lib.hid (fun (W : World) (U0 : Value) (pl : Rd2 W U0 l) => shortG_any pl)
    clear hI
    have hbd : (shortM l).length ≤ 1048576 := Nat.le_trans (shortM_len l) hsl
    generalize (shortM l) = R at *
    go_enter Try.func9, Try.ntmps9
    go_wp2_with fail
    refine (sz0_nat hsl).mono ?_
    rintro e w0 ⟨x0, hx0, hxe0, rfl, rfl⟩
    have HX0 := Lib.hid hxe0
    clear hxe0
    have g0 := Below.refl w.heap.size w
    go_wp2_with fail
    refine (toNotes_any (Rd.below hl g0) hsl).mono ?_
    rintro e w_1 ⟨vPl, rfl, hPl0, hb1⟩
    have gbPl := g0
    have g1 := bstep g0 hb1
    clear hb1 
    go_wp2_with fail
    refine (HS.out _ _ (Rd.of_own hPl0)).mono ?_
    rintro e w_2 ⟨vS, rfl, hS0, hb2⟩
    have apPlS := apartS hPl0 hS0
    have apSPl := apartS' hPl0 hS0
    have gbS := g1
    have hPl2 := ownS_below hPl0 hb2
    have g2 := bstep g1 hb2
    clear hb2 hPl0
    clear hPl2
    go_wp2_with fail
    refine (toNotes_any (Rd.below hl g2) hsl).mono ?_
    rintro e w_3 ⟨vXl, rfl, hXl0, hb3⟩
    have apSXl := apartS hS0 hXl0
    have apXlS := apartS' hS0 hXl0
    have gbXl := g2
    have hS3 := ownS_below hS0 hb3
    have g3 := bstep g2 hb3
    clear hb3 hS0
    go_wp2_with fail
    refine (HI.out _ _ (Rc2.of_own hXl0)).mono ?_
    rintro e w_4 ⟨vI, rfl, hI0, hb4⟩
    have apSI := apartS hS3 hI0
    have apIS := apartS' hS3 hI0
    have apXlI := apartS hXl0 hI0
    have apIXl := apartS' hXl0 hI0
    have gbI := g3
    have hS4 := ownS_below hS3 hb4
    have hXl4 := ownS_below hXl0 hb4
    have g4 := bstep g3 hb4
    clear hb4 hS3 hXl0
    go_wp2_with fail
    refine (eqNotes_same (Rd.of_own hI0) (Rd.of_own hS4)).mono ?_
    rintro e w_5 ⟨rfl, hb5⟩
    have hS5 := ownS_below hS4 hb5
    have hXl5 := ownS_below hXl4 hb5
    have hI5 := ownS_below hI0 hb5
    have g5 := bstep g4 hb5
    clear hb5 hS4 hXl4 hI0
    go_wp2_with fail
    refine (toNotes_any (Rd.below hl g5) hsl).mono ?_
    rintro e w_6 ⟨vT, rfl, hT0, hb6⟩
    have apST := apartS hS5 hT0
    have apTS := apartS' hS5 hT0
    have apXlT := apartS hXl5 hT0
    have apTXl := apartS' hXl5 hT0
    have apIT := apartS hI5 hT0
    have apTI := apartS' hI5 hT0
    have gbT := g5
    have hS6 := ownS_below hS5 hb6
    have hXl6 := ownS_below hXl5 hb6
    have hI6 := ownS_below hI5 hb6
    have g6 := bstep g5 hb6
    clear hb6 hS5 hXl5 hI5
    go_wp2_with fail
    refine (eqNotes_same (Rd.of_own hXl6) (Rd.of_own hT0)).mono ?_
    rintro e w_7 ⟨rfl, hb7⟩
    have hS7 := ownS_below hS6 hb7
    have hXl7 := ownS_below hXl6 hb7
    have hI7 := ownS_below hI6 hb7
    have hT7 := ownS_below hT0 hb7
    have g7 := bstep g6 hb7
    clear hb7 hS6 hXl6 hI6 hT0
    clear hT7
    go_wp2_with fail
    refine (markNotes_any (1) (by omega) hXl7).mono ?_
    rintro e w_8 ⟨rfl, hg8, _⟩
    have hS8 := World.ownsRow.kept hS7 hg8 apSXl
    have hI8 := World.ownsRow.kept hI7 hg8 apIXl
    have g8 := g7.grown hg8 g7.size (fun k hk => Nat.le_trans gbXl.size (hXl7.lt k hk).1)
    clear hg8 hXl7 hS7 hI7
    go_wp2_with fail
    refine (eqNotes_same (Rd.of_own hI8) (Rd.of_own hS8)).mono ?_
    rintro e w_9 ⟨rfl, hb9⟩
    have hS9 := ownS_below hS8 hb9
    have hI9 := ownS_below hI8 hb9
    have g9 := bstep g8 hb9
    clear hb9 hS8 hI8
    go_wp2_with fail
    refine (markNotes_any 1 (by omega) hI9).mono ?_
    rintro e w_10 ⟨rfl, hg10, ys, hy10, hmk10⟩
    have hS10 := World.ownsRow.kept hS9 hg10 apSI
    have g10 := g9.grown hg10 g9.size (fun k hk => Nat.le_trans gbI.size (hI9.lt k hk).1)
    have HMK := Lib.hid hmk10
    clear hmk10
    clear hg10 hI9 hS9
    go_wp2_with fail
    refine (heldNotes_any 1 (by omega) (Rd.of_own hy10) HMK.out).mono ?_
    rintro e w_11 ⟨rfl, hb11⟩
    have hS11 := ownS_below hS10 hb11
    have hI11 := ownS_below hy10 hb11
    have g11 := bstep g10 hb11
    clear hb11 hS10 hy10
    go_wp2_with fail
    refine (toNotes_any (Rd.below hl g11) hsl).mono ?_
    rintro e w_12 ⟨vKl, rfl, hKl0, hb12⟩
    have apSKl := apartS hS11 hKl0
    have apKlS := apartS' hS11 hKl0
    have apIKl := apartS hI11 hKl0
    have apKlI := apartS' hI11 hKl0
    have gbKl := g11
    have hS12 := ownS_below hS11 hb12
    have hI12 := ownS_below hI11 hb12
    have g12 := bstep g11 hb12
    clear hb12 hS11 hI11
    go_wp2_with fail
    refine (HI.out _ _ (Rc2.of_own hKl0)).mono ?_
    rintro e w_13 ⟨vH, rfl, hH0, hb13⟩
    have apSH := apartS hS12 hH0
    have apHS := apartS' hS12 hH0
    have apIH := apartS hI12 hH0
    have apHI := apartS' hI12 hH0
    have apKlH := apartS hKl0 hH0
    have apHKl := apartS' hKl0 hH0
    have gbH := g12
    have hS13 := ownS_below hS12 hb13
    have hI13 := ownS_below hI12 hb13
    have hKl13 := ownS_below hKl0 hb13
    have g13 := bstep g12 hb13
    clear hb13 hS12 hI12 hKl0
    clear hKl13
    go_wp2_with fail
    refine (eqNotes_same (Rd.of_own hH0) (Rd.of_own hS13)).mono ?_
    rintro e w_14 ⟨rfl, hb14⟩
    have hS14 := ownS_below hS13 hb14
    have hI14 := ownS_below hI13 hb14
    have hH14 := ownS_below hH0 hb14
    have g14 := bstep g13 hb14
    clear hb14 hS13 hI13 hH0
    clear hH14
    clear hS14
    go_wp2_with fail
    refine (heldNotes_any 1 (by omega) (Rd.of_own hI14) HMK.out).mono ?_
    rintro e w_15 ⟨rfl, hb15⟩
    have hI15 := ownS_below hI14 hb15
    have g15 := bstep g14 hb15
    clear hb15 hI14
    go_wp2
    go_ret
    exact ⟨rfl, g15⟩
  · go_enter Try.func9, Try.ntmps9
    go_wp2_with fail
    refine (sz0_no hsl hml).mono ?_
    rintro e w0 ⟨rfl, rfl⟩
    go_wp2
    go_ret
    exact ⟨rfl, Below.refl _ _⟩

set_option maxHeartbeats 8000000 in
set_option maxRecDepth 100000 in
theorem exactfits_walk {w : World} {ql : Value} {l : List (Int × Int)} (n : Int) (hI : ∀ (W : World) (U0 : Value), Rc2 W U0 l → l.length ≤ 1048576 → Calls Try.prog 52 #[U0, .int .i64 n] W (fun e w' => e = .returned (.bool (fitsM l n)) ∧ Below W.heap.size W w')) (hl : Rd2 w ql l) :
    Calls Try.prog 10 #[ql, .int .i64 n] w fun e w' => e = .returned (.bool true) ∧ Below w.heap.size w w' := by
  obtain ⟨ad_l, cap_l, rfl⟩ := Rd.slice hl
  have hml := hl.2.1
  unfold maxLen at hml
  by_cases hsl : l.length ≤ 1048576
  · skip
    have HI := Lib.hid (fun (W : World) (U0 : Value) (pl : Rc2 W U0 l) => hI W U0 pl hsl)
    have HS := Lib.hid (fun (W : World) (U0 : Value) (pl : Rd2 W U0 l) => fitsG_any n pl)
    clear hI
    generalize (fitsM l n) = r0 at *
    go_enter Try.func10, Try.ntmps10
    go_wp2_with fail
    refine (sz0_nat hsl).mono ?_
    rintro e w0 ⟨x0, hx0, hxe0, rfl, rfl⟩
    have HX0 := Lib.hid hxe0
    clear hxe0
    have g0 := Below.refl w.heap.size w
    go_wp2_with fail
    refine (toNotes_any (Rd.below hl g0) hsl).mono ?_
    rintro e w_1 ⟨vPl, rfl, hPl0, hb1⟩
    have gbPl := g0
    have g1 := bstep g0 hb1
    clear hb1 
    go_wp2_with fail
    refine (HS.out _ _ (Rd.of_own hPl0)).mono ?_
    rintro e w_2 ⟨rfl, hb2⟩
    have hPl2 := ownS_below hPl0 hb2
    have g2 := bstep g1 hb2
    clear hb2 hPl0
    clear hPl2
    go_wp2_with fail
    refine (toNotes_any (Rd.below hl g2) hsl).mono ?_
    rintro e w_3 ⟨vXl, rfl, hXl0, hb3⟩
    have gbXl := g2
    have g3 := bstep g2 hb3
    clear hb3 
    go_wp2_with fail
    refine (HI.out _ _ (Rc2.of_own hXl0)).mono ?_
    rintro e w_4 ⟨rfl, hb4⟩
    have hXl4 := ownS_below hXl0 hb4
    have g4 := bstep g3 hb4
    clear hb4 hXl0
    go_wp2_with fail
    refine (toNotes_any (Rd.below hl g4) hsl).mono ?_
    rintro e w_5 ⟨vT, rfl, hT0, hb5⟩
    have apXlT := apartS hXl4 hT0
    have apTXl := apartS' hXl4 hT0
    have gbT := g4
    have hXl5 := ownS_below hXl4 hb5
    have g5 := bstep g4 hb5
    clear hb5 hXl4
    go_wp2_with fail
    refine (eqNotes_same (Rd.of_own hXl5) (Rd.of_own hT0)).mono ?_
    rintro e w_6 ⟨rfl, hb6⟩
    have hXl6 := ownS_below hXl5 hb6
    have hT6 := ownS_below hT0 hb6
    have g6 := bstep g5 hb6
    clear hb6 hXl5 hT0
    clear hT6
    go_wp2
    go_ret
    exact ⟨rfl, g6⟩
  · go_enter Try.func10, Try.ntmps10
    go_wp2_with fail
    refine (sz0_no hsl hml).mono ?_
    rintro e w0 ⟨rfl, rfl⟩
    go_wp2
    go_ret
    exact ⟨rfl, Below.refl _ _⟩

end Go.Proofs.Ytcbdoldcdgaooaa
