/- The walks of chapter 5's exact laws: THE PROGRAM'S OWN CONTRACT IS A PREMISE (hI). Made by mk_exact.py. -/
import Derived.Test.YtohkpmfffcifbaaRestSpec
import Derived.Test.YtohkpmfffcifbaaIsSpec
import Derived.Test.YtohkpmfffcifbaaIntsArg
import Derived.Test.YtohkpmfffcifbaaWalkKit
import Derived.Test.YtohkpmfffcifbaaRdCap
namespace Go.Proofs.Ytohkpmfffcifbaa
open Go.ChangeShapes Go.WideShapes Go.ChangeAt Go.RowKit

theorem sz0_nat {w : World} {n cap : Nat} {a : Option Addr} (h : n ≤ 1048576) :
    Calls Try.prog 26 #[.slice a n cap, .int .i64 1048576] w fun e w' => ∃ x : Int, 0 ≤ x ∧ x = ((1048576 - n : Nat) : Int) ∧ e = .returned (.int .i64 x) ∧ w = w' :=
  (szNote_yes 1048576 (Nat.le_refl _) h).mono fun _ _ ⟨he, hw⟩ => ⟨_, by omega, rfl, he, hw⟩
theorem sz1_yes {w : World} {n m cap : Nat} {a : Option Addr} {x : Int} (h : m ≤ 1048576 - n) (hx : x = ((1048576 - n : Nat) : Int)) :
    Calls Try.prog 26 #[.slice a m cap, .int .i64 x] w fun e w' => ∃ y : Int, 0 ≤ y ∧ e = .returned (.int .i64 y) ∧ w = w' := by
  subst hx
  exact (szNote_yes (1048576 - n) (by omega) h).mono fun _ _ ⟨he, hw⟩ => ⟨_, by omega, he, hw⟩
theorem sz1_no {w : World} {n m cap : Nat} {a : Option Addr} {x : Int} (h : ¬ m ≤ 1048576 - n) (hx : x = ((1048576 - n : Nat) : Int)) (hm : m ≤ 9223372036854775807) :
    Calls Try.prog 26 #[.slice a m cap, .int .i64 x] w fun e w' => e = .returned (.int .i64 (-1)) ∧ w = w' := by
  subst hx
  exact szNote_no (1048576 - n) (by omega) (by omega) hm
set_option maxHeartbeats 8000000 in
set_option maxRecDepth 100000 in
theorem exactleast_walk {w : World} {qt : Value} {t : List (Int × Int)} (r : Int) (hI : ∀ (W : World) (U0 : Value), Rc2 W U0 t → t.length ≤ 1048576 → Calls Try.prog 14 #[U0, .int .i64 r] W (NewIntsB W (leastM r t).1 (leastM r t).2)) (ht : Rd2 w qt t) :
    Calls Try.prog 5 #[qt, .int .i64 r] w fun e w' => e = .returned (.bool true) ∧ Below w.heap.size w w' := by
  obtain ⟨ad_t, cap_t, rfl⟩ := Rd.slice ht
  have hmt := ht.2.1
  unfold maxLen at hmt
  by_cases hst : t.length ≤ 1048576
  · skip
    have HI := Lib.hid (fun (W : World) (U0 : Value) (pt : Rc2 W U0 t) => hI W U0 pt hst)
    have HS := Lib.hid (fun (W : World) (U0 : Value) (pt : Rd2 W U0 t) => least_any r pt)
    clear hI
    have hbd : (leastM r t).1.length ≤ 1048576 := Nat.le_trans (leastM_len r t) (by omega)
    generalize (leastM r t).1 = R at *
    generalize (leastM r t).2 = tb at *
    go_enter Try.func5, Try.ntmps5
    go_wp2_with fail
    refine (sz0_nat hst).mono ?_
    rintro e w0 ⟨x0, hx0, hxe0, rfl, rfl⟩
    have HX0 := Lib.hid hxe0
    clear hxe0
    have g0 := Below.refl w.heap.size w
    go_wp2_with fail
    refine (toNotes_any (Rd.below ht g0) hst).mono ?_
    rintro e w_1 ⟨vPt, rfl, hPt0, hb1⟩
    have gbPt := g0
    have g1 := bstep g0 hb1
    clear hb1 
    go_wp2_with fail
    refine (HS.out _ _ (Rd.of_own hPt0)).mono ?_
    rintro e w_2 ⟨vS, rfl, hS0, hb2⟩
    have apPtS := apartS hPt0 hS0
    have apSPt := apartS' hPt0 hS0
    have gbS := g1
    have hPt2 := ownS_below hPt0 hb2
    have g2 := bstep g1 hb2
    clear hb2 hPt0
    clear hPt2
    go_wp2_with fail
    refine (toNotes_any (Rd.below ht g2) hst).mono ?_
    rintro e w_3 ⟨vXt, rfl, hXt0, hb3⟩
    have apSXt := apartS hS0 hXt0
    have apXtS := apartS' hS0 hXt0
    have gbXt := g2
    have hS3 := ownS_below hS0 hb3
    have g3 := bstep g2 hb3
    clear hb3 hS0
    go_wp2_with fail
    refine (HI.out _ _ (Rc2.of_own hXt0)).mono ?_
    rintro e w_4 ⟨vI, rfl, hI0, hb4⟩
    have apSI := apartS hS3 hI0
    have apIS := apartS' hS3 hI0
    have apXtI := apartS hXt0 hI0
    have apIXt := apartS' hXt0 hI0
    have gbI := g3
    have hS4 := ownS_below hS3 hb4
    have hXt4 := ownS_below hXt0 hb4
    have g4 := bstep g3 hb4
    clear hb4 hS3 hXt0
    go_wp2_with fail
    refine (eqInts_same (Rd.of_own hI0) (Rd.of_own hS4)).mono ?_
    rintro e w_5 ⟨rfl, hb5⟩
    have hS5 := ownS_below hS4 hb5
    have hXt5 := ownS_below hXt4 hb5
    have hI5 := ownS_below hI0 hb5
    have g5 := bstep g4 hb5
    clear hb5 hS4 hXt4 hI0
    go_wp2_with fail
    refine (toNotes_any (Rd.below ht g5) hst).mono ?_
    rintro e w_6 ⟨vT, rfl, hT0, hb6⟩
    have apST := apartS hS5 hT0
    have apTS := apartS' hS5 hT0
    have apXtT := apartS hXt5 hT0
    have apTXt := apartS' hXt5 hT0
    have apIT := apartS hI5 hT0
    have apTI := apartS' hI5 hT0
    have gbT := g5
    have hS6 := ownS_below hS5 hb6
    have hXt6 := ownS_below hXt5 hb6
    have hI6 := ownS_below hI5 hb6
    have g6 := bstep g5 hb6
    clear hb6 hS5 hXt5 hI5
    go_wp2_with fail
    refine (eqNotes_same (Rd.of_own hXt6) (Rd.of_own hT0)).mono ?_
    rintro e w_7 ⟨rfl, hb7⟩
    have hS7 := ownS_below hS6 hb7
    have hXt7 := ownS_below hXt6 hb7
    have hI7 := ownS_below hI6 hb7
    have hT7 := ownS_below hT0 hb7
    have g7 := bstep g6 hb7
    clear hb7 hS6 hXt6 hI6 hT0
    clear hT7
    go_wp2_with fail
    refine (markNotes_any (1) (by omega) hXt7).mono ?_
    rintro e w_8 ⟨rfl, hg8, _⟩
    have hS8 := World.ownsRow.kept hS7 hg8 apSXt
    have hI8 := World.ownsRow.kept hI7 hg8 apIXt
    have g8 := g7.grown hg8 g7.size (fun k hk => Nat.le_trans gbXt.size (hXt7.lt k hk).1)
    clear hg8 hXt7 hS7 hI7
    go_wp2_with fail
    refine (eqInts_same (Rd.of_own hI8) (Rd.of_own hS8)).mono ?_
    rintro e w_9 ⟨rfl, hb9⟩
    have hS9 := ownS_below hS8 hb9
    have hI9 := ownS_below hI8 hb9
    have g9 := bstep g8 hb9
    clear hb9 hS8 hI8
    go_wp2_with fail
    refine (markInts_any 1 (by omega) hI9).mono ?_
    rintro e w_10 ⟨rfl, hg10, ys, hy10, hmk10⟩
    have hS10 := World.ownsRow.kept hS9 hg10 apSI
    have g10 := g9.grown hg10 g9.size (fun k hk => Nat.le_trans gbI.size (hI9.lt k hk).1)
    have HMK := Lib.hid hmk10
    clear hmk10
    clear hg10 hI9 hS9
    go_wp2_with fail
    refine (heldInts_any 1 (by omega) (Rd.of_own hy10) HMK.out).mono ?_
    rintro e w_11 ⟨rfl, hb11⟩
    have hS11 := ownS_below hS10 hb11
    have hI11 := ownS_below hy10 hb11
    have g11 := bstep g10 hb11
    clear hb11 hS10 hy10
    go_wp2_with fail
    refine (toNotes_any (Rd.below ht g11) hst).mono ?_
    rintro e w_12 ⟨vKt, rfl, hKt0, hb12⟩
    have apSKt := apartS hS11 hKt0
    have apKtS := apartS' hS11 hKt0
    have apIKt := apartS hI11 hKt0
    have apKtI := apartS' hI11 hKt0
    have gbKt := g11
    have hS12 := ownS_below hS11 hb12
    have hI12 := ownS_below hI11 hb12
    have g12 := bstep g11 hb12
    clear hb12 hS11 hI11
    go_wp2_with fail
    refine (HI.out _ _ (Rc2.of_own hKt0)).mono ?_
    rintro e w_13 ⟨vH, rfl, hH0, hb13⟩
    have apSH := apartS hS12 hH0
    have apHS := apartS' hS12 hH0
    have apIH := apartS hI12 hH0
    have apHI := apartS' hI12 hH0
    have apKtH := apartS hKt0 hH0
    have apHKt := apartS' hKt0 hH0
    have gbH := g12
    have hS13 := ownS_below hS12 hb13
    have hI13 := ownS_below hI12 hb13
    have hKt13 := ownS_below hKt0 hb13
    have g13 := bstep g12 hb13
    clear hb13 hS12 hI12 hKt0
    clear hKt13
    go_wp2_with fail
    refine (eqInts_same (Rd.of_own hH0) (Rd.of_own hS13)).mono ?_
    rintro e w_14 ⟨rfl, hb14⟩
    have hS14 := ownS_below hS13 hb14
    have hI14 := ownS_below hI13 hb14
    have hH14 := ownS_below hH0 hb14
    have g14 := bstep g13 hb14
    clear hb14 hS13 hI13 hH0
    clear hH14
    clear hS14
    go_wp2_with fail
    refine (heldInts_any 1 (by omega) (Rd.of_own hI14) HMK.out).mono ?_
    rintro e w_15 ⟨rfl, hb15⟩
    have hI15 := ownS_below hI14 hb15
    have g15 := bstep g14 hb15
    clear hb15 hI14
    go_wp2
    go_ret
    exact ⟨rfl, g15⟩
  · go_enter Try.func5, Try.ntmps5
    go_wp2_with fail
    refine (sz0_no hst hmt).mono ?_
    rintro e w0 ⟨rfl, rfl⟩
    go_wp2
    go_ret
    exact ⟨rfl, Below.refl _ _⟩

end Go.Proofs.Ytohkpmfffcifbaa
