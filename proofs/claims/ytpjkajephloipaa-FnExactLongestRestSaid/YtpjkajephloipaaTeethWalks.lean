/- The walks of chapter 5's exact laws: THE PROGRAM'S OWN CONTRACT IS A PREMISE (hI). Made by mk_exact.py. -/
import Derived.Test.YtpjkajephloipaaRestSpec
import Derived.Test.YtpjkajephloipaaIsSpec
import Derived.Test.YtpjkajephloipaaIntsArg
import Derived.Test.YtpjkajephloipaaWalkKit
import Derived.Test.YtpjkajephloipaaRdCap
namespace Go.Proofs.Ytpjkajephloipaa
open Go.ChangeShapes Go.WideShapes Go.ChangeAt Go.RowKit

theorem sz0_nat {w : World} {n cap : Nat} {a : Option Addr} (h : n ≤ 1048576) :
    Calls Try.prog 22 #[.slice a n cap, .int .i64 1048576] w fun e w' => ∃ x : Int, 0 ≤ x ∧ x = ((1048576 - n : Nat) : Int) ∧ e = .returned (.int .i64 x) ∧ w = w' :=
  (szNote_yes 1048576 (Nat.le_refl _) h).mono fun _ _ ⟨he, hw⟩ => ⟨_, by omega, rfl, he, hw⟩
theorem sz1_yes {w : World} {n m cap : Nat} {a : Option Addr} {x : Int} (h : m ≤ 1048576 - n) (hx : x = ((1048576 - n : Nat) : Int)) :
    Calls Try.prog 22 #[.slice a m cap, .int .i64 x] w fun e w' => ∃ y : Int, 0 ≤ y ∧ e = .returned (.int .i64 y) ∧ w = w' := by
  subst hx
  exact (szNote_yes (1048576 - n) (by omega) h).mono fun _ _ ⟨he, hw⟩ => ⟨_, by omega, he, hw⟩
theorem sz1_no {w : World} {n m cap : Nat} {a : Option Addr} {x : Int} (h : ¬ m ≤ 1048576 - n) (hx : x = ((1048576 - n : Nat) : Int)) (hm : m ≤ 9223372036854775807) :
    Calls Try.prog 22 #[.slice a m cap, .int .i64 x] w fun e w' => e = .returned (.int .i64 (-1)) ∧ w = w' := by
  subst hx
  exact szNote_no (1048576 - n) (by omega) (by omega) hm
set_option maxHeartbeats 8000000 in
set_option maxRecDepth 100000 in
theorem exactneed_walk {w : World} {qt : Value} {t : List (Int × Int)} (r : Int) (hI : ∀ (W : World) (U0 : Value), Rc2 W U0 t → t.length ≤ 1048576 → Calls Try.prog 16 #[U0, .int .i64 r] W (NewInts W (needM r t))) (ht : Rd2 w qt t) :
    Calls Try.prog 4 #[qt, .int .i64 r] w fun e w' => e = .returned (.bool true) ∧ Below w.heap.size w w' := by
  obtain ⟨ad_t, cap_t, rfl⟩ := Rd.slice ht
  have hmt := ht.2.1
  unfold maxLen at hmt
  by_cases hst : t.length ≤ 1048576
  · skip
    have HI := Lib.hid (fun (W : World) (U0 : Value) (pt : Rc2 W U0 t) => hI W U0 pt hst)
    have HS := Lib.hid (fun (W : World) (U0 : Value) (pt : Rd2 W U0 t) => needed_any r pt)
    clear hI
    have hbd : (needM r t).length ≤ 1048576 := Nat.le_trans (needM_len r t) (by omega)
    generalize (needM r t) = R at *
    go_enter Try.func4, Try.ntmps4
    go_wp2_with fail
    refine (sz0_nat hst).mono ?_
    rintro e w0 ⟨x0, hx0, hxe0, rfl, rfl⟩
    have HX0 := Lib.hid hxe0
    clear hxe0
    have g0 := Below.refl w.heap.size w
    go_wp2_with fail
    refine (toNotes_any (Rd.below ht g0) hst).mono ?_
    rintro e w_1 ⟨vPt, rfl, hPt0, hb1⟩
    have gbPt := g0
    have g1 := bstep g0 hb1
    clear hb1 
    go_wp2_with fail
    refine (HS.out _ _ (Rd.of_own hPt0)).mono ?_
    rintro e w_2 ⟨vS, rfl, hS0, hb2⟩
    have apPtS := apartS hPt0 hS0
    have apSPt := apartS' hPt0 hS0
    have gbS := g1
    have hPt2 := ownS_below hPt0 hb2
    have g2 := bstep g1 hb2
    clear hb2 hPt0
    clear hPt2
    go_wp2_with fail
    refine (toNotes_any (Rd.below ht g2) hst).mono ?_
    rintro e w_3 ⟨vXt, rfl, hXt0, hb3⟩
    have apSXt := apartS hS0 hXt0
    have apXtS := apartS' hS0 hXt0
    have gbXt := g2
    have hS3 := ownS_below hS0 hb3
    have g3 := bstep g2 hb3
    clear hb3 hS0
    go_wp2_with fail
    refine (HI.out _ _ (Rc2.of_own hXt0)).mono ?_
    rintro e w_4 ⟨vI, rfl, hI0, hb4⟩
    have apSI := apartS hS3 hI0
    have apIS := apartS' hS3 hI0
    have apXtI := apartS hXt0 hI0
    have apIXt := apartS' hXt0 hI0
    have gbI := g3
    have hS4 := ownS_below hS3 hb4
    have hXt4 := ownS_below hXt0 hb4
    have g4 := bstep g3 hb4
    clear hb4 hS3 hXt0
    go_wp2_with fail
    refine (eqInts_same (Rd.of_own hI0) (Rd.of_own hS4)).mono ?_
    rintro e w_5 ⟨rfl, hb5⟩
    have hS5 := ownS_below hS4 hb5
    have hXt5 := ownS_below hXt4 hb5
    have hI5 := ownS_below hI0 hb5
    have g5 := bstep g4 hb5
    clear hb5 hS4 hXt4 hI0
    go_wp2_with fail
    refine (toNotes_any (Rd.below ht g5) hst).mono ?_
    rintro e w_6 ⟨vT, rfl, hT0, hb6⟩
    have apST := apartS hS5 hT0
    have apTS := apartS' hS5 hT0
    have apXtT := apartS hXt5 hT0
    have apTXt := apartS' hXt5 hT0
    have apIT := apartS hI5 hT0
    have apTI := apartS' hI5 hT0
    have gbT := g5
    have hS6 := ownS_below hS5 hb6
    have hXt6 := ownS_below hXt5 hb6
    have hI6 := ownS_below hI5 hb6
    have g6 := bstep g5 hb6
    clear hb6 hS5 hXt5 hI5
    go_wp2_with fail
    refine (eqNotes_same (Rd.of_own hXt6) (Rd.of_own hT0)).mono ?_
    rintro e w_7 ⟨rfl, hb7⟩
    have hS7 := ownS_below hS6 hb7
    have hXt7 := ownS_below hXt6 hb7
    have hI7 := ownS_below hI6 hb7
    have hT7 := ownS_below hT0 hb7
    have g7 := bstep g6 hb7
    clear hb7 hS6 hXt6 hI6 hT0
    clear hT7
    go_wp2_with fail
    refine (markNotes_any (1) (by omega) hXt7).mono ?_
    rintro e w_8 ⟨rfl, hg8, _⟩
    have hS8 := World.ownsRow.kept hS7 hg8 apSXt
    have hI8 := World.ownsRow.kept hI7 hg8 apIXt
    have g8 := g7.grown hg8 g7.size (fun k hk => Nat.le_trans gbXt.size (hXt7.lt k hk).1)
    clear hg8 hXt7 hS7 hI7
    go_wp2_with fail
    refine (eqInts_same (Rd.of_own hI8) (Rd.of_own hS8)).mono ?_
    rintro e w_9 ⟨rfl, hb9⟩
    have hS9 := ownS_below hS8 hb9
    have hI9 := ownS_below hI8 hb9
    have g9 := bstep g8 hb9
    clear hb9 hS8 hI8
    go_wp2_with fail
    refine (markInts_any 1 (by omega) hI9).mono ?_
    rintro e w_10 ⟨rfl, hg10, ys, hy10, hmk10⟩
    have hS10 := World.ownsRow.kept hS9 hg10 apSI
    have g10 := g9.grown hg10 g9.size (fun k hk => Nat.le_trans gbI.size (hI9.lt k hk).1)
    have HMK := Lib.hid hmk10
    clear hmk10
    clear hg10 hI9 hS9
    go_wp2_with fail
    refine (heldInts_any 1 (by omega) (Rd.of_own hy10) HMK.out).mono ?_
    rintro e w_11 ⟨rfl, hb11⟩
    have hS11 := ownS_below hS10 hb11
    have hI11 := ownS_below hy10 hb11
    have g11 := bstep g10 hb11
    clear hb11 hS10 hy10
    go_wp2_with fail
    refine (toNotes_any (Rd.below ht g11) hst).mono ?_
    rintro e w_12 ⟨vKt, rfl, hKt0, hb12⟩
    have apSKt := apartS hS11 hKt0
    have apKtS := apartS' hS11 hKt0
    have apIKt := apartS hI11 hKt0
    have apKtI := apartS' hI11 hKt0
    have gbKt := g11
    have hS12 := ownS_below hS11 hb12
    have hI12 := ownS_below hI11 hb12
    have g12 := bstep g11 hb12
    clear hb12 hS11 hI11
    go_wp2_with fail
    refine (HI.out _ _ (Rc2.of_own hKt0)).mono ?_
    rintro e w_13 ⟨vH, rfl, hH0, hb13⟩
    have apSH := apartS hS12 hH0
    have apHS := apartS' hS12 hH0
    have apIH := apartS hI12 hH0
    have apHI := apartS' hI12 hH0
    have apKtH := apartS hKt0 hH0
    have apHKt := apartS' hKt0 hH0
    have gbH := g12
    have hS13 := ownS_below hS12 hb13
    have hI13 := ownS_below hI12 hb13
    have hKt13 := ownS_below hKt0 hb13
    have g13 := bstep g12 hb13
    clear hb13 hS12 hI12 hKt0
    clear hKt13
    go_wp2_with fail
    refine (eqInts_same (Rd.of_own hH0) (Rd.of_own hS13)).mono ?_
    rintro e w_14 ⟨rfl, hb14⟩
    have hS14 := ownS_below hS13 hb14
    have hI14 := ownS_below hI13 hb14
    have hH14 := ownS_below hH0 hb14
    have g14 := bstep g13 hb14
    clear hb14 hS13 hI13 hH0
    clear hH14
    clear hS14
    go_wp2_with fail
    refine (heldInts_any 1 (by omega) (Rd.of_own hI14) HMK.out).mono ?_
    rintro e w_15 ⟨rfl, hb15⟩
    have hI15 := ownS_below hI14 hb15
    have g15 := bstep g14 hb15
    clear hb15 hI14
    go_wp2
    go_ret
    exact ⟨rfl, g15⟩
  · go_enter Try.func4, Try.ntmps4
    go_wp2_with fail
    refine (sz0_no hst hmt).mono ?_
    rintro e w0 ⟨rfl, rfl⟩
    go_wp2
    go_ret
    exact ⟨rfl, Below.refl _ _⟩

set_option maxHeartbeats 8000000 in
set_option maxRecDepth 100000 in
theorem exactassign_walk {w : World} {qc qt : Value} {c : List Int} {t : List (Int × Int)} (r : Int) (hI : ∀ (W : World) (U0 U1 : Value), Rd1 W U0 c → Rd2 W U1 t → c.length ≤ 1048576 → t.length ≤ 1048576 → Calls Try.prog 19 #[U0, U1, .int .i64 r] W (NewIntsB W (assignM c t r).1 (assignM c t r).2)) (hc : Rd1 w qc c) (ht : Rd2 w qt t) :
    Calls Try.prog 5 #[qc, qt, .int .i64 r] w fun e w' => e = .returned (.bool true) ∧ Below w.heap.size w w' := by
  obtain ⟨ad_c, cap_c, rfl⟩ := Rd.slice hc
  have hmc := hc.2.1
  unfold maxLen at hmc
  obtain ⟨ad_t, cap_t, rfl⟩ := Rd.slice ht
  have hmt := ht.2.1
  unfold maxLen at hmt
  by_cases hsc : c.length ≤ 1048576
  · skip
    by_cases hst : t.length ≤ 1048576
    · skip
      have HI := Lib.hid (fun (W : World) (U0 U1 : Value) (pc : Rd1 W U0 c) (pt : Rd2 W U1 t) => hI W U0 U1 pc pt hsc hst)
      have HS := Lib.hid (fun (W : World) (U0 U1 : Value) (pc : Rd1 W U0 c) (pt : Rd2 W U1 t) => assign_any r pc pt)
      clear hI
      have hbd : (assignM c t r).1.length ≤ 1048576 := Nat.le_trans (assignM_len c t r) hst
      generalize (assignM c t r).1 = R at *
      generalize (assignM c t r).2 = tb at *
      go_enter Try.func5, Try.ntmps5
      go_wp2_with fail
      refine (sz0_nat hst).mono ?_
      rintro e w0 ⟨x0, hx0, hxe0, rfl, rfl⟩
      have HX0 := Lib.hid hxe0
      clear hxe0
      have g0 := Below.refl w.heap.size w
      go_wp2_with fail
      refine (toInts_any (Rd.below hc g0) hsc).mono ?_
      rintro e w_1 ⟨vPc, rfl, hPc0, hb1⟩
      have gbPc := g0
      have g1 := bstep g0 hb1
      clear hb1 
      go_wp2_with fail
      refine (toNotes_any (Rd.below ht g1) hst).mono ?_
      rintro e w_2 ⟨vPt, rfl, hPt0, hb2⟩
      have apPcPt := apartS hPc0 hPt0
      have apPtPc := apartS' hPc0 hPt0
      have gbPt := g1
      have hPc2 := ownS_below hPc0 hb2
      have g2 := bstep g1 hb2
      clear hb2 hPc0
      go_wp2_with fail
      refine (HS.out _ _ _ (Rd.of_own hPc2) (Rd.of_own hPt0)).mono ?_
      rintro e w_3 ⟨vS, rfl, hS0, hb3⟩
      have apPcS := apartS hPc2 hS0
      have apSPc := apartS' hPc2 hS0
      have apPtS := apartS hPt0 hS0
      have apSPt := apartS' hPt0 hS0
      have gbS := g2
      have hPc3 := ownS_below hPc2 hb3
      have hPt3 := ownS_below hPt0 hb3
      have g3 := bstep g2 hb3
      clear hb3 hPc2 hPt0
      clear hPc3
      clear hPt3
      go_wp2_with fail
      refine (toInts_any (Rd.below hc g3) hsc).mono ?_
      rintro e w_4 ⟨vXc, rfl, hXc0, hb4⟩
      have apSXc := apartS hS0 hXc0
      have apXcS := apartS' hS0 hXc0
      have gbXc := g3
      have hS4 := ownS_below hS0 hb4
      have g4 := bstep g3 hb4
      clear hb4 hS0
      go_wp2_with fail
      refine (toNotes_any (Rd.below ht g4) hst).mono ?_
      rintro e w_5 ⟨vXt, rfl, hXt0, hb5⟩
      have apSXt := apartS hS4 hXt0
      have apXtS := apartS' hS4 hXt0
      have apXcXt := apartS hXc0 hXt0
      have apXtXc := apartS' hXc0 hXt0
      have gbXt := g4
      have hS5 := ownS_below hS4 hb5
      have hXc5 := ownS_below hXc0 hb5
      have g5 := bstep g4 hb5
      clear hb5 hS4 hXc0
      go_wp2_with fail
      refine (HI.out _ _ _ (Rd.of_own hXc5) (Rd.of_own hXt0)).mono ?_
      rintro e w_6 ⟨vI, rfl, hI0, hb6⟩
      have apSI := apartS hS5 hI0
      have apIS := apartS' hS5 hI0
      have apXcI := apartS hXc5 hI0
      have apIXc := apartS' hXc5 hI0
      have apXtI := apartS hXt0 hI0
      have apIXt := apartS' hXt0 hI0
      have gbI := g5
      have hS6 := ownS_below hS5 hb6
      have hXc6 := ownS_below hXc5 hb6
      have hXt6 := ownS_below hXt0 hb6
      have g6 := bstep g5 hb6
      clear hb6 hS5 hXc5 hXt0
      go_wp2_with fail
      refine (eqInts_same (Rd.of_own hI0) (Rd.of_own hS6)).mono ?_
      rintro e w_7 ⟨rfl, hb7⟩
      have hS7 := ownS_below hS6 hb7
      have hXc7 := ownS_below hXc6 hb7
      have hXt7 := ownS_below hXt6 hb7
      have hI7 := ownS_below hI0 hb7
      have g7 := bstep g6 hb7
      clear hb7 hS6 hXc6 hXt6 hI0
      go_wp2_with fail
      refine (toInts_any (Rd.below hc g7) hsc).mono ?_
      rintro e w_8 ⟨vT, rfl, hT0, hb8⟩
      have apST := apartS hS7 hT0
      have apTS := apartS' hS7 hT0
      have apXcT := apartS hXc7 hT0
      have apTXc := apartS' hXc7 hT0
      have apXtT := apartS hXt7 hT0
      have apTXt := apartS' hXt7 hT0
      have apIT := apartS hI7 hT0
      have apTI := apartS' hI7 hT0
      have gbT := g7
      have hS8 := ownS_below hS7 hb8
      have hXc8 := ownS_below hXc7 hb8
      have hXt8 := ownS_below hXt7 hb8
      have hI8 := ownS_below hI7 hb8
      have g8 := bstep g7 hb8
      clear hb8 hS7 hXc7 hXt7 hI7
      go_wp2_with fail
      refine (eqInts_same (Rd.of_own hXc8) (Rd.of_own hT0)).mono ?_
      rintro e w_9 ⟨rfl, hb9⟩
      have hS9 := ownS_below hS8 hb9
      have hXc9 := ownS_below hXc8 hb9
      have hXt9 := ownS_below hXt8 hb9
      have hI9 := ownS_below hI8 hb9
      have hT9 := ownS_below hT0 hb9
      have g9 := bstep g8 hb9
      clear hb9 hS8 hXc8 hXt8 hI8 hT0
      clear hT9
      go_wp2_with fail
      refine (toNotes_any (Rd.below ht g9) hst).mono ?_
      rintro e w_10 ⟨vT, rfl, hT0, hb10⟩
      have apST := apartS hS9 hT0
      have apTS := apartS' hS9 hT0
      have apXcT := apartS hXc9 hT0
      have apTXc := apartS' hXc9 hT0
      have apXtT := apartS hXt9 hT0
      have apTXt := apartS' hXt9 hT0
      have apIT := apartS hI9 hT0
      have apTI := apartS' hI9 hT0
      have gbT := g9
      have hS10 := ownS_below hS9 hb10
      have hXc10 := ownS_below hXc9 hb10
      have hXt10 := ownS_below hXt9 hb10
      have hI10 := ownS_below hI9 hb10
      have g10 := bstep g9 hb10
      clear hb10 hS9 hXc9 hXt9 hI9
      go_wp2_with fail
      refine (eqNotes_same (Rd.of_own hXt10) (Rd.of_own hT0)).mono ?_
      rintro e w_11 ⟨rfl, hb11⟩
      have hS11 := ownS_below hS10 hb11
      have hXc11 := ownS_below hXc10 hb11
      have hXt11 := ownS_below hXt10 hb11
      have hI11 := ownS_below hI10 hb11
      have hT11 := ownS_below hT0 hb11
      have g11 := bstep g10 hb11
      clear hb11 hS10 hXc10 hXt10 hI10 hT0
      clear hT11
      go_wp2_with fail
      refine (markInts_any (1) (by omega) hXc11).mono ?_
      rintro e w_12 ⟨rfl, hg12, _⟩
      have hS12 := World.ownsRow.kept hS11 hg12 apSXc
      have hXt12 := World.ownsRow.kept hXt11 hg12 apXtXc
      have hI12 := World.ownsRow.kept hI11 hg12 apIXc
      have g12 := g11.grown hg12 g11.size (fun k hk => Nat.le_trans gbXc.size (hXc11.lt k hk).1)
      clear hg12 hXc11 hS11 hXt11 hI11
      go_wp2_with fail
      refine (markNotes_any (1 + c.length) (by omega) hXt12).mono ?_
      rintro e w_13 ⟨rfl, hg13, _⟩
      have hS13 := World.ownsRow.kept hS12 hg13 apSXt
      have hI13 := World.ownsRow.kept hI12 hg13 apIXt
      have g13 := g12.grown hg13 g12.size (fun k hk => Nat.le_trans gbXt.size (hXt12.lt k hk).1)
      clear hg13 hXt12 hS12 hI12
      go_wp2_with fail
      refine (eqInts_same (Rd.of_own hI13) (Rd.of_own hS13)).mono ?_
      rintro e w_14 ⟨rfl, hb14⟩
      have hS14 := ownS_below hS13 hb14
      have hI14 := ownS_below hI13 hb14
      have g14 := bstep g13 hb14
      clear hb14 hS13 hI13
      go_wp2_with fail
      refine (markInts_any 1 (by omega) hI14).mono ?_
      rintro e w_15 ⟨rfl, hg15, ys, hy15, hmk15⟩
      have hS15 := World.ownsRow.kept hS14 hg15 apSI
      have g15 := g14.grown hg15 g14.size (fun k hk => Nat.le_trans gbI.size (hI14.lt k hk).1)
      have HMK := Lib.hid hmk15
      clear hmk15
      clear hg15 hI14 hS14
      go_wp2_with fail
      refine (heldInts_any 1 (by omega) (Rd.of_own hy15) HMK.out).mono ?_
      rintro e w_16 ⟨rfl, hb16⟩
      have hS16 := ownS_below hS15 hb16
      have hI16 := ownS_below hy15 hb16
      have g16 := bstep g15 hb16
      clear hb16 hS15 hy15
      go_wp2_with fail
      refine (toInts_any (Rd.below hc g16) hsc).mono ?_
      rintro e w_17 ⟨vKc, rfl, hKc0, hb17⟩
      have apSKc := apartS hS16 hKc0
      have apKcS := apartS' hS16 hKc0
      have apIKc := apartS hI16 hKc0
      have apKcI := apartS' hI16 hKc0
      have gbKc := g16
      have hS17 := ownS_below hS16 hb17
      have hI17 := ownS_below hI16 hb17
      have g17 := bstep g16 hb17
      clear hb17 hS16 hI16
      go_wp2_with fail
      refine (toNotes_any (Rd.below ht g17) hst).mono ?_
      rintro e w_18 ⟨vKt, rfl, hKt0, hb18⟩
      have apSKt := apartS hS17 hKt0
      have apKtS := apartS' hS17 hKt0
      have apIKt := apartS hI17 hKt0
      have apKtI := apartS' hI17 hKt0
      have apKcKt := apartS hKc0 hKt0
      have apKtKc := apartS' hKc0 hKt0
      have gbKt := g17
      have hS18 := ownS_below hS17 hb18
      have hI18 := ownS_below hI17 hb18
      have hKc18 := ownS_below hKc0 hb18
      have g18 := bstep g17 hb18
      clear hb18 hS17 hI17 hKc0
      go_wp2_with fail
      refine (HI.out _ _ _ (Rd.of_own hKc18) (Rd.of_own hKt0)).mono ?_
      rintro e w_19 ⟨vH, rfl, hH0, hb19⟩
      have apSH := apartS hS18 hH0
      have apHS := apartS' hS18 hH0
      have apIH := apartS hI18 hH0
      have apHI := apartS' hI18 hH0
      have apKcH := apartS hKc18 hH0
      have apHKc := apartS' hKc18 hH0
      have apKtH := apartS hKt0 hH0
      have apHKt := apartS' hKt0 hH0
      have gbH := g18
      have hS19 := ownS_below hS18 hb19
      have hI19 := ownS_below hI18 hb19
      have hKc19 := ownS_below hKc18 hb19
      have hKt19 := ownS_below hKt0 hb19
      have g19 := bstep g18 hb19
      clear hb19 hS18 hI18 hKc18 hKt0
      clear hKc19
      clear hKt19
      go_wp2_with fail
      refine (eqInts_same (Rd.of_own hH0) (Rd.of_own hS19)).mono ?_
      rintro e w_20 ⟨rfl, hb20⟩
      have hS20 := ownS_below hS19 hb20
      have hI20 := ownS_below hI19 hb20
      have hH20 := ownS_below hH0 hb20
      have g20 := bstep g19 hb20
      clear hb20 hS19 hI19 hH0
      clear hH20
      clear hS20
      go_wp2_with fail
      refine (heldInts_any 1 (by omega) (Rd.of_own hI20) HMK.out).mono ?_
      rintro e w_21 ⟨rfl, hb21⟩
      have hI21 := ownS_below hI20 hb21
      have g21 := bstep g20 hb21
      clear hb21 hI20
      go_wp2
      go_ret
      exact ⟨rfl, g21⟩
    · go_enter Try.func5, Try.ntmps5
      go_wp2_with fail
      refine (sz0_no hst hmt).mono ?_
      rintro e w0 ⟨rfl, rfl⟩
      go_wp2
      go_ret
      exact ⟨rfl, Below.refl _ _⟩
  · go_enter Try.func5, Try.ntmps5
    go_wp2
    go_ret
    exact ⟨rfl, Below.refl _ _⟩

set_option maxHeartbeats 8000000 in
set_option maxRecDepth 100000 in
theorem exactis_walk {w : World} {qc qt qa : Value} {c : List Int} {t : List (Int × Int)} {a : List Int} (r : Int) (hI : ∀ (W : World) (U0 U1 U2 : Value), Rd1 W U0 c → Rd2 W U1 t → Rd1 W U2 a → c.length ≤ 1048576 → t.length ≤ 1048576 → a.length ≤ 1048576 → Calls Try.prog 20 #[U0, U1, .int .i64 r, U2] W (fun e w' => e = .returned (.bool (isM c t r a)) ∧ Below W.heap.size W w')) (hc : Rd1 w qc c) (ht : Rd2 w qt t) (ha : Rd1 w qa a) :
    Calls Try.prog 6 #[qc, qt, .int .i64 r, qa] w fun e w' => e = .returned (.bool true) ∧ Below w.heap.size w w' := by
  obtain ⟨ad_c, cap_c, rfl⟩ := Rd.slice hc
  have hmc := hc.2.1
  unfold maxLen at hmc
  obtain ⟨ad_t, cap_t, rfl⟩ := Rd.slice ht
  have hmt := ht.2.1
  unfold maxLen at hmt
  obtain ⟨ad_a, cap_a, rfl⟩ := Rd.slice ha
  have hma := ha.2.1
  unfold maxLen at hma
  by_cases hsc : c.length ≤ 1048576
  · skip
    by_cases hsa : a.length ≤ 1048576
    · skip
      by_cases hst : t.length ≤ 1048576
      · skip
        have HI := Lib.hid (fun (W : World) (U0 U1 U2 : Value) (pc : Rd1 W U0 c) (pt : Rd2 W U1 t) (pa : Rd1 W U2 a) => hI W U0 U1 U2 pc pt pa hsc hst hsa)
        have HS := Lib.hid (fun (W : World) (U0 U1 U2 : Value) (pc : Rd1 W U0 c) (pt : Rd2 W U1 t) (pa : Rd1 W U2 a) => is_any r pc pt pa)
        clear hI
        generalize (isM c t r a) = r0 at *
        go_enter Try.func6, Try.ntmps6
        go_wp2_with fail
        refine (sz0_nat hst).mono ?_
        rintro e w0 ⟨x0, hx0, hxe0, rfl, rfl⟩
        have HX0 := Lib.hid hxe0
        clear hxe0
        have g0 := Below.refl w.heap.size w
        go_wp2_with fail
        refine (toInts_any (Rd.below hc g0) hsc).mono ?_
        rintro e w_1 ⟨vPc, rfl, hPc0, hb1⟩
        have gbPc := g0
        have g1 := bstep g0 hb1
        clear hb1 
        go_wp2_with fail
        refine (toNotes_any (Rd.below ht g1) hst).mono ?_
        rintro e w_2 ⟨vPt, rfl, hPt0, hb2⟩
        have apPcPt := apartS hPc0 hPt0
        have apPtPc := apartS' hPc0 hPt0
        have gbPt := g1
        have hPc2 := ownS_below hPc0 hb2
        have g2 := bstep g1 hb2
        clear hb2 hPc0
        go_wp2_with fail
        refine (toInts_any (Rd.below ha g2) hsa).mono ?_
        rintro e w_3 ⟨vPa, rfl, hPa0, hb3⟩
        have apPcPa := apartS hPc2 hPa0
        have apPaPc := apartS' hPc2 hPa0
        have apPtPa := apartS hPt0 hPa0
        have apPaPt := apartS' hPt0 hPa0
        have gbPa := g2
        have hPc3 := ownS_below hPc2 hb3
        have hPt3 := ownS_below hPt0 hb3
        have g3 := bstep g2 hb3
        clear hb3 hPc2 hPt0
        go_wp2_with fail
        refine (HS.out _ _ _ _ (Rd.of_own hPc3) (Rd.of_own hPt3) (Rd.of_own hPa0)).mono ?_
        rintro e w_4 ⟨rfl, hb4⟩
        have hPc4 := ownS_below hPc3 hb4
        have hPt4 := ownS_below hPt3 hb4
        have hPa4 := ownS_below hPa0 hb4
        have g4 := bstep g3 hb4
        clear hb4 hPc3 hPt3 hPa0
        clear hPc4
        clear hPt4
        clear hPa4
        go_wp2_with fail
        refine (toInts_any (Rd.below hc g4) hsc).mono ?_
        rintro e w_5 ⟨vXc, rfl, hXc0, hb5⟩
        have gbXc := g4
        have g5 := bstep g4 hb5
        clear hb5 
        go_wp2_with fail
        refine (toNotes_any (Rd.below ht g5) hst).mono ?_
        rintro e w_6 ⟨vXt, rfl, hXt0, hb6⟩
        have apXcXt := apartS hXc0 hXt0
        have apXtXc := apartS' hXc0 hXt0
        have gbXt := g5
        have hXc6 := ownS_below hXc0 hb6
        have g6 := bstep g5 hb6
        clear hb6 hXc0
        go_wp2_with fail
        refine (toInts_any (Rd.below ha g6) hsa).mono ?_
        rintro e w_7 ⟨vXa, rfl, hXa0, hb7⟩
        have apXcXa := apartS hXc6 hXa0
        have apXaXc := apartS' hXc6 hXa0
        have apXtXa := apartS hXt0 hXa0
        have apXaXt := apartS' hXt0 hXa0
        have gbXa := g6
        have hXc7 := ownS_below hXc6 hb7
        have hXt7 := ownS_below hXt0 hb7
        have g7 := bstep g6 hb7
        clear hb7 hXc6 hXt0
        go_wp2_with fail
        refine (HI.out _ _ _ _ (Rd.of_own hXc7) (Rd.of_own hXt7) (Rd.of_own hXa0)).mono ?_
        rintro e w_8 ⟨rfl, hb8⟩
        have hXc8 := ownS_below hXc7 hb8
        have hXt8 := ownS_below hXt7 hb8
        have hXa8 := ownS_below hXa0 hb8
        have g8 := bstep g7 hb8
        clear hb8 hXc7 hXt7 hXa0
        go_wp2_with fail
        refine (toInts_any (Rd.below hc g8) hsc).mono ?_
        rintro e w_9 ⟨vT, rfl, hT0, hb9⟩
        have apXcT := apartS hXc8 hT0
        have apTXc := apartS' hXc8 hT0
        have apXtT := apartS hXt8 hT0
        have apTXt := apartS' hXt8 hT0
        have apXaT := apartS hXa8 hT0
        have apTXa := apartS' hXa8 hT0
        have gbT := g8
        have hXc9 := ownS_below hXc8 hb9
        have hXt9 := ownS_below hXt8 hb9
        have hXa9 := ownS_below hXa8 hb9
        have g9 := bstep g8 hb9
        clear hb9 hXc8 hXt8 hXa8
        go_wp2_with fail
        refine (eqInts_same (Rd.of_own hXc9) (Rd.of_own hT0)).mono ?_
        rintro e w_10 ⟨rfl, hb10⟩
        have hXc10 := ownS_below hXc9 hb10
        have hXt10 := ownS_below hXt9 hb10
        have hXa10 := ownS_below hXa9 hb10
        have hT10 := ownS_below hT0 hb10
        have g10 := bstep g9 hb10
        clear hb10 hXc9 hXt9 hXa9 hT0
        clear hT10
        go_wp2_with fail
        refine (toNotes_any (Rd.below ht g10) hst).mono ?_
        rintro e w_11 ⟨vT, rfl, hT0, hb11⟩
        have apXcT := apartS hXc10 hT0
        have apTXc := apartS' hXc10 hT0
        have apXtT := apartS hXt10 hT0
        have apTXt := apartS' hXt10 hT0
        have apXaT := apartS hXa10 hT0
        have apTXa := apartS' hXa10 hT0
        have gbT := g10
        have hXc11 := ownS_below hXc10 hb11
        have hXt11 := ownS_below hXt10 hb11
        have hXa11 := ownS_below hXa10 hb11
        have g11 := bstep g10 hb11
        clear hb11 hXc10 hXt10 hXa10
        go_wp2_with fail
        refine (eqNotes_same (Rd.of_own hXt11) (Rd.of_own hT0)).mono ?_
        rintro e w_12 ⟨rfl, hb12⟩
        have hXc12 := ownS_below hXc11 hb12
        have hXt12 := ownS_below hXt11 hb12
        have hXa12 := ownS_below hXa11 hb12
        have hT12 := ownS_below hT0 hb12
        have g12 := bstep g11 hb12
        clear hb12 hXc11 hXt11 hXa11 hT0
        clear hT12
        go_wp2_with fail
        refine (toInts_any (Rd.below ha g12) hsa).mono ?_
        rintro e w_13 ⟨vT, rfl, hT0, hb13⟩
        have apXcT := apartS hXc12 hT0
        have apTXc := apartS' hXc12 hT0
        have apXtT := apartS hXt12 hT0
        have apTXt := apartS' hXt12 hT0
        have apXaT := apartS hXa12 hT0
        have apTXa := apartS' hXa12 hT0
        have gbT := g12
        have hXc13 := ownS_below hXc12 hb13
        have hXt13 := ownS_below hXt12 hb13
        have hXa13 := ownS_below hXa12 hb13
        have g13 := bstep g12 hb13
        clear hb13 hXc12 hXt12 hXa12
        go_wp2_with fail
        refine (eqInts_same (Rd.of_own hXa13) (Rd.of_own hT0)).mono ?_
        rintro e w_14 ⟨rfl, hb14⟩
        have hXc14 := ownS_below hXc13 hb14
        have hXt14 := ownS_below hXt13 hb14
        have hXa14 := ownS_below hXa13 hb14
        have hT14 := ownS_below hT0 hb14
        have g14 := bstep g13 hb14
        clear hb14 hXc13 hXt13 hXa13 hT0
        clear hT14
        go_wp2
        go_ret
        exact ⟨rfl, g14⟩
      · go_enter Try.func6, Try.ntmps6
        go_wp2_with fail
        refine (sz0_no hst hmt).mono ?_
        rintro e w0 ⟨rfl, rfl⟩
        go_wp2
        go_ret
        exact ⟨rfl, Below.refl _ _⟩
    · go_enter Try.func6, Try.ntmps6
      go_wp2
      go_ret
      exact ⟨rfl, Below.refl _ _⟩
  · go_enter Try.func6, Try.ntmps6
    go_wp2
    go_ret
    exact ⟨rfl, Below.refl _ _⟩

set_option maxHeartbeats 8000000 in
set_option maxRecDepth 100000 in
theorem exactleast_walk {w : World} {qt : Value} {t : List (Int × Int)} (r : Int) (hI : ∀ (W : World) (U0 : Value), Rc2 W U0 t → t.length ≤ 1048576 → Calls Try.prog 17 #[U0, .int .i64 r] W (NewIntsB W (leastM r t).1 (leastM r t).2)) (ht : Rd2 w qt t) :
    Calls Try.prog 7 #[qt, .int .i64 r] w fun e w' => e = .returned (.bool true) ∧ Below w.heap.size w w' := by
  obtain ⟨ad_t, cap_t, rfl⟩ := Rd.slice ht
  have hmt := ht.2.1
  unfold maxLen at hmt
  by_cases hst : t.length ≤ 1048576
  · skip
    have HI := Lib.hid (fun (W : World) (U0 : Value) (pt : Rc2 W U0 t) => hI W U0 pt hst)
    have HS := Lib.hid (fun (W : World) (U0 : Value) (pt : Rd2 W U0 t) => least_any r pt)
    clear hI
    have hbd : (leastM r t).1.length ≤ 1048576 := Nat.le_trans (leastM_len r t) (by omega)
    generalize (leastM r t).1 = R at *
    generalize (leastM r t).2 = tb at *
    go_enter Try.func7, Try.ntmps7
    go_wp2_with fail
    refine (sz0_nat hst).mono ?_
    rintro e w0 ⟨x0, hx0, hxe0, rfl, rfl⟩
    have HX0 := Lib.hid hxe0
    clear hxe0
    have g0 := Below.refl w.heap.size w
    go_wp2_with fail
    refine (toNotes_any (Rd.below ht g0) hst).mono ?_
    rintro e w_1 ⟨vPt, rfl, hPt0, hb1⟩
    have gbPt := g0
    have g1 := bstep g0 hb1
    clear hb1 
    go_wp2_with fail
    refine (HS.out _ _ (Rd.of_own hPt0)).mono ?_
    rintro e w_2 ⟨vS, rfl, hS0, hb2⟩
    have apPtS := apartS hPt0 hS0
    have apSPt := apartS' hPt0 hS0
    have gbS := g1
    have hPt2 := ownS_below hPt0 hb2
    have g2 := bstep g1 hb2
    clear hb2 hPt0
    clear hPt2
    go_wp2_with fail
    refine (toNotes_any (Rd.below ht g2) hst).mono ?_
    rintro e w_3 ⟨vXt, rfl, hXt0, hb3⟩
    have apSXt := apartS hS0 hXt0
    have apXtS := apartS' hS0 hXt0
    have gbXt := g2
    have hS3 := ownS_below hS0 hb3
    have g3 := bstep g2 hb3
    clear hb3 hS0
    go_wp2_with fail
    refine (HI.out _ _ (Rc2.of_own hXt0)).mono ?_
    rintro e w_4 ⟨vI, rfl, hI0, hb4⟩
    have apSI := apartS hS3 hI0
    have apIS := apartS' hS3 hI0
    have apXtI := apartS hXt0 hI0
    have apIXt := apartS' hXt0 hI0
    have gbI := g3
    have hS4 := ownS_below hS3 hb4
    have hXt4 := ownS_below hXt0 hb4
    have g4 := bstep g3 hb4
    clear hb4 hS3 hXt0
    go_wp2_with fail
    refine (eqInts_same (Rd.of_own hI0) (Rd.of_own hS4)).mono ?_
    rintro e w_5 ⟨rfl, hb5⟩
    have hS5 := ownS_below hS4 hb5
    have hXt5 := ownS_below hXt4 hb5
    have hI5 := ownS_below hI0 hb5
    have g5 := bstep g4 hb5
    clear hb5 hS4 hXt4 hI0
    go_wp2_with fail
    refine (toNotes_any (Rd.below ht g5) hst).mono ?_
    rintro e w_6 ⟨vT, rfl, hT0, hb6⟩
    have apST := apartS hS5 hT0
    have apTS := apartS' hS5 hT0
    have apXtT := apartS hXt5 hT0
    have apTXt := apartS' hXt5 hT0
    have apIT := apartS hI5 hT0
    have apTI := apartS' hI5 hT0
    have gbT := g5
    have hS6 := ownS_below hS5 hb6
    have hXt6 := ownS_below hXt5 hb6
    have hI6 := ownS_below hI5 hb6
    have g6 := bstep g5 hb6
    clear hb6 hS5 hXt5 hI5
    go_wp2_with fail
    refine (eqNotes_same (Rd.of_own hXt6) (Rd.of_own hT0)).mono ?_
    rintro e w_7 ⟨rfl, hb7⟩
    have hS7 := ownS_below hS6 hb7
    have hXt7 := ownS_below hXt6 hb7
    have hI7 := ownS_below hI6 hb7
    have hT7 := ownS_below hT0 hb7
    have g7 := bstep g6 hb7
    clear hb7 hS6 hXt6 hI6 hT0
    clear hT7
    go_wp2_with fail
    refine (markNotes_any (1) (by omega) hXt7).mono ?_
    rintro e w_8 ⟨rfl, hg8, _⟩
    have hS8 := World.ownsRow.kept hS7 hg8 apSXt
    have hI8 := World.ownsRow.kept hI7 hg8 apIXt
    have g8 := g7.grown hg8 g7.size (fun k hk => Nat.le_trans gbXt.size (hXt7.lt k hk).1)
    clear hg8 hXt7 hS7 hI7
    go_wp2_with fail
    refine (eqInts_same (Rd.of_own hI8) (Rd.of_own hS8)).mono ?_
    rintro e w_9 ⟨rfl, hb9⟩
    have hS9 := ownS_below hS8 hb9
    have hI9 := ownS_below hI8 hb9
    have g9 := bstep g8 hb9
    clear hb9 hS8 hI8
    go_wp2_with fail
    refine (markInts_any 1 (by omega) hI9).mono ?_
    rintro e w_10 ⟨rfl, hg10, ys, hy10, hmk10⟩
    have hS10 := World.ownsRow.kept hS9 hg10 apSI
    have g10 := g9.grown hg10 g9.size (fun k hk => Nat.le_trans gbI.size (hI9.lt k hk).1)
    have HMK := Lib.hid hmk10
    clear hmk10
    clear hg10 hI9 hS9
    go_wp2_with fail
    refine (heldInts_any 1 (by omega) (Rd.of_own hy10) HMK.out).mono ?_
    rintro e w_11 ⟨rfl, hb11⟩
    have hS11 := ownS_below hS10 hb11
    have hI11 := ownS_below hy10 hb11
    have g11 := bstep g10 hb11
    clear hb11 hS10 hy10
    go_wp2_with fail
    refine (toNotes_any (Rd.below ht g11) hst).mono ?_
    rintro e w_12 ⟨vKt, rfl, hKt0, hb12⟩
    have apSKt := apartS hS11 hKt0
    have apKtS := apartS' hS11 hKt0
    have apIKt := apartS hI11 hKt0
    have apKtI := apartS' hI11 hKt0
    have gbKt := g11
    have hS12 := ownS_below hS11 hb12
    have hI12 := ownS_below hI11 hb12
    have g12 := bstep g11 hb12
    clear hb12 hS11 hI11
    go_wp2_with fail
    refine (HI.out _ _ (Rc2.of_own hKt0)).mono ?_
    rintro e w_13 ⟨vH, rfl, hH0, hb13⟩
    have apSH := apartS hS12 hH0
    have apHS := apartS' hS12 hH0
    have apIH := apartS hI12 hH0
    have apHI := apartS' hI12 hH0
    have apKtH := apartS hKt0 hH0
    have apHKt := apartS' hKt0 hH0
    have gbH := g12
    have hS13 := ownS_below hS12 hb13
    have hI13 := ownS_below hI12 hb13
    have hKt13 := ownS_below hKt0 hb13
    have g13 := bstep g12 hb13
    clear hb13 hS12 hI12 hKt0
    clear hKt13
    go_wp2_with fail
    refine (eqInts_same (Rd.of_own hH0) (Rd.of_own hS13)).mono ?_
    rintro e w_14 ⟨rfl, hb14⟩
    have hS14 := ownS_below hS13 hb14
    have hI14 := ownS_below hI13 hb14
    have hH14 := ownS_below hH0 hb14
    have g14 := bstep g13 hb14
    clear hb14 hS13 hI13 hH0
    clear hH14
    clear hS14
    go_wp2_with fail
    refine (heldInts_any 1 (by omega) (Rd.of_own hI14) HMK.out).mono ?_
    rintro e w_15 ⟨rfl, hb15⟩
    have hI15 := ownS_below hI14 hb15
    have g15 := bstep g14 hb15
    clear hb15 hI14
    go_wp2
    go_ret
    exact ⟨rfl, g15⟩
  · go_enter Try.func7, Try.ntmps7
    go_wp2_with fail
    refine (sz0_no hst hmt).mono ?_
    rintro e w0 ⟨rfl, rfl⟩
    go_wp2
    go_ret
    exact ⟨rfl, Below.refl _ _⟩

set_option maxHeartbeats 8000000 in
set_option maxRecDepth 100000 in
theorem exactrest_walk {w : World} {qc qt : Value} {c : List Int} {t : List (Int × Int)}  (hI : ∀ (W : World) (U0 U1 : Value), Rd1 W U0 c → Rd2 W U1 t → c.length ≤ 1048576 → t.length ≤ 1048576 → Calls Try.prog 18 #[U0, U1] W (fun e w' => e = .returned (.int .i64 ((restM c t : Nat) : Int)) ∧ Below W.heap.size W w')) (hc : Rd1 w qc c) (ht : Rd2 w qt t) :
    Calls Try.prog 8 #[qc, qt] w fun e w' => e = .returned (.bool true) ∧ Below w.heap.size w w' := by
  obtain ⟨ad_c, cap_c, rfl⟩ := Rd.slice hc
  have hmc := hc.2.1
  unfold maxLen at hmc
  obtain ⟨ad_t, cap_t, rfl⟩ := Rd.slice ht
  have hmt := ht.2.1
  unfold maxLen at hmt
  by_cases hsc : c.length ≤ 1048576
  · skip
    by_cases hst : t.length ≤ 1048576
    · skip
      have HI := Lib.hid (fun (W : World) (U0 U1 : Value) (pc : Rd1 W U0 c) (pt : Rd2 W U1 t) => hI W U0 U1 pc pt hsc hst)
      have HS := Lib.hid (fun (W : World) (U0 U1 : Value) (pc : Rd1 W U0 c) (pt : Rd2 W U1 t) => rest_any pc pt)
      clear hI
      generalize ((restM c t : Nat) : Int) = r0 at *
      go_enter Try.func8, Try.ntmps8
      go_wp2_with fail
      refine (sz0_nat hst).mono ?_
      rintro e w0 ⟨x0, hx0, hxe0, rfl, rfl⟩
      have HX0 := Lib.hid hxe0
      clear hxe0
      have g0 := Below.refl w.heap.size w
      go_wp2_with fail
      refine (toInts_any (Rd.below hc g0) hsc).mono ?_
      rintro e w_1 ⟨vPc, rfl, hPc0, hb1⟩
      have gbPc := g0
      have g1 := bstep g0 hb1
      clear hb1 
      go_wp2_with fail
      refine (toNotes_any (Rd.below ht g1) hst).mono ?_
      rintro e w_2 ⟨vPt, rfl, hPt0, hb2⟩
      have apPcPt := apartS hPc0 hPt0
      have apPtPc := apartS' hPc0 hPt0
      have gbPt := g1
      have hPc2 := ownS_below hPc0 hb2
      have g2 := bstep g1 hb2
      clear hb2 hPc0
      go_wp2_with fail
      refine (HS.out _ _ _ (Rd.of_own hPc2) (Rd.of_own hPt0)).mono ?_
      rintro e w_3 ⟨rfl, hb3⟩
      have hPc3 := ownS_below hPc2 hb3
      have hPt3 := ownS_below hPt0 hb3
      have g3 := bstep g2 hb3
      clear hb3 hPc2 hPt0
      clear hPc3
      clear hPt3
      go_wp2_with fail
      refine (toInts_any (Rd.below hc g3) hsc).mono ?_
      rintro e w_4 ⟨vXc, rfl, hXc0, hb4⟩
      have gbXc := g3
      have g4 := bstep g3 hb4
      clear hb4 
      go_wp2_with fail
      refine (toNotes_any (Rd.below ht g4) hst).mono ?_
      rintro e w_5 ⟨vXt, rfl, hXt0, hb5⟩
      have apXcXt := apartS hXc0 hXt0
      have apXtXc := apartS' hXc0 hXt0
      have gbXt := g4
      have hXc5 := ownS_below hXc0 hb5
      have g5 := bstep g4 hb5
      clear hb5 hXc0
      go_wp2_with fail
      refine (HI.out _ _ _ (Rd.of_own hXc5) (Rd.of_own hXt0)).mono ?_
      rintro e w_6 ⟨rfl, hb6⟩
      have hXc6 := ownS_below hXc5 hb6
      have hXt6 := ownS_below hXt0 hb6
      have g6 := bstep g5 hb6
      clear hb6 hXc5 hXt0
      go_wp2_with fail
      refine (toInts_any (Rd.below hc g6) hsc).mono ?_
      rintro e w_7 ⟨vT, rfl, hT0, hb7⟩
      have apXcT := apartS hXc6 hT0
      have apTXc := apartS' hXc6 hT0
      have apXtT := apartS hXt6 hT0
      have apTXt := apartS' hXt6 hT0
      have gbT := g6
      have hXc7 := ownS_below hXc6 hb7
      have hXt7 := ownS_below hXt6 hb7
      have g7 := bstep g6 hb7
      clear hb7 hXc6 hXt6
      go_wp2_with fail
      refine (eqInts_same (Rd.of_own hXc7) (Rd.of_own hT0)).mono ?_
      rintro e w_8 ⟨rfl, hb8⟩
      have hXc8 := ownS_below hXc7 hb8
      have hXt8 := ownS_below hXt7 hb8
      have hT8 := ownS_below hT0 hb8
      have g8 := bstep g7 hb8
      clear hb8 hXc7 hXt7 hT0
      clear hT8
      go_wp2_with fail
      refine (toNotes_any (Rd.below ht g8) hst).mono ?_
      rintro e w_9 ⟨vT, rfl, hT0, hb9⟩
      have apXcT := apartS hXc8 hT0
      have apTXc := apartS' hXc8 hT0
      have apXtT := apartS hXt8 hT0
      have apTXt := apartS' hXt8 hT0
      have gbT := g8
      have hXc9 := ownS_below hXc8 hb9
      have hXt9 := ownS_below hXt8 hb9
      have g9 := bstep g8 hb9
      clear hb9 hXc8 hXt8
      go_wp2_with fail
      refine (eqNotes_same (Rd.of_own hXt9) (Rd.of_own hT0)).mono ?_
      rintro e w_10 ⟨rfl, hb10⟩
      have hXc10 := ownS_below hXc9 hb10
      have hXt10 := ownS_below hXt9 hb10
      have hT10 := ownS_below hT0 hb10
      have g10 := bstep g9 hb10
      clear hb10 hXc9 hXt9 hT0
      clear hT10
      go_wp2
      go_ret
      exact ⟨rfl, g10⟩
    · go_enter Try.func8, Try.ntmps8
      go_wp2_with fail
      refine (sz0_no hst hmt).mono ?_
      rintro e w0 ⟨rfl, rfl⟩
      go_wp2
      go_ret
      exact ⟨rfl, Below.refl _ _⟩
  · go_enter Try.func8, Try.ntmps8
    go_wp2
    go_ret
    exact ⟨rfl, Below.refl _ _⟩

end Go.Proofs.Ytpjkajephloipaa
