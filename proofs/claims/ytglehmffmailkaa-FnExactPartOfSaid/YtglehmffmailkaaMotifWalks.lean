/- The walks of chapter 18's exact laws. Made by mk_exact.py. -/
import Derived.Test.YtglehmffmailkaaMotifSpec2
import Derived.Test.YtglehmffmailkaaMotifSpec3
import Derived.Test.YtglehmffmailkaaMotifSpec4
import Derived.Test.YtglehmffmailkaaWalkKit
import Derived.Test.YtglehmffmailkaaIntsArg
namespace Go.Proofs.Ytglehmffmailkaa
open Go.ChangeShapes Go.WideShapes Go.ChangeAt Go.RowKit

theorem sz0_nat {w : World} {n cap : Nat} {a : Option Addr} (h : n ≤ 1048576) :
    Calls Try.prog 23 #[.slice a n cap, .int .i64 1048576] w fun e w' => ∃ x : Int, 0 ≤ x ∧ x = ((1048576 - n : Nat) : Int) ∧ e = .returned (.int .i64 x) ∧ w = w' :=
  (szNote_yes 1048576 (Nat.le_refl _) h).mono fun _ _ ⟨he, hw⟩ => ⟨_, by omega, rfl, he, hw⟩
theorem sz1_yes {w : World} {n m cap : Nat} {a : Option Addr} {x : Int} (h : m ≤ 1048576 - n) (hx : x = ((1048576 - n : Nat) : Int)) :
    Calls Try.prog 23 #[.slice a m cap, .int .i64 x] w fun e w' => ∃ y : Int, 0 ≤ y ∧ e = .returned (.int .i64 y) ∧ w = w' := by
  subst hx
  exact (szNote_yes (1048576 - n) (by omega) h).mono fun _ _ ⟨he, hw⟩ => ⟨_, by omega, he, hw⟩
theorem sz1_no {w : World} {n m cap : Nat} {a : Option Addr} {x : Int} (h : ¬ m ≤ 1048576 - n) (hx : x = ((1048576 - n : Nat) : Int)) (hm : m ≤ 9223372036854775807) :
    Calls Try.prog 23 #[.slice a m cap, .int .i64 x] w fun e w' => e = .returned (.int .i64 (-1)) ∧ w = w' := by
  subst hx
  exact szNote_no (1048576 - n) (by omega) (by omega) hm
set_option maxHeartbeats 8000000 in
set_option maxRecDepth 100000 in
theorem exactocc_walk {w : World} {qt qu : Value} {t : List (Int × Int)} {u : List (Int × Int)} (k : Int) (hI : ∀ (W : World) (U0 U1 : Value), Rc2 W U0 t → Rc2 W U1 u → t.length ≤ 1048576 → u.length ≤ 1048576 → Calls Try.prog 19 #[U0, U1, .int .i64 k] W (fun e w' => e = .returned (.bool (occI t u k)) ∧ Below W.heap.size W w')) (ht : Rd2 w qt t) (hu : Rd2 w qu u) :
    Calls Try.prog 4 #[qt, qu, .int .i64 k] w fun e w' => e = .returned (.bool true) ∧ Below w.heap.size w w' := by
  obtain ⟨ad_t, cap_t, rfl⟩ := Rd.slice ht
  have hmt := ht.2.1
  unfold maxLen at hmt
  obtain ⟨ad_u, cap_u, rfl⟩ := Rd.slice hu
  have hmu := hu.2.1
  unfold maxLen at hmu
  by_cases hst : t.length ≤ 1048576
  · skip
    by_cases hsu : u.length ≤ 1048576 - t.length
    · skip
      have hsu' : u.length ≤ 1048576 := by omega
      have HI := Lib.hid (fun (W : World) (U0 U1 : Value) (pt : Rc2 W U0 t) (pu : Rc2 W U1 u) => hI W U0 U1 pt pu hst hsu')
      have HS := Lib.hid (fun (W : World) (U0 U1 : Value) (pt : Rd2 W U0 t) (pu : Rd2 W U1 u) => occG_any k pt pu)
      clear hI
      generalize (occI t u k) = r0 at *
      go_enter Try.func4, Try.ntmps4
      go_wp2_with fail
      refine (sz0_nat hst).mono ?_
      rintro e w0 ⟨x0, hx0, hxe0, rfl, rfl⟩
      have HX0 := Lib.hid hxe0
      clear hxe0
      go_wp2_with fail
      refine (sz1_yes (x := x0) (n := t.length) hsu HX0.out).mono ?_
      rintro e w0 ⟨x1, hx1, rfl, rfl⟩
      clear HX0
      have g0 := Below.refl w.heap.size w
      go_wp2_with fail
      refine (toNotes_any (Rd.below ht g0) hst).mono ?_
      rintro e w_1 ⟨vPt, rfl, hPt0, hb1⟩
      have gbPt := g0
      have g1 := bstep g0 hb1
      clear hb1 
      go_wp2_with fail
      refine (toNotes_any (Rd.below hu g1) hsu').mono ?_
      rintro e w_2 ⟨vPu, rfl, hPu0, hb2⟩
      have apPtPu := apartS hPt0 hPu0
      have apPuPt := apartS' hPt0 hPu0
      have gbPu := g1
      have hPt2 := ownS_below hPt0 hb2
      have g2 := bstep g1 hb2
      clear hb2 hPt0
      go_wp2_with fail
      refine (HS.out _ _ _ (Rd.of_own hPt2) (Rd.of_own hPu0)).mono ?_
      rintro e w_3 ⟨rfl, hb3⟩
      have hPt3 := ownS_below hPt2 hb3
      have hPu3 := ownS_below hPu0 hb3
      have g3 := bstep g2 hb3
      clear hb3 hPt2 hPu0
      clear hPt3
      clear hPu3
      go_wp2_with fail
      refine (toNotes_any (Rd.below ht g3) hst).mono ?_
      rintro e w_4 ⟨vXt, rfl, hXt0, hb4⟩
      have gbXt := g3
      have g4 := bstep g3 hb4
      clear hb4 
      go_wp2_with fail
      refine (toNotes_any (Rd.below hu g4) hsu').mono ?_
      rintro e w_5 ⟨vXu, rfl, hXu0, hb5⟩
      have apXtXu := apartS hXt0 hXu0
      have apXuXt := apartS' hXt0 hXu0
      have gbXu := g4
      have hXt5 := ownS_below hXt0 hb5
      have g5 := bstep g4 hb5
      clear hb5 hXt0
      go_wp2_with fail
      refine (HI.out _ _ _ (Rc2.of_own hXt5) (Rc2.of_own hXu0)).mono ?_
      rintro e w_6 ⟨rfl, hb6⟩
      have hXt6 := ownS_below hXt5 hb6
      have hXu6 := ownS_below hXu0 hb6
      have g6 := bstep g5 hb6
      clear hb6 hXt5 hXu0
      go_wp2_with fail
      refine (toNotes_any (Rd.below ht g6) hst).mono ?_
      rintro e w_7 ⟨vT, rfl, hT0, hb7⟩
      have apXtT := apartS hXt6 hT0
      have apTXt := apartS' hXt6 hT0
      have apXuT := apartS hXu6 hT0
      have apTXu := apartS' hXu6 hT0
      have gbT := g6
      have hXt7 := ownS_below hXt6 hb7
      have hXu7 := ownS_below hXu6 hb7
      have g7 := bstep g6 hb7
      clear hb7 hXt6 hXu6
      go_wp2_with fail
      refine (eqNotes_same (Rd.of_own hXt7) (Rd.of_own hT0)).mono ?_
      rintro e w_8 ⟨rfl, hb8⟩
      have hXt8 := ownS_below hXt7 hb8
      have hXu8 := ownS_below hXu7 hb8
      have hT8 := ownS_below hT0 hb8
      have g8 := bstep g7 hb8
      clear hb8 hXt7 hXu7 hT0
      clear hT8
      go_wp2_with fail
      refine (toNotes_any (Rd.below hu g8) hsu').mono ?_
      rintro e w_9 ⟨vT, rfl, hT0, hb9⟩
      have apXtT := apartS hXt8 hT0
      have apTXt := apartS' hXt8 hT0
      have apXuT := apartS hXu8 hT0
      have apTXu := apartS' hXu8 hT0
      have gbT := g8
      have hXt9 := ownS_below hXt8 hb9
      have hXu9 := ownS_below hXu8 hb9
      have g9 := bstep g8 hb9
      clear hb9 hXt8 hXu8
      go_wp2_with fail
      refine (eqNotes_same (Rd.of_own hXu9) (Rd.of_own hT0)).mono ?_
      rintro e w_10 ⟨rfl, hb10⟩
      have hXt10 := ownS_below hXt9 hb10
      have hXu10 := ownS_below hXu9 hb10
      have hT10 := ownS_below hT0 hb10
      have g10 := bstep g9 hb10
      clear hb10 hXt9 hXu9 hT0
      clear hT10
      go_wp2
      go_ret
      exact ⟨rfl, g10⟩
    · go_enter Try.func4, Try.ntmps4
      go_wp2_with fail
      refine (sz0_nat hst).mono ?_
      rintro e w0 ⟨x0, hx0, hxe0, rfl, rfl⟩
      have HX0 := Lib.hid hxe0
      clear hxe0
      go_wp2_with fail
      refine (sz1_no (x := x0) (n := t.length) hsu HX0.out hmu).mono ?_
      rintro e w0 ⟨rfl, rfl⟩
      go_wp2
      go_ret
      exact ⟨rfl, Below.refl _ _⟩
  · go_enter Try.func4, Try.ntmps4
    go_wp2_with fail
    refine (sz0_no hst hmt).mono ?_
    rintro e w0 ⟨rfl, rfl⟩
    go_wp2
    go_ret
    exact ⟨rfl, Below.refl _ _⟩

set_option maxHeartbeats 8000000 in
set_option maxRecDepth 100000 in
theorem exactoccs_walk {w : World} {qt qu : Value} {t : List (Int × Int)} {u : List (Int × Int)}  (hI : ∀ (W : World) (U0 U1 : Value), Rc2 W U0 t → Rc2 W U1 u → t.length ≤ 1048576 → u.length ≤ 1048576 → Calls Try.prog 17 #[U0, U1] W (NewInts W (occsM t u))) (ht : Rd2 w qt t) (hu : Rd2 w qu u) :
    Calls Try.prog 5 #[qt, qu] w fun e w' => e = .returned (.bool true) ∧ Below w.heap.size w w' := by
  obtain ⟨ad_t, cap_t, rfl⟩ := Rd.slice ht
  have hmt := ht.2.1
  unfold maxLen at hmt
  obtain ⟨ad_u, cap_u, rfl⟩ := Rd.slice hu
  have hmu := hu.2.1
  unfold maxLen at hmu
  by_cases hst : t.length ≤ 1048576
  · skip
    by_cases hsu : u.length ≤ 1048576 - t.length
    · skip
      have hsu' : u.length ≤ 1048576 := by omega
      have HI := Lib.hid (fun (W : World) (U0 U1 : Value) (pt : Rc2 W U0 t) (pu : Rc2 W U1 u) => hI W U0 U1 pt pu hst hsu')
      have HS := Lib.hid (fun (W : World) (U0 U1 : Value) (pt : Rd2 W U0 t) (pu : Rd2 W U1 u) => occsG_any pt pu (by omega))
      clear hI
      have hbd : (occsM t u).length ≤ 1048576 := Nat.le_trans (occsM_len t u) (by omega)
      generalize (occsM t u) = R at *
      go_enter Try.func5, Try.ntmps5
      go_wp2_with fail
      refine (sz0_nat hst).mono ?_
      rintro e w0 ⟨x0, hx0, hxe0, rfl, rfl⟩
      have HX0 := Lib.hid hxe0
      clear hxe0
      go_wp2_with fail
      refine (sz1_yes (x := x0) (n := t.length) hsu HX0.out).mono ?_
      rintro e w0 ⟨x1, hx1, rfl, rfl⟩
      clear HX0
      have g0 := Below.refl w.heap.size w
      go_wp2_with fail
      refine (toNotes_any (Rd.below ht g0) hst).mono ?_
      rintro e w_1 ⟨vPt, rfl, hPt0, hb1⟩
      have gbPt := g0
      have g1 := bstep g0 hb1
      clear hb1 
      go_wp2_with fail
      refine (toNotes_any (Rd.below hu g1) hsu').mono ?_
      rintro e w_2 ⟨vPu, rfl, hPu0, hb2⟩
      have apPtPu := apartS hPt0 hPu0
      have apPuPt := apartS' hPt0 hPu0
      have gbPu := g1
      have hPt2 := ownS_below hPt0 hb2
      have g2 := bstep g1 hb2
      clear hb2 hPt0
      go_wp2_with fail
      refine (HS.out _ _ _ (Rd.of_own hPt2) (Rd.of_own hPu0)).mono ?_
      rintro e w_3 ⟨vS, rfl, hS0, hb3⟩
      have apPtS := apartS hPt2 hS0
      have apSPt := apartS' hPt2 hS0
      have apPuS := apartS hPu0 hS0
      have apSPu := apartS' hPu0 hS0
      have gbS := g2
      have hPt3 := ownS_below hPt2 hb3
      have hPu3 := ownS_below hPu0 hb3
      have g3 := bstep g2 hb3
      clear hb3 hPt2 hPu0
      clear hPt3
      clear hPu3
      go_wp2_with fail
      refine (toNotes_any (Rd.below ht g3) hst).mono ?_
      rintro e w_4 ⟨vXt, rfl, hXt0, hb4⟩
      have apSXt := apartS hS0 hXt0
      have apXtS := apartS' hS0 hXt0
      have gbXt := g3
      have hS4 := ownS_below hS0 hb4
      have g4 := bstep g3 hb4
      clear hb4 hS0
      go_wp2_with fail
      refine (toNotes_any (Rd.below hu g4) hsu').mono ?_
      rintro e w_5 ⟨vXu, rfl, hXu0, hb5⟩
      have apSXu := apartS hS4 hXu0
      have apXuS := apartS' hS4 hXu0
      have apXtXu := apartS hXt0 hXu0
      have apXuXt := apartS' hXt0 hXu0
      have gbXu := g4
      have hS5 := ownS_below hS4 hb5
      have hXt5 := ownS_below hXt0 hb5
      have g5 := bstep g4 hb5
      clear hb5 hS4 hXt0
      go_wp2_with fail
      refine (HI.out _ _ _ (Rc2.of_own hXt5) (Rc2.of_own hXu0)).mono ?_
      rintro e w_6 ⟨vI, rfl, hI0, hb6⟩
      have apSI := apartS hS5 hI0
      have apIS := apartS' hS5 hI0
      have apXtI := apartS hXt5 hI0
      have apIXt := apartS' hXt5 hI0
      have apXuI := apartS hXu0 hI0
      have apIXu := apartS' hXu0 hI0
      have gbI := g5
      have hS6 := ownS_below hS5 hb6
      have hXt6 := ownS_below hXt5 hb6
      have hXu6 := ownS_below hXu0 hb6
      have g6 := bstep g5 hb6
      clear hb6 hS5 hXt5 hXu0
      go_wp2_with fail
      refine (eqInts_same (Rd.of_own hI0) (Rd.of_own hS6)).mono ?_
      rintro e w_7 ⟨rfl, hb7⟩
      have hS7 := ownS_below hS6 hb7
      have hXt7 := ownS_below hXt6 hb7
      have hXu7 := ownS_below hXu6 hb7
      have hI7 := ownS_below hI0 hb7
      have g7 := bstep g6 hb7
      clear hb7 hS6 hXt6 hXu6 hI0
      go_wp2_with fail
      refine (toNotes_any (Rd.below ht g7) hst).mono ?_
      rintro e w_8 ⟨vT, rfl, hT0, hb8⟩
      have apST := apartS hS7 hT0
      have apTS := apartS' hS7 hT0
      have apXtT := apartS hXt7 hT0
      have apTXt := apartS' hXt7 hT0
      have apXuT := apartS hXu7 hT0
      have apTXu := apartS' hXu7 hT0
      have apIT := apartS hI7 hT0
      have apTI := apartS' hI7 hT0
      have gbT := g7
      have hS8 := ownS_below hS7 hb8
      have hXt8 := ownS_below hXt7 hb8
      have hXu8 := ownS_below hXu7 hb8
      have hI8 := ownS_below hI7 hb8
      have g8 := bstep g7 hb8
      clear hb8 hS7 hXt7 hXu7 hI7
      go_wp2_with fail
      refine (eqNotes_same (Rd.of_own hXt8) (Rd.of_own hT0)).mono ?_
      rintro e w_9 ⟨rfl, hb9⟩
      have hS9 := ownS_below hS8 hb9
      have hXt9 := ownS_below hXt8 hb9
      have hXu9 := ownS_below hXu8 hb9
      have hI9 := ownS_below hI8 hb9
      have hT9 := ownS_below hT0 hb9
      have g9 := bstep g8 hb9
      clear hb9 hS8 hXt8 hXu8 hI8 hT0
      clear hT9
      go_wp2_with fail
      refine (toNotes_any (Rd.below hu g9) hsu').mono ?_
      rintro e w_10 ⟨vT, rfl, hT0, hb10⟩
      have apST := apartS hS9 hT0
      have apTS := apartS' hS9 hT0
      have apXtT := apartS hXt9 hT0
      have apTXt := apartS' hXt9 hT0
      have apXuT := apartS hXu9 hT0
      have apTXu := apartS' hXu9 hT0
      have apIT := apartS hI9 hT0
      have apTI := apartS' hI9 hT0
      have gbT := g9
      have hS10 := ownS_below hS9 hb10
      have hXt10 := ownS_below hXt9 hb10
      have hXu10 := ownS_below hXu9 hb10
      have hI10 := ownS_below hI9 hb10
      have g10 := bstep g9 hb10
      clear hb10 hS9 hXt9 hXu9 hI9
      go_wp2_with fail
      refine (eqNotes_same (Rd.of_own hXu10) (Rd.of_own hT0)).mono ?_
      rintro e w_11 ⟨rfl, hb11⟩
      have hS11 := ownS_below hS10 hb11
      have hXt11 := ownS_below hXt10 hb11
      have hXu11 := ownS_below hXu10 hb11
      have hI11 := ownS_below hI10 hb11
      have hT11 := ownS_below hT0 hb11
      have g11 := bstep g10 hb11
      clear hb11 hS10 hXt10 hXu10 hI10 hT0
      clear hT11
      go_wp2_with fail
      refine (markNotes_any (1) (by omega) hXt11).mono ?_
      rintro e w_12 ⟨rfl, hg12, _⟩
      have hS12 := World.ownsRow.kept hS11 hg12 apSXt
      have hXu12 := World.ownsRow.kept hXu11 hg12 apXuXt
      have hI12 := World.ownsRow.kept hI11 hg12 apIXt
      have g12 := g11.grown hg12 g11.size (fun k hk => Nat.le_trans gbXt.size (hXt11.lt k hk).1)
      clear hg12 hXt11 hS11 hXu11 hI11
      go_wp2_with fail
      refine (markNotes_any (1 + t.length * 2) (by omega) hXu12).mono ?_
      rintro e w_13 ⟨rfl, hg13, _⟩
      have hS13 := World.ownsRow.kept hS12 hg13 apSXu
      have hI13 := World.ownsRow.kept hI12 hg13 apIXu
      have g13 := g12.grown hg13 g12.size (fun k hk => Nat.le_trans gbXu.size (hXu12.lt k hk).1)
      clear hg13 hXu12 hS12 hI12
      go_wp2_with fail
      refine (eqInts_same (Rd.of_own hI13) (Rd.of_own hS13)).mono ?_
      rintro e w_14 ⟨rfl, hb14⟩
      have hS14 := ownS_below hS13 hb14
      have hI14 := ownS_below hI13 hb14
      have g14 := bstep g13 hb14
      clear hb14 hS13 hI13
      go_wp2_with fail
      refine (markInts_any 1 (by omega) hI14).mono ?_
      rintro e w_15 ⟨rfl, hg15, ys, hy15, hmk15⟩
      have hS15 := World.ownsRow.kept hS14 hg15 apSI
      have g15 := g14.grown hg15 g14.size (fun k hk => Nat.le_trans gbI.size (hI14.lt k hk).1)
      have HMK := Lib.hid hmk15
      clear hmk15
      clear hg15 hI14 hS14
      go_wp2_with fail
      refine (heldInts_any 1 (by omega) (Rd.of_own hy15) HMK.out).mono ?_
      rintro e w_16 ⟨rfl, hb16⟩
      have hS16 := ownS_below hS15 hb16
      have hI16 := ownS_below hy15 hb16
      have g16 := bstep g15 hb16
      clear hb16 hS15 hy15
      go_wp2_with fail
      refine (toNotes_any (Rd.below ht g16) hst).mono ?_
      rintro e w_17 ⟨vKt, rfl, hKt0, hb17⟩
      have apSKt := apartS hS16 hKt0
      have apKtS := apartS' hS16 hKt0
      have apIKt := apartS hI16 hKt0
      have apKtI := apartS' hI16 hKt0
      have gbKt := g16
      have hS17 := ownS_below hS16 hb17
      have hI17 := ownS_below hI16 hb17
      have g17 := bstep g16 hb17
      clear hb17 hS16 hI16
      go_wp2_with fail
      refine (toNotes_any (Rd.below hu g17) hsu').mono ?_
      rintro e w_18 ⟨vKu, rfl, hKu0, hb18⟩
      have apSKu := apartS hS17 hKu0
      have apKuS := apartS' hS17 hKu0
      have apIKu := apartS hI17 hKu0
      have apKuI := apartS' hI17 hKu0
      have apKtKu := apartS hKt0 hKu0
      have apKuKt := apartS' hKt0 hKu0
      have gbKu := g17
      have hS18 := ownS_below hS17 hb18
      have hI18 := ownS_below hI17 hb18
      have hKt18 := ownS_below hKt0 hb18
      have g18 := bstep g17 hb18
      clear hb18 hS17 hI17 hKt0
      go_wp2_with fail
      refine (HI.out _ _ _ (Rc2.of_own hKt18) (Rc2.of_own hKu0)).mono ?_
      rintro e w_19 ⟨vH, rfl, hH0, hb19⟩
      have apSH := apartS hS18 hH0
      have apHS := apartS' hS18 hH0
      have apIH := apartS hI18 hH0
      have apHI := apartS' hI18 hH0
      have apKtH := apartS hKt18 hH0
      have apHKt := apartS' hKt18 hH0
      have apKuH := apartS hKu0 hH0
      have apHKu := apartS' hKu0 hH0
      have gbH := g18
      have hS19 := ownS_below hS18 hb19
      have hI19 := ownS_below hI18 hb19
      have hKt19 := ownS_below hKt18 hb19
      have hKu19 := ownS_below hKu0 hb19
      have g19 := bstep g18 hb19
      clear hb19 hS18 hI18 hKt18 hKu0
      clear hKt19
      clear hKu19
      go_wp2_with fail
      refine (eqInts_same (Rd.of_own hH0) (Rd.of_own hS19)).mono ?_
      rintro e w_20 ⟨rfl, hb20⟩
      have hS20 := ownS_below hS19 hb20
      have hI20 := ownS_below hI19 hb20
      have hH20 := ownS_below hH0 hb20
      have g20 := bstep g19 hb20
      clear hb20 hS19 hI19 hH0
      clear hH20
      clear hS20
      go_wp2_with fail
      refine (heldInts_any 1 (by omega) (Rd.of_own hI20) HMK.out).mono ?_
      rintro e w_21 ⟨rfl, hb21⟩
      have hI21 := ownS_below hI20 hb21
      have g21 := bstep g20 hb21
      clear hb21 hI20
      go_wp2
      go_ret
      exact ⟨rfl, g21⟩
    · go_enter Try.func5, Try.ntmps5
      go_wp2_with fail
      refine (sz0_nat hst).mono ?_
      rintro e w0 ⟨x0, hx0, hxe0, rfl, rfl⟩
      have HX0 := Lib.hid hxe0
      clear hxe0
      go_wp2_with fail
      refine (sz1_no (x := x0) (n := t.length) hsu HX0.out hmu).mono ?_
      rintro e w0 ⟨rfl, rfl⟩
      go_wp2
      go_ret
      exact ⟨rfl, Below.refl _ _⟩
  · go_enter Try.func5, Try.ntmps5
    go_wp2_with fail
    refine (sz0_no hst hmt).mono ?_
    rintro e w0 ⟨rfl, rfl⟩
    go_wp2
    go_ret
    exact ⟨rfl, Below.refl _ _⟩

set_option maxHeartbeats 8000000 in
set_option maxRecDepth 100000 in
theorem exactlong_walk {w : World} {ql : Value} {l : List (Int × Int)}  (hI : ∀ (W : World) (U0 : Value), Rc2 W U0 l → l.length ≤ 1048576 → Calls Try.prog 13 #[U0] W (fun e w' => e = .returned (.int .i64 (longI l)) ∧ Below W.heap.size W w')) (hl : Rd2 w ql l) :
    Calls Try.prog 6 #[ql] w fun e w' => e = .returned (.bool true) ∧ Below w.heap.size w w' := by
  obtain ⟨ad_l, cap_l, rfl⟩ := Rd.slice hl
  have hml := hl.2.1
  unfold maxLen at hml
  by_cases hsl : l.length ≤ 1048576
  · skip
    have HI := Lib.hid (fun (W : World) (U0 : Value) (pl : Rc2 W U0 l) => hI W U0 pl hsl)
    have HS := Lib.hid (fun (W : World) (U0 : Value) (pl : Rc2 W U0 l) => longG_any pl)
    clear hI
    generalize (longI l) = r0 at *
    go_enter Try.func6, Try.ntmps6
    go_wp2_with fail
    refine (sz0_nat hsl).mono ?_
    rintro e w0 ⟨x0, hx0, hxe0, rfl, rfl⟩
    have HX0 := Lib.hid hxe0
    clear hxe0
    have g0 := Below.refl w.heap.size w
    go_wp2_with fail
    refine (toNotes_any (Rd.below hl g0) hsl).mono ?_
    rintro e w_1 ⟨vPl, rfl, hPl0, hb1⟩
    have gbPl := g0
    have g1 := bstep g0 hb1
    clear hb1 
    go_wp2_with fail
    refine (HS.out _ _ (Rc2.of_own hPl0)).mono ?_
    rintro e w_2 ⟨rfl, hb2⟩
    have hPl2 := ownS_below hPl0 hb2
    have g2 := bstep g1 hb2
    clear hb2 hPl0
    clear hPl2
    go_wp2_with fail
    refine (toNotes_any (Rd.below hl g2) hsl).mono ?_
    rintro e w_3 ⟨vXl, rfl, hXl0, hb3⟩
    have gbXl := g2
    have g3 := bstep g2 hb3
    clear hb3 
    go_wp2_with fail
    refine (HI.out _ _ (Rc2.of_own hXl0)).mono ?_
    rintro e w_4 ⟨rfl, hb4⟩
    have hXl4 := ownS_below hXl0 hb4
    have g4 := bstep g3 hb4
    clear hb4 hXl0
    go_wp2_with fail
    refine (toNotes_any (Rd.below hl g4) hsl).mono ?_
    rintro e w_5 ⟨vT, rfl, hT0, hb5⟩
    have apXlT := apartS hXl4 hT0
    have apTXl := apartS' hXl4 hT0
    have gbT := g4
    have hXl5 := ownS_below hXl4 hb5
    have g5 := bstep g4 hb5
    clear hb5 hXl4
    go_wp2_with fail
    refine (eqNotes_same (Rd.of_own hXl5) (Rd.of_own hT0)).mono ?_
    rintro e w_6 ⟨rfl, hb6⟩
    have hXl6 := ownS_below hXl5 hb6
    have hT6 := ownS_below hT0 hb6
    have g6 := bstep g5 hb6
    clear hb6 hXl5 hT0
    clear hT6
    go_wp2
    go_ret
    exact ⟨rfl, g6⟩
  · go_enter Try.func6, Try.ntmps6
    go_wp2_with fail
    refine (sz0_no hsl hml).mono ?_
    rintro e w0 ⟨rfl, rfl⟩
    go_wp2
    go_ret
    exact ⟨rfl, Below.refl _ _⟩

set_option maxHeartbeats 8000000 in
set_option maxRecDepth 100000 in
theorem exactcount_walk {w : World} {ql : Value} {l : List (Int × Int)} (n : Int) (hI : ∀ (W : World) (U0 : Value), Rc2 W U0 l → l.length ≤ 1048576 → Calls Try.prog 14 #[U0, .int .i64 n] W (fun e w' => e = .returned (.int .i64 (countI l n)) ∧ Below W.heap.size W w')) (hl : Rd2 w ql l) :
    Calls Try.prog 7 #[ql, .int .i64 n] w fun e w' => e = .returned (.bool true) ∧ Below w.heap.size w w' := by
  obtain ⟨ad_l, cap_l, rfl⟩ := Rd.slice hl
  have hml := hl.2.1
  unfold maxLen at hml
  by_cases hsl : l.length ≤ 1048576
  · skip
    have HI := Lib.hid (fun (W : World) (U0 : Value) (pl : Rc2 W U0 l) => hI W U0 pl hsl)
    have HS := Lib.hid (fun (W : World) (U0 : Value) (pl : Rc2 W U0 l) => cntG_any n pl)
    clear hI
    generalize (countI l n) = r0 at *
    go_enter Try.func7, Try.ntmps7
    go_wp2_with fail
    refine (sz0_nat hsl).mono ?_
    rintro e w0 ⟨x0, hx0, hxe0, rfl, rfl⟩
    have HX0 := Lib.hid hxe0
    clear hxe0
    have g0 := Below.refl w.heap.size w
    go_wp2_with fail
    refine (toNotes_any (Rd.below hl g0) hsl).mono ?_
    rintro e w_1 ⟨vPl, rfl, hPl0, hb1⟩
    have gbPl := g0
    have g1 := bstep g0 hb1
    clear hb1 
    go_wp2_with fail
    refine (HS.out _ _ (Rc2.of_own hPl0)).mono ?_
    rintro e w_2 ⟨rfl, hb2⟩
    have hPl2 := ownS_below hPl0 hb2
    have g2 := bstep g1 hb2
    clear hb2 hPl0
    clear hPl2
    go_wp2_with fail
    refine (toNotes_any (Rd.below hl g2) hsl).mono ?_
    rintro e w_3 ⟨vXl, rfl, hXl0, hb3⟩
    have gbXl := g2
    have g3 := bstep g2 hb3
    clear hb3 
    go_wp2_with fail
    refine (HI.out _ _ (Rc2.of_own hXl0)).mono ?_
    rintro e w_4 ⟨rfl, hb4⟩
    have hXl4 := ownS_below hXl0 hb4
    have g4 := bstep g3 hb4
    clear hb4 hXl0
    go_wp2_with fail
    refine (toNotes_any (Rd.below hl g4) hsl).mono ?_
    rintro e w_5 ⟨vT, rfl, hT0, hb5⟩
    have apXlT := apartS hXl4 hT0
    have apTXl := apartS' hXl4 hT0
    have gbT := g4
    have hXl5 := ownS_below hXl4 hb5
    have g5 := bstep g4 hb5
    clear hb5 hXl4
    go_wp2_with fail
    refine (eqNotes_same (Rd.of_own hXl5) (Rd.of_own hT0)).mono ?_
    rintro e w_6 ⟨rfl, hb6⟩
    have hXl6 := ownS_below hXl5 hb6
    have hT6 := ownS_below hT0 hb6
    have g6 := bstep g5 hb6
    clear hb6 hXl5 hT0
    clear hT6
    go_wp2
    go_ret
    exact ⟨rfl, g6⟩
  · go_enter Try.func7, Try.ntmps7
    go_wp2_with fail
    refine (sz0_no hsl hml).mono ?_
    rintro e w0 ⟨rfl, rfl⟩
    go_wp2
    go_ret
    exact ⟨rfl, Below.refl _ _⟩

set_option maxHeartbeats 8000000 in
set_option maxRecDepth 100000 in
theorem exactpart18_walk {w : World} {ql : Value} {l : List (Int × Int)} (f : Int) (n : Int) (hI : ∀ (W : World) (U0 : Value), Rc2 W U0 l → l.length ≤ 1048576 → Calls Try.prog 16 #[U0, .int .i64 f, .int .i64 n] W (NewNotesB W (partM l f n).1 (partM l f n).2)) (hl : Rd2 w ql l) :
    Calls Try.prog 8 #[ql, .int .i64 f, .int .i64 n] w fun e w' => e = .returned (.bool true) ∧ Below w.heap.size w w' := by
  obtain ⟨ad_l, cap_l, rfl⟩ := Rd.slice hl
  have hml := hl.2.1
  unfold maxLen at hml
  by_cases hsl : l.length ≤ 1048576
  · skip
    have HI := Lib.hid (fun (W : World) (U0 : Value) (pl : Rc2 W U0 l) => hI W U0 pl hsl)
    have HS := Lib.hid (fun (W : World) (U0 : Value) (pl : Rc2 W U0 l) => partG18_any f n pl)
    clear hI
    have hbd : (partM l f n).1.length ≤ 1048576 := Nat.le_trans (partM_len l f n) (by omega)
    generalize (partM l f n).1 = R at *
    generalize (partM l f n).2 = tb at *
    go_enter Try.func8, Try.ntmps8
    go_wp2_with fail
    refine (sz0_nat hsl).mono ?_
    rintro e w0 ⟨x0, hx0, hxe0, rfl, rfl⟩
    have HX0 := Lib.hid hxe0
    clear hxe0
    have g0 := Below.refl w.heap.size w
    go_wp2_with fail
    refine (toNotes_any (Rd.below hl g0) hsl).mono ?_
    rintro e w_1 ⟨vPl, rfl, hPl0, hb1⟩
    have gbPl := g0
    have g1 := bstep g0 hb1
    clear hb1 
    go_wp2_with fail
    refine (HS.out _ _ (Rc2.of_own hPl0)).mono ?_
    rintro e w_2 ⟨vS, rfl, hS0, hb2⟩
    have apPlS := apartS hPl0 hS0
    have apSPl := apartS' hPl0 hS0
    have gbS := g1
    have hPl2 := ownS_below hPl0 hb2
    have g2 := bstep g1 hb2
    clear hb2 hPl0
    clear hPl2
    go_wp2_with fail
    refine (toNotes_any (Rd.below hl g2) hsl).mono ?_
    rintro e w_3 ⟨vXl, rfl, hXl0, hb3⟩
    have apSXl := apartS hS0 hXl0
    have apXlS := apartS' hS0 hXl0
    have gbXl := g2
    have hS3 := ownS_below hS0 hb3
    have g3 := bstep g2 hb3
    clear hb3 hS0
    go_wp2_with fail
    refine (HI.out _ _ (Rc2.of_own hXl0)).mono ?_
    rintro e w_4 ⟨vI, rfl, hI0, hb4⟩
    have apSI := apartS hS3 hI0
    have apIS := apartS' hS3 hI0
    have apXlI := apartS hXl0 hI0
    have apIXl := apartS' hXl0 hI0
    have gbI := g3
    have hS4 := ownS_below hS3 hb4
    have hXl4 := ownS_below hXl0 hb4
    have g4 := bstep g3 hb4
    clear hb4 hS3 hXl0
    go_wp2_with fail
    refine (eqNotes_same (Rd.of_own hI0) (Rd.of_own hS4)).mono ?_
    rintro e w_5 ⟨rfl, hb5⟩
    have hS5 := ownS_below hS4 hb5
    have hXl5 := ownS_below hXl4 hb5
    have hI5 := ownS_below hI0 hb5
    have g5 := bstep g4 hb5
    clear hb5 hS4 hXl4 hI0
    go_wp2_with fail
    refine (toNotes_any (Rd.below hl g5) hsl).mono ?_
    rintro e w_6 ⟨vT, rfl, hT0, hb6⟩
    have apST := apartS hS5 hT0
    have apTS := apartS' hS5 hT0
    have apXlT := apartS hXl5 hT0
    have apTXl := apartS' hXl5 hT0
    have apIT := apartS hI5 hT0
    have apTI := apartS' hI5 hT0
    have gbT := g5
    have hS6 := ownS_below hS5 hb6
    have hXl6 := ownS_below hXl5 hb6
    have hI6 := ownS_below hI5 hb6
    have g6 := bstep g5 hb6
    clear hb6 hS5 hXl5 hI5
    go_wp2_with fail
    refine (eqNotes_same (Rd.of_own hXl6) (Rd.of_own hT0)).mono ?_
    rintro e w_7 ⟨rfl, hb7⟩
    have hS7 := ownS_below hS6 hb7
    have hXl7 := ownS_below hXl6 hb7
    have hI7 := ownS_below hI6 hb7
    have hT7 := ownS_below hT0 hb7
    have g7 := bstep g6 hb7
    clear hb7 hS6 hXl6 hI6 hT0
    clear hT7
    go_wp2_with fail
    refine (markNotes_any (1) (by omega) hXl7).mono ?_
    rintro e w_8 ⟨rfl, hg8, _⟩
    have hS8 := World.ownsRow.kept hS7 hg8 apSXl
    have hI8 := World.ownsRow.kept hI7 hg8 apIXl
    have g8 := g7.grown hg8 g7.size (fun k hk => Nat.le_trans gbXl.size (hXl7.lt k hk).1)
    clear hg8 hXl7 hS7 hI7
    go_wp2_with fail
    refine (eqNotes_same (Rd.of_own hI8) (Rd.of_own hS8)).mono ?_
    rintro e w_9 ⟨rfl, hb9⟩
    have hS9 := ownS_below hS8 hb9
    have hI9 := ownS_below hI8 hb9
    have g9 := bstep g8 hb9
    clear hb9 hS8 hI8
    go_wp2_with fail
    refine (markNotes_any 1 (by omega) hI9).mono ?_
    rintro e w_10 ⟨rfl, hg10, ys, hy10, hmk10⟩
    have hS10 := World.ownsRow.kept hS9 hg10 apSI
    have g10 := g9.grown hg10 g9.size (fun k hk => Nat.le_trans gbI.size (hI9.lt k hk).1)
    have HMK := Lib.hid hmk10
    clear hmk10
    clear hg10 hI9 hS9
    go_wp2_with fail
    refine (heldNotes_any 1 (by omega) (Rd.of_own hy10) HMK.out).mono ?_
    rintro e w_11 ⟨rfl, hb11⟩
    have hS11 := ownS_below hS10 hb11
    have hI11 := ownS_below hy10 hb11
    have g11 := bstep g10 hb11
    clear hb11 hS10 hy10
    go_wp2_with fail
    refine (toNotes_any (Rd.below hl g11) hsl).mono ?_
    rintro e w_12 ⟨vKl, rfl, hKl0, hb12⟩
    have apSKl := apartS hS11 hKl0
    have apKlS := apartS' hS11 hKl0
    have apIKl := apartS hI11 hKl0
    have apKlI := apartS' hI11 hKl0
    have gbKl := g11
    have hS12 := ownS_below hS11 hb12
    have hI12 := ownS_below hI11 hb12
    have g12 := bstep g11 hb12
    clear hb12 hS11 hI11
    go_wp2_with fail
    refine (HI.out _ _ (Rc2.of_own hKl0)).mono ?_
    rintro e w_13 ⟨vH, rfl, hH0, hb13⟩
    have apSH := apartS hS12 hH0
    have apHS := apartS' hS12 hH0
    have apIH := apartS hI12 hH0
    have apHI := apartS' hI12 hH0
    have apKlH := apartS hKl0 hH0
    have apHKl := apartS' hKl0 hH0
    have gbH := g12
    have hS13 := ownS_below hS12 hb13
    have hI13 := ownS_below hI12 hb13
    have hKl13 := ownS_below hKl0 hb13
    have g13 := bstep g12 hb13
    clear hb13 hS12 hI12 hKl0
    clear hKl13
    go_wp2_with fail
    refine (eqNotes_same (Rd.of_own hH0) (Rd.of_own hS13)).mono ?_
    rintro e w_14 ⟨rfl, hb14⟩
    have hS14 := ownS_below hS13 hb14
    have hI14 := ownS_below hI13 hb14
    have hH14 := ownS_below hH0 hb14
    have g14 := bstep g13 hb14
    clear hb14 hS13 hI13 hH0
    clear hH14
    clear hS14
    go_wp2_with fail
    refine (heldNotes_any 1 (by omega) (Rd.of_own hI14) HMK.out).mono ?_
    rintro e w_15 ⟨rfl, hb15⟩
    have hI15 := ownS_below hI14 hb15
    have g15 := bstep g14 hb15
    clear hb15 hI14
    go_wp2
    go_ret
    exact ⟨rfl, g15⟩
  · go_enter Try.func8, Try.ntmps8
    go_wp2_with fail
    refine (sz0_no hsl hml).mono ?_
    rintro e w0 ⟨rfl, rfl⟩
    go_wp2
    go_ret
    exact ⟨rfl, Below.refl _ _⟩

end Go.Proofs.Ytglehmffmailkaa
