/- The walks of the laws FnExactJoinTunes and FnExactSameTune: THE PROGRAM'S OWN CONTRACT IS A PREMISE (hI). Made by mk_two.py. -/
import Derived.Test.YtglehmffmailkaaSameSpec
import Derived.Test.YtglehmffmailkaaWalkKit
namespace Go.Proofs.Ytglehmffmailkaa
open Go.ChangeShapes Go.WideShapes Go.ChangeAt Go.RowKit

theorem sz0_nat {w : World} {n cap : Nat} {a : Option Addr} (h : n ≤ 1048576) :
    Calls Try.prog 23 #[.slice a n cap, .int .i64 1048576] w fun e w' => ∃ x : Int, 0 ≤ x ∧ x = ((1048576 - n : Nat) : Int) ∧ e = .returned (.int .i64 x) ∧ w = w' :=
  (szNote_yes 1048576 (Nat.le_refl _) h).mono fun _ _ ⟨he, hw⟩ => ⟨_, by omega, rfl, he, hw⟩
theorem sz1_yes {w : World} {n m cap : Nat} {a : Option Addr} {x : Int} (h : m ≤ 1048576 - n) (hx : x = ((1048576 - n : Nat) : Int)) :
    Calls Try.prog 23 #[.slice a m cap, .int .i64 x] w fun e w' => ∃ y : Int, 0 ≤ y ∧ e = .returned (.int .i64 y) ∧ w = w' := by
  subst hx
  exact (szNote_yes (1048576 - n) (by omega) h).mono fun _ _ ⟨he, hw⟩ => ⟨_, by omega, he, hw⟩
theorem sz1_no {w : World} {n m cap : Nat} {a : Option Addr} {x : Int} (h : ¬ m ≤ 1048576 - n) (hx : x = ((1048576 - n : Nat) : Int)) (hm : m ≤ 9223372036854775807) :
    Calls Try.prog 23 #[.slice a m cap, .int .i64 x] w fun e w' => e = .returned (.int .i64 (-1)) ∧ w = w' := by
  subst hx
  exact szNote_no (1048576 - n) (by omega) (by omega) hm
set_option maxHeartbeats 1000000 in
set_option maxRecDepth 100000 in
theorem exactsame_walk {w : World} {va vb : Value} {la lb : List (Int × Int)} (hI : ∀ (W : World) (U V : Value), Rd2 W U la → Rd2 W V lb → la.length ≤ 1048576 → lb.length ≤ 1048576 → Calls Try.prog 37 #[U, V] W (fun e w' => e = .returned (.bool (sameM la lb)) ∧ Below W.heap.size W w')) (ha : Rd2 w va la) (hb : Rd2 w vb lb) :
    Calls Try.prog 9 #[va, vb] w fun e w' => e = .returned (.bool true) ∧ Below w.heap.size w w' := by
  obtain ⟨a1, cap1, rfl⟩ := Rd.slice ha
  obtain ⟨a2, cap2, rfl⟩ := Rd.slice hb
  have hma := ha.2.1
  have hmb := hb.2.1
  unfold maxLen at hma hmb
  by_cases hsa : la.length ≤ 1048576
  · by_cases hsab : lb.length ≤ 1048576 - la.length
    · have hsb : lb.length ≤ 1048576 := by omega
      have HI := Lib.hid (fun (W : World) (U V : Value) (hU : Rd2 W U la) (hV : Rd2 W V lb) => hI W U V hU hV hsa hsb)
      have HS := Lib.hid (fun (W : World) (U V : Value) (hU : Rd2 W U la) (hV : Rd2 W V lb) => same_any hU hV)
      clear hI
      generalize sameM la lb = tb at *
      go_enter Try.func9, Try.ntmps9
      go_wp2_with fail
      refine (sz0_nat hsa).mono ?_
      rintro e w0 ⟨x, hx, hxe, rfl, rfl⟩
      have HX := Lib.hid hxe
      clear hxe
      go_wp2_with fail
      refine (sz1_yes (x := x) (n := la.length) hsab HX.out).mono ?_
      rintro e w0 ⟨y, hy, rfl, rfl⟩
      clear HX
      have g0 := Below.refl w.heap.size w
      go_wp2_with fail
      refine (toNotes_any (Rd.below ha g0) hsa).mono ?_
      rintro e w_1 ⟨vP, rfl, hP0, hb1⟩
      have gbP := g0
      have g1 := bstep g0 hb1
      clear hb1 
      go_wp2_with fail
      refine (toNotes_any (Rd.below hb g1) hsb).mono ?_
      rintro e w_2 ⟨vQ, rfl, hQ0, hb2⟩
      have apPQ := apartS hP0 hQ0
      have apQP := apartS' hP0 hQ0
      have gbQ := g1
      have hP2 := ownS_below hP0 hb2
      have g2 := bstep g1 hb2
      clear hb2 hP0
      go_wp2_with fail
      refine (HS.out _ _ _ (Rd.of_own hP2) (Rd.of_own hQ0)).mono ?_
      rintro e w_3 ⟨rfl, hb3⟩
      have hP3 := ownS_below hP2 hb3
      have hQ3 := ownS_below hQ0 hb3
      have g3 := bstep g2 hb3
      clear hb3 hP2 hQ0
      clear hP3
      clear hQ3
      go_wp2_with fail
      refine (toNotes_any (Rd.below ha g3) hsa).mono ?_
      rintro e w_4 ⟨vX, rfl, hX0, hb4⟩
      have gbX := g3
      have g4 := bstep g3 hb4
      clear hb4 
      go_wp2_with fail
      refine (toNotes_any (Rd.below hb g4) hsb).mono ?_
      rintro e w_5 ⟨vY, rfl, hY0, hb5⟩
      have apXY := apartS hX0 hY0
      have apYX := apartS' hX0 hY0
      have gbY := g4
      have hX5 := ownS_below hX0 hb5
      have g5 := bstep g4 hb5
      clear hb5 hX0
      go_wp2_with fail
      refine (HI.out _ _ _ (Rd.of_own hX5) (Rd.of_own hY0)).mono ?_
      rintro e w_6 ⟨rfl, hb6⟩
      have hX6 := ownS_below hX5 hb6
      have hY6 := ownS_below hY0 hb6
      have g6 := bstep g5 hb6
      clear hb6 hX5 hY0
      go_wp2_with fail
      refine (toNotes_any (Rd.below ha g6) hsa).mono ?_
      rintro e w_7 ⟨vT, rfl, hT0, hb7⟩
      have apXT := apartS hX6 hT0
      have apTX := apartS' hX6 hT0
      have apYT := apartS hY6 hT0
      have apTY := apartS' hY6 hT0
      have gbT := g6
      have hX7 := ownS_below hX6 hb7
      have hY7 := ownS_below hY6 hb7
      have g7 := bstep g6 hb7
      clear hb7 hX6 hY6
      go_wp2_with fail
      refine (eqNotes_same (Rd.of_own hX7) (Rd.of_own hT0)).mono ?_
      rintro e w_8 ⟨rfl, hb8⟩
      have hX8 := ownS_below hX7 hb8
      have hY8 := ownS_below hY7 hb8
      have hT8 := ownS_below hT0 hb8
      have g8 := bstep g7 hb8
      clear hb8 hX7 hY7 hT0
      clear hT8
      go_wp2_with fail
      refine (toNotes_any (Rd.below hb g8) hsb).mono ?_
      rintro e w_9 ⟨vZ, rfl, hZ0, hb9⟩
      have apXZ := apartS hX8 hZ0
      have apZX := apartS' hX8 hZ0
      have apYZ := apartS hY8 hZ0
      have apZY := apartS' hY8 hZ0
      have gbZ := g8
      have hX9 := ownS_below hX8 hb9
      have hY9 := ownS_below hY8 hb9
      have g9 := bstep g8 hb9
      clear hb9 hX8 hY8
      go_wp2_with fail
      refine (eqNotes_same (Rd.of_own hY9) (Rd.of_own hZ0)).mono ?_
      rintro e w_10 ⟨rfl, hb10⟩
      have hX10 := ownS_below hX9 hb10
      have hY10 := ownS_below hY9 hb10
      have hZ10 := ownS_below hZ0 hb10
      have g10 := bstep g9 hb10
      clear hb10 hX9 hY9 hZ0
      clear hZ10
      go_wp2
      go_ret
      exact ⟨rfl, g10⟩
    · go_enter Try.func9, Try.ntmps9
      go_wp2_with fail
      refine (sz0_nat hsa).mono ?_
      rintro e w0 ⟨x, hx, hxe, rfl, rfl⟩
      have HX := Lib.hid hxe
      clear hxe
      go_wp2_with fail
      refine (sz1_no (x := x) (n := la.length) hsab HX.out hmb).mono ?_
      rintro e w0 ⟨rfl, rfl⟩
      go_wp2
      go_ret
      exact ⟨rfl, Below.refl _ _⟩
  · go_enter Try.func9, Try.ntmps9
    go_wp2_with fail
    refine (sz0_no hsa hma).mono ?_
    rintro e w0 ⟨rfl, rfl⟩
    go_wp2
    go_ret
    exact ⟨rfl, Below.refl _ _⟩

end Go.Proofs.Ytglehmffmailkaa

