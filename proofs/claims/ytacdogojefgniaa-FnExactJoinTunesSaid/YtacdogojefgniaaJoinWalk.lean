/- The walks of the laws FnExactJoinTunes and FnExactSameTune: THE PROGRAM'S OWN CONTRACT IS A PREMISE (hI). Made by mk_two.py. -/
import Derived.Test.YtacdogojefgniaaJoinSpec
import Derived.Test.YtacdogojefgniaaWalkKit
namespace Go.Proofs.Ytacdogojefgniaa
open Go.ChangeShapes Go.WideShapes Go.ChangeAt Go.RowKit

theorem sz0_nat {w : World} {n cap : Nat} {a : Option Addr} (h : n ≤ 1048576) :
    Calls Try.prog 15 #[.slice a n cap, .int .i64 1048576] w fun e w' => ∃ x : Int, 0 ≤ x ∧ x = ((1048576 - n : Nat) : Int) ∧ e = .returned (.int .i64 x) ∧ w = w' :=
  (szNote_yes 1048576 (Nat.le_refl _) h).mono fun _ _ ⟨he, hw⟩ => ⟨_, by omega, rfl, he, hw⟩
theorem sz1_yes {w : World} {n m cap : Nat} {a : Option Addr} {x : Int} (h : m ≤ 1048576 - n) (hx : x = ((1048576 - n : Nat) : Int)) :
    Calls Try.prog 15 #[.slice a m cap, .int .i64 x] w fun e w' => ∃ y : Int, 0 ≤ y ∧ e = .returned (.int .i64 y) ∧ w = w' := by
  subst hx
  exact (szNote_yes (1048576 - n) (by omega) h).mono fun _ _ ⟨he, hw⟩ => ⟨_, by omega, he, hw⟩
theorem sz1_no {w : World} {n m cap : Nat} {a : Option Addr} {x : Int} (h : ¬ m ≤ 1048576 - n) (hx : x = ((1048576 - n : Nat) : Int)) (hm : m ≤ 9223372036854775807) :
    Calls Try.prog 15 #[.slice a m cap, .int .i64 x] w fun e w' => e = .returned (.int .i64 (-1)) ∧ w = w' := by
  subst hx
  exact szNote_no (1048576 - n) (by omega) (by omega) hm
theorem joinM_len (a b : List (Int × Int)) : (joinM a b).1.length ≤ 40 := by
  unfold joinM; split
  · rename_i h; exact Nat.le_trans (sortM_len _) h.2.2
  · simp

set_option maxHeartbeats 4000000 in
set_option maxRecDepth 100000 in
theorem exactjoin_walk {w : World} {va vb : Value} {la lb : List (Int × Int)} (hI : ∀ (W : World) (U V : Value), Rd2 W U la → Rd2 W V lb → la.length ≤ 1048576 → lb.length ≤ 1048576 → Calls Try.prog 48 #[U, V] W (NewNotesB W (joinM la lb).1 (joinM la lb).2)) (ha : Rd2 w va la) (hb : Rd2 w vb lb) :
    Calls Try.prog 13 #[va, vb] w fun e w' => e = .returned (.bool true) ∧ Below w.heap.size w w' := by
  obtain ⟨a1, cap1, rfl⟩ := Rd.slice ha
  obtain ⟨a2, cap2, rfl⟩ := Rd.slice hb
  have hma := ha.2.1
  have hmb := hb.2.1
  unfold maxLen at hma hmb
  by_cases hsa : la.length ≤ 1048576
  · by_cases hsab : lb.length ≤ 1048576 - la.length
    · have hsb : lb.length ≤ 1048576 := by omega
      have HI := Lib.hid (fun (W : World) (U V : Value) (hU : Rd2 W U la) (hV : Rd2 W V lb) => hI W U V hU hV hsa hsb)
      have HS := Lib.hid (fun (W : World) (U V : Value) (hU : Rd2 W U la) (hV : Rd2 W V lb) => join_any hU hV)
      clear hI
      have hbd := joinM_len la lb
      generalize (joinM la lb).1 = R at *
      generalize (joinM la lb).2 = tb at *
      go_enter Try.func13, Try.ntmps13
      go_wp2_with fail
      refine (sz0_nat hsa).mono ?_
      rintro e w0 ⟨x, hx, hxe, rfl, rfl⟩
      have HX := Lib.hid hxe
      clear hxe
      go_wp2_with fail
      refine (sz1_yes (x := x) (n := la.length) hsab HX.out).mono ?_
      rintro e w0 ⟨y, hy, rfl, rfl⟩
      clear HX
      have g0 := Below.refl w.heap.size w
      go_wp2_with fail
      refine (toNotes_any (Rd.below ha g0) hsa).mono ?_
      rintro e w_1 ⟨vP, rfl, hP0, hb1⟩
      have gbP := g0
      have g1 := bstep g0 hb1
      clear hb1 
      go_wp2_with fail
      refine (toNotes_any (Rd.below hb g1) hsb).mono ?_
      rintro e w_2 ⟨vQ, rfl, hQ0, hb2⟩
      have apPQ := apartS hP0 hQ0
      have apQP := apartS' hP0 hQ0
      have gbQ := g1
      have hP2 := ownS_below hP0 hb2
      have g2 := bstep g1 hb2
      clear hb2 hP0
      go_wp2_with fail
      refine (HS.out _ _ _ (Rd.of_own hP2) (Rd.of_own hQ0)).mono ?_
      rintro e w_3 ⟨vS, rfl, hS0, hb3⟩
      have apPS := apartS hP2 hS0
      have apSP := apartS' hP2 hS0
      have apQS := apartS hQ0 hS0
      have apSQ := apartS' hQ0 hS0
      have gbS := g2
      have hP3 := ownS_below hP2 hb3
      have hQ3 := ownS_below hQ0 hb3
      have g3 := bstep g2 hb3
      clear hb3 hP2 hQ0
      clear hP3
      clear hQ3
      go_wp2_with fail
      refine (toNotes_any (Rd.below ha g3) hsa).mono ?_
      rintro e w_4 ⟨vX, rfl, hX0, hb4⟩
      have apSX := apartS hS0 hX0
      have apXS := apartS' hS0 hX0
      have gbX := g3
      have hS4 := ownS_below hS0 hb4
      have g4 := bstep g3 hb4
      clear hb4 hS0
      go_wp2_with fail
      refine (toNotes_any (Rd.below hb g4) hsb).mono ?_
      rintro e w_5 ⟨vY, rfl, hY0, hb5⟩
      have apSY := apartS hS4 hY0
      have apYS := apartS' hS4 hY0
      have apXY := apartS hX0 hY0
      have apYX := apartS' hX0 hY0
      have gbY := g4
      have hS5 := ownS_below hS4 hb5
      have hX5 := ownS_below hX0 hb5
      have g5 := bstep g4 hb5
      clear hb5 hS4 hX0
      go_wp2_with fail
      refine (HI.out _ _ _ (Rd.of_own hX5) (Rd.of_own hY0)).mono ?_
      rintro e w_6 ⟨vI, rfl, hI0, hb6⟩
      have apSI := apartS hS5 hI0
      have apIS := apartS' hS5 hI0
      have apXI := apartS hX5 hI0
      have apIX := apartS' hX5 hI0
      have apYI := apartS hY0 hI0
      have apIY := apartS' hY0 hI0
      have gbI := g5
      have hS6 := ownS_below hS5 hb6
      have hX6 := ownS_below hX5 hb6
      have hY6 := ownS_below hY0 hb6
      have g6 := bstep g5 hb6
      clear hb6 hS5 hX5 hY0
      go_wp2_with fail
      refine (eqNotes_same (Rd.of_own hI0) (Rd.of_own hS6)).mono ?_
      rintro e w_7 ⟨rfl, hb7⟩
      have hS7 := ownS_below hS6 hb7
      have hX7 := ownS_below hX6 hb7
      have hY7 := ownS_below hY6 hb7
      have hI7 := ownS_below hI0 hb7
      have g7 := bstep g6 hb7
      clear hb7 hS6 hX6 hY6 hI0
      go_wp2_with fail
      refine (toNotes_any (Rd.below ha g7) hsa).mono ?_
      rintro e w_8 ⟨vT, rfl, hT0, hb8⟩
      have apST := apartS hS7 hT0
      have apTS := apartS' hS7 hT0
      have apXT := apartS hX7 hT0
      have apTX := apartS' hX7 hT0
      have apYT := apartS hY7 hT0
      have apTY := apartS' hY7 hT0
      have apIT := apartS hI7 hT0
      have apTI := apartS' hI7 hT0
      have gbT := g7
      have hS8 := ownS_below hS7 hb8
      have hX8 := ownS_below hX7 hb8
      have hY8 := ownS_below hY7 hb8
      have hI8 := ownS_below hI7 hb8
      have g8 := bstep g7 hb8
      clear hb8 hS7 hX7 hY7 hI7
      go_wp2_with fail
      refine (eqNotes_same (Rd.of_own hX8) (Rd.of_own hT0)).mono ?_
      rintro e w_9 ⟨rfl, hb9⟩
      have hS9 := ownS_below hS8 hb9
      have hX9 := ownS_below hX8 hb9
      have hY9 := ownS_below hY8 hb9
      have hI9 := ownS_below hI8 hb9
      have hT9 := ownS_below hT0 hb9
      have g9 := bstep g8 hb9
      clear hb9 hS8 hX8 hY8 hI8 hT0
      clear hT9
      go_wp2_with fail
      refine (toNotes_any (Rd.below hb g9) hsb).mono ?_
      rintro e w_10 ⟨vZ, rfl, hZ0, hb10⟩
      have apSZ := apartS hS9 hZ0
      have apZS := apartS' hS9 hZ0
      have apXZ := apartS hX9 hZ0
      have apZX := apartS' hX9 hZ0
      have apYZ := apartS hY9 hZ0
      have apZY := apartS' hY9 hZ0
      have apIZ := apartS hI9 hZ0
      have apZI := apartS' hI9 hZ0
      have gbZ := g9
      have hS10 := ownS_below hS9 hb10
      have hX10 := ownS_below hX9 hb10
      have hY10 := ownS_below hY9 hb10
      have hI10 := ownS_below hI9 hb10
      have g10 := bstep g9 hb10
      clear hb10 hS9 hX9 hY9 hI9
      go_wp2_with fail
      refine (eqNotes_same (Rd.of_own hY10) (Rd.of_own hZ0)).mono ?_
      rintro e w_11 ⟨rfl, hb11⟩
      have hS11 := ownS_below hS10 hb11
      have hX11 := ownS_below hX10 hb11
      have hY11 := ownS_below hY10 hb11
      have hI11 := ownS_below hI10 hb11
      have hZ11 := ownS_below hZ0 hb11
      have g11 := bstep g10 hb11
      clear hb11 hS10 hX10 hY10 hI10 hZ0
      clear hZ11
      go_wp2_with fail
      refine (markNotes_any 1 (by omega) hX11).mono ?_
      rintro e w_12 ⟨rfl, hg12, _⟩
      have hS12 := World.ownsRow.kept hS11 hg12 apSX
      have hY12 := World.ownsRow.kept hY11 hg12 apYX
      have hI12 := World.ownsRow.kept hI11 hg12 apIX
      have g12 := g11.grown hg12 g11.size (fun k hk => Nat.le_trans gbX.size (hX11.lt k hk).1)
      clear hg12 hX11 hS11 hY11 hI11
      go_wp2_with fail
      refine (markNotes_any (1 + la.length * 2) (by omega) hY12).mono ?_
      rintro e w_13 ⟨rfl, hg13, _⟩
      have hS13 := World.ownsRow.kept hS12 hg13 apSY
      have hI13 := World.ownsRow.kept hI12 hg13 apIY
      have g13 := g12.grown hg13 g12.size (fun k hk => Nat.le_trans gbY.size (hY12.lt k hk).1)
      clear hg13 hY12 hS12 hI12
      go_wp2_with fail
      refine (eqNotes_same (Rd.of_own hI13) (Rd.of_own hS13)).mono ?_
      rintro e w_14 ⟨rfl, hb14⟩
      have hS14 := ownS_below hS13 hb14
      have hI14 := ownS_below hI13 hb14
      have g14 := bstep g13 hb14
      clear hb14 hS13 hI13
      go_wp2_with fail
      refine (markNotes_any 1 (by omega) hI14).mono ?_
      rintro e w_15 ⟨rfl, hg15, ys, hy15, hmk15⟩
      have hS15 := World.ownsRow.kept hS14 hg15 apSI
      have g15 := g14.grown hg15 g14.size (fun k hk => Nat.le_trans gbI.size (hI14.lt k hk).1)
      have HMK := Lib.hid hmk15
      clear hmk15
      clear hg15 hI14 hS14
      go_wp2_with fail
      refine (heldNotes_any 1 (by omega) (Rd.of_own hy15) HMK.out).mono ?_
      rintro e w_16 ⟨rfl, hb16⟩
      have hS16 := ownS_below hS15 hb16
      have hI16 := ownS_below hy15 hb16
      have g16 := bstep g15 hb16
      clear hb16 hS15 hy15
      go_wp2_with fail
      refine (toNotes_any (Rd.below ha g16) hsa).mono ?_
      rintro e w_17 ⟨vK, rfl, hK0, hb17⟩
      have apSK := apartS hS16 hK0
      have apKS := apartS' hS16 hK0
      have apIK := apartS hI16 hK0
      have apKI := apartS' hI16 hK0
      have gbK := g16
      have hS17 := ownS_below hS16 hb17
      have hI17 := ownS_below hI16 hb17
      have g17 := bstep g16 hb17
      clear hb17 hS16 hI16
      go_wp2_with fail
      refine (toNotes_any (Rd.below hb g17) hsb).mono ?_
      rintro e w_18 ⟨vM, rfl, hM0, hb18⟩
      have apSM := apartS hS17 hM0
      have apMS := apartS' hS17 hM0
      have apIM := apartS hI17 hM0
      have apMI := apartS' hI17 hM0
      have apKM := apartS hK0 hM0
      have apMK := apartS' hK0 hM0
      have gbM := g17
      have hS18 := ownS_below hS17 hb18
      have hI18 := ownS_below hI17 hb18
      have hK18 := ownS_below hK0 hb18
      have g18 := bstep g17 hb18
      clear hb18 hS17 hI17 hK0
      go_wp2_with fail
      refine (HI.out _ _ _ (Rd.of_own hK18) (Rd.of_own hM0)).mono ?_
      rintro e w_19 ⟨vH, rfl, hH0, hb19⟩
      have apSH := apartS hS18 hH0
      have apHS := apartS' hS18 hH0
      have apIH := apartS hI18 hH0
      have apHI := apartS' hI18 hH0
      have apKH := apartS hK18 hH0
      have apHK := apartS' hK18 hH0
      have apMH := apartS hM0 hH0
      have apHM := apartS' hM0 hH0
      have gbH := g18
      have hS19 := ownS_below hS18 hb19
      have hI19 := ownS_below hI18 hb19
      have hK19 := ownS_below hK18 hb19
      have hM19 := ownS_below hM0 hb19
      have g19 := bstep g18 hb19
      clear hb19 hS18 hI18 hK18 hM0
      clear hK19
      clear hM19
      go_wp2_with fail
      refine (eqNotes_same (Rd.of_own hH0) (Rd.of_own hS19)).mono ?_
      rintro e w_20 ⟨rfl, hb20⟩
      have hS20 := ownS_below hS19 hb20
      have hI20 := ownS_below hI19 hb20
      have hH20 := ownS_below hH0 hb20
      have g20 := bstep g19 hb20
      clear hb20 hS19 hI19 hH0
      clear hH20
      clear hS20
      go_wp2_with fail
      refine (heldNotes_any 1 (by omega) (Rd.of_own hI20) HMK.out).mono ?_
      rintro e w_21 ⟨rfl, hb21⟩
      have hI21 := ownS_below hI20 hb21
      have g21 := bstep g20 hb21
      clear hb21 hI20
      go_wp2
      go_ret
      exact ⟨rfl, g21⟩
    · go_enter Try.func13, Try.ntmps13
      go_wp2_with fail
      refine (sz0_nat hsa).mono ?_
      rintro e w0 ⟨x, hx, hxe, rfl, rfl⟩
      have HX := Lib.hid hxe
      clear hxe
      go_wp2_with fail
      refine (sz1_no (x := x) (n := la.length) hsab HX.out hmb).mono ?_
      rintro e w0 ⟨rfl, rfl⟩
      go_wp2
      go_ret
      exact ⟨rfl, Below.refl _ _⟩
  · go_enter Try.func13, Try.ntmps13
    go_wp2_with fail
    refine (sz0_no hsa hma).mono ?_
    rintro e w0 ⟨rfl, rfl⟩
    go_wp2
    go_ret
    exact ⟨rfl, Below.refl _ _⟩

end Go.Proofs.Ytacdogojefgniaa

