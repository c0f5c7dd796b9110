/- The walk of FnExactCylinderOf: THE PROGRAM'S OWN CONTRACT IS A PREMISE (hI). Made by mk_cyl.py. -/
import Derived.Test.YtcbdoldcdgaooaaCylOfSpec
import Derived.Test.YtcbdoldcdgaooaaWalkKit
namespace Go.Proofs.Ytcbdoldcdgaooaa
open Go.ChangeShapes Go.WideShapes Go.ChangeAt Go.RowKit

theorem sz0_nat {w : World} {n cap : Nat} {a : Option Addr} (h : n ≤ 1048576) :
    Calls Try.prog 22 #[.slice a n cap, .int .i64 1048576] w fun e w' => ∃ x : Int, 0 ≤ x ∧ x = ((1048576 - n : Nat) : Int) ∧ e = .returned (.int .i64 x) ∧ w = w' :=
  (szNote_yes 1048576 (Nat.le_refl _) h).mono fun _ _ ⟨he, hw⟩ => ⟨_, by omega, rfl, he, hw⟩
set_option maxHeartbeats 8000000 in
set_option maxRecDepth 100000 in
theorem exactcylof_walk {w : World} {qt qc : Value} {tn : List (Int × Int)} {c : List Int} (sa ra : Int) (hI : ∀ (W : World) (U0 U1 : Value), Rd2 W U0 tn → Rd1 W U1 c → tn.length ≤ 1048576 → c.length ≤ 1048576 → Calls Try.prog 21 #[U0, U1, .int .i64 sa, .int .i64 ra] W (NewCylB W (ofM tn c sa ra).1.1 (ofM tn c sa ra).1.2.1 (ofM tn c sa ra).1.2.2 (ofM tn c sa ra).2)) (ht : Rd2 w qt tn) (hc : Rd1 w qc c) :
    Calls Try.prog 4 #[qt, qc, .int .i64 sa, .int .i64 ra] w fun e w' => e = .returned (.bool true) ∧ Below w.heap.size w w' := by
  obtain ⟨at0, ct0, rfl⟩ := Rd.slice ht
  obtain ⟨ac0, cc0, rfl⟩ := Rd.slice hc
  have hmt := ht.2.1
  have hmc := hc.2.1
  unfold maxLen at hmt hmc
  by_cases hsc : c.length ≤ 1048576
  · have hdc : decide ((1048576 : Int) < (c.length : Int)) = false := decide_eq_false (by omega)
    by_cases hst : tn.length ≤ 1048576
    · have HI := Lib.hid (fun (W : World) (U0 U1 : Value) (p0 : Rd2 W U0 tn) (p1 : Rd1 W U1 c) => hI W U0 U1 p0 p1 hst hsc)
      have HS := Lib.hid (fun (W : World) (U0 U1 : Value) (p0 : Rd2 W U0 tn) (p1 : Rd1 W U1 c) => cylof_any sa ra p0 p1)
      clear hI
      have hbd : (ofM tn c sa ra).1.2.2.length ≤ 1048576 := ofM_le tn c sa ra
      generalize (ofM tn c sa ra).1.2.2 = R at *
      generalize (ofM tn c sa ra).1.2.1 = t at *
      generalize (ofM tn c sa ra).1.1 = s at *
      generalize (ofM tn c sa ra).2 = tb at *
      go_enter Try.func4, Try.ntmps4
      go_wp2_with fail
      refine (sz0_nat hst).mono ?_
      rintro e w9 ⟨x0, hx0, hxe0, rfl, rfl⟩
      have hd0 : decide (x0 < 0) = false := decide_eq_false (by omega)
      have g0 := Below.refl w.heap.size w
      go_wp2_with fail
      have gbPT := g0
      refine (toNotes_any (Rd.below ht g0) hst).mono ?_
      rintro e w_1 ⟨vPT, rfl, hPT_0, hb1⟩
      obtain ⟨aPT, cpPT, rfl⟩ := ownS_slice hPT_0
      have g_2 := bstep g0 hb1
      clear hb1 g0
      go_wp2_with fail
      have gbPC := g_2
      refine (toInts_any (Rd.below hc g_2) hsc).mono ?_
      rintro e w_3 ⟨vPC, rfl, hPC_0, hb3⟩
      obtain ⟨aPC, cpPC, rfl⟩ := ownS_slice hPC_0
      have apPTPC := apartS hPT_0 hPC_0
      have apPCPT := apartS' hPT_0 hPC_0
      have hPT_4 := ownS_below hPT_0 hb3
      have g_4 := bstep g_2 hb3
      clear hb3 hPT_0 g_2
      go_wp2_with fail
      have gbS := g_4
      refine (HS.out _ _ _ (Rd.of_own hPT_4) (Rd.of_own hPC_0)).mono ?_
      rintro e w_5 ⟨vS, rfl, hS_0, hb5⟩
      obtain ⟨aS, cpS, rfl⟩ := ownS_slice hS_0
      have apPTS := apartS hPT_4 hS_0
      have apSPT := apartS' hPT_4 hS_0
      have apPCS := apartS hPC_0 hS_0
      have apSPC := apartS' hPC_0 hS_0
      have hPT_6 := ownS_below hPT_4 hb5
      have hPC_6 := ownS_below hPC_0 hb5
      have g_6 := bstep g_4 hb5
      clear hb5 hPT_4 hPC_0 g_4
      clear hPT_6 apPTPC apPCPT apPTS apSPT
      clear hPC_6 apPCS apSPC
      have hbA7 : Below w_5.heap.size w_5 (w_5.alloc (.cells #[.int .i64 s, .int .i64 t, .slice aS R.length cpS] 26)) := (Below.refl _ _).alloc (Nat.le_refl _) _
      have bBS_0 : Box (w_5.alloc (.cells #[.int .i64 s, .int .i64 t, .slice aS R.length cpS] 26)) w_5.heap.size s t (.slice aS R.length cpS) := box_new _ _ _ _ _
      have apSBS : (.slice aS R.length cpS : Value).ownBlock ≠ some w_5.heap.size := fun e => Nat.lt_irrefl _ (hS_0.lt _ e).2
      have hS_8 := ownS_below hS_0 hbA7
      have g_8 := bstep g_6 hbA7
      clear hbA7 hS_0 g_6
      obtain ⟨-, mBS0, mBS1, mBS2⟩ := id bBS_0
      go_wp2_with fail
      clear mBS0 mBS1 mBS2
      generalize (w_5.alloc (.cells #[.int .i64 s, .int .i64 t, .slice aS R.length cpS] 26)) = w_9 at *
      have gbXT := g_8
      refine (toNotes_any (Rd.below ht g_8) hst).mono ?_
      rintro e w_10 ⟨vXT, rfl, hXT_0, hb10⟩
      obtain ⟨aXT, cpXT, rfl⟩ := ownS_slice hXT_0
      have apXTBS := ob_of_lt hXT_0 bBS_0.1
      have apSXT := apartS hS_8 hXT_0
      have apXTS := apartS' hS_8 hXT_0
      have bBS_11 := bBS_0.below hb10
      have hS_11 := ownS_below hS_8 hb10
      have g_11 := bstep g_8 hb10
      clear hb10 bBS_0 hS_8 g_8
      obtain ⟨-, mBS0, mBS1, mBS2⟩ := id bBS_11
      go_wp2_with fail
      clear mBS0 mBS1 mBS2
      have gbXC := g_11
      refine (toInts_any (Rd.below hc g_11) hsc).mono ?_
      rintro e w_12 ⟨vXC, rfl, hXC_0, hb12⟩
      obtain ⟨aXC, cpXC, rfl⟩ := ownS_slice hXC_0
      have apXCBS := ob_of_lt hXC_0 bBS_11.1
      have apSXC := apartS hS_11 hXC_0
      have apXCS := apartS' hS_11 hXC_0
      have apXTXC := apartS hXT_0 hXC_0
      have apXCXT := apartS' hXT_0 hXC_0
      have bBS_13 := bBS_11.below hb12
      have hS_13 := ownS_below hS_11 hb12
      have hXT_13 := ownS_below hXT_0 hb12
      have g_13 := bstep g_11 hb12
      clear hb12 bBS_11 hS_11 hXT_0 g_11
      obtain ⟨-, mBS0, mBS1, mBS2⟩ := id bBS_13
      go_wp2_with fail
      clear mBS0 mBS1 mBS2
      have gbI := g_13
      refine (HI.out _ _ _ (Rd.of_own hXT_13) (Rd.of_own hXC_0)).mono ?_
      rintro e w_14 ⟨vI, rfl, hI_0, hb14⟩
      obtain ⟨aI, cpI, rfl⟩ := ownS_slice hI_0
      have apIBS := ob_of_lt hI_0 bBS_13.1
      have apSI := apartS hS_13 hI_0
      have apIS := apartS' hS_13 hI_0
      have apXTI := apartS hXT_13 hI_0
      have apIXT := apartS' hXT_13 hI_0
      have apXCI := apartS hXC_0 hI_0
      have apIXC := apartS' hXC_0 hI_0
      have bBS_15 := bBS_13.below hb14
      have hS_15 := ownS_below hS_13 hb14
      have hXT_15 := ownS_below hXT_13 hb14
      have hXC_15 := ownS_below hXC_0 hb14
      have g_15 := bstep g_13 hb14
      clear hb14 bBS_13 hS_13 hXT_13 hXC_0 g_13
      have hbA16 : Below w_14.heap.size w_14 (w_14.alloc (.cells #[.int .i64 s, .int .i64 t, .slice aI R.length cpI] 26)) := (Below.refl _ _).alloc (Nat.le_refl _) _
      have bBI_0 : Box (w_14.alloc (.cells #[.int .i64 s, .int .i64 t, .slice aI R.length cpI] 26)) w_14.heap.size s t (.slice aI R.length cpI) := box_new _ _ _ _ _
      have apSBI : (.slice aS R.length cpS : Value).ownBlock ≠ some w_14.heap.size := fun e => Nat.lt_irrefl _ (hS_15.lt _ e).2
      have apXTBI : (.slice aXT tn.length cpXT : Value).ownBlock ≠ some w_14.heap.size := fun e => Nat.lt_irrefl _ (hXT_15.lt _ e).2
      have apXCBI : (.slice aXC c.length cpXC : Value).ownBlock ≠ some w_14.heap.size := fun e => Nat.lt_irrefl _ (hXC_15.lt _ e).2
      have apIBI : (.slice aI R.length cpI : Value).ownBlock ≠ some w_14.heap.size := fun e => Nat.lt_irrefl _ (hI_0.lt _ e).2
      have bBS_17 := bBS_15.below hbA16
      have hS_17 := ownS_below hS_15 hbA16
      have hXT_17 := ownS_below hXT_15 hbA16
      have hXC_17 := ownS_below hXC_15 hbA16
      have hI_17 := ownS_below hI_0 hbA16
      have g_17 := bstep g_15 hbA16
      clear hbA16 bBS_15 hS_15 hXT_15 hXC_15 hI_0 g_15
      obtain ⟨-, mBS0, mBS1, mBS2⟩ := id bBS_17
      obtain ⟨-, mBI0, mBI1, mBI2⟩ := id bBI_0
      go_wp2_with fail
      clear mBS0 mBS1 mBS2 mBI0 mBI1 mBI2
      generalize (w_14.alloc (.cells #[.int .i64 s, .int .i64 t, .slice aI R.length cpI] 26)) = w_18 at *
      refine (eqCyl_same s t (Rd.of_own hI_17) (Rd.of_own hS_17)).mono ?_
      rintro e w_19 ⟨rfl, hb19⟩
      have bBS_20 := bBS_17.below hb19
      have bBI_20 := bBI_0.below hb19
      have hS_20 := ownS_below hS_17 hb19
      have hXT_20 := ownS_below hXT_17 hb19
      have hXC_20 := ownS_below hXC_17 hb19
      have hI_20 := ownS_below hI_17 hb19
      have g_20 := bstep g_17 hb19
      clear hb19 bBS_17 bBI_0 hS_17 hXT_17 hXC_17 hI_17 g_17
      obtain ⟨-, mBS0, mBS1, mBS2⟩ := id bBS_20
      obtain ⟨-, mBI0, mBI1, mBI2⟩ := id bBI_20
      go_wp2_with fail
      clear mBS0 mBS1 mBS2 mBI0 mBI1 mBI2
      have gbT := g_20
      refine (toNotes_any (Rd.below ht g_20) hst).mono ?_
      rintro e w_21 ⟨vT, rfl, hT_0, hb21⟩
      obtain ⟨aT, cpT, rfl⟩ := ownS_slice hT_0
      have apTBS := ob_of_lt hT_0 bBS_20.1
      have apTBI := ob_of_lt hT_0 bBI_20.1
      have apST := apartS hS_20 hT_0
      have apTS := apartS' hS_20 hT_0
      have apXTT := apartS hXT_20 hT_0
      have apTXT := apartS' hXT_20 hT_0
      have apXCT := apartS hXC_20 hT_0
      have apTXC := apartS' hXC_20 hT_0
      have apIT := apartS hI_20 hT_0
      have apTI := apartS' hI_20 hT_0
      have bBS_22 := bBS_20.below hb21
      have bBI_22 := bBI_20.below hb21
      have hS_22 := ownS_below hS_20 hb21
      have hXT_22 := ownS_below hXT_20 hb21
      have hXC_22 := ownS_below hXC_20 hb21
      have hI_22 := ownS_below hI_20 hb21
      have g_22 := bstep g_20 hb21
      clear hb21 bBS_20 bBI_20 hS_20 hXT_20 hXC_20 hI_20 g_20
      obtain ⟨-, mBS0, mBS1, mBS2⟩ := id bBS_22
      obtain ⟨-, mBI0, mBI1, mBI2⟩ := id bBI_22
      go_wp2_with fail
      clear mBS0 mBS1 mBS2 mBI0 mBI1 mBI2
      refine (eqNotes_same (Rd.of_own hXT_22) (Rd.of_own hT_0)).mono ?_
      rintro e w_23 ⟨rfl, hb23⟩
      have bBS_24 := bBS_22.below hb23
      have bBI_24 := bBI_22.below hb23
      have hS_24 := ownS_below hS_22 hb23
      have hXT_24 := ownS_below hXT_22 hb23
      have hXC_24 := ownS_below hXC_22 hb23
      have hI_24 := ownS_below hI_22 hb23
      have hT_24 := ownS_below hT_0 hb23
      have g_24 := bstep g_22 hb23
      clear hb23 bBS_22 bBI_22 hS_22 hXT_22 hXC_22 hI_22 hT_0 g_22
      clear hT_24 apTBS apTBI apST apTS apXTT apTXT apXCT apTXC apIT apTI
      obtain ⟨-, mBS0, mBS1, mBS2⟩ := id bBS_24
      obtain ⟨-, mBI0, mBI1, mBI2⟩ := id bBI_24
      go_wp2_with fail
      clear mBS0 mBS1 mBS2 mBI0 mBI1 mBI2
      have gbT := g_24
      refine (toInts_any (Rd.below hc g_24) hsc).mono ?_
      rintro e w_25 ⟨vT, rfl, hT_0, hb25⟩
      obtain ⟨aT, cpT, rfl⟩ := ownS_slice hT_0
      have apTBS := ob_of_lt hT_0 bBS_24.1
      have apTBI := ob_of_lt hT_0 bBI_24.1
      have apST := apartS hS_24 hT_0
      have apTS := apartS' hS_24 hT_0
      have apXTT := apartS hXT_24 hT_0
      have apTXT := apartS' hXT_24 hT_0
      have apXCT := apartS hXC_24 hT_0
      have apTXC := apartS' hXC_24 hT_0
      have apIT := apartS hI_24 hT_0
      have apTI := apartS' hI_24 hT_0
      have bBS_26 := bBS_24.below hb25
      have bBI_26 := bBI_24.below hb25
      have hS_26 := ownS_below hS_24 hb25
      have hXT_26 := ownS_below hXT_24 hb25
      have hXC_26 := ownS_below hXC_24 hb25
      have hI_26 := ownS_below hI_24 hb25
      have g_26 := bstep g_24 hb25
      clear hb25 bBS_24 bBI_24 hS_24 hXT_24 hXC_24 hI_24 g_24
      obtain ⟨-, mBS0, mBS1, mBS2⟩ := id bBS_26
      obtain ⟨-, mBI0, mBI1, mBI2⟩ := id bBI_26
      go_wp2_with fail
      clear mBS0 mBS1 mBS2 mBI0 mBI1 mBI2
      refine (eqInts_same (Rd.of_own hXC_26) (Rd.of_own hT_0)).mono ?_
      rintro e w_27 ⟨rfl, hb27⟩
      have bBS_28 := bBS_26.below hb27
      have bBI_28 := bBI_26.below hb27
      have hS_28 := ownS_below hS_26 hb27
      have hXT_28 := ownS_below hXT_26 hb27
      have hXC_28 := ownS_below hXC_26 hb27
      have hI_28 := ownS_below hI_26 hb27
      have hT_28 := ownS_below hT_0 hb27
      have g_28 := bstep g_26 hb27
      clear hb27 bBS_26 bBI_26 hS_26 hXT_26 hXC_26 hI_26 hT_0 g_26
      clear hT_28 apTBS apTBI apST apTS apXTT apTXT apXCT apTXC apIT apTI
      have glXT : ∀ k, (.slice aXT tn.length cpXT : Value).ownBlock = some k → w.heap.size ≤ k := fun k hk => Nat.le_trans gbXT.size (hXT_28.lt k hk).1
      obtain ⟨-, mBS0, mBS1, mBS2⟩ := id bBS_28
      obtain ⟨-, mBI0, mBI1, mBI2⟩ := id bBI_28
      go_wp2_with fail
      clear mBS0 mBS1 mBS2 mBI0 mBI1 mBI2
      refine (markNotes_any 1 (by omega) hXT_28).mono ?_
      rintro e w_29 ⟨rfl, hg29, _⟩
      have bBS_29 := bBS_28.grown hg29 (Ne.symm apXTBS)
      have bBI_29 := bBI_28.grown hg29 (Ne.symm apXTBI)
      have hS_29 := World.ownsRow.kept hS_28 hg29 apSXT
      have hXC_29 := World.ownsRow.kept hXC_28 hg29 apXCXT
      have hI_29 := World.ownsRow.kept hI_28 hg29 apIXT
      have g_29 := g_28.grown hg29 g_28.size glXT
      clear hg29 hXT_28 bBS_28 bBI_28 hS_28 hXC_28 hI_28
      clear apXTBS apSXT apXTS apXTXC apXCXT apXTI apIXT apXTBI
      have glXC : ∀ k, (.slice aXC c.length cpXC : Value).ownBlock = some k → w.heap.size ≤ k := fun k hk => Nat.le_trans gbXC.size (hXC_29.lt k hk).1
      obtain ⟨-, mBS0, mBS1, mBS2⟩ := id bBS_29
      obtain ⟨-, mBI0, mBI1, mBI2⟩ := id bBI_29
      go_wp2_with fail
      clear mBS0 mBS1 mBS2 mBI0 mBI1 mBI2
      refine (markInts_any (1 + tn.length * 2) (by omega) hXC_29).mono ?_
      rintro e w_30 ⟨rfl, hg30, _⟩
      have bBS_30 := bBS_29.grown hg30 (Ne.symm apXCBS)
      have bBI_30 := bBI_29.grown hg30 (Ne.symm apXCBI)
      have hS_30 := World.ownsRow.kept hS_29 hg30 apSXC
      have hI_30 := World.ownsRow.kept hI_29 hg30 apIXC
      have g_30 := g_29.grown hg30 g_29.size glXC
      clear hg30 hXC_29 bBS_29 bBI_29 hS_29 hI_29
      clear apXCBS apSXC apXCS apXCI apIXC apXCBI
      obtain ⟨-, mBS0, mBS1, mBS2⟩ := id bBS_30
      obtain ⟨-, mBI0, mBI1, mBI2⟩ := id bBI_30
      go_wp2_with fail
      clear mBS0 mBS1 mBS2 mBI0 mBI1 mBI2
      refine (eqCyl_same s t (Rd.of_own hI_30) (Rd.of_own hS_30)).mono ?_
      rintro e w_31 ⟨rfl, hb31⟩
      have bBS_32 := bBS_30.below hb31
      have bBI_32 := bBI_30.below hb31
      have hS_32 := ownS_below hS_30 hb31
      have hI_32 := ownS_below hI_30 hb31
      have g_32 := bstep g_30 hb31
      clear hb31 bBS_30 bBI_30 hS_30 hI_30 g_30
      have glI : ∀ k, (.slice aI R.length cpI : Value).ownBlock = some k → w.heap.size ≤ k := fun k hk => Nat.le_trans gbI.size (hI_32.lt k hk).1
      obtain ⟨-, mBS0, mBS1, mBS2⟩ := id bBS_32
      obtain ⟨-, mBI0, mBI1, mBI2⟩ := id bBI_32
      go_wp2_with fail
      clear mBS0 mBS1 mBS2 mBI0 mBI1 mBI2
      refine (markCyl_any s t 1 (by omega) hI_32).mono ?_
      rintro e w_33 ⟨rfl, hg33, ys, hy33, hmk33⟩
      have bBS_33 := bBS_32.grown hg33 (Ne.symm apIBS)
      have bBI_33 := bBI_32.grown hg33 (Ne.symm apIBI)
      have hS_33 := World.ownsRow.kept hS_32 hg33 apSI
      have g_33 := g_32.grown hg33 g_32.size glI
      clear hg33 hI_32 bBS_32 bBI_32 hS_32
      have HMK := Lib.hid hmk33
      clear hmk33
      obtain ⟨-, mBS0, mBS1, mBS2⟩ := id bBS_33
      obtain ⟨-, mBI0, mBI1, mBI2⟩ := id bBI_33
      go_wp2_with fail
      clear mBS0 mBS1 mBS2 mBI0 mBI1 mBI2
      refine (heldCyl_any s t 1 (by omega) (Rd.of_own hy33) HMK.out).mono ?_
      rintro e w_34 ⟨rfl, hb34⟩
      have bBS_35 := bBS_33.below hb34
      have bBI_35 := bBI_33.below hb34
      have hS_35 := ownS_below hS_33 hb34
      have hI_35 := ownS_below hy33 hb34
      have g_35 := bstep g_33 hb34
      clear hb34 bBS_33 bBI_33 hS_33 hy33 g_33
      obtain ⟨-, mBS0, mBS1, mBS2⟩ := id bBS_35
      obtain ⟨-, mBI0, mBI1, mBI2⟩ := id bBI_35
      go_wp2_with fail
      clear mBS0 mBS1 mBS2 mBI0 mBI1 mBI2
      have gbKT := g_35
      refine (toNotes_any (Rd.below ht g_35) hst).mono ?_
      rintro e w_36 ⟨vKT, rfl, hKT_0, hb36⟩
      obtain ⟨aKT, cpKT, rfl⟩ := ownS_slice hKT_0
      have apKTBS := ob_of_lt hKT_0 bBS_35.1
      have apKTBI := ob_of_lt hKT_0 bBI_35.1
      have apSKT := apartS hS_35 hKT_0
      have apKTS := apartS' hS_35 hKT_0
      have apIKT := apartS hI_35 hKT_0
      have apKTI := apartS' hI_35 hKT_0
      have bBS_37 := bBS_35.below hb36
      have bBI_37 := bBI_35.below hb36
      have hS_37 := ownS_below hS_35 hb36
      have hI_37 := ownS_below hI_35 hb36
      have g_37 := bstep g_35 hb36
      clear hb36 bBS_35 bBI_35 hS_35 hI_35 g_35
      obtain ⟨-, mBS0, mBS1, mBS2⟩ := id bBS_37
      obtain ⟨-, mBI0, mBI1, mBI2⟩ := id bBI_37
      go_wp2_with fail
      clear mBS0 mBS1 mBS2 mBI0 mBI1 mBI2
      have gbKC := g_37
      refine (toInts_any (Rd.below hc g_37) hsc).mono ?_
      rintro e w_38 ⟨vKC, rfl, hKC_0, hb38⟩
      obtain ⟨aKC, cpKC, rfl⟩ := ownS_slice hKC_0
      have apKCBS := ob_of_lt hKC_0 bBS_37.1
      have apKCBI := ob_of_lt hKC_0 bBI_37.1
      have apSKC := apartS hS_37 hKC_0
      have apKCS := apartS' hS_37 hKC_0
      have apIKC := apartS hI_37 hKC_0
      have apKCI := apartS' hI_37 hKC_0
      have apKTKC := apartS hKT_0 hKC_0
      have apKCKT := apartS' hKT_0 hKC_0
      have bBS_39 := bBS_37.below hb38
      have bBI_39 := bBI_37.below hb38
      have hS_39 := ownS_below hS_37 hb38
      have hI_39 := ownS_below hI_37 hb38
      have hKT_39 := ownS_below hKT_0 hb38
      have g_39 := bstep g_37 hb38
      clear hb38 bBS_37 bBI_37 hS_37 hI_37 hKT_0 g_37
      obtain ⟨-, mBS0, mBS1, mBS2⟩ := id bBS_39
      obtain ⟨-, mBI0, mBI1, mBI2⟩ := id bBI_39
      go_wp2_with fail
      clear mBS0 mBS1 mBS2 mBI0 mBI1 mBI2
      have gbH := g_39
      refine (HI.out _ _ _ (Rd.of_own hKT_39) (Rd.of_own hKC_0)).mono ?_
      rintro e w_40 ⟨vH, rfl, hH_0, hb40⟩
      obtain ⟨aH, cpH, rfl⟩ := ownS_slice hH_0
      have apHBS := ob_of_lt hH_0 bBS_39.1
      have apHBI := ob_of_lt hH_0 bBI_39.1
      have apSH := apartS hS_39 hH_0
      have apHS := apartS' hS_39 hH_0
      have apIH := apartS hI_39 hH_0
      have apHI := apartS' hI_39 hH_0
      have apKTH := apartS hKT_39 hH_0
      have apHKT := apartS' hKT_39 hH_0
      have apKCH := apartS hKC_0 hH_0
      have apHKC := apartS' hKC_0 hH_0
      have bBS_41 := bBS_39.below hb40
      have bBI_41 := bBI_39.below hb40
      have hS_41 := ownS_below hS_39 hb40
      have hI_41 := ownS_below hI_39 hb40
      have hKT_41 := ownS_below hKT_39 hb40
      have hKC_41 := ownS_below hKC_0 hb40
      have g_41 := bstep g_39 hb40
      clear hb40 bBS_39 bBI_39 hS_39 hI_39 hKT_39 hKC_0 g_39
      clear hKT_41 apKTBS apKTBI apSKT apKTS apIKT apKTI apKTKC apKCKT apKTH apHKT
      clear hKC_41 apKCBS apKCBI apSKC apKCS apIKC apKCI apKCH apHKC
      have hbA42 : Below w_40.heap.size w_40 (w_40.alloc (.cells #[.int .i64 s, .int .i64 t, .slice aH R.length cpH] 26)) := (Below.refl _ _).alloc (Nat.le_refl _) _
      have bBH_0 : Box (w_40.alloc (.cells #[.int .i64 s, .int .i64 t, .slice aH R.length cpH] 26)) w_40.heap.size s t (.slice aH R.length cpH) := box_new _ _ _ _ _
      have apSBH : (.slice aS R.length cpS : Value).ownBlock ≠ some w_40.heap.size := fun e => Nat.lt_irrefl _ (hS_41.lt _ e).2
      have apIBH : (.slice aI R.length cpI : Value).ownBlock ≠ some w_40.heap.size := fun e => Nat.lt_irrefl _ (hI_41.lt _ e).2
      have apHBH : (.slice aH R.length cpH : Value).ownBlock ≠ some w_40.heap.size := fun e => Nat.lt_irrefl _ (hH_0.lt _ e).2
      have bBS_43 := bBS_41.below hbA42
      have bBI_43 := bBI_41.below hbA42
      have hS_43 := ownS_below hS_41 hbA42
      have hI_43 := ownS_below hI_41 hbA42
      have hH_43 := ownS_below hH_0 hbA42
      have g_43 := bstep g_41 hbA42
      clear hbA42 bBS_41 bBI_41 hS_41 hI_41 hH_0 g_41
      obtain ⟨-, mBS0, mBS1, mBS2⟩ := id bBS_43
      obtain ⟨-, mBI0, mBI1, mBI2⟩ := id bBI_43
      obtain ⟨-, mBH0, mBH1, mBH2⟩ := id bBH_0
      go_wp2_with fail
      clear mBS0 mBS1 mBS2 mBI0 mBI1 mBI2 mBH0 mBH1 mBH2
      generalize (w_40.alloc (.cells #[.int .i64 s, .int .i64 t, .slice aH R.length cpH] 26)) = w_44 at *
      refine (eqCyl_same s t (Rd.of_own hH_43) (Rd.of_own hS_43)).mono ?_
      rintro e w_45 ⟨rfl, hb45⟩
      have bBS_46 := bBS_43.below hb45
      have bBI_46 := bBI_43.below hb45
      have bBH_46 := bBH_0.below hb45
      have hS_46 := ownS_below hS_43 hb45
      have hI_46 := ownS_below hI_43 hb45
      have hH_46 := ownS_below hH_43 hb45
      have g_46 := bstep g_43 hb45
      clear hb45 bBS_43 bBI_43 bBH_0 hS_43 hI_43 hH_43 g_43
      obtain ⟨-, mBS0, mBS1, mBS2⟩ := id bBS_46
      obtain ⟨-, mBI0, mBI1, mBI2⟩ := id bBI_46
      obtain ⟨-, mBH0, mBH1, mBH2⟩ := id bBH_46
      go_wp2_with fail
      clear mBS0 mBS1 mBS2 mBI0 mBI1 mBI2 mBH0 mBH1 mBH2
      refine (heldCyl_any s t 1 (by omega) (Rd.of_own hI_46) HMK.out).mono ?_
      rintro e w_47 ⟨rfl, hb47⟩
      have bBS_48 := bBS_46.below hb47
      have bBI_48 := bBI_46.below hb47
      have bBH_48 := bBH_46.below hb47
      have hS_48 := ownS_below hS_46 hb47
      have hI_48 := ownS_below hI_46 hb47
      have hH_48 := ownS_below hH_46 hb47
      have g_48 := bstep g_46 hb47
      clear hb47 bBS_46 bBI_46 bBH_46 hS_46 hI_46 hH_46 g_46
      go_wp2
      go_ret
      exact ⟨rfl, g_48⟩
    · go_enter Try.func4, Try.ntmps4
      go_wp2_with fail
      refine (sz0_no hst hmt).mono ?_
      rintro e w9 ⟨rfl, rfl⟩
      go_wp2
      go_ret
      exact ⟨rfl, Below.refl _ _⟩
  · have hdc : decide ((1048576 : Int) < (c.length : Int)) = true := decide_eq_true (by omega)
    go_enter Try.func4, Try.ntmps4
    go_wp2
    go_ret
    exact ⟨rfl, Below.refl _ _⟩

end Go.Proofs.Ytcbdoldcdgaooaa
