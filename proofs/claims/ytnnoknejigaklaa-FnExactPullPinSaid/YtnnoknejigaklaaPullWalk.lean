/- The walk of FnExactPullPin: THE PROGRAM'S OWN CONTRACT IS A PREMISE (hI). Made by mk_cyl.py. -/
import Derived.Test.YtnnoknejigaklaaPullSpec
import Derived.Test.YtnnoknejigaklaaWalkKit
namespace Go.Proofs.Ytnnoknejigaklaa
open Go.ChangeShapes Go.WideShapes Go.ChangeAt Go.RowKit

set_option maxHeartbeats 8000000 in
set_option maxRecDepth 100000 in
theorem exactpull_walk {w : World} {ql : Value} {l : List (Int × Int)} (s t : Int) (d : Int) (hI : ∀ (W : World) (U : Value), RdC W U l → l.length ≤ 1048576 → Calls Try.prog 19 #[.agg #[.int .i64 s, .int .i64 t, U], .int .i64 d] W (NewCylB W s t (pullP s t l d).1 (pullP s t l d).2)) (hl : Rd2 w ql l) :
    Calls Try.prog 7 #[.agg #[.int .i64 s, .int .i64 t, ql], .int .i64 d] w fun e w' => e = .returned (.bool true) ∧ Below w.heap.size w w' := by
  obtain ⟨al, cl, rfl⟩ := Rd.slice hl
  have hml := hl.2.1
  unfold maxLen at hml
  obtain ⟨w0, hw0⟩ : ∃ w0, w0 = w.alloc (.cells #[.int .i64 s, .int .i64 t, .slice al l.length cl] 46) := ⟨_, rfl⟩
  have g0 : Below w.heap.size w w0 := by rw [hw0]; exact (Below.refl _ _).alloc (Nat.le_refl _) _
  have bA_0 : Box w0 w.heap.size s t (.slice al l.length cl) := by rw [hw0]; exact box_new _ _ _ _ _
  by_cases hsl : l.length ≤ 1048576
  · have HI := Lib.hid (fun (W : World) (U : Value) (pl : RdC W U l) => hI W U pl hsl)
    have HS := Lib.hid (fun (W : World) (U : Value) (pl : RdC W U l) => pullpin_any s t d pl hsl)
    clear hI
    have hbd : (pullP s t l d).1.length ≤ 1048576 := pullP_le s t l d hsl
    generalize (pullP s t l d).1 = R at *
    generalize (pullP s t l d).2 = tb at *
    go_enter Try.func7, Try.ntmps7
    go_wp2_with fail
    rw [← hw0]
    clear hw0
    refine (szCyl_yes s t hsl).mono ?_
    rintro e w_1 ⟨x0, hx0, rfl, hb1⟩
    have bA_2 := bA_0.below hb1
    have g_2 := bstep g0 hb1
    clear hb1 bA_0 g0
    obtain ⟨-, mA0, mA1, mA2⟩ := id bA_2
    go_wp2_with fail
    clear mA0 mA1 mA2
    have gbP := g_2
    refine (toCyl_any s t (Rd.below hl g_2) hsl).mono ?_
    rintro e w_3 ⟨vP, rfl, hP_0, hb3⟩
    obtain ⟨aP, cpP, rfl⟩ := ownS_slice hP_0
    have apPA := ob_of_lt hP_0 bA_2.1
    have bA_4 := bA_2.below hb3
    have g_4 := bstep g_2 hb3
    clear hb3 bA_2 g_2
    obtain ⟨-, mA0, mA1, mA2⟩ := id bA_4
    go_wp2_with fail
    clear mA0 mA1 mA2
    have gbS := g_4
    refine (HS.out _ _ (RdC.of_own hP_0)).mono ?_
    rintro e w_5 ⟨vS, rfl, hS_0, hb5⟩
    obtain ⟨aS, cpS, rfl⟩ := ownS_slice hS_0
    have apSA := ob_of_lt hS_0 bA_4.1
    have apPS := apartS hP_0 hS_0
    have apSP := apartS' hP_0 hS_0
    have bA_6 := bA_4.below hb5
    have hP_6 := ownS_below hP_0 hb5
    have g_6 := bstep g_4 hb5
    clear hb5 bA_4 hP_0 g_4
    clear hP_6 apPA apPS apSP
    have hbA7 : Below w_5.heap.size w_5 (w_5.alloc (.cells #[.int .i64 s, .int .i64 t, .slice aS R.length cpS] 26)) := (Below.refl _ _).alloc (Nat.le_refl _) _
    have bBS_0 : Box (w_5.alloc (.cells #[.int .i64 s, .int .i64 t, .slice aS R.length cpS] 26)) w_5.heap.size s t (.slice aS R.length cpS) := box_new _ _ _ _ _
    have apSBS : (.slice aS R.length cpS : Value).ownBlock ≠ some w_5.heap.size := fun e => Nat.lt_irrefl _ (hS_0.lt _ e).2
    have bA_8 := bA_6.below hbA7
    have hS_8 := ownS_below hS_0 hbA7
    have g_8 := bstep g_6 hbA7
    clear hbA7 bA_6 hS_0 g_6
    obtain ⟨-, mA0, mA1, mA2⟩ := id bA_8
    obtain ⟨-, mBS0, mBS1, mBS2⟩ := id bBS_0
    go_wp2_with fail
    clear mA0 mA1 mA2 mBS0 mBS1 mBS2
    generalize (w_5.alloc (.cells #[.int .i64 s, .int .i64 t, .slice aS R.length cpS] 26)) = w_9 at *
    have gbX := g_8
    refine (toCyl_any s t (Rd.below hl g_8) hsl).mono ?_
    rintro e w_10 ⟨vX, rfl, hX_0, hb10⟩
    obtain ⟨aX, cpX, rfl⟩ := ownS_slice hX_0
    have apXA := ob_of_lt hX_0 bA_8.1
    have apXBS := ob_of_lt hX_0 bBS_0.1
    have apSX := apartS hS_8 hX_0
    have apXS := apartS' hS_8 hX_0
    have bA_11 := bA_8.below hb10
    have bBS_11 := bBS_0.below hb10
    have hS_11 := ownS_below hS_8 hb10
    have g_11 := bstep g_8 hb10
    clear hb10 bA_8 bBS_0 hS_8 g_8
    have hbA12 : Below w_10.heap.size w_10 (w_10.alloc (.cells #[.int .i64 s, .int .i64 t, .slice aX l.length cpX] 26)) := (Below.refl _ _).alloc (Nat.le_refl _) _
    have bBX_0 : Box (w_10.alloc (.cells #[.int .i64 s, .int .i64 t, .slice aX l.length cpX] 26)) w_10.heap.size s t (.slice aX l.length cpX) := box_new _ _ _ _ _
    have apSBX : (.slice aS R.length cpS : Value).ownBlock ≠ some w_10.heap.size := fun e => Nat.lt_irrefl _ (hS_11.lt _ e).2
    have apXBX : (.slice aX l.length cpX : Value).ownBlock ≠ some w_10.heap.size := fun e => Nat.lt_irrefl _ (hX_0.lt _ e).2
    have bA_13 := bA_11.below hbA12
    have bBS_13 := bBS_11.below hbA12
    have hS_13 := ownS_below hS_11 hbA12
    have hX_13 := ownS_below hX_0 hbA12
    have g_13 := bstep g_11 hbA12
    clear hbA12 bA_11 bBS_11 hS_11 hX_0 g_11
    obtain ⟨-, mA0, mA1, mA2⟩ := id bA_13
    obtain ⟨-, mBS0, mBS1, mBS2⟩ := id bBS_13
    obtain ⟨-, mBX0, mBX1, mBX2⟩ := id bBX_0
    go_wp2_with fail
    clear mA0 mA1 mA2 mBS0 mBS1 mBS2 mBX0 mBX1 mBX2
    generalize (w_10.alloc (.cells #[.int .i64 s, .int .i64 t, .slice aX l.length cpX] 26)) = w_14 at *
    have gbI := g_13
    refine (HI.out _ _ (RdC.of_own hX_13)).mono ?_
    rintro e w_15 ⟨vI, rfl, hI_0, hb15⟩
    obtain ⟨aI, cpI, rfl⟩ := ownS_slice hI_0
    have apIA := ob_of_lt hI_0 bA_13.1
    have apIBS := ob_of_lt hI_0 bBS_13.1
    have apIBX := ob_of_lt hI_0 bBX_0.1
    have apSI := apartS hS_13 hI_0
    have apIS := apartS' hS_13 hI_0
    have apXI := apartS hX_13 hI_0
    have apIX := apartS' hX_13 hI_0
    have bA_16 := bA_13.below hb15
    have bBS_16 := bBS_13.below hb15
    have bBX_16 := bBX_0.below hb15
    have hS_16 := ownS_below hS_13 hb15
    have hX_16 := ownS_below hX_13 hb15
    have g_16 := bstep g_13 hb15
    clear hb15 bA_13 bBS_13 bBX_0 hS_13 hX_13 g_13
    have hbA17 : Below w_15.heap.size w_15 (w_15.alloc (.cells #[.int .i64 s, .int .i64 t, .slice aI R.length cpI] 26)) := (Below.refl _ _).alloc (Nat.le_refl _) _
    have bBI_0 : Box (w_15.alloc (.cells #[.int .i64 s, .int .i64 t, .slice aI R.length cpI] 26)) w_15.heap.size s t (.slice aI R.length cpI) := box_new _ _ _ _ _
    have apSBI : (.slice aS R.length cpS : Value).ownBlock ≠ some w_15.heap.size := fun e => Nat.lt_irrefl _ (hS_16.lt _ e).2
    have apXBI : (.slice aX l.length cpX : Value).ownBlock ≠ some w_15.heap.size := fun e => Nat.lt_irrefl _ (hX_16.lt _ e).2
    have apIBI : (.slice aI R.length cpI : Value).ownBlock ≠ some w_15.heap.size := fun e => Nat.lt_irrefl _ (hI_0.lt _ e).2
    have bA_18 := bA_16.below hbA17
    have bBS_18 := bBS_16.below hbA17
    have bBX_18 := bBX_16.below hbA17
    have hS_18 := ownS_below hS_16 hbA17
    have hX_18 := ownS_below hX_16 hbA17
    have hI_18 := ownS_below hI_0 hbA17
    have g_18 := bstep g_16 hbA17
    clear hbA17 bA_16 bBS_16 bBX_16 hS_16 hX_16 hI_0 g_16
    obtain ⟨-, mA0, mA1, mA2⟩ := id bA_18
    obtain ⟨-, mBS0, mBS1, mBS2⟩ := id bBS_18
    obtain ⟨-, mBX0, mBX1, mBX2⟩ := id bBX_18
    obtain ⟨-, mBI0, mBI1, mBI2⟩ := id bBI_0
    go_wp2_with fail
    clear mA0 mA1 mA2 mBS0 mBS1 mBS2 mBX0 mBX1 mBX2 mBI0 mBI1 mBI2
    generalize (w_15.alloc (.cells #[.int .i64 s, .int .i64 t, .slice aI R.length cpI] 26)) = w_19 at *
    refine (eqCyl_same s t (Rd.of_own hI_18) (Rd.of_own hS_18)).mono ?_
    rintro e w_20 ⟨rfl, hb20⟩
    have bA_21 := bA_18.below hb20
    have bBS_21 := bBS_18.below hb20
    have bBX_21 := bBX_18.below hb20
    have bBI_21 := bBI_0.below hb20
    have hS_21 := ownS_below hS_18 hb20
    have hX_21 := ownS_below hX_18 hb20
    have hI_21 := ownS_below hI_18 hb20
    have g_21 := bstep g_18 hb20
    clear hb20 bA_18 bBS_18 bBX_18 bBI_0 hS_18 hX_18 hI_18 g_18
    obtain ⟨-, n0, n1, n2⟩ := id bBX_21
    obtain ⟨-, n3, n4, n5⟩ := id bA_21
    go_wp2_with fail
    go_region_held3 (fun w' => w'.cell? ⟨w_10.heap.size, 0, none⟩ = some (.int .i64 s) ∧ w'.cell? ⟨w_10.heap.size, 1, none⟩ = some (.int .i64 t) ∧ w'.cell? ⟨w_10.heap.size, 2, none⟩ = some (.slice aX l.length cpX) ∧ w'.cell? ⟨w.heap.size, 0, none⟩ = some (.int .i64 s) ∧ w'.cell? ⟨w.heap.size, 1, none⟩ = some (.int .i64 t) ∧ w'.cell? ⟨w.heap.size, 2, none⟩ = some (.slice al l.length cl)) (go_keep)
      ((first
          | (go_at_call 23; refine (toCyl_any s t (Rd.below hl (Below.drew g_21)) hsl).mono ?_; rintro e wa ⟨va, rfl, hva, hba⟩; have q0 := kept_cell hba n0; have q1 := kept_cell hba n1; have q2 := kept_cell hba n2; have q3 := kept_cell hba n3; have q4 := kept_cell hba n4; have q5 := kept_cell hba n5)
          | (go_at_call 24; refine (eqCyl_same s t (Rd.of_own (ownS_below hX_21 (below_undrew hba))) (Rd.of_own hva)).mono ?_; rintro e wb ⟨rfl, hbb⟩; have r0 := old_cell hbb q0; have r1 := old_cell hbb q1; have r2 := old_cell hbb q2; have r3 := old_cell hbb q3; have r4 := old_cell hbb q4; have r5 := old_cell hbb q5)))
    have hbc := bstep (below_undrew hba) hbb
    clear q0 q1 q2 q3 q4 q5 r0 r1 r2 r3 r4 r5 n0 n1 n2 n3 n4 n5 hva hba hbb
    have bA_22 := bA_21.below hbc
    have bBS_22 := bBS_21.below hbc
    have bBX_22 := bBX_21.below hbc
    have bBI_22 := bBI_21.below hbc
    have hS_22 := ownS_below hS_21 hbc
    have hX_22 := ownS_below hX_21 hbc
    have hI_22 := ownS_below hI_21 hbc
    have g_22 := bstep g_21 hbc
    clear hbc bA_21 bBS_21 bBX_21 bBI_21 hS_21 hX_21 hI_21 g_21
    have glX : ∀ k, (.slice aX l.length cpX : Value).ownBlock = some k → w.heap.size ≤ k := fun k hk => Nat.le_trans gbX.size (hX_22.lt k hk).1
    obtain ⟨-, mA0, mA1, mA2⟩ := id bA_22
    obtain ⟨-, mBS0, mBS1, mBS2⟩ := id bBS_22
    obtain ⟨-, mBX0, mBX1, mBX2⟩ := id bBX_22
    obtain ⟨-, mBI0, mBI1, mBI2⟩ := id bBI_22
    go_wp2_with fail
    clear mA0 mA1 mA2 mBS0 mBS1 mBS2 mBX0 mBX1 mBX2 mBI0 mBI1 mBI2
    refine (markCyl_any s t 1 (by omega) hX_22).mono ?_
    rintro e w_23 ⟨rfl, hg23, _⟩
    have bA_23 := bA_22.grown hg23 (Ne.symm apXA)
    have bBS_23 := bBS_22.grown hg23 (Ne.symm apXBS)
    have bBX_23 := bBX_22.grown hg23 (Ne.symm apXBX)
    have bBI_23 := bBI_22.grown hg23 (Ne.symm apXBI)
    have hS_23 := World.ownsRow.kept hS_22 hg23 apSX
    have hI_23 := World.ownsRow.kept hI_22 hg23 apIX
    have g_23 := g_22.grown hg23 g_22.size glX
    clear hg23 hX_22 bA_22 bBS_22 bBX_22 bBI_22 hS_22 hI_22
    clear apXA apXBS apSX apXS apXBX apXI apIX apXBI
    obtain ⟨-, mA0, mA1, mA2⟩ := id bA_23
    obtain ⟨-, mBS0, mBS1, mBS2⟩ := id bBS_23
    obtain ⟨-, mBX0, mBX1, mBX2⟩ := id bBX_23
    obtain ⟨-, mBI0, mBI1, mBI2⟩ := id bBI_23
    go_wp2_with fail
    clear mA0 mA1 mA2 mBS0 mBS1 mBS2 mBX0 mBX1 mBX2 mBI0 mBI1 mBI2
    refine (eqCyl_same s t (Rd.of_own hI_23) (Rd.of_own hS_23)).mono ?_
    rintro e w_24 ⟨rfl, hb24⟩
    have bA_25 := bA_23.below hb24
    have bBS_25 := bBS_23.below hb24
    have bBX_25 := bBX_23.below hb24
    have bBI_25 := bBI_23.below hb24
    have hS_25 := ownS_below hS_23 hb24
    have hI_25 := ownS_below hI_23 hb24
    have g_25 := bstep g_23 hb24
    clear hb24 bA_23 bBS_23 bBX_23 bBI_23 hS_23 hI_23 g_23
    have glI : ∀ k, (.slice aI R.length cpI : Value).ownBlock = some k → w.heap.size ≤ k := fun k hk => Nat.le_trans gbI.size (hI_25.lt k hk).1
    obtain ⟨-, mA0, mA1, mA2⟩ := id bA_25
    obtain ⟨-, mBS0, mBS1, mBS2⟩ := id bBS_25
    obtain ⟨-, mBX0, mBX1, mBX2⟩ := id bBX_25
    obtain ⟨-, mBI0, mBI1, mBI2⟩ := id bBI_25
    go_wp2_with fail
    clear mA0 mA1 mA2 mBS0 mBS1 mBS2 mBX0 mBX1 mBX2 mBI0 mBI1 mBI2
    refine (markCyl_any s t 1 (by omega) hI_25).mono ?_
    rintro e w_26 ⟨rfl, hg26, ys, hy26, hmk26⟩
    have bA_26 := bA_25.grown hg26 (Ne.symm apIA)
    have bBS_26 := bBS_25.grown hg26 (Ne.symm apIBS)
    have bBX_26 := bBX_25.grown hg26 (Ne.symm apIBX)
    have bBI_26 := bBI_25.grown hg26 (Ne.symm apIBI)
    have hS_26 := World.ownsRow.kept hS_25 hg26 apSI
    have g_26 := g_25.grown hg26 g_25.size glI
    clear hg26 hI_25 bA_25 bBS_25 bBX_25 bBI_25 hS_25
    have HMK := Lib.hid hmk26
    clear hmk26
    obtain ⟨-, mA0, mA1, mA2⟩ := id bA_26
    obtain ⟨-, mBS0, mBS1, mBS2⟩ := id bBS_26
    obtain ⟨-, mBX0, mBX1, mBX2⟩ := id bBX_26
    obtain ⟨-, mBI0, mBI1, mBI2⟩ := id bBI_26
    go_wp2_with fail
    clear mA0 mA1 mA2 mBS0 mBS1 mBS2 mBX0 mBX1 mBX2 mBI0 mBI1 mBI2
    refine (heldCyl_any s t 1 (by omega) (Rd.of_own hy26) HMK.out).mono ?_
    rintro e w_27 ⟨rfl, hb27⟩
    have bA_28 := bA_26.below hb27
    have bBS_28 := bBS_26.below hb27
    have bBX_28 := bBX_26.below hb27
    have bBI_28 := bBI_26.below hb27
    have hS_28 := ownS_below hS_26 hb27
    have hI_28 := ownS_below hy26 hb27
    have g_28 := bstep g_26 hb27
    clear hb27 bA_26 bBS_26 bBX_26 bBI_26 hS_26 hy26 g_26
    obtain ⟨-, mA0, mA1, mA2⟩ := id bA_28
    obtain ⟨-, mBS0, mBS1, mBS2⟩ := id bBS_28
    obtain ⟨-, mBX0, mBX1, mBX2⟩ := id bBX_28
    obtain ⟨-, mBI0, mBI1, mBI2⟩ := id bBI_28
    go_wp2_with fail
    clear mA0 mA1 mA2 mBS0 mBS1 mBS2 mBX0 mBX1 mBX2 mBI0 mBI1 mBI2
    have gbK := g_28
    refine (toCyl_any s t (Rd.below hl g_28) hsl).mono ?_
    rintro e w_29 ⟨vK, rfl, hK_0, hb29⟩
    obtain ⟨aK, cpK, rfl⟩ := ownS_slice hK_0
    have apKA := ob_of_lt hK_0 bA_28.1
    have apKBS := ob_of_lt hK_0 bBS_28.1
    have apKBX := ob_of_lt hK_0 bBX_28.1
    have apKBI := ob_of_lt hK_0 bBI_28.1
    have apSK := apartS hS_28 hK_0
    have apKS := apartS' hS_28 hK_0
    have apIK := apartS hI_28 hK_0
    have apKI := apartS' hI_28 hK_0
    have bA_30 := bA_28.below hb29
    have bBS_30 := bBS_28.below hb29
    have bBX_30 := bBX_28.below hb29
    have bBI_30 := bBI_28.below hb29
    have hS_30 := ownS_below hS_28 hb29
    have hI_30 := ownS_below hI_28 hb29
    have g_30 := bstep g_28 hb29
    clear hb29 bA_28 bBS_28 bBX_28 bBI_28 hS_28 hI_28 g_28
    obtain ⟨-, mA0, mA1, mA2⟩ := id bA_30
    obtain ⟨-, mBS0, mBS1, mBS2⟩ := id bBS_30
    obtain ⟨-, mBX0, mBX1, mBX2⟩ := id bBX_30
    obtain ⟨-, mBI0, mBI1, mBI2⟩ := id bBI_30
    go_wp2_with fail
    clear mA0 mA1 mA2 mBS0 mBS1 mBS2 mBX0 mBX1 mBX2 mBI0 mBI1 mBI2
    have gbH := g_30
    refine (HI.out _ _ (RdC.of_own hK_0)).mono ?_
    rintro e w_31 ⟨vH, rfl, hH_0, hb31⟩
    obtain ⟨aH, cpH, rfl⟩ := ownS_slice hH_0
    have apHA := ob_of_lt hH_0 bA_30.1
    have apHBS := ob_of_lt hH_0 bBS_30.1
    have apHBX := ob_of_lt hH_0 bBX_30.1
    have apHBI := ob_of_lt hH_0 bBI_30.1
    have apSH := apartS hS_30 hH_0
    have apHS := apartS' hS_30 hH_0
    have apIH := apartS hI_30 hH_0
    have apHI := apartS' hI_30 hH_0
    have apKH := apartS hK_0 hH_0
    have apHK := apartS' hK_0 hH_0
    have bA_32 := bA_30.below hb31
    have bBS_32 := bBS_30.below hb31
    have bBX_32 := bBX_30.below hb31
    have bBI_32 := bBI_30.below hb31
    have hS_32 := ownS_below hS_30 hb31
    have hI_32 := ownS_below hI_30 hb31
    have hK_32 := ownS_below hK_0 hb31
    have g_32 := bstep g_30 hb31
    clear hb31 bA_30 bBS_30 bBX_30 bBI_30 hS_30 hI_30 hK_0 g_30
    clear hK_32 apKA apKBS apKBX apKBI apSK apKS apIK apKI apKH apHK
    have hbA33 : Below w_31.heap.size w_31 (w_31.alloc (.cells #[.int .i64 s, .int .i64 t, .slice aH R.length cpH] 26)) := (Below.refl _ _).alloc (Nat.le_refl _) _
    have bBH_0 : Box (w_31.alloc (.cells #[.int .i64 s, .int .i64 t, .slice aH R.length cpH] 26)) w_31.heap.size s t (.slice aH R.length cpH) := box_new _ _ _ _ _
    have apSBH : (.slice aS R.length cpS : Value).ownBlock ≠ some w_31.heap.size := fun e => Nat.lt_irrefl _ (hS_32.lt _ e).2
    have apIBH : (.slice aI R.length cpI : Value).ownBlock ≠ some w_31.heap.size := fun e => Nat.lt_irrefl _ (hI_32.lt _ e).2
    have apHBH : (.slice aH R.length cpH : Value).ownBlock ≠ some w_31.heap.size := fun e => Nat.lt_irrefl _ (hH_0.lt _ e).2
    have bA_34 := bA_32.below hbA33
    have bBS_34 := bBS_32.below hbA33
    have bBX_34 := bBX_32.below hbA33
    have bBI_34 := bBI_32.below hbA33
    have hS_34 := ownS_below hS_32 hbA33
    have hI_34 := ownS_below hI_32 hbA33
    have hH_34 := ownS_below hH_0 hbA33
    have g_34 := bstep g_32 hbA33
    clear hbA33 bA_32 bBS_32 bBX_32 bBI_32 hS_32 hI_32 hH_0 g_32
    obtain ⟨-, mA0, mA1, mA2⟩ := id bA_34
    obtain ⟨-, mBS0, mBS1, mBS2⟩ := id bBS_34
    obtain ⟨-, mBX0, mBX1, mBX2⟩ := id bBX_34
    obtain ⟨-, mBI0, mBI1, mBI2⟩ := id bBI_34
    obtain ⟨-, mBH0, mBH1, mBH2⟩ := id bBH_0
    go_wp2_with fail
    clear mA0 mA1 mA2 mBS0 mBS1 mBS2 mBX0 mBX1 mBX2 mBI0 mBI1 mBI2 mBH0 mBH1 mBH2
    generalize (w_31.alloc (.cells #[.int .i64 s, .int .i64 t, .slice aH R.length cpH] 26)) = w_35 at *
    refine (eqCyl_same s t (Rd.of_own hH_34) (Rd.of_own hS_34)).mono ?_
    rintro e w_36 ⟨rfl, hb36⟩
    have bA_37 := bA_34.below hb36
    have bBS_37 := bBS_34.below hb36
    have bBX_37 := bBX_34.below hb36
    have bBI_37 := bBI_34.below hb36
    have bBH_37 := bBH_0.below hb36
    have hS_37 := ownS_below hS_34 hb36
    have hI_37 := ownS_below hI_34 hb36
    have hH_37 := ownS_below hH_34 hb36
    have g_37 := bstep g_34 hb36
    clear hb36 bA_34 bBS_34 bBX_34 bBI_34 bBH_0 hS_34 hI_34 hH_34 g_34
    obtain ⟨-, mA0, mA1, mA2⟩ := id bA_37
    obtain ⟨-, mBS0, mBS1, mBS2⟩ := id bBS_37
    obtain ⟨-, mBX0, mBX1, mBX2⟩ := id bBX_37
    obtain ⟨-, mBI0, mBI1, mBI2⟩ := id bBI_37
    obtain ⟨-, mBH0, mBH1, mBH2⟩ := id bBH_37
    go_wp2_with fail
    clear mA0 mA1 mA2 mBS0 mBS1 mBS2 mBX0 mBX1 mBX2 mBI0 mBI1 mBI2 mBH0 mBH1 mBH2
    refine (heldCyl_any s t 1 (by omega) (Rd.of_own hI_37) HMK.out).mono ?_
    rintro e w_38 ⟨rfl, hb38⟩
    have bA_39 := bA_37.below hb38
    have bBS_39 := bBS_37.below hb38
    have bBX_39 := bBX_37.below hb38
    have bBI_39 := bBI_37.below hb38
    have bBH_39 := bBH_37.below hb38
    have hS_39 := ownS_below hS_37 hb38
    have hI_39 := ownS_below hI_37 hb38
    have hH_39 := ownS_below hH_37 hb38
    have g_39 := bstep g_37 hb38
    clear hb38 bA_37 bBS_37 bBX_37 bBI_37 bBH_37 hS_37 hI_37 hH_37 g_37
    go_wp2
    go_ret
    exact ⟨rfl, g_39⟩
  · go_enter Try.func7, Try.ntmps7
    go_wp2_with fail
    rw [← hw0]
    clear hw0
    refine (szCyl_no s t hsl hml).mono ?_
    rintro e w1 ⟨rfl, hb1⟩
    have g1 := bstep g0 hb1
    clear bA_0 g0 hb1
    go_wp2
    go_ret
    exact ⟨rfl, g1⟩

end Go.Proofs.Ytnnoknejigaklaa
