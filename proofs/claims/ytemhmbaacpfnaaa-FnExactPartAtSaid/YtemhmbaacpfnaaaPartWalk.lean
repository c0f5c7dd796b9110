/- The walk of FnExactPartAt: THE PROGRAM'S OWN CONTRACT IS A PREMISE (hI). Made by mk_cyl.py. -/
import Derived.Test.YtemhmbaacpfnaaaPartSpec
import Derived.Test.YtemhmbaacpfnaaaWalkKit
namespace Go.Proofs.Ytemhmbaacpfnaaa
open Go.ChangeShapes Go.WideShapes Go.ChangeAt Go.RowKit

set_option maxHeartbeats 8000000 in
set_option maxRecDepth 100000 in
theorem exactpart_walk {w : World} {ql : Value} {l : List (Int × Int)} (s t d h : Int) (hI : ∀ (W : World) (U : Value), RdC W U l → l.length ≤ 1048576 → Calls Try.prog 12 #[.agg #[.int .i64 s, .int .i64 t, U], .int .i64 d, .int .i64 h] W (NewCylO W (ptO (s, t, l) d h))) (hl : Rd2 w ql l) :
    Calls Try.prog 6 #[.agg #[.int .i64 s, .int .i64 t, ql], .int .i64 d, .int .i64 h] w fun e w' => e = .returned (.bool true) ∧ Below w.heap.size w w' := by
  obtain ⟨al, cl, rfl⟩ := Rd.slice hl
  have hml := hl.2.1
  unfold maxLen at hml
  have HLE : ∀ {c : Cyl}, ptO (s, t, l) d h = some c → c.2.2.length ≤ 100 := fun k => ptO_le k
  obtain ⟨w0, hw0⟩ : ∃ w0, w0 = w.alloc (.cells #[.int .i64 s, .int .i64 t, .slice al l.length cl] 40) := ⟨_, rfl⟩
  have g0 : Below w.heap.size w w0 := by rw [hw0]; exact (Below.refl _ _).alloc (Nat.le_refl _) _
  have bA_0 : Box w0 w.heap.size s t (.slice al l.length cl) := by rw [hw0]; exact box_new _ _ _ _ _
  by_cases hsl : l.length ≤ 1048576
  · have HI := Lib.hid (fun (W : World) (U : Value) (pl : RdC W U l) => (show Calls Try.prog 12 #[.agg #[.int .i64 s, .int .i64 t, U], .int .i64 d, .int .i64 h] W (NewCylB W (outC (ptO (s, t, l) d h)).1.1 (outC (ptO (s, t, l) d h)).1.2.1 (outC (ptO (s, t, l) d h)).1.2.2 (outC (ptO (s, t, l) d h)).2) from hI W U pl hsl))
    have HS := Lib.hid (fun (W : World) (U : Value) (pl : RdC W U l) => (show Calls Try.prog 24 #[.agg #[.int .i64 s, .int .i64 t, U], .int .i64 d, .int .i64 h] W (NewCylB W (outC (ptO (s, t, l) d h)).1.1 (outC (ptO (s, t, l) d h)).1.2.1 (outC (ptO (s, t, l) d h)).1.2.2 (outC (ptO (s, t, l) d h)).2) from spart_any (s, t, l) d h pl.1))
    clear hI
    have hbd : (outC (ptO (s, t, l) d h)).1.2.2.length ≤ 1048576 := outC_le fun c k => Nat.le_trans (HLE k) (by omega)
    generalize (outC (ptO (s, t, l) d h)).1.2.2 = R at *
    generalize (outC (ptO (s, t, l) d h)).1.2.1 = T at *
    generalize (outC (ptO (s, t, l) d h)).1.1 = S at *
    generalize (outC (ptO (s, t, l) d h)).2 = tb at *
    clear HLE
    go_enter Try.func6, Try.ntmps6
    go_wp2_with fail
    rw [← hw0]
    clear hw0
    refine (szCyl_yes s t hsl).mono ?_
    rintro e w_1 ⟨x0, hx0, rfl, hb1⟩
    have bA_2 := bA_0.below hb1
    have g_2 := bstep g0 hb1
    clear hb1 bA_0 g0
    obtain ⟨-, mA0, mA1, mA2⟩ := id bA_2
    go_wp2_with fail
    clear mA0 mA1 mA2
    have gbP := g_2
    refine (toCyl_any s t (Rd.below hl g_2) hsl).mono ?_
    rintro e w_3 ⟨vP, rfl, hP_0, hb3⟩
    obtain ⟨aP, cpP, rfl⟩ := ownS_slice hP_0
    have apPA := ob_of_lt hP_0 bA_2.1
    have bA_4 := bA_2.below hb3
    have g_4 := bstep g_2 hb3
    clear hb3 bA_2 g_2
    obtain ⟨-, mA0, mA1, mA2⟩ := id bA_4
    go_wp2_with fail
    clear mA0 mA1 mA2
    have gbS := g_4
    refine (HS.out _ _ (RdC.of_own hP_0)).mono ?_
    rintro e w_5 ⟨vS, rfl, hS_0, hb5⟩
    obtain ⟨aS, cpS, rfl⟩ := ownS_slice hS_0
    have apSA := ob_of_lt hS_0 bA_4.1
    have apPS := apartS hP_0 hS_0
    have apSP := apartS' hP_0 hS_0
    have bA_6 := bA_4.below hb5
    have hP_6 := ownS_below hP_0 hb5
    have g_6 := bstep g_4 hb5
    clear hb5 bA_4 hP_0 g_4
    clear hP_6 apPA apPS apSP
    have hbA7 : Below w_5.heap.size w_5 (w_5.alloc (.cells #[.int .i64 S, .int .i64 T, .slice aS R.length cpS] 26)) := (Below.refl _ _).alloc (Nat.le_refl _) _
    have bBS_0 : Box (w_5.alloc (.cells #[.int .i64 S, .int .i64 T, .slice aS R.length cpS] 26)) w_5.heap.size S T (.slice aS R.length cpS) := box_new _ _ _ _ _
    have apSBS : (.slice aS R.length cpS : Value).ownBlock ≠ some w_5.heap.size := fun e => Nat.lt_irrefl _ (hS_0.lt _ e).2
    have bA_8 := bA_6.below hbA7
    have hS_8 := ownS_below hS_0 hbA7
    have g_8 := bstep g_6 hbA7
    clear hbA7 bA_6 hS_0 g_6
    obtain ⟨-, mA0, mA1, mA2⟩ := id bA_8
    obtain ⟨-, mBS0, mBS1, mBS2⟩ := id bBS_0
    go_wp2_with fail
    clear mA0 mA1 mA2 mBS0 mBS1 mBS2
    generalize (w_5.alloc (.cells #[.int .i64 S, .int .i64 T, .slice aS R.length cpS] 26)) = w_9 at *
    have gbX := g_8
    refine (toCyl_any s t (Rd.below hl g_8) hsl).mono ?_
    rintro e w_10 ⟨vX, rfl, hX_0, hb10⟩
    obtain ⟨aX, cpX, rfl⟩ := ownS_slice hX_0
    have apXA := ob_of_lt hX_0 bA_8.1
    have apXBS := ob_of_lt hX_0 bBS_0.1
    have apSX := apartS hS_8 hX_0
    have apXS := apartS' hS_8 hX_0
    have bA_11 := bA_8.below hb10
    have bBS_11 := bBS_0.below hb10
    have hS_11 := ownS_below hS_8 hb10
    have g_11 := bstep g_8 hb10
    clear hb10 bA_8 bBS_0 hS_8 g_8
    have hbA12 : Below w_10.heap.size w_10 (w_10.alloc (.cells #[.int .i64 s, .int .i64 t, .slice aX l.length cpX] 26)) := (Below.refl _ _).alloc (Nat.le_refl _) _
    have bBX_0 : Box (w_10.alloc (.cells #[.int .i64 s, .int .i64 t, .slice aX l.length cpX] 26)) w_10.heap.size s t (.slice aX l.length cpX) := box_new _ _ _ _ _
    have apSBX : (.slice aS R.length cpS : Value).ownBlock ≠ some w_10.heap.size := fun e => Nat.lt_irrefl _ (hS_11.lt _ e).2
    have apXBX : (.slice aX l.length cpX : Value).ownBlock ≠ some w_10.heap.size := fun e => Nat.lt_irrefl _ (hX_0.lt _ e).2
    have bA_13 := bA_11.below hbA12
    have bBS_13 := bBS_11.below hbA12
    have hS_13 := ownS_below hS_11 hbA12
    have hX_13 := ownS_below hX_0 hbA12
    have g_13 := bstep g_11 hbA12
    clear hbA12 bA_11 bBS_11 hS_11 hX_0 g_11
    obtain ⟨-, mA0, mA1, mA2⟩ := id bA_13
    obtain ⟨-, mBS0, mBS1, mBS2⟩ := id bBS_13
    obtain ⟨-, mBX0, mBX1, mBX2⟩ := id bBX_0
    go_wp2_with fail
    clear mA0 mA1 mA2 mBS0 mBS1 mBS2 mBX0 mBX1 mBX2
    generalize (w_10.alloc (.cells #[.int .i64 s, .int .i64 t, .slice aX l.length cpX] 26)) = w_14 at *
    have gbI := g_13
    refine (HI.out _ _ (RdC.of_own hX_13)).mono ?_
    rintro e w_15 ⟨vI, rfl, hI_0, hb15⟩
    obtain ⟨aI, cpI, rfl⟩ := ownS_slice hI_0
    have apIA := ob_of_lt hI_0 bA_13.1
    have apIBS := ob_of_lt hI_0 bBS_13.1
    have apIBX := ob_of_lt hI_0 bBX_0.1
    have apSI := apartS hS_13 hI_0
    have apIS := apartS' hS_13 hI_0
    have apXI := apartS hX_13 hI_0
    have apIX := apartS' hX_13 hI_0
    have bA_16 := bA_13.below hb15
    have bBS_16 := bBS_13.below hb15
    have bBX_16 := bBX_0.below hb15
    have hS_16 := ownS_below hS_13 hb15
    have hX_16 := ownS_below hX_13 hb15
    have g_16 := bstep g_13 hb15
    clear hb15 bA_13 bBS_13 bBX_0 hS_13 hX_13 g_13
    have hbA17 : Below w_15.heap.size w_15 (w_15.alloc (.cells #[.int .i64 S, .int .i64 T, .slice aI R.length cpI] 26)) := (Below.refl _ _).alloc (Nat.le_refl _) _
    have bBI_0 : Box (w_15.alloc (.cells #[.int .i64 S, .int .i64 T, .slice aI R.length cpI] 26)) w_15.heap.size S T (.slice aI R.length cpI) := box_new _ _ _ _ _
    have apSBI : (.slice aS R.length cpS : Value).ownBlock ≠ some w_15.heap.size := fun e => Nat.lt_irrefl _ (hS_16.lt _ e).2
    have apXBI : (.slice aX l.length cpX : Value).ownBlock ≠ some w_15.heap.size := fun e => Nat.lt_irrefl _ (hX_16.lt _ e).2
    have apIBI : (.slice aI R.length cpI : Value).ownBlock ≠ some w_15.heap.size := fun e => Nat.lt_irrefl _ (hI_0.lt _ e).2
    have bA_18 := bA_16.below hbA17
    have bBS_18 := bBS_16.below hbA17
    have bBX_18 := bBX_16.below hbA17
    have hS_18 := ownS_below hS_16 hbA17
    have hX_18 := ownS_below hX_16 hbA17
    have hI_18 := ownS_below hI_0 hbA17
    have g_18 := bstep g_16 hbA17
    clear hbA17 bA_16 bBS_16 bBX_16 hS_16 hX_16 hI_0 g_16
    obtain ⟨-, mA0, mA1, mA2⟩ := id bA_18
    obtain ⟨-, mBS0, mBS1, mBS2⟩ := id bBS_18
    obtain ⟨-, mBX0, mBX1, mBX2⟩ := id bBX_18
    obtain ⟨-, mBI0, mBI1, mBI2⟩ := id bBI_0
    go_wp2_with fail
    clear mA0 mA1 mA2 mBS0 mBS1 mBS2 mBX0 mBX1 mBX2 mBI0 mBI1 mBI2
    generalize (w_15.alloc (.cells #[.int .i64 S, .int .i64 T, .slice aI R.length cpI] 26)) = w_19 at *
    refine (eqCyl_same S T (Rd.of_own hI_18) (Rd.of_own hS_18)).mono ?_
    rintro e w_20 ⟨rfl, hb20⟩
    have bA_21 := bA_18.below hb20
    have bBS_21 := bBS_18.below hb20
    have bBX_21 := bBX_18.below hb20
    have bBI_21 := bBI_0.below hb20
    have hS_21 := ownS_below hS_18 hb20
    have hX_21 := ownS_below hX_18 hb20
    have hI_21 := ownS_below hI_18 hb20
    have g_21 := bstep g_18 hb20
    clear hb20 bA_18 bBS_18 bBX_18 bBI_0 hS_18 hX_18 hI_18 g_18
    obtain ⟨-, n0, n1, n2⟩ := id bBX_21
    obtain ⟨-, n3, n4, n5⟩ := id bA_21
    go_wp2_with fail
    go_region_held3 (fun w' => w'.cell? ⟨w_10.heap.size, 0, none⟩ = some (.int .i64 s) ∧ w'.cell? ⟨w_10.heap.size, 1, none⟩ = some (.int .i64 t) ∧ w'.cell? ⟨w_10.heap.size, 2, none⟩ = some (.slice aX l.length cpX) ∧ w'.cell? ⟨w.heap.size, 0, none⟩ = some (.int .i64 s) ∧ w'.cell? ⟨w.heap.size, 1, none⟩ = some (.int .i64 t) ∧ w'.cell? ⟨w.heap.size, 2, none⟩ = some (.slice al l.length cl)) (go_keep)
      ((first
          | (go_at_call 19; refine (toCyl_any s t (Rd.below hl (Below.drew g_21)) hsl).mono ?_; rintro e wa22 ⟨va, rfl, hva, hba⟩; have q0 := kept_cell hba n0; have q1 := kept_cell hba n1; have q2 := kept_cell hba n2; have q3 := kept_cell hba n3; have q4 := kept_cell hba n4; have q5 := kept_cell hba n5)
          | (go_at_call 20; refine (eqCyl_same s t (Rd.of_own (ownS_below hX_21 (below_undrew hba))) (Rd.of_own hva)).mono ?_; rintro e wb22 ⟨rfl, hbb⟩; have r0 := old_cell hbb q0; have r1 := old_cell hbb q1; have r2 := old_cell hbb q2; have r3 := old_cell hbb q3; have r4 := old_cell hbb q4; have r5 := old_cell hbb q5)))
    have hbc := bstep (below_undrew hba) hbb
    clear q0 q1 q2 q3 q4 q5 r0 r1 r2 r3 r4 r5 n0 n1 n2 n3 n4 n5 hva hba hbb
    have bA_23 := bA_21.below hbc
    have bBS_23 := bBS_21.below hbc
    have bBX_23 := bBX_21.below hbc
    have bBI_23 := bBI_21.below hbc
    have hS_23 := ownS_below hS_21 hbc
    have hX_23 := ownS_below hX_21 hbc
    have hI_23 := ownS_below hI_21 hbc
    have g_23 := bstep g_21 hbc
    clear hbc bA_21 bBS_21 bBX_21 bBI_21 hS_21 hX_21 hI_21 g_21
    have glX : ∀ k, (.slice aX l.length cpX : Value).ownBlock = some k → w.heap.size ≤ k := fun k hk => Nat.le_trans gbX.size (hX_23.lt k hk).1
    obtain ⟨-, mA0, mA1, mA2⟩ := id bA_23
    obtain ⟨-, mBS0, mBS1, mBS2⟩ := id bBS_23
    obtain ⟨-, mBX0, mBX1, mBX2⟩ := id bBX_23
    obtain ⟨-, mBI0, mBI1, mBI2⟩ := id bBI_23
    go_wp2_with fail
    clear mA0 mA1 mA2 mBS0 mBS1 mBS2 mBX0 mBX1 mBX2 mBI0 mBI1 mBI2
    refine (markCyl_any s t 1 (by omega) hX_23).mono ?_
    rintro e w_24 ⟨rfl, hg24, _⟩
    have bA_24 := bA_23.grown hg24 (Ne.symm apXA)
    have bBS_24 := bBS_23.grown hg24 (Ne.symm apXBS)
    have bBX_24 := bBX_23.grown hg24 (Ne.symm apXBX)
    have bBI_24 := bBI_23.grown hg24 (Ne.symm apXBI)
    have hS_24 := World.ownsRow.kept hS_23 hg24 apSX
    have hI_24 := World.ownsRow.kept hI_23 hg24 apIX
    have g_24 := g_23.grown hg24 g_23.size glX
    clear hg24 hX_23 bA_23 bBS_23 bBX_23 bBI_23 hS_23 hI_23
    clear apXA apXBS apSX apXS apXBX apXI apIX apXBI
    obtain ⟨-, mA0, mA1, mA2⟩ := id bA_24
    obtain ⟨-, mBS0, mBS1, mBS2⟩ := id bBS_24
    obtain ⟨-, mBX0, mBX1, mBX2⟩ := id bBX_24
    obtain ⟨-, mBI0, mBI1, mBI2⟩ := id bBI_24
    go_wp2_with fail
    clear mA0 mA1 mA2 mBS0 mBS1 mBS2 mBX0 mBX1 mBX2 mBI0 mBI1 mBI2
    refine (eqCyl_same S T (Rd.of_own hI_24) (Rd.of_own hS_24)).mono ?_
    rintro e w_25 ⟨rfl, hb25⟩
    have bA_26 := bA_24.below hb25
    have bBS_26 := bBS_24.below hb25
    have bBX_26 := bBX_24.below hb25
    have bBI_26 := bBI_24.below hb25
    have hS_26 := ownS_below hS_24 hb25
    have hI_26 := ownS_below hI_24 hb25
    have g_26 := bstep g_24 hb25
    clear hb25 bA_24 bBS_24 bBX_24 bBI_24 hS_24 hI_24 g_24
    have glI : ∀ k, (.slice aI R.length cpI : Value).ownBlock = some k → w.heap.size ≤ k := fun k hk => Nat.le_trans gbI.size (hI_26.lt k hk).1
    obtain ⟨-, mA0, mA1, mA2⟩ := id bA_26
    obtain ⟨-, mBS0, mBS1, mBS2⟩ := id bBS_26
    obtain ⟨-, mBX0, mBX1, mBX2⟩ := id bBX_26
    obtain ⟨-, mBI0, mBI1, mBI2⟩ := id bBI_26
    go_wp2_with fail
    clear mA0 mA1 mA2 mBS0 mBS1 mBS2 mBX0 mBX1 mBX2 mBI0 mBI1 mBI2
    obtain ⟨-, mA0, mA1, mA2⟩ := id bA_26
    obtain ⟨-, mBS0, mBS1, mBS2⟩ := id bBS_26
    obtain ⟨-, mBX0, mBX1, mBX2⟩ := id bBX_26
    obtain ⟨-, mBI0, mBI1, mBI2⟩ := id bBI_26
    go_wp2_with fail
    clear mA0 mA1 mA2 mBS0 mBS1 mBS2 mBX0 mBX1 mBX2 mBI0 mBI1 mBI2
    refine (markCyl_any S T 1 (by omega) hI_26).mono ?_
    rintro e w_27 ⟨rfl, hg27, ys, hy27, hmk27⟩
    have bA_27 := bA_26.grown hg27 (Ne.symm apIA)
    have bBS_27 := bBS_26.grown hg27 (Ne.symm apIBS)
    have bBX_27 := bBX_26.grown hg27 (Ne.symm apIBX)
    have bBI_27 := bBI_26.grown hg27 (Ne.symm apIBI)
    have hS_27 := World.ownsRow.kept hS_26 hg27 apSI
    have g_27 := g_26.grown hg27 g_26.size glI
    clear hg27 hI_26 bA_26 bBS_26 bBX_26 bBI_26 hS_26
    have HMK := Lib.hid hmk27
    clear hmk27
    obtain ⟨-, mA0, mA1, mA2⟩ := id bA_27
    obtain ⟨-, mBS0, mBS1, mBS2⟩ := id bBS_27
    obtain ⟨-, mBX0, mBX1, mBX2⟩ := id bBX_27
    obtain ⟨-, mBI0, mBI1, mBI2⟩ := id bBI_27
    go_wp2_with fail
    clear mA0 mA1 mA2 mBS0 mBS1 mBS2 mBX0 mBX1 mBX2 mBI0 mBI1 mBI2
    refine (heldCyl_any S T 1 (by omega) (Rd.of_own hy27) HMK.out).mono ?_
    rintro e w_28 ⟨rfl, hb28⟩
    have bA_29 := bA_27.below hb28
    have bBS_29 := bBS_27.below hb28
    have bBX_29 := bBX_27.below hb28
    have bBI_29 := bBI_27.below hb28
    have hS_29 := ownS_below hS_27 hb28
    have hI_29 := ownS_below hy27 hb28
    have g_29 := bstep g_27 hb28
    clear hb28 bA_27 bBS_27 bBX_27 bBI_27 hS_27 hy27 g_27
    obtain ⟨-, mA0, mA1, mA2⟩ := id bA_29
    obtain ⟨-, mBS0, mBS1, mBS2⟩ := id bBS_29
    obtain ⟨-, mBX0, mBX1, mBX2⟩ := id bBX_29
    obtain ⟨-, mBI0, mBI1, mBI2⟩ := id bBI_29
    go_wp2_with fail
    clear mA0 mA1 mA2 mBS0 mBS1 mBS2 mBX0 mBX1 mBX2 mBI0 mBI1 mBI2
    have gbK := g_29
    refine (toCyl_any s t (Rd.below hl g_29) hsl).mono ?_
    rintro e w_30 ⟨vK, rfl, hK_0, hb30⟩
    obtain ⟨aK, cpK, rfl⟩ := ownS_slice hK_0
    have apKA := ob_of_lt hK_0 bA_29.1
    have apKBS := ob_of_lt hK_0 bBS_29.1
    have apKBX := ob_of_lt hK_0 bBX_29.1
    have apKBI := ob_of_lt hK_0 bBI_29.1
    have apSK := apartS hS_29 hK_0
    have apKS := apartS' hS_29 hK_0
    have apIK := apartS hI_29 hK_0
    have apKI := apartS' hI_29 hK_0
    have bA_31 := bA_29.below hb30
    have bBS_31 := bBS_29.below hb30
    have bBX_31 := bBX_29.below hb30
    have bBI_31 := bBI_29.below hb30
    have hS_31 := ownS_below hS_29 hb30
    have hI_31 := ownS_below hI_29 hb30
    have g_31 := bstep g_29 hb30
    clear hb30 bA_29 bBS_29 bBX_29 bBI_29 hS_29 hI_29 g_29
    obtain ⟨-, mA0, mA1, mA2⟩ := id bA_31
    obtain ⟨-, mBS0, mBS1, mBS2⟩ := id bBS_31
    obtain ⟨-, mBX0, mBX1, mBX2⟩ := id bBX_31
    obtain ⟨-, mBI0, mBI1, mBI2⟩ := id bBI_31
    go_wp2_with fail
    clear mA0 mA1 mA2 mBS0 mBS1 mBS2 mBX0 mBX1 mBX2 mBI0 mBI1 mBI2
    have gbH := g_31
    refine (HI.out _ _ (RdC.of_own hK_0)).mono ?_
    rintro e w_32 ⟨vH, rfl, hH_0, hb32⟩
    obtain ⟨aH, cpH, rfl⟩ := ownS_slice hH_0
    have apHA := ob_of_lt hH_0 bA_31.1
    have apHBS := ob_of_lt hH_0 bBS_31.1
    have apHBX := ob_of_lt hH_0 bBX_31.1
    have apHBI := ob_of_lt hH_0 bBI_31.1
    have apSH := apartS hS_31 hH_0
    have apHS := apartS' hS_31 hH_0
    have apIH := apartS hI_31 hH_0
    have apHI := apartS' hI_31 hH_0
    have apKH := apartS hK_0 hH_0
    have apHK := apartS' hK_0 hH_0
    have bA_33 := bA_31.below hb32
    have bBS_33 := bBS_31.below hb32
    have bBX_33 := bBX_31.below hb32
    have bBI_33 := bBI_31.below hb32
    have hS_33 := ownS_below hS_31 hb32
    have hI_33 := ownS_below hI_31 hb32
    have hK_33 := ownS_below hK_0 hb32
    have g_33 := bstep g_31 hb32
    clear hb32 bA_31 bBS_31 bBX_31 bBI_31 hS_31 hI_31 hK_0 g_31
    clear hK_33 apKA apKBS apKBX apKBI apSK apKS apIK apKI apKH apHK
    have hbA34 : Below w_32.heap.size w_32 (w_32.alloc (.cells #[.int .i64 S, .int .i64 T, .slice aH R.length cpH] 26)) := (Below.refl _ _).alloc (Nat.le_refl _) _
    have bBH_0 : Box (w_32.alloc (.cells #[.int .i64 S, .int .i64 T, .slice aH R.length cpH] 26)) w_32.heap.size S T (.slice aH R.length cpH) := box_new _ _ _ _ _
    have apSBH : (.slice aS R.length cpS : Value).ownBlock ≠ some w_32.heap.size := fun e => Nat.lt_irrefl _ (hS_33.lt _ e).2
    have apIBH : (.slice aI R.length cpI : Value).ownBlock ≠ some w_32.heap.size := fun e => Nat.lt_irrefl _ (hI_33.lt _ e).2
    have apHBH : (.slice aH R.length cpH : Value).ownBlock ≠ some w_32.heap.size := fun e => Nat.lt_irrefl _ (hH_0.lt _ e).2
    have bA_35 := bA_33.below hbA34
    have bBS_35 := bBS_33.below hbA34
    have bBX_35 := bBX_33.below hbA34
    have bBI_35 := bBI_33.below hbA34
    have hS_35 := ownS_below hS_33 hbA34
    have hI_35 := ownS_below hI_33 hbA34
    have hH_35 := ownS_below hH_0 hbA34
    have g_35 := bstep g_33 hbA34
    clear hbA34 bA_33 bBS_33 bBX_33 bBI_33 hS_33 hI_33 hH_0 g_33
    obtain ⟨-, mA0, mA1, mA2⟩ := id bA_35
    obtain ⟨-, mBS0, mBS1, mBS2⟩ := id bBS_35
    obtain ⟨-, mBX0, mBX1, mBX2⟩ := id bBX_35
    obtain ⟨-, mBI0, mBI1, mBI2⟩ := id bBI_35
    obtain ⟨-, mBH0, mBH1, mBH2⟩ := id bBH_0
    go_wp2_with fail
    clear mA0 mA1 mA2 mBS0 mBS1 mBS2 mBX0 mBX1 mBX2 mBI0 mBI1 mBI2 mBH0 mBH1 mBH2
    generalize (w_32.alloc (.cells #[.int .i64 S, .int .i64 T, .slice aH R.length cpH] 26)) = w_36 at *
    refine (eqCyl_same S T (Rd.of_own hH_35) (Rd.of_own hS_35)).mono ?_
    rintro e w_37 ⟨rfl, hb37⟩
    have bA_38 := bA_35.below hb37
    have bBS_38 := bBS_35.below hb37
    have bBX_38 := bBX_35.below hb37
    have bBI_38 := bBI_35.below hb37
    have bBH_38 := bBH_0.below hb37
    have hS_38 := ownS_below hS_35 hb37
    have hI_38 := ownS_below hI_35 hb37
    have hH_38 := ownS_below hH_35 hb37
    have g_38 := bstep g_35 hb37
    clear hb37 bA_35 bBS_35 bBX_35 bBI_35 bBH_0 hS_35 hI_35 hH_35 g_35
    obtain ⟨-, mA0, mA1, mA2⟩ := id bA_38
    obtain ⟨-, mBS0, mBS1, mBS2⟩ := id bBS_38
    obtain ⟨-, mBX0, mBX1, mBX2⟩ := id bBX_38
    obtain ⟨-, mBI0, mBI1, mBI2⟩ := id bBI_38
    obtain ⟨-, mBH0, mBH1, mBH2⟩ := id bBH_38
    go_wp2_with fail
    clear mA0 mA1 mA2 mBS0 mBS1 mBS2 mBX0 mBX1 mBX2 mBI0 mBI1 mBI2 mBH0 mBH1 mBH2
    refine (heldCyl_any S T 1 (by omega) (Rd.of_own hI_38) HMK.out).mono ?_
    rintro e w_39 ⟨rfl, hb39⟩
    have bA_40 := bA_38.below hb39
    have bBS_40 := bBS_38.below hb39
    have bBX_40 := bBX_38.below hb39
    have bBI_40 := bBI_38.below hb39
    have bBH_40 := bBH_38.below hb39
    have hS_40 := ownS_below hS_38 hb39
    have hI_40 := ownS_below hI_38 hb39
    have hH_40 := ownS_below hH_38 hb39
    have g_40 := bstep g_38 hb39
    clear hb39 bA_38 bBS_38 bBX_38 bBI_38 bBH_38 hS_38 hI_38 hH_38 g_38
    go_wp2
    go_ret
    exact ⟨rfl, g_40⟩
  · go_enter Try.func6, Try.ntmps6
    go_wp2_with fail
    rw [← hw0]
    clear hw0
    refine (szCyl_no s t hsl hml).mono ?_
    rintro e w1 ⟨rfl, hb1⟩
    have g1 := bstep g0 hb1
    clear bA_0 g0 hb1
    go_wp2
    go_ret
    exact ⟨rfl, g1⟩

end Go.Proofs.Ytemhmbaacpfnaaa
