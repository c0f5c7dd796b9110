/- The walk of FnExactPinsAt: THE PROGRAM'S OWN CONTRACT IS A PREMISE (hI). Made by mk_cyl.py. -/
import Derived.Test.YtnnoknejigaklaaPinsAtSpec
import Derived.Test.YtnnoknejigaklaaIntsArg
import Derived.Test.YtnnoknejigaklaaWalkKit
namespace Go.Proofs.Ytnnoknejigaklaa
open Go.ChangeShapes Go.WideShapes Go.ChangeAt Go.RowKit

set_option maxHeartbeats 8000000 in
set_option maxRecDepth 100000 in
theorem exactpins_walk {w : World} {ql : Value} {l : List (Int × Int)} (s t : Int) (d : Int) (hI : ∀ (W : World) (U : Value), RdC W U l → l.length ≤ 1048576 → Calls Try.prog 15 #[.agg #[.int .i64 s, .int .i64 t, U], .int .i64 d] W (NewInts W (pinsM s t l d))) (hl : Rd2 w ql l) :
    Calls Try.prog 5 #[.agg #[.int .i64 s, .int .i64 t, ql], .int .i64 d] w fun e w' => e = .returned (.bool true) ∧ Below w.heap.size w w' := by
  obtain ⟨al, cl, rfl⟩ := Rd.slice hl
  have hml := hl.2.1
  unfold maxLen at hml
  obtain ⟨w0, hw0⟩ : ∃ w0, w0 = w.alloc (.cells #[.int .i64 s, .int .i64 t, .slice al l.length cl] 46) := ⟨_, rfl⟩
  have g0 : Below w.heap.size w w0 := by rw [hw0]; exact (Below.refl _ _).alloc (Nat.le_refl _) _
  have bA_0 : Box w0 w.heap.size s t (.slice al l.length cl) := by rw [hw0]; exact box_new _ _ _ _ _
  by_cases hsl : l.length ≤ 1048576
  · have HI := Lib.hid (fun (W : World) (U : Value) (pl : RdC W U l) => hI W U pl hsl)
    have HS := Lib.hid (fun (W : World) (U : Value) (pl : RdC W U l) => pinsat_any s t d pl.1)
    clear hI
    have hbd : (pinsM s t l d).length ≤ 1048576 := Nat.le_trans (pinsM_len s t l d) (by omega)
    generalize (pinsM s t l d) = R at *
    go_enter Try.func5, Try.ntmps5
    go_wp2_with fail
    rw [← hw0]
    clear hw0
    refine (szCyl_yes s t hsl).mono ?_
    rintro e w_1 ⟨x0, hx0, rfl, hb1⟩
    have bA_2 := bA_0.below hb1
    have g_2 := bstep g0 hb1
    clear hb1 bA_0 g0
    obtain ⟨-, mA0, mA1, mA2⟩ := id bA_2
    go_wp2_with fail
    clear mA0 mA1 mA2
    have gbP := g_2
    refine (toCyl_any s t (Rd.below hl g_2) hsl).mono ?_
    rintro e w_3 ⟨vP, rfl, hP_0, hb3⟩
    obtain ⟨aP, cpP, rfl⟩ := ownS_slice hP_0
    have apPA := ob_of_lt hP_0 bA_2.1
    have bA_4 := bA_2.below hb3
    have g_4 := bstep g_2 hb3
    clear hb3 bA_2 g_2
    obtain ⟨-, mA0, mA1, mA2⟩ := id bA_4
    go_wp2_with fail
    clear mA0 mA1 mA2
    have gbS := g_4
    refine (HS.out _ _ (RdC.of_own hP_0)).mono ?_
    rintro e w_5 ⟨vS, rfl, hS_0, hb5⟩
    obtain ⟨aS, cpS, rfl⟩ := ownS_slice hS_0
    have apSA := ob_of_lt hS_0 bA_4.1
    have apPS := apartS hP_0 hS_0
    have apSP := apartS' hP_0 hS_0
    have bA_6 := bA_4.below hb5
    have hP_6 := ownS_below hP_0 hb5
    have g_6 := bstep g_4 hb5
    clear hb5 bA_4 hP_0 g_4
    clear hP_6 apPA apPS apSP
    obtain ⟨-, mA0, mA1, mA2⟩ := id bA_6
    go_wp2_with fail
    clear mA0 mA1 mA2
    have gbX := g_6
    refine (toCyl_any s t (Rd.below hl g_6) hsl).mono ?_
    rintro e w_7 ⟨vX, rfl, hX_0, hb7⟩
    obtain ⟨aX, cpX, rfl⟩ := ownS_slice hX_0
    have apXA := ob_of_lt hX_0 bA_6.1
    have apSX := apartS hS_0 hX_0
    have apXS := apartS' hS_0 hX_0
    have bA_8 := bA_6.below hb7
    have hS_8 := ownS_below hS_0 hb7
    have g_8 := bstep g_6 hb7
    clear hb7 bA_6 hS_0 g_6
    have hbA9 : Below w_7.heap.size w_7 (w_7.alloc (.cells #[.int .i64 s, .int .i64 t, .slice aX l.length cpX] 26)) := (Below.refl _ _).alloc (Nat.le_refl _) _
    have bBX_0 : Box (w_7.alloc (.cells #[.int .i64 s, .int .i64 t, .slice aX l.length cpX] 26)) w_7.heap.size s t (.slice aX l.length cpX) := box_new _ _ _ _ _
    have apSBX : (.slice aS R.length cpS : Value).ownBlock ≠ some w_7.heap.size := fun e => Nat.lt_irrefl _ (hS_8.lt _ e).2
    have apXBX : (.slice aX l.length cpX : Value).ownBlock ≠ some w_7.heap.size := fun e => Nat.lt_irrefl _ (hX_0.lt _ e).2
    have bA_10 := bA_8.below hbA9
    have hS_10 := ownS_below hS_8 hbA9
    have hX_10 := ownS_below hX_0 hbA9
    have g_10 := bstep g_8 hbA9
    clear hbA9 bA_8 hS_8 hX_0 g_8
    obtain ⟨-, mA0, mA1, mA2⟩ := id bA_10
    obtain ⟨-, mBX0, mBX1, mBX2⟩ := id bBX_0
    go_wp2_with fail
    clear mA0 mA1 mA2 mBX0 mBX1 mBX2
    generalize (w_7.alloc (.cells #[.int .i64 s, .int .i64 t, .slice aX l.length cpX] 26)) = w_11 at *
    have gbI := g_10
    refine (HI.out _ _ (RdC.of_own hX_10)).mono ?_
    rintro e w_12 ⟨vI, rfl, hI_0, hb12⟩
    obtain ⟨aI, cpI, rfl⟩ := ownS_slice hI_0
    have apIA := ob_of_lt hI_0 bA_10.1
    have apIBX := ob_of_lt hI_0 bBX_0.1
    have apSI := apartS hS_10 hI_0
    have apIS := apartS' hS_10 hI_0
    have apXI := apartS hX_10 hI_0
    have apIX := apartS' hX_10 hI_0
    have bA_13 := bA_10.below hb12
    have bBX_13 := bBX_0.below hb12
    have hS_13 := ownS_below hS_10 hb12
    have hX_13 := ownS_below hX_10 hb12
    have g_13 := bstep g_10 hb12
    clear hb12 bA_10 bBX_0 hS_10 hX_10 g_10
    obtain ⟨-, mA0, mA1, mA2⟩ := id bA_13
    obtain ⟨-, mBX0, mBX1, mBX2⟩ := id bBX_13
    go_wp2_with fail
    clear mA0 mA1 mA2 mBX0 mBX1 mBX2
    refine (eqInts_same (Rd.of_own hI_0) (Rd.of_own hS_13)).mono ?_
    rintro e w_14 ⟨rfl, hb14⟩
    have bA_15 := bA_13.below hb14
    have bBX_15 := bBX_13.below hb14
    have hS_15 := ownS_below hS_13 hb14
    have hX_15 := ownS_below hX_13 hb14
    have hI_15 := ownS_below hI_0 hb14
    have g_15 := bstep g_13 hb14
    clear hb14 bA_13 bBX_13 hS_13 hX_13 hI_0 g_13
    obtain ⟨-, n0, n1, n2⟩ := id bBX_15
    obtain ⟨-, n3, n4, n5⟩ := id bA_15
    go_wp2_with fail
    go_region_held3 (fun w' => w'.cell? ⟨w_7.heap.size, 0, none⟩ = some (.int .i64 s) ∧ w'.cell? ⟨w_7.heap.size, 1, none⟩ = some (.int .i64 t) ∧ w'.cell? ⟨w_7.heap.size, 2, none⟩ = some (.slice aX l.length cpX) ∧ w'.cell? ⟨w.heap.size, 0, none⟩ = some (.int .i64 s) ∧ w'.cell? ⟨w.heap.size, 1, none⟩ = some (.int .i64 t) ∧ w'.cell? ⟨w.heap.size, 2, none⟩ = some (.slice al l.length cl)) (go_keep)
      ((first
          | (go_at_call 23; refine (toCyl_any s t (Rd.below hl (Below.drew g_15)) hsl).mono ?_; rintro e wa ⟨va, rfl, hva, hba⟩; have q0 := kept_cell hba n0; have q1 := kept_cell hba n1; have q2 := kept_cell hba n2; have q3 := kept_cell hba n3; have q4 := kept_cell hba n4; have q5 := kept_cell hba n5)
          | (go_at_call 24; refine (eqCyl_same s t (Rd.of_own (ownS_below hX_15 (below_undrew hba))) (Rd.of_own hva)).mono ?_; rintro e wb ⟨rfl, hbb⟩; have r0 := old_cell hbb q0; have r1 := old_cell hbb q1; have r2 := old_cell hbb q2; have r3 := old_cell hbb q3; have r4 := old_cell hbb q4; have r5 := old_cell hbb q5)))
    have hbc := bstep (below_undrew hba) hbb
    clear q0 q1 q2 q3 q4 q5 r0 r1 r2 r3 r4 r5 n0 n1 n2 n3 n4 n5 hva hba hbb
    have bA_16 := bA_15.below hbc
    have bBX_16 := bBX_15.below hbc
    have hS_16 := ownS_below hS_15 hbc
    have hX_16 := ownS_below hX_15 hbc
    have hI_16 := ownS_below hI_15 hbc
    have g_16 := bstep g_15 hbc
    clear hbc bA_15 bBX_15 hS_15 hX_15 hI_15 g_15
    have glX : ∀ k, (.slice aX l.length cpX : Value).ownBlock = some k → w.heap.size ≤ k := fun k hk => Nat.le_trans gbX.size (hX_16.lt k hk).1
    obtain ⟨-, mA0, mA1, mA2⟩ := id bA_16
    obtain ⟨-, mBX0, mBX1, mBX2⟩ := id bBX_16
    go_wp2_with fail
    clear mA0 mA1 mA2 mBX0 mBX1 mBX2
    refine (markCyl_any s t 1 (by omega) hX_16).mono ?_
    rintro e w_17 ⟨rfl, hg17, _⟩
    have bA_17 := bA_16.grown hg17 (Ne.symm apXA)
    have bBX_17 := bBX_16.grown hg17 (Ne.symm apXBX)
    have hS_17 := World.ownsRow.kept hS_16 hg17 apSX
    have hI_17 := World.ownsRow.kept hI_16 hg17 apIX
    have g_17 := g_16.grown hg17 g_16.size glX
    clear hg17 hX_16 bA_16 bBX_16 hS_16 hI_16
    clear apXA apSX apXS apXBX apXI apIX
    obtain ⟨-, mA0, mA1, mA2⟩ := id bA_17
    obtain ⟨-, mBX0, mBX1, mBX2⟩ := id bBX_17
    go_wp2_with fail
    clear mA0 mA1 mA2 mBX0 mBX1 mBX2
    refine (eqInts_same (Rd.of_own hI_17) (Rd.of_own hS_17)).mono ?_
    rintro e w_18 ⟨rfl, hb18⟩
    have bA_19 := bA_17.below hb18
    have bBX_19 := bBX_17.below hb18
    have hS_19 := ownS_below hS_17 hb18
    have hI_19 := ownS_below hI_17 hb18
    have g_19 := bstep g_17 hb18
    clear hb18 bA_17 bBX_17 hS_17 hI_17 g_17
    have glI : ∀ k, (.slice aI R.length cpI : Value).ownBlock = some k → w.heap.size ≤ k := fun k hk => Nat.le_trans gbI.size (hI_19.lt k hk).1
    obtain ⟨-, mA0, mA1, mA2⟩ := id bA_19
    obtain ⟨-, mBX0, mBX1, mBX2⟩ := id bBX_19
    go_wp2_with fail
    clear mA0 mA1 mA2 mBX0 mBX1 mBX2
    refine (markInts_any 1 (by omega) hI_19).mono ?_
    rintro e w_20 ⟨rfl, hg20, ys, hy20, hmk20⟩
    have bA_20 := bA_19.grown hg20 (Ne.symm apIA)
    have bBX_20 := bBX_19.grown hg20 (Ne.symm apIBX)
    have hS_20 := World.ownsRow.kept hS_19 hg20 apSI
    have g_20 := g_19.grown hg20 g_19.size glI
    clear hg20 hI_19 bA_19 bBX_19 hS_19
    have HMK := Lib.hid hmk20
    clear hmk20
    obtain ⟨-, mA0, mA1, mA2⟩ := id bA_20
    obtain ⟨-, mBX0, mBX1, mBX2⟩ := id bBX_20
    go_wp2_with fail
    clear mA0 mA1 mA2 mBX0 mBX1 mBX2
    refine (heldInts_any 1 (by omega) (Rd.of_own hy20) HMK.out).mono ?_
    rintro e w_21 ⟨rfl, hb21⟩
    have bA_22 := bA_20.below hb21
    have bBX_22 := bBX_20.below hb21
    have hS_22 := ownS_below hS_20 hb21
    have hI_22 := ownS_below hy20 hb21
    have g_22 := bstep g_20 hb21
    clear hb21 bA_20 bBX_20 hS_20 hy20 g_20
    obtain ⟨-, mA0, mA1, mA2⟩ := id bA_22
    obtain ⟨-, mBX0, mBX1, mBX2⟩ := id bBX_22
    go_wp2_with fail
    clear mA0 mA1 mA2 mBX0 mBX1 mBX2
    have gbK := g_22
    refine (toCyl_any s t (Rd.below hl g_22) hsl).mono ?_
    rintro e w_23 ⟨vK, rfl, hK_0, hb23⟩
    obtain ⟨aK, cpK, rfl⟩ := ownS_slice hK_0
    have apKA := ob_of_lt hK_0 bA_22.1
    have apKBX := ob_of_lt hK_0 bBX_22.1
    have apSK := apartS hS_22 hK_0
    have apKS := apartS' hS_22 hK_0
    have apIK := apartS hI_22 hK_0
    have apKI := apartS' hI_22 hK_0
    have bA_24 := bA_22.below hb23
    have bBX_24 := bBX_22.below hb23
    have hS_24 := ownS_below hS_22 hb23
    have hI_24 := ownS_below hI_22 hb23
    have g_24 := bstep g_22 hb23
    clear hb23 bA_22 bBX_22 hS_22 hI_22 g_22
    obtain ⟨-, mA0, mA1, mA2⟩ := id bA_24
    obtain ⟨-, mBX0, mBX1, mBX2⟩ := id bBX_24
    go_wp2_with fail
    clear mA0 mA1 mA2 mBX0 mBX1 mBX2
    have gbH := g_24
    refine (HI.out _ _ (RdC.of_own hK_0)).mono ?_
    rintro e w_25 ⟨vH, rfl, hH_0, hb25⟩
    obtain ⟨aH, cpH, rfl⟩ := ownS_slice hH_0
    have apHA := ob_of_lt hH_0 bA_24.1
    have apHBX := ob_of_lt hH_0 bBX_24.1
    have apSH := apartS hS_24 hH_0
    have apHS := apartS' hS_24 hH_0
    have apIH := apartS hI_24 hH_0
    have apHI := apartS' hI_24 hH_0
    have apKH := apartS hK_0 hH_0
    have apHK := apartS' hK_0 hH_0
    have bA_26 := bA_24.below hb25
    have bBX_26 := bBX_24.below hb25
    have hS_26 := ownS_below hS_24 hb25
    have hI_26 := ownS_below hI_24 hb25
    have hK_26 := ownS_below hK_0 hb25
    have g_26 := bstep g_24 hb25
    clear hb25 bA_24 bBX_24 hS_24 hI_24 hK_0 g_24
    clear hK_26 apKA apKBX apSK apKS apIK apKI apKH apHK
    obtain ⟨-, mA0, mA1, mA2⟩ := id bA_26
    obtain ⟨-, mBX0, mBX1, mBX2⟩ := id bBX_26
    go_wp2_with fail
    clear mA0 mA1 mA2 mBX0 mBX1 mBX2
    refine (eqInts_same (Rd.of_own hH_0) (Rd.of_own hS_26)).mono ?_
    rintro e w_27 ⟨rfl, hb27⟩
    have bA_28 := bA_26.below hb27
    have bBX_28 := bBX_26.below hb27
    have hS_28 := ownS_below hS_26 hb27
    have hI_28 := ownS_below hI_26 hb27
    have hH_28 := ownS_below hH_0 hb27
    have g_28 := bstep g_26 hb27
    clear hb27 bA_26 bBX_26 hS_26 hI_26 hH_0 g_26
    obtain ⟨-, mA0, mA1, mA2⟩ := id bA_28
    obtain ⟨-, mBX0, mBX1, mBX2⟩ := id bBX_28
    go_wp2_with fail
    clear mA0 mA1 mA2 mBX0 mBX1 mBX2
    refine (heldInts_any 1 (by omega) (Rd.of_own hI_28) HMK.out).mono ?_
    rintro e w_29 ⟨rfl, hb29⟩
    have bA_30 := bA_28.below hb29
    have bBX_30 := bBX_28.below hb29
    have hS_30 := ownS_below hS_28 hb29
    have hI_30 := ownS_below hI_28 hb29
    have hH_30 := ownS_below hH_28 hb29
    have g_30 := bstep g_28 hb29
    clear hb29 bA_28 bBX_28 hS_28 hI_28 hH_28 g_28
    go_wp2
    go_ret
    exact ⟨rfl, g_30⟩
  · go_enter Try.func5, Try.ntmps5
    go_wp2_with fail
    rw [← hw0]
    clear hw0
    refine (szCyl_no s t hsl hml).mono ?_
    rintro e w1 ⟨rfl, hb1⟩
    have g1 := bstep g0 hb1
    clear bA_0 g0 hb1
    go_wp2
    go_ret
    exact ⟨rfl, g1⟩

end Go.Proofs.Ytnnoknejigaklaa
