/- The walk of FnExactTooClose: THE PROGRAM'S OWN CONTRACT IS A PREMISE (hI). Made by mk_cyl.py. -/
import Derived.Test.YtpdjceafjdlknaaSeamSpec
import Derived.Test.YtpdjceafjdlknaaNestI
import Derived.Test.YtpdjceafjdlknaaBoxKit
import Derived.Test.YtpdjceafjdlknaaWalkKit
namespace Go.Proofs.Ytpdjceafjdlknaa
open Go.ChangeShapes Go.WideShapes Go.ChangeAt Go.RowKit

set_option maxHeartbeats 8000000 in
set_option maxRecDepth 100000 in
theorem exacttoo_walk {w : World} {ql : Value} {l : List (Int × Int)} (s t : Int) (d : Int) (hI : ∀ (W : World) (U : Value), RdC W U l → l.length ≤ 1048576 → Calls Try.prog 14 #[.agg #[.int .i64 s, .int .i64 t, U], .int .i64 d] W (NewNest W (tooM s t l d))) (hl : Rd2 w ql l) :
    Calls Try.prog 6 #[.agg #[.int .i64 s, .int .i64 t, ql], .int .i64 d] w fun e w' => e = .returned (.bool true) ∧ Below w.heap.size w w' := by
  obtain ⟨al, cl, rfl⟩ := Rd.slice hl
  have hml := hl.2.1
  unfold maxLen at hml
  obtain ⟨w0, hw0⟩ : ∃ w0, w0 = w.alloc (.cells #[.int .i64 s, .int .i64 t, .slice al l.length cl] 43) := ⟨_, rfl⟩
  have g0 : Below w.heap.size w w0 := by rw [hw0]; exact (Below.refl _ _).alloc (Nat.le_refl _) _
  have bA_0 : Box w0 w.heap.size s t (.slice al l.length cl) := by rw [hw0]; exact box_new _ _ _ _ _
  have zA := Lib.hid (show w.heap.size < w0.heap.size from bA_0.1)
  by_cases hsl : l.length ≤ 1048576
  · have HI := Lib.hid (fun (W : World) (U : Value) (pl : RdC W U l) => hI W U pl hsl)
    have HS := Lib.hid (fun (W : World) (U : Value) (pl : RdC W U l) => stoo_any s t d pl.1)
    clear hI
    have hR1 : 1 + lensI (tooM s t l d) ≤ 8000000 := tooM_lens s t d l
    have hR2 : (tooM s t l d).length ≤ 1048576 := Nat.le_trans tooM_len (by omega)
    generalize (tooM s t l d) = R at *
    go_enter Try.func6, Try.ntmps6
    go_wp2_with fail
    rw [← hw0]
    clear hw0
    refine (szCyl_yes s t hsl).mono ?_
    rintro e w_1 ⟨x0, hx0, rfl, hb1⟩
    have z_2 := Lib.hid hb1.size
    have bA_2 := bA_0.below hb1
    have g_2 := bstep g0 hb1
    clear hb1 bA_0 g0
    obtain ⟨-, mA0, mA1, mA2⟩ := id bA_2
    go_wp2_with fail
    clear mA0 mA1 mA2
    have gbP := g_2
    refine (toCyl_any s t (Rd.below hl g_2) hsl).mono ?_
    rintro e w_3 ⟨vP, rfl, hP_0, hb3⟩
    obtain ⟨aP, cpP, rfl⟩ := ownS_slice hP_0
    have apPA := ob_of_lt hP_0 bA_2.1
    have z_4 := Lib.hid hb3.size
    have bA_4 := bA_2.below hb3
    have g_4 := bstep g_2 hb3
    clear hb3 bA_2 g_2
    have rgP := Lib.hid (fun (k : Nat) (hk : (.slice aP l.length cpP : Value).ownBlock = some k) => (World.ownsRow.lt hP_0 k hk : w_1.heap.size ≤ k ∧ k < w_3.heap.size))
    obtain ⟨-, mA0, mA1, mA2⟩ := id bA_4
    go_wp2_with fail
    clear mA0 mA1 mA2
    refine (HS.out _ _ (RdC.of_own hP_0)).mono ?_
    rintro e w_5 ⟨vS, usS, rfl, NS_0, hb5⟩
    obtain ⟨aS, cpS, rfl⟩ := NS_0.rd.slice
    have z_6 := Lib.hid hb5.size
    have bA_6 := bA_4.below hb5
    have hP_6 := ownS_below hP_0 hb5
    have g_6 := bstep g_4 hb5
    clear hb5 bA_4 hP_0 g_4
    clear hP_6 apPA
    obtain ⟨-, mA0, mA1, mA2⟩ := id bA_6
    go_wp2_with fail
    clear mA0 mA1 mA2
    have gbX := g_6
    refine (toCyl_any s t (Rd.below hl g_6) hsl).mono ?_
    rintro e w_7 ⟨vX, rfl, hX_0, hb7⟩
    obtain ⟨aX, cpX, rfl⟩ := ownS_slice hX_0
    have apXA := ob_of_lt hX_0 bA_6.1
    have NS_8 := NS_0.below hb7
    have z_8 := Lib.hid hb7.size
    clear NS_0
    have bA_8 := bA_6.below hb7
    have g_8 := bstep g_6 hb7
    clear hb7 bA_6 g_6
    have rgX := Lib.hid (fun (k : Nat) (hk : (.slice aX l.length cpX : Value).ownBlock = some k) => (World.ownsRow.lt hX_0 k hk : w_5.heap.size ≤ k ∧ k < w_7.heap.size))
    have hbA9 : Below w_7.heap.size w_7 (w_7.alloc (.cells #[.int .i64 s, .int .i64 t, .slice aX l.length cpX] 26)) := (Below.refl _ _).alloc (Nat.le_refl _) _
    have bBX_0 : Box (w_7.alloc (.cells #[.int .i64 s, .int .i64 t, .slice aX l.length cpX] 26)) w_7.heap.size s t (.slice aX l.length cpX) := box_new _ _ _ _ _
    have apXBX : (.slice aX l.length cpX : Value).ownBlock ≠ some w_7.heap.size := fun e => Nat.lt_irrefl _ (hX_0.lt _ e).2
    have NS_10 := NS_8.below hbA9
    have z_10 := Lib.hid hbA9.size
    clear NS_8
    have bA_10 := bA_8.below hbA9
    have hX_10 := ownS_below hX_0 hbA9
    have g_10 := bstep g_8 hbA9
    clear hbA9 bA_8 hX_0 g_8
    obtain ⟨-, mA0, mA1, mA2⟩ := id bA_10
    obtain ⟨-, mBX0, mBX1, mBX2⟩ := id bBX_0
    go_wp2_with fail
    clear mA0 mA1 mA2 mBX0 mBX1 mBX2
    generalize (w_7.alloc (.cells #[.int .i64 s, .int .i64 t, .slice aX l.length cpX] 26)) = w_11 at *
    refine (HI.out _ _ (RdC.of_own hX_10)).mono ?_
    rintro e w_12 ⟨vI, usI, rfl, NI_0, hb12⟩
    obtain ⟨aI, cpI, rfl⟩ := NI_0.rd.slice
    have NS_13 := NS_10.below hb12
    have z_13 := Lib.hid hb12.size
    clear NS_10
    have bA_13 := bA_10.below hb12
    have bBX_13 := bBX_0.below hb12
    have hX_13 := ownS_below hX_10 hb12
    have g_13 := bstep g_10 hb12
    clear hb12 bA_10 bBX_0 hX_10 g_10
    obtain ⟨-, mA0, mA1, mA2⟩ := id bA_13
    obtain ⟨-, mBX0, mBX1, mBX2⟩ := id bBX_13
    go_wp2_with fail
    clear mA0 mA1 mA2 mBX0 mBX1 mBX2
    refine (eqII_same NI_0.rd NS_13.rd).mono ?_
    rintro e w_14 ⟨rfl, hb14⟩
    have NS_15 := NS_13.below hb14
    have NI_15 := NI_0.below hb14
    have z_15 := Lib.hid hb14.size
    clear NS_13 NI_0
    have bA_15 := bA_13.below hb14
    have bBX_15 := bBX_13.below hb14
    have hX_15 := ownS_below hX_13 hb14
    have g_15 := bstep g_13 hb14
    clear hb14 bA_13 bBX_13 hX_13 g_13
    obtain ⟨-, n0, n1, n2⟩ := id bBX_15
    obtain ⟨-, n3, n4, n5⟩ := id bA_15
    go_wp2_with fail
    go_region_held3 (fun w' => w'.cell? ⟨w_7.heap.size, 0, none⟩ = some (.int .i64 s) ∧ w'.cell? ⟨w_7.heap.size, 1, none⟩ = some (.int .i64 t) ∧ w'.cell? ⟨w_7.heap.size, 2, none⟩ = some (.slice aX l.length cpX) ∧ w'.cell? ⟨w.heap.size, 0, none⟩ = some (.int .i64 s) ∧ w'.cell? ⟨w.heap.size, 1, none⟩ = some (.int .i64 t) ∧ w'.cell? ⟨w.heap.size, 2, none⟩ = some (.slice al l.length cl)) (go_keep)
      ((first
          | (go_at_call 25; refine (toCyl_any s t (Rd.below hl (Below.drew g_15)) hsl).mono ?_; rintro e wa ⟨va, rfl, hva, hba⟩; have q0 := kept_cell hba n0; have q1 := kept_cell hba n1; have q2 := kept_cell hba n2; have q3 := kept_cell hba n3; have q4 := kept_cell hba n4; have q5 := kept_cell hba n5)
          | (go_at_call 26; refine (eqCyl_same s t (Rd.of_own (ownS_below hX_15 (below_undrew hba))) (Rd.of_own hva)).mono ?_; rintro e wb ⟨rfl, hbb⟩; have r0 := old_cell hbb q0; have r1 := old_cell hbb q1; have r2 := old_cell hbb q2; have r3 := old_cell hbb q3; have r4 := old_cell hbb q4; have r5 := old_cell hbb q5)))
    have hbc := bstep (below_undrew hba) hbb
    clear q0 q1 q2 q3 q4 q5 r0 r1 r2 r3 r4 r5 n0 n1 n2 n3 n4 n5 hva hba hbb
    have NS_16 := NS_15.below hbc
    have NI_16 := NI_15.below hbc
    have z_16 := Lib.hid hbc.size
    clear NS_15 NI_15
    have bA_16 := bA_15.below hbc
    have bBX_16 := bBX_15.below hbc
    have hX_16 := ownS_below hX_15 hbc
    have g_16 := bstep g_15 hbc
    clear hbc bA_15 bBX_15 hX_15 g_15
    have glX : ∀ k, (.slice aX l.length cpX : Value).ownBlock = some k → w.heap.size ≤ k := fun k hk => Nat.le_trans gbX.size (hX_16.lt k hk).1
    obtain ⟨-, mA0, mA1, mA2⟩ := id bA_16
    obtain ⟨-, mBX0, mBX1, mBX2⟩ := id bBX_16
    go_wp2_with fail
    clear mA0 mA1 mA2 mBX0 mBX1 mBX2
    refine (markCyl_any s t 1 (by omega) hX_16).mono ?_
    rintro e w_17 ⟨rfl, hg17, _⟩
    have bA_17 := bA_16.grown hg17 (Ne.symm apXA)
    have bBX_17 := bBX_16.grown hg17 (Ne.symm apXBX)
    have NS_17 := NS_16.band (band_of_grown (lo := w_5.heap.size) (hi := w_7.heap.size) hg17 rgX.out) (by have zA' := zA.out; have z_2' := z_2.out; have z_4' := z_4.out; have z_6' := z_6.out; have z_8' := z_8.out; have z_10' := z_10.out; have z_13' := z_13.out; have z_15' := z_15.out; have z_16' := z_16.out; omega)
    have NI_17 := NI_16.band (band_of_grown (lo := w_5.heap.size) (hi := w_7.heap.size) hg17 rgX.out) (by have zA' := zA.out; have z_2' := z_2.out; have z_4' := z_4.out; have z_6' := z_6.out; have z_8' := z_8.out; have z_10' := z_10.out; have z_13' := z_13.out; have z_15' := z_15.out; have z_16' := z_16.out; omega)
    have z_17 := Lib.hid hg17.size
    have g_17 := g_16.grown hg17 g_16.size glX
    clear hg17 hX_16 bA_16 bBX_16 NS_16 NI_16 apXA apXBX
    obtain ⟨-, mA0, mA1, mA2⟩ := id bA_17
    obtain ⟨-, mBX0, mBX1, mBX2⟩ := id bBX_17
    go_wp2_with fail
    clear mA0 mA1 mA2 mBX0 mBX1 mBX2
    refine (eqII_same NI_17.rd NS_17.rd).mono ?_
    rintro e w_18 ⟨rfl, hb18⟩
    have NS_19 := NS_17.below hb18
    have NI_19 := NI_17.below hb18
    have z_19 := Lib.hid hb18.size
    clear NS_17 NI_17
    have bA_19 := bA_17.below hb18
    have bBX_19 := bBX_17.below hb18
    have g_19 := bstep g_17 hb18
    clear hb18 bA_17 bBX_17 g_17
    clear bBX_19 
    obtain ⟨-, mA0, mA1, mA2⟩ := id bA_19
    go_wp2_with fail
    clear mA0 mA1 mA2
    refine (markII_any 1 hR1 NI_19 hR2).mono ?_
    rintro e w_20 ⟨rfl, hbd20, hmk20⟩
    have bA_20 := bA_19.band hbd20 (by have zA' := zA.out; have z_2' := z_2.out; have z_4' := z_4.out; have z_6' := z_6.out; have z_8' := z_8.out; have z_10' := z_10.out; have z_13' := z_13.out; have z_15' := z_15.out; have z_16' := z_16.out; have z_17' := z_17.out; have z_19' := z_19.out; omega)
    have NS_20 := NS_19.band hbd20 (by have zA' := zA.out; have z_2' := z_2.out; have z_4' := z_4.out; have z_6' := z_6.out; have z_8' := z_8.out; have z_10' := z_10.out; have z_13' := z_13.out; have z_15' := z_15.out; have z_16' := z_16.out; have z_17' := z_17.out; have z_19' := z_19.out; omega)
    have z_20 := Lib.hid hbd20.2.2.2.1
    have g_20 := Band.below g_19 hbd20 (by have zA' := zA.out; have z_2' := z_2.out; have z_4' := z_4.out; have z_6' := z_6.out; have z_8' := z_8.out; have z_10' := z_10.out; have z_13' := z_13.out; have z_15' := z_15.out; have z_16' := z_16.out; have z_17' := z_17.out; have z_19' := z_19.out; have z_20' := z_20.out; omega) g_19.size
    clear hbd20 NI_19 bA_19 NS_19
    obtain ⟨-, mA0, mA1, mA2⟩ := id bA_20
    go_wp2_with fail
    clear mA0 mA1 mA2
    refine (heldII_any 1 hR1 hmk20 hR2).mono ?_
    rintro e w_21 ⟨rfl, hb21⟩
    have NS_22 := NS_20.below hb21
    have NI_22 := hmk20.below hb21
    have z_22 := Lib.hid hb21.size
    clear NS_20 hmk20
    have bA_22 := bA_20.below hb21
    have g_22 := bstep g_20 hb21
    clear hb21 bA_20 g_20
    obtain ⟨-, mA0, mA1, mA2⟩ := id bA_22
    go_wp2_with fail
    clear mA0 mA1 mA2
    have gbK := g_22
    refine (toCyl_any s t (Rd.below hl g_22) hsl).mono ?_
    rintro e w_23 ⟨vK, rfl, hK_0, hb23⟩
    obtain ⟨aK, cpK, rfl⟩ := ownS_slice hK_0
    have apKA := ob_of_lt hK_0 bA_22.1
    have NS_24 := NS_22.below hb23
    have NI_24 := NI_22.below hb23
    have z_24 := Lib.hid hb23.size
    clear NS_22 NI_22
    have bA_24 := bA_22.below hb23
    have g_24 := bstep g_22 hb23
    clear hb23 bA_22 g_22
    have rgK := Lib.hid (fun (k : Nat) (hk : (.slice aK l.length cpK : Value).ownBlock = some k) => (World.ownsRow.lt hK_0 k hk : w_21.heap.size ≤ k ∧ k < w_23.heap.size))
    obtain ⟨-, mA0, mA1, mA2⟩ := id bA_24
    go_wp2_with fail
    clear mA0 mA1 mA2
    refine (HI.out _ _ (RdC.of_own hK_0)).mono ?_
    rintro e w_25 ⟨vH, usH, rfl, NH_0, hb25⟩
    obtain ⟨aH, cpH, rfl⟩ := NH_0.rd.slice
    have NS_26 := NS_24.below hb25
    have NI_26 := NI_24.below hb25
    have z_26 := Lib.hid hb25.size
    clear NS_24 NI_24
    have bA_26 := bA_24.below hb25
    have hK_26 := ownS_below hK_0 hb25
    have g_26 := bstep g_24 hb25
    clear hb25 bA_24 hK_0 g_24
    clear hK_26 apKA
    obtain ⟨-, mA0, mA1, mA2⟩ := id bA_26
    go_wp2_with fail
    clear mA0 mA1 mA2
    refine (eqII_same NH_0.rd NS_26.rd).mono ?_
    rintro e w_27 ⟨rfl, hb27⟩
    have NS_28 := NS_26.below hb27
    have NI_28 := NI_26.below hb27
    have NH_28 := NH_0.below hb27
    have z_28 := Lib.hid hb27.size
    clear NS_26 NI_26 NH_0
    have bA_28 := bA_26.below hb27
    have g_28 := bstep g_26 hb27
    clear hb27 bA_26 g_26
    obtain ⟨-, mA0, mA1, mA2⟩ := id bA_28
    go_wp2_with fail
    clear mA0 mA1 mA2
    refine (heldII_any 1 hR1 NI_28 hR2).mono ?_
    rintro e w_29 ⟨rfl, hb29⟩
    have NS_30 := NS_28.below hb29
    have NI_30 := NI_28.below hb29
    have NH_30 := NH_28.below hb29
    have z_30 := Lib.hid hb29.size
    clear NS_28 NI_28 NH_28
    have bA_30 := bA_28.below hb29
    have g_30 := bstep g_28 hb29
    clear hb29 bA_28 g_28
    go_wp2
    go_ret
    exact ⟨rfl, g_30⟩
  · go_enter Try.func6, Try.ntmps6
    go_wp2_with fail
    rw [← hw0]
    clear hw0
    refine (szCyl_no s t hsl hml).mono ?_
    rintro e w1 ⟨rfl, hb1⟩
    have g1 := bstep g0 hb1
    clear bA_0 g0 hb1
    go_wp2
    go_ret
    exact ⟨rfl, g1⟩

end Go.Proofs.Ytpdjceafjdlknaa
