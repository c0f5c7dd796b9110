/- The walk of FnExactAddPin: THE PROGRAM'S OWN CONTRACT IS A PREMISE (hI). Made by mk_cyl.py. -/
import Derived.Test.YtnnoknejigaklaaAddPinSpec
import Derived.Test.YtnnoknejigaklaaWalkKit
namespace Go.Proofs.Ytnnoknejigaklaa
open Go.ChangeShapes Go.WideShapes Go.ChangeAt Go.RowKit

set_option maxHeartbeats 8000000 in
set_option maxRecDepth 100000 in
theorem exactaddpin_walk {w : World} {ql : Value} {l : List (Int × Int)} (s t : Int) (x : Int × Int) (hI : ∀ (W : World) (U : Value), RdC W U l → l.length ≤ 1048576 → Calls Try.prog 17 #[.agg #[.int .i64 s, .int .i64 t, U], .agg #[.int .i64 x.1, .int .i64 x.2]] W (NewCylB W s t (addP s t l x).1 (addP s t l x).2)) (hl : Rd2 w ql l) :
    Calls Try.prog 6 #[.agg #[.int .i64 s, .int .i64 t, ql], .agg #[.int .i64 x.1, .int .i64 x.2]] w fun e w' => e = .returned (.bool true) ∧ Below w.heap.size w w' := by
  obtain ⟨al, cl, rfl⟩ := Rd.slice hl
  have hml := hl.2.1
  unfold maxLen at hml
  obtain ⟨w0, hw0⟩ : ∃ w0, w0 = (w.alloc (.cells #[.int .i64 s, .int .i64 t, .slice al l.length cl] 46)).alloc (.cells #[.int .i64 x.1, .int .i64 x.2] 54) := ⟨_, rfl⟩
  have g0 : Below w.heap.size w w0 := by rw [hw0]; exact ((Below.refl _ _).alloc (Nat.le_refl _) _).alloc (by simp) _
  have bA_0 : Box w0 w.heap.size s t (.slice al l.length cl) := by rw [hw0]; exact (box_new _ _ _ _ _).below ((Below.refl _ _).alloc (Nat.le_refl _) _)
  have pz_0 : w0.cell? ⟨w.heap.size + 1, 0, none⟩ = some (.int .i64 x.1) := by rw [hw0]; simp [go_sem]
  have po_0 : w0.cell? ⟨w.heap.size + 1, 1, none⟩ = some (.int .i64 x.2) := by rw [hw0]; simp [go_sem]
  by_cases hsl : l.length ≤ 1048576
  · have HI := Lib.hid (fun (W : World) (U : Value) (pl : RdC W U l) => hI W U pl hsl)
    have HS := Lib.hid (fun (W : World) (U : Value) (pl : RdC W U l) => addpin_any s t x pl hsl)
    clear hI
    have hbd : (addP s t l x).1.length ≤ 1048576 := addP_le s t l x hsl
    generalize (addP s t l x).1 = R at *
    generalize (addP s t l x).2 = tb at *
    go_enter Try.func6, Try.ntmps6
    go_wp2_with fail
    rw [← hw0]
    clear hw0
    refine (szCyl_yes s t hsl).mono ?_
    rintro e w_1 ⟨x0, hx0, rfl, hb1⟩
    have bA_2 := bA_0.below hb1
    have pz_2 := old_cell hb1 pz_0
    have po_2 := old_cell hb1 po_0
    have g_2 := bstep g0 hb1
    clear hb1 bA_0 pz_0 po_0 g0
    obtain ⟨-, mA0, mA1, mA2⟩ := id bA_2
    go_wp2_with fail
    clear mA0 mA1 mA2
    obtain ⟨-, n0, n1, n2⟩ := id bA_2
    have n3 := pz_2
    have n4 := po_2
    have gbS := g_2
    have gd0 : Below w.heap.size w w_1.drew := Below.drew g_2
    have gd1 : Below w.heap.size w (w_1.alloc (.cells #[.int .i64 0, .int .i64 0, .slice none 0 0] 26)).drew := Below.drew (g_2.alloc g_2.size _)
    have gz : Below w_1.heap.size w_1 (w_1.alloc (.cells #[.int .i64 0, .int .i64 0, .slice none 0 0] 26)).drew := below_a w_1 (.cells #[.int .i64 0, .int .i64 0, .slice none 0 0] 26)
    have nz0 := fun o : Obj => (old_cell ((Below.refl w_1.heap.size w_1).alloc (Nat.le_refl _) o) n0)
    have nz1 := fun o : Obj => (old_cell ((Below.refl w_1.heap.size w_1).alloc (Nat.le_refl _) o) n1)
    have nz2 := fun o : Obj => (old_cell ((Below.refl w_1.heap.size w_1).alloc (Nat.le_refl _) o) n2)
    have nz3 := fun o : Obj => (old_cell ((Below.refl w_1.heap.size w_1).alloc (Nat.le_refl _) o) n3)
    have nz4 := fun o : Obj => (old_cell ((Below.refl w_1.heap.size w_1).alloc (Nat.le_refl _) o) n4)
    apply cut_rule
    · intro HCUT
      go_region_held3 (fun w' => w'.cell? ⟨w.heap.size, 0, none⟩ = some (.int .i64 s) ∧ w'.cell? ⟨w.heap.size, 1, none⟩ = some (.int .i64 t) ∧ w'.cell? ⟨w.heap.size, 2, none⟩ = some (.slice al l.length cl) ∧ w'.cell? ⟨w.heap.size + 1, 0, none⟩ = some (.int .i64 x.1) ∧ w'.cell? ⟨w.heap.size + 1, 1, none⟩ = some (.int .i64 x.2)) (go_keep)
        ((first
            | (go_at_call 23; refine (toCyl_any s t (Rd.below hl (by first | exact gd0 | exact gd1)) hsl).mono ?_; rintro e wa ⟨va, rfl, hva, hba⟩; have hA : Below w_1.heap.size w_1 wa := (by first | exact below_undrew hba | exact bstep gz hba); have q0 := old_cell hA n0; have q1 := old_cell hA n1; have q2 := old_cell hA n2; have q3 := old_cell hA n3; have q4 := old_cell hA n4; (first | (have bz1 := BoxW.below (show BoxW (w_1.alloc (.cells #[.int .i64 0, .int .i64 0, .slice none 0 0] 26)).drew w_1.heap.size (.int .i64 0) (.int .i64 0) (.slice none 0 0) from boxw_new w_1 (.int .i64 0) (.int .i64 0) (.slice none 0 0) 26) hba; have e0 := Nat.ne_of_gt (World.block_lt_of_cell? w_1 _ n0); have e1 := Nat.ne_of_gt (World.block_lt_of_cell? w_1 _ n1); have e2 := Nat.ne_of_gt (World.block_lt_of_cell? w_1 _ n2); have e3 := Nat.ne_of_gt (World.block_lt_of_cell? w_1 _ n3); have e4 := Nat.ne_of_gt (World.block_lt_of_cell? w_1 _ n4)) | skip))
            | (go_at_call 31; refine (toPin_any _ _).mono ?_; rintro e wb ⟨rfl, hbb⟩; have hBB : Below wa.heap.size wa wb := (by first | exact hbb | exact bstep ((Below.refl wa.heap.size wa).alloc (Nat.le_refl _) _) hbb); have r0 := old_cell hBB q0; have r1 := old_cell hBB q1; have r2 := old_cell hBB q2; have r3 := old_cell hBB q3; have r4 := old_cell hBB q4; (first | (have bz2 := BoxW.below bz1 hBB) | (have bz2 := BoxW.below (boxw_new wa (.int .i64 0) (.int .i64 0) (.slice none 0 0) 26) hbb; have e0 := Nat.ne_of_gt (World.block_lt_of_cell? wa _ q0); have e1 := Nat.ne_of_gt (World.block_lt_of_cell? wa _ q1); have e2 := Nat.ne_of_gt (World.block_lt_of_cell? wa _ q2); have e3 := Nat.ne_of_gt (World.block_lt_of_cell? wa _ q3); have e4 := Nat.ne_of_gt (World.block_lt_of_cell? wa _ q4)) | skip))
            | (go_at_call 30; refine (HS.out _ _ (RdC.of_own (ownS_below (ownS_below hva hBB) (by first | exact Below.refl _ _ | exact ((Below.refl wb.heap.size wb).alloc (Nat.le_refl _) _))))).mono ?_; rintro e wc ⟨vc, rfl, hvc, hbc⟩; have hCC : Below wb.heap.size wb wc := (by first | exact hbc | exact bstep ((Below.refl wb.heap.size wb).alloc (Nat.le_refl _) _) hbc); have hvd : wc.ownsRow wb.heap.size 32 2 vc R.length (flat2 R) := (by first | exact hvc | exact own_low hvc ((Below.refl wb.heap.size wb).alloc (Nat.le_refl _) _).size); obtain ⟨ac, cpc, rfl⟩ := ownS_slice hvd; have u0 := old_cell hCC r0; have u1 := old_cell hCC r1; have u2 := old_cell hCC r2; have u3 := old_cell hCC r3; have u4 := old_cell hCC r4; (first | (have bz3 := BoxW.below bz2 hCC) | (have bz3 := BoxW.below (boxw_new wb (.int .i64 0) (.int .i64 0) (.slice none 0 0) 26) hbc; have e0 := Nat.ne_of_gt (World.block_lt_of_cell? wb _ r0); have e1 := Nat.ne_of_gt (World.block_lt_of_cell? wb _ r1); have e2 := Nat.ne_of_gt (World.block_lt_of_cell? wb _ r2); have e3 := Nat.ne_of_gt (World.block_lt_of_cell? wb _ r3); have e4 := Nat.ne_of_gt (World.block_lt_of_cell? wb _ r4)) | skip); (first | (obtain ⟨-, ⟨z0, z1, z2⟩, zf⟩ := id bz3; have zf0 := zf 0; have zf1 := zf 1; have zf2 := zf 2; have y0 := (set3_cell wc _ (.int .i64 s) (.int .i64 t) (.slice ac R.length cpc) e0).trans u0; have y1 := (set3_cell wc _ (.int .i64 s) (.int .i64 t) (.slice ac R.length cpc) e1).trans u1; have y2 := (set3_cell wc _ (.int .i64 s) (.int .i64 t) (.slice ac R.length cpc) e2).trans u2; have y3 := (set3_cell wc _ (.int .i64 s) (.int .i64 t) (.slice ac R.length cpc) e3).trans u3; have y4 := (set3_cell wc _ (.int .i64 s) (.int .i64 t) (.slice ac R.length cpc) e4).trans u4; have zk : (Value.slice ac R.length cpc).ownBlock ≠ some _ := (by first | exact ob_of_lt hvd bz2.1 | exact ob_of_lt hvc (show wb.heap.size < (wb.alloc (.cells #[.int .i64 0, .int .i64 0, .slice none 0 0] 26)).heap.size by simp)); have HF := laid_store (s := s) (t := t) bz3 hvd (Nat.le_trans hA.size hBB.size) zk (bstep (bstep hA hBB) hCC) (by first | exact Nat.le_refl _ | exact hA.size | exact hBB.size | exact (Nat.le_trans hA.size hBB.size))) | (have HF := laid_alloc (s := s) (t := t) 26 hvd (Nat.le_trans hA.size hBB.size) (bstep (bstep hA hBB) hCC))))))
      · rename_i hHeld
        clear hHeld hva hba hA q0 q1 q2 q3 q4 hbb hBB r0 r1 r2 r3 r4 hbc hCC hvd hvc u0 u1 u2 u3 u4
        generalize wc.alloc (.cells #[.int .i64 s, .int .i64 t, .slice ac R.length cpc] 26) = W9 at HF ⊢
        generalize wc.heap.size = b9 at HF ⊢
        revert va ac cpc W9 b9 HF
        exact HCUT.out
      all_goals exact HCUT.out va ac cpc _ _ HF
    intro va3 aS cpS w_3 kBS HF3
    obtain ⟨bBS_0, hS_0, hbd3, apSBS, hge3⟩ := HF3
    clear gd0 gd1 gz nz0 nz1 nz2 nz3 nz4 n0 n1 n2 n3 n4
    have apSA := ob_of_lt hS_0 bA_2.1
    have apSpin := ob_of_lt hS_0 (World.block_lt_of_cell? _ _ pz_2)
    have bA_4 := bA_2.below hbd3
    have pz_4 := old_cell hbd3 pz_2
    have po_4 := old_cell hbd3 po_2
    have g_4 := bstep g_2 hbd3
    clear hbd3 bA_2 pz_2 po_2 g_2
    obtain ⟨-, mA0, mA1, mA2⟩ := id bA_4
    obtain ⟨-, mBS0, mBS1, mBS2⟩ := id bBS_0
    go_wp2_with fail
    clear mA0 mA1 mA2 mBS0 mBS1 mBS2
    have gbX := g_4
    refine (toCyl_any s t (Rd.below hl g_4) hsl).mono ?_
    rintro e w_5 ⟨vX, rfl, hX_0, hb5⟩
    obtain ⟨aX, cpX, rfl⟩ := ownS_slice hX_0
    have apXA := ob_of_lt hX_0 bA_4.1
    have apXBS := ob_of_lt hX_0 bBS_0.1
    have apXpin := ob_of_lt hX_0 (World.block_lt_of_cell? _ _ pz_4)
    have apSX := apartS hS_0 hX_0
    have apXS := apartS' hS_0 hX_0
    have bA_6 := bA_4.below hb5
    have bBS_6 := bBS_0.below hb5
    have hS_6 := ownS_below hS_0 hb5
    have pz_6 := old_cell hb5 pz_4
    have po_6 := old_cell hb5 po_4
    have g_6 := bstep g_4 hb5
    clear hb5 bA_4 bBS_0 hS_0 pz_4 po_4 g_4
    have hbA7 : Below w_5.heap.size w_5 (w_5.alloc (.cells #[.int .i64 s, .int .i64 t, .slice aX l.length cpX] 26)) := (Below.refl _ _).alloc (Nat.le_refl _) _
    have bBX_0 : Box (w_5.alloc (.cells #[.int .i64 s, .int .i64 t, .slice aX l.length cpX] 26)) w_5.heap.size s t (.slice aX l.length cpX) := box_new _ _ _ _ _
    have apSBX : (.slice aS R.length cpS : Value).ownBlock ≠ some w_5.heap.size := fun e => Nat.lt_irrefl _ (hS_6.lt _ e).2
    have apXBX : (.slice aX l.length cpX : Value).ownBlock ≠ some w_5.heap.size := fun e => Nat.lt_irrefl _ (hX_0.lt _ e).2
    have bA_8 := bA_6.below hbA7
    have bBS_8 := bBS_6.below hbA7
    have hS_8 := ownS_below hS_6 hbA7
    have hX_8 := ownS_below hX_0 hbA7
    have pz_8 := old_cell hbA7 pz_6
    have po_8 := old_cell hbA7 po_6
    have g_8 := bstep g_6 hbA7
    clear hbA7 bA_6 bBS_6 hS_6 hX_0 pz_6 po_6 g_6
    obtain ⟨-, mA0, mA1, mA2⟩ := id bA_8
    obtain ⟨-, mBS0, mBS1, mBS2⟩ := id bBS_8
    obtain ⟨-, mBX0, mBX1, mBX2⟩ := id bBX_0
    go_wp2_with fail
    clear mA0 mA1 mA2 mBS0 mBS1 mBS2 mBX0 mBX1 mBX2
    generalize (w_5.alloc (.cells #[.int .i64 s, .int .i64 t, .slice aX l.length cpX] 26)) = w_9 at *
    obtain ⟨-, n0, n1, n2⟩ := id bBX_0
    have n3 := pz_8
    have n4 := po_8
    have gbI := g_8
    have gd0 : Below w.heap.size w w_9.drew := Below.drew g_8
    have gd1 : Below w.heap.size w (w_9.alloc (.cells #[.int .i64 0, .int .i64 0, .slice none 0 0] 26)).drew := Below.drew (g_8.alloc g_8.size _)
    have gz : Below w_9.heap.size w_9 (w_9.alloc (.cells #[.int .i64 0, .int .i64 0, .slice none 0 0] 26)).drew := below_a w_9 (.cells #[.int .i64 0, .int .i64 0, .slice none 0 0] 26)
    have nz0 := fun o : Obj => (old_cell ((Below.refl w_9.heap.size w_9).alloc (Nat.le_refl _) o) n0)
    have nz1 := fun o : Obj => (old_cell ((Below.refl w_9.heap.size w_9).alloc (Nat.le_refl _) o) n1)
    have nz2 := fun o : Obj => (old_cell ((Below.refl w_9.heap.size w_9).alloc (Nat.le_refl _) o) n2)
    have nz3 := fun o : Obj => (old_cell ((Below.refl w_9.heap.size w_9).alloc (Nat.le_refl _) o) n3)
    have nz4 := fun o : Obj => (old_cell ((Below.refl w_9.heap.size w_9).alloc (Nat.le_refl _) o) n4)
    apply cut_rule
    · intro HCUT
      go_region_held3 (fun w' => w'.cell? ⟨w_5.heap.size, 0, none⟩ = some (.int .i64 s) ∧ w'.cell? ⟨w_5.heap.size, 1, none⟩ = some (.int .i64 t) ∧ w'.cell? ⟨w_5.heap.size, 2, none⟩ = some (.slice aX l.length cpX) ∧ w'.cell? ⟨w.heap.size + 1, 0, none⟩ = some (.int .i64 x.1) ∧ w'.cell? ⟨w.heap.size + 1, 1, none⟩ = some (.int .i64 x.2)) (go_keep)
        ((first
            | (go_at_call 31; refine (toPin_any _ _).mono ?_; rintro e wb ⟨rfl, hbb⟩; have hBB : Below w_9.heap.size w_9 wb := (by first | exact below_undrew hbb | exact bstep gz hbb); have r0 := old_cell hBB n0; have r1 := old_cell hBB n1; have r2 := old_cell hBB n2; have r3 := old_cell hBB n3; have r4 := old_cell hBB n4; (first | (have bz2 := BoxW.below (show BoxW (w_9.alloc (.cells #[.int .i64 0, .int .i64 0, .slice none 0 0] 26)).drew w_9.heap.size (.int .i64 0) (.int .i64 0) (.slice none 0 0) from boxw_new w_9 (.int .i64 0) (.int .i64 0) (.slice none 0 0) 26) hbb; have e0 := Nat.ne_of_gt (World.block_lt_of_cell? w_9 _ n0); have e1 := Nat.ne_of_gt (World.block_lt_of_cell? w_9 _ n1); have e2 := Nat.ne_of_gt (World.block_lt_of_cell? w_9 _ n2); have e3 := Nat.ne_of_gt (World.block_lt_of_cell? w_9 _ n3); have e4 := Nat.ne_of_gt (World.block_lt_of_cell? w_9 _ n4)) | skip))
            | (go_at_call 17; refine (HI.out _ _ (RdC.of_own (ownS_below (ownS_below hX_8 hBB) (by first | exact Below.refl _ _ | exact ((Below.refl wb.heap.size wb).alloc (Nat.le_refl _) _))))).mono ?_; rintro e wc ⟨vc, rfl, hvc, hbc⟩; have hCC : Below wb.heap.size wb wc := (by first | exact hbc | exact bstep ((Below.refl wb.heap.size wb).alloc (Nat.le_refl _) _) hbc); have hvd : wc.ownsRow wb.heap.size 32 2 vc R.length (flat2 R) := (by first | exact hvc | exact own_low hvc ((Below.refl wb.heap.size wb).alloc (Nat.le_refl _) _).size); obtain ⟨ac, cpc, rfl⟩ := ownS_slice hvd; have u0 := old_cell hCC r0; have u1 := old_cell hCC r1; have u2 := old_cell hCC r2; have u3 := old_cell hCC r3; have u4 := old_cell hCC r4; (first | (have bz3 := BoxW.below bz2 hCC) | (have bz3 := BoxW.below (boxw_new wb (.int .i64 0) (.int .i64 0) (.slice none 0 0) 26) hbc; have e0 := Nat.ne_of_gt (World.block_lt_of_cell? wb _ r0); have e1 := Nat.ne_of_gt (World.block_lt_of_cell? wb _ r1); have e2 := Nat.ne_of_gt (World.block_lt_of_cell? wb _ r2); have e3 := Nat.ne_of_gt (World.block_lt_of_cell? wb _ r3); have e4 := Nat.ne_of_gt (World.block_lt_of_cell? wb _ r4)) | skip); (first | (obtain ⟨-, ⟨z0, z1, z2⟩, zf⟩ := id bz3; have zf0 := zf 0; have zf1 := zf 1; have zf2 := zf 2; have y0 := (set3_cell wc _ (.int .i64 s) (.int .i64 t) (.slice ac R.length cpc) e0).trans u0; have y1 := (set3_cell wc _ (.int .i64 s) (.int .i64 t) (.slice ac R.length cpc) e1).trans u1; have y2 := (set3_cell wc _ (.int .i64 s) (.int .i64 t) (.slice ac R.length cpc) e2).trans u2; have y3 := (set3_cell wc _ (.int .i64 s) (.int .i64 t) (.slice ac R.length cpc) e3).trans u3; have y4 := (set3_cell wc _ (.int .i64 s) (.int .i64 t) (.slice ac R.length cpc) e4).trans u4; have zk : (Value.slice ac R.length cpc).ownBlock ≠ some _ := (by first | exact ob_of_lt hvd bz2.1 | exact ob_of_lt hvc (show wb.heap.size < (wb.alloc (.cells #[.int .i64 0, .int .i64 0, .slice none 0 0] 26)).heap.size by simp)); have HF := laid_store (s := s) (t := t) bz3 hvd hBB.size zk (bstep hBB hCC) (by first | exact Nat.le_refl _ | exact hA.size | exact hBB.size | exact hBB.size)) | (have HF := laid_alloc (s := s) (t := t) 26 hvd hBB.size (bstep hBB hCC))))))
      · rename_i hHeld
        clear hHeld hbb hBB r0 r1 r2 r3 r4 hbc hCC hvd hvc u0 u1 u2 u3 u4
        generalize wc.alloc (.cells #[.int .i64 s, .int .i64 t, .slice ac R.length cpc] 26) = W9 at HF ⊢
        generalize wc.heap.size = b9 at HF ⊢
        revert ac cpc W9 b9 HF
        exact HCUT.out
      all_goals exact HCUT.out ac cpc _ _ HF
    intro aI cpI w_10 kBI HF10
    obtain ⟨bBI_0, hI_0, hbd10, apIBI, hge10⟩ := HF10
    clear gd0 gd1 gz nz0 nz1 nz2 nz3 nz4 n0 n1 n2 n3 n4
    have apIA := ob_of_lt hI_0 bA_8.1
    have apIBS := ob_of_lt hI_0 bBS_8.1
    have apIBX := ob_of_lt hI_0 bBX_0.1
    have apIpin := ob_of_lt hI_0 (World.block_lt_of_cell? _ _ pz_8)
    have apSI := apartS hS_8 hI_0
    have apIS := apartS' hS_8 hI_0
    have apXI := apartS hX_8 hI_0
    have apIX := apartS' hX_8 hI_0
    have apSBI : (.slice aS R.length cpS : Value).ownBlock ≠ some kBI := fun e => Nat.not_lt.2 hge10 (hS_8.lt _ e).2
    have apXBI : (.slice aX l.length cpX : Value).ownBlock ≠ some kBI := fun e => Nat.not_lt.2 hge10 (hX_8.lt _ e).2
    have bA_11 := bA_8.below hbd10
    have bBS_11 := bBS_8.below hbd10
    have bBX_11 := bBX_0.below hbd10
    have hS_11 := ownS_below hS_8 hbd10
    have hX_11 := ownS_below hX_8 hbd10
    have pz_11 := old_cell hbd10 pz_8
    have po_11 := old_cell hbd10 po_8
    have g_11 := bstep g_8 hbd10
    clear hbd10 bA_8 bBS_8 bBX_0 hS_8 hX_8 pz_8 po_8 g_8
    obtain ⟨-, mA0, mA1, mA2⟩ := id bA_11
    obtain ⟨-, mBS0, mBS1, mBS2⟩ := id bBS_11
    obtain ⟨-, mBX0, mBX1, mBX2⟩ := id bBX_11
    obtain ⟨-, mBI0, mBI1, mBI2⟩ := id bBI_0
    go_wp2_with fail
    clear mA0 mA1 mA2 mBS0 mBS1 mBS2 mBX0 mBX1 mBX2 mBI0 mBI1 mBI2
    refine (eqCyl_same s t (Rd.of_own hI_0) (Rd.of_own hS_11)).mono ?_
    rintro e w_12 ⟨rfl, hb12⟩
    have bA_13 := bA_11.below hb12
    have bBS_13 := bBS_11.below hb12
    have bBX_13 := bBX_11.below hb12
    have bBI_13 := bBI_0.below hb12
    have hS_13 := ownS_below hS_11 hb12
    have hX_13 := ownS_below hX_11 hb12
    have hI_13 := ownS_below hI_0 hb12
    have pz_13 := old_cell hb12 pz_11
    have po_13 := old_cell hb12 po_11
    have g_13 := bstep g_11 hb12
    clear hb12 bA_11 bBS_11 bBX_11 bBI_0 hS_11 hX_11 hI_0 pz_11 po_11 g_11
    obtain ⟨-, n0, n1, n2⟩ := id bBX_13
    obtain ⟨-, n3, n4, n5⟩ := id bA_13
    go_wp2_with fail
    go_region_held3 (fun w' => w'.cell? ⟨w_5.heap.size, 0, none⟩ = some (.int .i64 s) ∧ w'.cell? ⟨w_5.heap.size, 1, none⟩ = some (.int .i64 t) ∧ w'.cell? ⟨w_5.heap.size, 2, none⟩ = some (.slice aX l.length cpX) ∧ w'.cell? ⟨w.heap.size, 0, none⟩ = some (.int .i64 s) ∧ w'.cell? ⟨w.heap.size, 1, none⟩ = some (.int .i64 t) ∧ w'.cell? ⟨w.heap.size, 2, none⟩ = some (.slice al l.length cl)) (go_keep)
      ((first
          | (go_at_call 23; refine (toCyl_any s t (Rd.below hl (Below.drew g_13)) hsl).mono ?_; rintro e wa ⟨va, rfl, hva, hba⟩; have q0 := kept_cell hba n0; have q1 := kept_cell hba n1; have q2 := kept_cell hba n2; have q3 := kept_cell hba n3; have q4 := kept_cell hba n4; have q5 := kept_cell hba n5)
          | (go_at_call 24; refine (eqCyl_same s t (Rd.of_own (ownS_below hX_13 (below_undrew hba))) (Rd.of_own hva)).mono ?_; rintro e wb ⟨rfl, hbb⟩; have r0 := old_cell hbb q0; have r1 := old_cell hbb q1; have r2 := old_cell hbb q2; have r3 := old_cell hbb q3; have r4 := old_cell hbb q4; have r5 := old_cell hbb q5)))
    have hbc := bstep (below_undrew hba) hbb
    clear q0 q1 q2 q3 q4 q5 r0 r1 r2 r3 r4 r5 n0 n1 n2 n3 n4 n5 hva hba hbb
    have bA_14 := bA_13.below hbc
    have bBS_14 := bBS_13.below hbc
    have bBX_14 := bBX_13.below hbc
    have bBI_14 := bBI_13.below hbc
    have hS_14 := ownS_below hS_13 hbc
    have hX_14 := ownS_below hX_13 hbc
    have hI_14 := ownS_below hI_13 hbc
    have pz_14 := old_cell hbc pz_13
    have po_14 := old_cell hbc po_13
    have g_14 := bstep g_13 hbc
    clear hbc bA_13 bBS_13 bBX_13 bBI_13 hS_13 hX_13 hI_13 pz_13 po_13 g_13
    have glX : ∀ k, (.slice aX l.length cpX : Value).ownBlock = some k → w.heap.size ≤ k := fun k hk => Nat.le_trans gbX.size (hX_14.lt k hk).1
    obtain ⟨-, mA0, mA1, mA2⟩ := id bA_14
    obtain ⟨-, mBS0, mBS1, mBS2⟩ := id bBS_14
    obtain ⟨-, mBX0, mBX1, mBX2⟩ := id bBX_14
    obtain ⟨-, mBI0, mBI1, mBI2⟩ := id bBI_14
    go_wp2_with fail
    clear mA0 mA1 mA2 mBS0 mBS1 mBS2 mBX0 mBX1 mBX2 mBI0 mBI1 mBI2
    refine (markCyl_any s t 1 (by omega) hX_14).mono ?_
    rintro e w_15 ⟨rfl, hg15, _⟩
    have bA_15 := bA_14.grown hg15 (Ne.symm apXA)
    have bBS_15 := bBS_14.grown hg15 (Ne.symm apXBS)
    have bBX_15 := bBX_14.grown hg15 (Ne.symm apXBX)
    have bBI_15 := bBI_14.grown hg15 (Ne.symm apXBI)
    have hS_15 := World.ownsRow.kept hS_14 hg15 apSX
    have hI_15 := World.ownsRow.kept hI_14 hg15 apIX
    have pz_15 := (cell_grown_by hg15 (World.block_lt_of_cell? _ _ pz_14) (Ne.symm apXpin)).trans pz_14
    have po_15 := (cell_grown_by hg15 (World.block_lt_of_cell? _ _ po_14) (Ne.symm apXpin)).trans po_14
    have g_15 := g_14.grown hg15 g_14.size glX
    clear hg15 hX_14 bA_14 bBS_14 bBX_14 bBI_14 hS_14 hI_14 pz_14 po_14
    clear apXA apXBS apXpin apSX apXS apXBX apXI apIX apXBI
    obtain ⟨-, mA0, mA1, mA2⟩ := id bA_15
    obtain ⟨-, mBS0, mBS1, mBS2⟩ := id bBS_15
    obtain ⟨-, mBX0, mBX1, mBX2⟩ := id bBX_15
    obtain ⟨-, mBI0, mBI1, mBI2⟩ := id bBI_15
    go_wp2_with fail
    clear mA0 mA1 mA2 mBS0 mBS1 mBS2 mBX0 mBX1 mBX2 mBI0 mBI1 mBI2
    refine (eqCyl_same s t (Rd.of_own hI_15) (Rd.of_own hS_15)).mono ?_
    rintro e w_16 ⟨rfl, hb16⟩
    have bA_17 := bA_15.below hb16
    have bBS_17 := bBS_15.below hb16
    have bBX_17 := bBX_15.below hb16
    have bBI_17 := bBI_15.below hb16
    have hS_17 := ownS_below hS_15 hb16
    have hI_17 := ownS_below hI_15 hb16
    have pz_17 := old_cell hb16 pz_15
    have po_17 := old_cell hb16 po_15
    have g_17 := bstep g_15 hb16
    clear hb16 bA_15 bBS_15 bBX_15 bBI_15 hS_15 hI_15 pz_15 po_15 g_15
    have glI : ∀ k, (.slice aI R.length cpI : Value).ownBlock = some k → w.heap.size ≤ k := fun k hk => Nat.le_trans gbI.size (hI_17.lt k hk).1
    obtain ⟨-, mA0, mA1, mA2⟩ := id bA_17
    obtain ⟨-, mBS0, mBS1, mBS2⟩ := id bBS_17
    obtain ⟨-, mBX0, mBX1, mBX2⟩ := id bBX_17
    obtain ⟨-, mBI0, mBI1, mBI2⟩ := id bBI_17
    go_wp2_with fail
    clear mA0 mA1 mA2 mBS0 mBS1 mBS2 mBX0 mBX1 mBX2 mBI0 mBI1 mBI2
    refine (markCyl_any s t 1 (by omega) hI_17).mono ?_
    rintro e w_18 ⟨rfl, hg18, ys, hy18, hmk18⟩
    have bA_18 := bA_17.grown hg18 (Ne.symm apIA)
    have bBS_18 := bBS_17.grown hg18 (Ne.symm apIBS)
    have bBX_18 := bBX_17.grown hg18 (Ne.symm apIBX)
    have bBI_18 := bBI_17.grown hg18 (Ne.symm apIBI)
    have hS_18 := World.ownsRow.kept hS_17 hg18 apSI
    have pz_18 := (cell_grown_by hg18 (World.block_lt_of_cell? _ _ pz_17) (Ne.symm apIpin)).trans pz_17
    have po_18 := (cell_grown_by hg18 (World.block_lt_of_cell? _ _ po_17) (Ne.symm apIpin)).trans po_17
    have g_18 := g_17.grown hg18 g_17.size glI
    clear hg18 hI_17 bA_17 bBS_17 bBX_17 bBI_17 hS_17 pz_17 po_17
    have HMK := Lib.hid hmk18
    clear hmk18
    obtain ⟨-, mA0, mA1, mA2⟩ := id bA_18
    obtain ⟨-, mBS0, mBS1, mBS2⟩ := id bBS_18
    obtain ⟨-, mBX0, mBX1, mBX2⟩ := id bBX_18
    obtain ⟨-, mBI0, mBI1, mBI2⟩ := id bBI_18
    go_wp2_with fail
    clear mA0 mA1 mA2 mBS0 mBS1 mBS2 mBX0 mBX1 mBX2 mBI0 mBI1 mBI2
    refine (heldCyl_any s t 1 (by omega) (Rd.of_own hy18) HMK.out).mono ?_
    rintro e w_19 ⟨rfl, hb19⟩
    have bA_20 := bA_18.below hb19
    have bBS_20 := bBS_18.below hb19
    have bBX_20 := bBX_18.below hb19
    have bBI_20 := bBI_18.below hb19
    have hS_20 := ownS_below hS_18 hb19
    have hI_20 := ownS_below hy18 hb19
    have pz_20 := old_cell hb19 pz_18
    have po_20 := old_cell hb19 po_18
    have g_20 := bstep g_18 hb19
    clear hb19 bA_18 bBS_18 bBX_18 bBI_18 hS_18 hy18 pz_18 po_18 g_18
    obtain ⟨-, mA0, mA1, mA2⟩ := id bA_20
    obtain ⟨-, mBS0, mBS1, mBS2⟩ := id bBS_20
    obtain ⟨-, mBX0, mBX1, mBX2⟩ := id bBX_20
    obtain ⟨-, mBI0, mBI1, mBI2⟩ := id bBI_20
    go_wp2_with fail
    clear mA0 mA1 mA2 mBS0 mBS1 mBS2 mBX0 mBX1 mBX2 mBI0 mBI1 mBI2
    obtain ⟨-, n0, n1, n2⟩ := id bA_20
    have n3 := pz_20
    have n4 := po_20
    have gbH := g_20
    have gd0 : Below w.heap.size w w_19.drew := Below.drew g_20
    have gd1 : Below w.heap.size w (w_19.alloc (.cells #[.int .i64 0, .int .i64 0, .slice none 0 0] 26)).drew := Below.drew (g_20.alloc g_20.size _)
    have gz : Below w_19.heap.size w_19 (w_19.alloc (.cells #[.int .i64 0, .int .i64 0, .slice none 0 0] 26)).drew := below_a w_19 (.cells #[.int .i64 0, .int .i64 0, .slice none 0 0] 26)
    have nz0 := fun o : Obj => (old_cell ((Below.refl w_19.heap.size w_19).alloc (Nat.le_refl _) o) n0)
    have nz1 := fun o : Obj => (old_cell ((Below.refl w_19.heap.size w_19).alloc (Nat.le_refl _) o) n1)
    have nz2 := fun o : Obj => (old_cell ((Below.refl w_19.heap.size w_19).alloc (Nat.le_refl _) o) n2)
    have nz3 := fun o : Obj => (old_cell ((Below.refl w_19.heap.size w_19).alloc (Nat.le_refl _) o) n3)
    have nz4 := fun o : Obj => (old_cell ((Below.refl w_19.heap.size w_19).alloc (Nat.le_refl _) o) n4)
    apply cut_rule
    · intro HCUT
      go_region_held3 (fun w' => w'.cell? ⟨w.heap.size, 0, none⟩ = some (.int .i64 s) ∧ w'.cell? ⟨w.heap.size, 1, none⟩ = some (.int .i64 t) ∧ w'.cell? ⟨w.heap.size, 2, none⟩ = some (.slice al l.length cl) ∧ w'.cell? ⟨w.heap.size + 1, 0, none⟩ = some (.int .i64 x.1) ∧ w'.cell? ⟨w.heap.size + 1, 1, none⟩ = some (.int .i64 x.2)) (go_keep)
        ((first
            | (go_at_call 23; refine (toCyl_any s t (Rd.below hl (by first | exact gd0 | exact gd1)) hsl).mono ?_; rintro e wa ⟨va, rfl, hva, hba⟩; have hA : Below w_19.heap.size w_19 wa := (by first | exact below_undrew hba | exact bstep gz hba); have q0 := old_cell hA n0; have q1 := old_cell hA n1; have q2 := old_cell hA n2; have q3 := old_cell hA n3; have q4 := old_cell hA n4; (first | (have bz1 := BoxW.below (show BoxW (w_19.alloc (.cells #[.int .i64 0, .int .i64 0, .slice none 0 0] 26)).drew w_19.heap.size (.int .i64 0) (.int .i64 0) (.slice none 0 0) from boxw_new w_19 (.int .i64 0) (.int .i64 0) (.slice none 0 0) 26) hba; have e0 := Nat.ne_of_gt (World.block_lt_of_cell? w_19 _ n0); have e1 := Nat.ne_of_gt (World.block_lt_of_cell? w_19 _ n1); have e2 := Nat.ne_of_gt (World.block_lt_of_cell? w_19 _ n2); have e3 := Nat.ne_of_gt (World.block_lt_of_cell? w_19 _ n3); have e4 := Nat.ne_of_gt (World.block_lt_of_cell? w_19 _ n4)) | skip))
            | (go_at_call 31; refine (toPin_any _ _).mono ?_; rintro e wb ⟨rfl, hbb⟩; have hBB : Below wa.heap.size wa wb := (by first | exact hbb | exact bstep ((Below.refl wa.heap.size wa).alloc (Nat.le_refl _) _) hbb); have r0 := old_cell hBB q0; have r1 := old_cell hBB q1; have r2 := old_cell hBB q2; have r3 := old_cell hBB q3; have r4 := old_cell hBB q4; (first | (have bz2 := BoxW.below bz1 hBB) | (have bz2 := BoxW.below (boxw_new wa (.int .i64 0) (.int .i64 0) (.slice none 0 0) 26) hbb; have e0 := Nat.ne_of_gt (World.block_lt_of_cell? wa _ q0); have e1 := Nat.ne_of_gt (World.block_lt_of_cell? wa _ q1); have e2 := Nat.ne_of_gt (World.block_lt_of_cell? wa _ q2); have e3 := Nat.ne_of_gt (World.block_lt_of_cell? wa _ q3); have e4 := Nat.ne_of_gt (World.block_lt_of_cell? wa _ q4)) | skip))
            | (go_at_call 17; refine (HI.out _ _ (RdC.of_own (ownS_below (ownS_below hva hBB) (by first | exact Below.refl _ _ | exact ((Below.refl wb.heap.size wb).alloc (Nat.le_refl _) _))))).mono ?_; rintro e wc ⟨vc, rfl, hvc, hbc⟩; have hCC : Below wb.heap.size wb wc := (by first | exact hbc | exact bstep ((Below.refl wb.heap.size wb).alloc (Nat.le_refl _) _) hbc); have hvd : wc.ownsRow wb.heap.size 32 2 vc R.length (flat2 R) := (by first | exact hvc | exact own_low hvc ((Below.refl wb.heap.size wb).alloc (Nat.le_refl _) _).size); obtain ⟨ac, cpc, rfl⟩ := ownS_slice hvd; have u0 := old_cell hCC r0; have u1 := old_cell hCC r1; have u2 := old_cell hCC r2; have u3 := old_cell hCC r3; have u4 := old_cell hCC r4; (first | (have bz3 := BoxW.below bz2 hCC) | (have bz3 := BoxW.below (boxw_new wb (.int .i64 0) (.int .i64 0) (.slice none 0 0) 26) hbc; have e0 := Nat.ne_of_gt (World.block_lt_of_cell? wb _ r0); have e1 := Nat.ne_of_gt (World.block_lt_of_cell? wb _ r1); have e2 := Nat.ne_of_gt (World.block_lt_of_cell? wb _ r2); have e3 := Nat.ne_of_gt (World.block_lt_of_cell? wb _ r3); have e4 := Nat.ne_of_gt (World.block_lt_of_cell? wb _ r4)) | skip); (first | (obtain ⟨-, ⟨z0, z1, z2⟩, zf⟩ := id bz3; have zf0 := zf 0; have zf1 := zf 1; have zf2 := zf 2; have y0 := (set3_cell wc _ (.int .i64 s) (.int .i64 t) (.slice ac R.length cpc) e0).trans u0; have y1 := (set3_cell wc _ (.int .i64 s) (.int .i64 t) (.slice ac R.length cpc) e1).trans u1; have y2 := (set3_cell wc _ (.int .i64 s) (.int .i64 t) (.slice ac R.length cpc) e2).trans u2; have y3 := (set3_cell wc _ (.int .i64 s) (.int .i64 t) (.slice ac R.length cpc) e3).trans u3; have y4 := (set3_cell wc _ (.int .i64 s) (.int .i64 t) (.slice ac R.length cpc) e4).trans u4; have zk : (Value.slice ac R.length cpc).ownBlock ≠ some _ := (by first | exact ob_of_lt hvd bz2.1 | exact ob_of_lt hvc (show wb.heap.size < (wb.alloc (.cells #[.int .i64 0, .int .i64 0, .slice none 0 0] 26)).heap.size by simp)); have HF := laid_store (s := s) (t := t) bz3 hvd (Nat.le_trans hA.size hBB.size) zk (bstep (bstep hA hBB) hCC) (by first | exact Nat.le_refl _ | exact hA.size | exact hBB.size | exact (Nat.le_trans hA.size hBB.size))) | (have HF := laid_alloc (s := s) (t := t) 26 hvd (Nat.le_trans hA.size hBB.size) (bstep (bstep hA hBB) hCC))))))
      · rename_i hHeld
        clear hHeld hva hba hA q0 q1 q2 q3 q4 hbb hBB r0 r1 r2 r3 r4 hbc hCC hvd hvc u0 u1 u2 u3 u4
        generalize wc.alloc (.cells #[.int .i64 s, .int .i64 t, .slice ac R.length cpc] 26) = W9 at HF ⊢
        generalize wc.heap.size = b9 at HF ⊢
        revert va ac cpc W9 b9 HF
        exact HCUT.out
      all_goals exact HCUT.out va ac cpc _ _ HF
    intro va21 aH cpH w_21 kBH HF21
    obtain ⟨bBH_0, hH_0, hbd21, apHBH, hge21⟩ := HF21
    clear gd0 gd1 gz nz0 nz1 nz2 nz3 nz4 n0 n1 n2 n3 n4
    have apHA := ob_of_lt hH_0 bA_20.1
    have apHBS := ob_of_lt hH_0 bBS_20.1
    have apHBX := ob_of_lt hH_0 bBX_20.1
    have apHBI := ob_of_lt hH_0 bBI_20.1
    have apHpin := ob_of_lt hH_0 (World.block_lt_of_cell? _ _ pz_20)
    have apSH := apartS hS_20 hH_0
    have apHS := apartS' hS_20 hH_0
    have apIH := apartS hI_20 hH_0
    have apHI := apartS' hI_20 hH_0
    have apSBH : (.slice aS R.length cpS : Value).ownBlock ≠ some kBH := fun e => Nat.not_lt.2 hge21 (hS_20.lt _ e).2
    have apIBH : (.slice aI R.length cpI : Value).ownBlock ≠ some kBH := fun e => Nat.not_lt.2 hge21 (hI_20.lt _ e).2
    have bA_22 := bA_20.below hbd21
    have bBS_22 := bBS_20.below hbd21
    have bBX_22 := bBX_20.below hbd21
    have bBI_22 := bBI_20.below hbd21
    have hS_22 := ownS_below hS_20 hbd21
    have hI_22 := ownS_below hI_20 hbd21
    have pz_22 := old_cell hbd21 pz_20
    have po_22 := old_cell hbd21 po_20
    have g_22 := bstep g_20 hbd21
    clear hbd21 bA_20 bBS_20 bBX_20 bBI_20 hS_20 hI_20 pz_20 po_20 g_20
    obtain ⟨-, mA0, mA1, mA2⟩ := id bA_22
    obtain ⟨-, mBS0, mBS1, mBS2⟩ := id bBS_22
    obtain ⟨-, mBX0, mBX1, mBX2⟩ := id bBX_22
    obtain ⟨-, mBI0, mBI1, mBI2⟩ := id bBI_22
    obtain ⟨-, mBH0, mBH1, mBH2⟩ := id bBH_0
    go_wp2_with fail
    clear mA0 mA1 mA2 mBS0 mBS1 mBS2 mBX0 mBX1 mBX2 mBI0 mBI1 mBI2 mBH0 mBH1 mBH2
    refine (eqCyl_same s t (Rd.of_own hH_0) (Rd.of_own hS_22)).mono ?_
    rintro e w_23 ⟨rfl, hb23⟩
    have bA_24 := bA_22.below hb23
    have bBS_24 := bBS_22.below hb23
    have bBX_24 := bBX_22.below hb23
    have bBI_24 := bBI_22.below hb23
    have bBH_24 := bBH_0.below hb23
    have hS_24 := ownS_below hS_22 hb23
    have hI_24 := ownS_below hI_22 hb23
    have hH_24 := ownS_below hH_0 hb23
    have pz_24 := old_cell hb23 pz_22
    have po_24 := old_cell hb23 po_22
    have g_24 := bstep g_22 hb23
    clear hb23 bA_22 bBS_22 bBX_22 bBI_22 bBH_0 hS_22 hI_22 hH_0 pz_22 po_22 g_22
    obtain ⟨-, mA0, mA1, mA2⟩ := id bA_24
    obtain ⟨-, mBS0, mBS1, mBS2⟩ := id bBS_24
    obtain ⟨-, mBX0, mBX1, mBX2⟩ := id bBX_24
    obtain ⟨-, mBI0, mBI1, mBI2⟩ := id bBI_24
    obtain ⟨-, mBH0, mBH1, mBH2⟩ := id bBH_24
    go_wp2_with fail
    clear mA0 mA1 mA2 mBS0 mBS1 mBS2 mBX0 mBX1 mBX2 mBI0 mBI1 mBI2 mBH0 mBH1 mBH2
    refine (heldCyl_any s t 1 (by omega) (Rd.of_own hI_24) HMK.out).mono ?_
    rintro e w_25 ⟨rfl, hb25⟩
    have bA_26 := bA_24.below hb25
    have bBS_26 := bBS_24.below hb25
    have bBX_26 := bBX_24.below hb25
    have bBI_26 := bBI_24.below hb25
    have bBH_26 := bBH_24.below hb25
    have hS_26 := ownS_below hS_24 hb25
    have hI_26 := ownS_below hI_24 hb25
    have hH_26 := ownS_below hH_24 hb25
    have pz_26 := old_cell hb25 pz_24
    have po_26 := old_cell hb25 po_24
    have g_26 := bstep g_24 hb25
    clear hb25 bA_24 bBS_24 bBX_24 bBI_24 bBH_24 hS_24 hI_24 hH_24 pz_24 po_24 g_24
    go_wp2
    go_ret
    exact ⟨rfl, g_26⟩
  · go_enter Try.func6, Try.ntmps6
    go_wp2_with fail
    rw [← hw0]
    clear hw0
    refine (szCyl_no s t hsl hml).mono ?_
    rintro e w1 ⟨rfl, hb1⟩
    have g1 := bstep g0 hb1
    clear bA_0 g0 hb1
    go_wp2
    go_ret
    exact ⟨rfl, g1⟩

end Go.Proofs.Ytnnoknejigaklaa
