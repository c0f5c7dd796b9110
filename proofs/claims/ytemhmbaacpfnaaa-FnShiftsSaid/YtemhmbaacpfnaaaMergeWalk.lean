/- The walk of FnExactMerge: THE PROGRAM'S OWN CONTRACT IS A PREMISE (hI). Made by mk_cyl.py. -/
import Derived.Test.YtemhmbaacpfnaaaMergeSpec
import Derived.Test.YtemhmbaacpfnaaaWalkKit
import Derived.Deep.CutRange
namespace Go.Proofs.Ytemhmbaacpfnaaa
open Go.ChangeShapes Go.WideShapes Go.ChangeAt Go.RowKit

theorem szCylL_yes {w : World} {n cap : Nat} {a : Option Addr} (s t : Int) (L : Nat) (hL : L ≤ 1048576) (h : n ≤ L) :
    Calls Try.prog 17 #[.agg #[.int .i64 s, .int .i64 t, .slice a n cap], .int .i64 (L : Int)] w fun e w' => e = .returned (.int .i64 ((L - n : Nat) : Int)) ∧ Below w.heap.size w w' := by
  go_enter Try.func17, Try.ntmps17
  go_wp2_with fail
  refine (szPin_yes L hL h).mono ?_
  rintro e w1 ⟨rfl, rfl⟩
  obtain ⟨x, hx⟩ : ∃ x : Nat, x = L - n := ⟨_, rfl⟩
  rw [← hx]
  have hd : decide ((x : Int) < 0) = false := decide_eq_false (by omega)
  have HX := Lib.hid hx
  clear hx
  go_wp2
  go_ret
  exact ⟨by rw [← HX.out]; rfl, (Below.refl _ _).alloc (Nat.le_refl _) _⟩
theorem szCylL_no {w : World} {n cap : Nat} {a : Option Addr} (s t : Int) (L : Nat) (hL : L ≤ 1048576) (h : ¬ n ≤ L) (h3 : n ≤ 9223372036854775807) :
    Calls Try.prog 17 #[.agg #[.int .i64 s, .int .i64 t, .slice a n cap], .int .i64 (L : Int)] w fun e w' => e = .returned (.int .i64 (-1)) ∧ Below w.heap.size w w' := by
  go_enter Try.func17, Try.ntmps17
  go_wp2_with fail
  refine (szPin_no L hL (by omega) h3).mono ?_
  rintro e w1 ⟨rfl, rfl⟩
  go_wp2
  go_ret
  exact ⟨rfl, (Below.refl _ _).alloc (Nat.le_refl _) _⟩

set_option maxHeartbeats 8000000 in
set_option maxRecDepth 100000 in
theorem exactmerge_walk {w : World} {qa qb : Value} {la lb : List (Int × Int)} (sa ta sb tb' : Int) (hI : ∀ (W : World) (U V : Value), RdC W U la → RdC W V lb → la.length ≤ 1048576 → lb.length ≤ 1048576 → Calls Try.prog 13 #[.agg #[.int .i64 sa, .int .i64 ta, U], .agg #[.int .i64 sb, .int .i64 tb', V]] W (NewCylO W (mgO (sa, ta, la) (sb, tb', lb)))) (hla : Rd2 w qa la) (hlb : Rd2 w qb lb) :
    Calls Try.prog 5 #[.agg #[.int .i64 sa, .int .i64 ta, qa], .agg #[.int .i64 sb, .int .i64 tb', qb]] w fun e w' => e = .returned (.bool true) ∧ Below w.heap.size w w' := by
  obtain ⟨aa, ca, rfl⟩ := Rd.slice hla
  obtain ⟨ab, cb, rfl⟩ := Rd.slice hlb
  have hma := hla.2.1
  have hmb := hlb.2.1
  unfold maxLen at hma hmb
  have HLE : ∀ {c : Cyl}, mgO (sa, ta, la) (sb, tb', lb) = some c → c.2.2.length ≤ 100 := fun k => mgO_le k
  obtain ⟨w0, hw0⟩ : ∃ w0, w0 = (w.alloc (.cells #[.int .i64 sa, .int .i64 ta, .slice aa la.length ca] 40)).alloc (.cells #[.int .i64 sb, .int .i64 tb', .slice ab lb.length cb] 40) := ⟨_, rfl⟩
  have g0 : Below w.heap.size w w0 := by rw [hw0]; exact ((Below.refl _ _).alloc (Nat.le_refl _) _).alloc (by simp) _
  have bA_0 : Box w0 w.heap.size sa ta (.slice aa la.length ca) := by rw [hw0]; exact (box_new _ _ _ _ _).below ((Below.refl _ _).alloc (Nat.le_refl _) _)
  have bB_0 : Box w0 (w.heap.size + 1) sb tb' (.slice ab lb.length cb) := by
    have := box_new (w.alloc (.cells #[.int .i64 sa, .int .i64 ta, .slice aa la.length ca] 40)) sb tb' (.slice ab lb.length cb) 40
    rw [size_alloc, ← hw0] at this; exact this
  by_cases hsa : la.length ≤ 1048576
  · go_enter Try.func5, Try.ntmps5
    go_wp2_with fail
    rw [← hw0]
    clear hw0
    refine (szCylL_yes sa ta 1048576 (Nat.le_refl _) hsa).mono ?_
    rintro e w_1 ⟨rfl, hb1⟩
    have bA_2 := bA_0.below hb1
    have bB_2 := bB_0.below hb1
    have g_2 := bstep g0 hb1
    clear hb1 bA_0 bB_0 g0
    obtain ⟨LL, hLL⟩ : ∃ LL : Nat, LL = 1048576 - la.length := ⟨_, rfl⟩
    rw [← hLL]
    have hLL2 : LL ≤ 1048576 := by omega
    have hdL : decide ((LL : Int) < 0) = false := decide_eq_false (by omega)
    have HLL := Lib.hid hLL
    clear hLL
    obtain ⟨-, mA0, mA1, mA2⟩ := id bA_2
    obtain ⟨-, mB0, mB1, mB2⟩ := id bB_2
    go_wp2_with fail
    clear mA0 mA1 mA2 mB0 mB1 mB2
    by_cases hsb' : lb.length ≤ LL
    · have hsb : lb.length ≤ 1048576 := by omega
      have HI := Lib.hid (fun (W : World) (U V : Value) (pl : RdC W U la) (pm : RdC W V lb) => (show Calls Try.prog 13 #[.agg #[.int .i64 sa, .int .i64 ta, U], .agg #[.int .i64 sb, .int .i64 tb', V]] W (NewCylB W (outC (mgO (sa, ta, la) (sb, tb', lb))).1.1 (outC (mgO (sa, ta, la) (sb, tb', lb))).1.2.1 (outC (mgO (sa, ta, la) (sb, tb', lb))).1.2.2 (outC (mgO (sa, ta, la) (sb, tb', lb))).2) from hI W U V pl pm hsa hsb))
      have HS := Lib.hid (fun (W : World) (U V : Value) (pl : RdC W U la) (pm : RdC W V lb) => (show Calls Try.prog 23 #[.agg #[.int .i64 sa, .int .i64 ta, U], .agg #[.int .i64 sb, .int .i64 tb', V]] W (NewCylB W (outC (mgO (sa, ta, la) (sb, tb', lb))).1.1 (outC (mgO (sa, ta, la) (sb, tb', lb))).1.2.1 (outC (mgO (sa, ta, la) (sb, tb', lb))).1.2.2 (outC (mgO (sa, ta, la) (sb, tb', lb))).2) from smerge_any (sa, ta, la) (sb, tb', lb) pl.1 pm.1))
      clear hI
      have hbd : (outC (mgO (sa, ta, la) (sb, tb', lb))).1.2.2.length ≤ 1048576 := outC_le fun c k => Nat.le_trans (HLE k) (by omega)
      generalize (outC (mgO (sa, ta, la) (sb, tb', lb))).1.2.2 = R at *
      generalize (outC (mgO (sa, ta, la) (sb, tb', lb))).1.2.1 = T at *
      generalize (outC (mgO (sa, ta, la) (sb, tb', lb))).1.1 = S at *
      generalize (outC (mgO (sa, ta, la) (sb, tb', lb))).2 = tb at *
      clear HLE
      refine (szCylL_yes sb tb' LL hLL2 hsb').mono ?_
      rintro e w_3 ⟨rfl, hb3⟩
      have bA_4 := bA_2.below hb3
      have bB_4 := bB_2.below hb3
      have g_4 := bstep g_2 hb3
      clear hb3 bA_2 bB_2 g_2
      have HTA := Lib.hid (fun (X : World) (hX : Below w.heap.size w X) => toCyl_any sa ta (Rd.below hla hX) hsa)
      have HTB := Lib.hid (fun (X : World) (hX : Below w.heap.size w X) => toCyl_any sb tb' (Rd.below hlb hX) hsb)
      obtain ⟨L2, hL2⟩ : ∃ L2 : Nat, L2 = LL - lb.length := ⟨_, rfl⟩
      rw [← hL2]
      have hdL2 : decide ((L2 : Int) < 0) = false := decide_eq_false (by omega)
      clear hL2
      obtain ⟨-, mA0, mA1, mA2⟩ := id bA_4
      obtain ⟨-, mB0, mB1, mB2⟩ := id bB_4
      go_wp2_with fail
      clear mA0 mA1 mA2 mB0 mB1 mB2
      obtain ⟨-, n0, n1, n2⟩ := id bA_4
      obtain ⟨-, n3, n4, n5⟩ := id bB_4
      have gbS := g_4
      have gd0 : Below w.heap.size w w_3.drew := Below.drew g_4
      have gd1 : Below w.heap.size w (w_3.alloc (.cells #[.int .i64 0, .int .i64 0, .slice none 0 0] 26)).drew := Below.drew (g_4.alloc g_4.size _)
      have gz : Below w_3.heap.size w_3 (w_3.alloc (.cells #[.int .i64 0, .int .i64 0, .slice none 0 0] 26)).drew := below_a w_3 (.cells #[.int .i64 0, .int .i64 0, .slice none 0 0] 26)
      go_upto_region 8 with fail
      go_cut [6, 7] from 6 to 34 (fun z0 z1 wx => ∃ (b : Nat) (ac : Option Addr) (cc : Nat), z0 = .pointer (some ⟨b, 0, none⟩) ∧ z1 = .bool tb ∧ Laid w_3 wx S T b (.slice ac R.length cc) R)
      case first =>
        go_region_held3 (fun w' => w'.cell? ⟨w.heap.size, 0, none⟩ = some (.int .i64 sa) ∧ w'.cell? ⟨w.heap.size, 1, none⟩ = some (.int .i64 ta) ∧ w'.cell? ⟨w.heap.size, 2, none⟩ = some (.slice aa la.length ca) ∧ w'.cell? ⟨w.heap.size + 1, 0, none⟩ = some (.int .i64 sb) ∧ w'.cell? ⟨w.heap.size + 1, 1, none⟩ = some (.int .i64 tb') ∧ w'.cell? ⟨w.heap.size + 1, 2, none⟩ = some (.slice ab lb.length cb)) (go_keep)
          ((first
              | (go_at_call 19; (first | (with_reducible refine (HTA.out _ gd0).mono ?_) | (with_reducible refine (HTA.out _ gd1).mono ?_)); rintro e wa ⟨va, rfl, hva, hba⟩; have hA : Below w_3.heap.size w_3 wa := (by first | exact below_undrew hba | exact bstep gz hba); have q0 := old_cell hA n0; have q1 := old_cell hA n1; have q2 := old_cell hA n2; have q3 := old_cell hA n3; have q4 := old_cell hA n4; have q5 := old_cell hA n5; (first | (have bz1 := BoxW.below (show BoxW (w_3.alloc (.cells #[.int .i64 0, .int .i64 0, .slice none 0 0] 26)).drew w_3.heap.size (.int .i64 0) (.int .i64 0) (.slice none 0 0) from boxw_new w_3 (.int .i64 0) (.int .i64 0) (.slice none 0 0) 26) hba; have e0 := Nat.ne_of_gt (World.block_lt_of_cell? w_3 _ n0); have e1 := Nat.ne_of_gt (World.block_lt_of_cell? w_3 _ n1); have e2 := Nat.ne_of_gt (World.block_lt_of_cell? w_3 _ n2); have e3 := Nat.ne_of_gt (World.block_lt_of_cell? w_3 _ n3); have e4 := Nat.ne_of_gt (World.block_lt_of_cell? w_3 _ n4); have e5 := Nat.ne_of_gt (World.block_lt_of_cell? w_3 _ n5)) | skip))
              | (go_at_call 19; (first | (with_reducible refine (HTB.out _ (bstep g_4 hA)).mono ?_) | (with_reducible refine (HTB.out _ ((bstep g_4 hA).alloc (bstep g_4 hA).size _)).mono ?_)); rintro e wb ⟨vb, rfl, hvb, hbb⟩; have hBB : Below wa.heap.size wa wb := (by first | exact hbb | exact bstep ((Below.refl wa.heap.size wa).alloc (Nat.le_refl _) _) hbb); have hvb' : wb.ownsRow wa.heap.size 34 2 vb lb.length (flat2 lb) := (by first | exact hvb | exact own_low hvb ((Below.refl wa.heap.size wa).alloc (Nat.le_refl _) _).size); have r0 := old_cell hBB q0; have r1 := old_cell hBB q1; have r2 := old_cell hBB q2; have r3 := old_cell hBB q3; have r4 := old_cell hBB q4; have r5 := old_cell hBB q5; (first | (have bz2 := BoxW.below bz1 hBB) | (have bz2 := BoxW.below (boxw_new wa (.int .i64 0) (.int .i64 0) (.slice none 0 0) 26) hbb; have e0 := Nat.ne_of_gt (World.block_lt_of_cell? wa _ q0); have e1 := Nat.ne_of_gt (World.block_lt_of_cell? wa _ q1); have e2 := Nat.ne_of_gt (World.block_lt_of_cell? wa _ q2); have e3 := Nat.ne_of_gt (World.block_lt_of_cell? wa _ q3); have e4 := Nat.ne_of_gt (World.block_lt_of_cell? wa _ q4); have e5 := Nat.ne_of_gt (World.block_lt_of_cell? wa _ q5)) | skip))
              | (go_at_call 23; refine (HS.out _ _ _ (RdC.of_own (ownS_below (ownS_below hva hBB) (by first | exact Below.refl _ _ | exact ((Below.refl wb.heap.size wb).alloc (Nat.le_refl _) _)))) (RdC.of_own (ownS_below hvb' (by first | exact Below.refl _ _ | exact ((Below.refl wb.heap.size wb).alloc (Nat.le_refl _) _))))).mono ?_; rintro e wc ⟨vc, rfl, hvc, hbc⟩; have hCC : Below wb.heap.size wb wc := (by first | exact hbc | exact bstep ((Below.refl wb.heap.size wb).alloc (Nat.le_refl _) _) hbc); have hvd : wc.ownsRow wb.heap.size 34 2 vc R.length (flat2 R) := (by first | exact hvc | exact own_low hvc ((Below.refl wb.heap.size wb).alloc (Nat.le_refl _) _).size); obtain ⟨ac, cpc, rfl⟩ := ownS_slice hvd; have u0 := old_cell hCC r0; have u1 := old_cell hCC r1; have u2 := old_cell hCC r2; have u3 := old_cell hCC r3; have u4 := old_cell hCC r4; have u5 := old_cell hCC r5; (first | (have bz3 := BoxW.below bz2 hCC) | (have bz3 := BoxW.below (boxw_new wb (.int .i64 0) (.int .i64 0) (.slice none 0 0) 26) hbc; have e0 := Nat.ne_of_gt (World.block_lt_of_cell? wb _ r0); have e1 := Nat.ne_of_gt (World.block_lt_of_cell? wb _ r1); have e2 := Nat.ne_of_gt (World.block_lt_of_cell? wb _ r2); have e3 := Nat.ne_of_gt (World.block_lt_of_cell? wb _ r3); have e4 := Nat.ne_of_gt (World.block_lt_of_cell? wb _ r4); have e5 := Nat.ne_of_gt (World.block_lt_of_cell? wb _ r5)) | skip); (first | (obtain ⟨-, ⟨z0, z1, z2⟩, zf⟩ := id bz3; have zf0 := zf 0; have zf1 := zf 1; have zf2 := zf 2; have y0 := (set3_cell wc _ (.int .i64 S) (.int .i64 T) (.slice ac R.length cpc) e0).trans u0; have y1 := (set3_cell wc _ (.int .i64 S) (.int .i64 T) (.slice ac R.length cpc) e1).trans u1; have y2 := (set3_cell wc _ (.int .i64 S) (.int .i64 T) (.slice ac R.length cpc) e2).trans u2; have y3 := (set3_cell wc _ (.int .i64 S) (.int .i64 T) (.slice ac R.length cpc) e3).trans u3; have y4 := (set3_cell wc _ (.int .i64 S) (.int .i64 T) (.slice ac R.length cpc) e4).trans u4; have y5 := (set3_cell wc _ (.int .i64 S) (.int .i64 T) (.slice ac R.length cpc) e5).trans u5; have zk : (Value.slice ac R.length cpc).ownBlock ≠ some _ := (by first | exact ob_of_lt hvd bz2.1 | exact ob_of_lt hvc (show wb.heap.size < (wb.alloc (.cells #[.int .i64 0, .int .i64 0, .slice none 0 0] 26)).heap.size by simp)); have HF := laid_store (w0 := w_3) (s := S) (t := T) bz3 hvd (Nat.le_trans hA.size hBB.size) zk (bstep (bstep hA hBB) hCC) (by first | exact Nat.le_refl _ | exact hA.size | exact (Nat.le_trans hA.size hBB.size))) | (have HF := laid_alloc (w0 := w_3) (s := S) (t := T) 26 hvd (Nat.le_trans hA.size hBB.size) (bstep (bstep hA hBB) hCC))))))
        all_goals
          go_wp2_with fail
          go_meet
          exact ⟨_, _, _, rfl, rfl, HF⟩
      case' rest => skip
      obtain ⟨kBS, aS, cpS, rfl, rfl, bBS_0, hS_0, hbd5, apSBS, hge5⟩ := hcut
      rename World => w_5
      clear gd0 gd1 gz n0 n1 n2 n3 n4 n5
      have apSA := ob_of_lt hS_0 bA_4.1
      have apSB := ob_of_lt hS_0 bB_4.1
      have bA_6 := bA_4.below hbd5
      have bB_6 := bB_4.below hbd5
      have g_6 := bstep g_4 hbd5
      clear hbd5 bA_4 bB_4 g_4
      obtain ⟨-, mA0, mA1, mA2⟩ := id bA_6
      obtain ⟨-, mB0, mB1, mB2⟩ := id bB_6
      obtain ⟨-, mBS0, mBS1, mBS2⟩ := id bBS_0
      go_wp2_with fail
      clear mA0 mA1 mA2 mB0 mB1 mB2 mBS0 mBS1 mBS2
      have gbX := g_6
      refine (toCyl_any sa ta (Rd.below hla g_6) hsa).mono ?_
      rintro e w_7 ⟨vX, rfl, hX_0, hb7⟩
      obtain ⟨aX, cpX, rfl⟩ := ownS_slice hX_0
      have apXA := ob_of_lt hX_0 bA_6.1
      have apXB := ob_of_lt hX_0 bB_6.1
      have apXBS := ob_of_lt hX_0 bBS_0.1
      have apSX := apartS hS_0 hX_0
      have apXS := apartS' hS_0 hX_0
      have bA_8 := bA_6.below hb7
      have bB_8 := bB_6.below hb7
      have bBS_8 := bBS_0.below hb7
      have hS_8 := ownS_below hS_0 hb7
      have g_8 := bstep g_6 hb7
      clear hb7 bA_6 bB_6 bBS_0 hS_0 g_6
      have hbA9 : Below w_7.heap.size w_7 (w_7.alloc (.cells #[.int .i64 sa, .int .i64 ta, .slice aX la.length cpX] 26)) := (Below.refl _ _).alloc (Nat.le_refl _) _
      have bBX_0 : Box (w_7.alloc (.cells #[.int .i64 sa, .int .i64 ta, .slice aX la.length cpX] 26)) w_7.heap.size sa ta (.slice aX la.length cpX) := box_new _ _ _ _ _
      have apSBX : (.slice aS R.length cpS : Value).ownBlock ≠ some w_7.heap.size := fun e => Nat.lt_irrefl _ (hS_8.lt _ e).2
      have apXBX : (.slice aX la.length cpX : Value).ownBlock ≠ some w_7.heap.size := fun e => Nat.lt_irrefl _ (hX_0.lt _ e).2
      have bA_10 := bA_8.below hbA9
      have bB_10 := bB_8.below hbA9
      have bBS_10 := bBS_8.below hbA9
      have hS_10 := ownS_below hS_8 hbA9
      have hX_10 := ownS_below hX_0 hbA9
      have g_10 := bstep g_8 hbA9
      clear hbA9 bA_8 bB_8 bBS_8 hS_8 hX_0 g_8
      obtain ⟨-, mA0, mA1, mA2⟩ := id bA_10
      obtain ⟨-, mB0, mB1, mB2⟩ := id bB_10
      obtain ⟨-, mBS0, mBS1, mBS2⟩ := id bBS_10
      obtain ⟨-, mBX0, mBX1, mBX2⟩ := id bBX_0
      go_wp2_with fail
      clear mA0 mA1 mA2 mB0 mB1 mB2 mBS0 mBS1 mBS2 mBX0 mBX1 mBX2
      generalize (w_7.alloc (.cells #[.int .i64 sa, .int .i64 ta, .slice aX la.length cpX] 26)) = w_11 at *
      have gbY := g_10
      refine (toCyl_any sb tb' (Rd.below hlb g_10) hsb).mono ?_
      rintro e w_12 ⟨vY, rfl, hY_0, hb12⟩
      obtain ⟨aY, cpY, rfl⟩ := ownS_slice hY_0
      have apYA := ob_of_lt hY_0 bA_10.1
      have apYB := ob_of_lt hY_0 bB_10.1
      have apYBS := ob_of_lt hY_0 bBS_10.1
      have apYBX := ob_of_lt hY_0 bBX_0.1
      have apSY := apartS hS_10 hY_0
      have apYS := apartS' hS_10 hY_0
      have apXY := apartS hX_10 hY_0
      have apYX := apartS' hX_10 hY_0
      have bA_13 := bA_10.below hb12
      have bB_13 := bB_10.below hb12
      have bBS_13 := bBS_10.below hb12
      have bBX_13 := bBX_0.below hb12
      have hS_13 := ownS_below hS_10 hb12
      have hX_13 := ownS_below hX_10 hb12
      have g_13 := bstep g_10 hb12
      clear hb12 bA_10 bB_10 bBS_10 bBX_0 hS_10 hX_10 g_10
      have hbA14 : Below w_12.heap.size w_12 (w_12.alloc (.cells #[.int .i64 sb, .int .i64 tb', .slice aY lb.length cpY] 26)) := (Below.refl _ _).alloc (Nat.le_refl _) _
      have bBY_0 : Box (w_12.alloc (.cells #[.int .i64 sb, .int .i64 tb', .slice aY lb.length cpY] 26)) w_12.heap.size sb tb' (.slice aY lb.length cpY) := box_new _ _ _ _ _
      have apSBY : (.slice aS R.length cpS : Value).ownBlock ≠ some w_12.heap.size := fun e => Nat.lt_irrefl _ (hS_13.lt _ e).2
      have apXBY : (.slice aX la.length cpX : Value).ownBlock ≠ some w_12.heap.size := fun e => Nat.lt_irrefl _ (hX_13.lt _ e).2
      have apYBY : (.slice aY lb.length cpY : Value).ownBlock ≠ some w_12.heap.size := fun e => Nat.lt_irrefl _ (hY_0.lt _ e).2
      have bA_15 := bA_13.below hbA14
      have bB_15 := bB_13.below hbA14
      have bBS_15 := bBS_13.below hbA14
      have bBX_15 := bBX_13.below hbA14
      have hS_15 := ownS_below hS_13 hbA14
      have hX_15 := ownS_below hX_13 hbA14
      have hY_15 := ownS_below hY_0 hbA14
      have g_15 := bstep g_13 hbA14
      clear hbA14 bA_13 bB_13 bBS_13 bBX_13 hS_13 hX_13 hY_0 g_13
      obtain ⟨-, mA0, mA1, mA2⟩ := id bA_15
      obtain ⟨-, mB0, mB1, mB2⟩ := id bB_15
      obtain ⟨-, mBS0, mBS1, mBS2⟩ := id bBS_15
      obtain ⟨-, mBX0, mBX1, mBX2⟩ := id bBX_15
      obtain ⟨-, mBY0, mBY1, mBY2⟩ := id bBY_0
      go_wp2_with fail
      clear mA0 mA1 mA2 mB0 mB1 mB2 mBS0 mBS1 mBS2 mBX0 mBX1 mBX2 mBY0 mBY1 mBY2
      generalize (w_12.alloc (.cells #[.int .i64 sb, .int .i64 tb', .slice aY lb.length cpY] 26)) = w_16 at *
      have gbI := g_15
      refine (HI.out _ _ _ (RdC.of_own hX_15) (RdC.of_own hY_15)).mono ?_
      rintro e w_17 ⟨vI, rfl, hI_0, hb17⟩
      obtain ⟨aI, cpI, rfl⟩ := ownS_slice hI_0
      have apIA := ob_of_lt hI_0 bA_15.1
      have apIB := ob_of_lt hI_0 bB_15.1
      have apIBS := ob_of_lt hI_0 bBS_15.1
      have apIBX := ob_of_lt hI_0 bBX_15.1
      have apIBY := ob_of_lt hI_0 bBY_0.1
      have apSI := apartS hS_15 hI_0
      have apIS := apartS' hS_15 hI_0
      have apXI := apartS hX_15 hI_0
      have apIX := apartS' hX_15 hI_0
      have apYI := apartS hY_15 hI_0
      have apIY := apartS' hY_15 hI_0
      have bA_18 := bA_15.below hb17
      have bB_18 := bB_15.below hb17
      have bBS_18 := bBS_15.below hb17
      have bBX_18 := bBX_15.below hb17
      have bBY_18 := bBY_0.below hb17
      have hS_18 := ownS_below hS_15 hb17
      have hX_18 := ownS_below hX_15 hb17
      have hY_18 := ownS_below hY_15 hb17
      have g_18 := bstep g_15 hb17
      clear hb17 bA_15 bB_15 bBS_15 bBX_15 bBY_0 hS_15 hX_15 hY_15 g_15
      have hbA19 : Below w_17.heap.size w_17 (w_17.alloc (.cells #[.int .i64 S, .int .i64 T, .slice aI R.length cpI] 26)) := (Below.refl _ _).alloc (Nat.le_refl _) _
      have bBI_0 : Box (w_17.alloc (.cells #[.int .i64 S, .int .i64 T, .slice aI R.length cpI] 26)) w_17.heap.size S T (.slice aI R.length cpI) := box_new _ _ _ _ _
      have apSBI : (.slice aS R.length cpS : Value).ownBlock ≠ some w_17.heap.size := fun e => Nat.lt_irrefl _ (hS_18.lt _ e).2
      have apXBI : (.slice aX la.length cpX : Value).ownBlock ≠ some w_17.heap.size := fun e => Nat.lt_irrefl _ (hX_18.lt _ e).2
      have apYBI : (.slice aY lb.length cpY : Value).ownBlock ≠ some w_17.heap.size := fun e => Nat.lt_irrefl _ (hY_18.lt _ e).2
      have apIBI : (.slice aI R.length cpI : Value).ownBlock ≠ some w_17.heap.size := fun e => Nat.lt_irrefl _ (hI_0.lt _ e).2
      have bA_20 := bA_18.below hbA19
      have bB_20 := bB_18.below hbA19
      have bBS_20 := bBS_18.below hbA19
      have bBX_20 := bBX_18.below hbA19
      have bBY_20 := bBY_18.below hbA19
      have hS_20 := ownS_below hS_18 hbA19
      have hX_20 := ownS_below hX_18 hbA19
      have hY_20 := ownS_below hY_18 hbA19
      have hI_20 := ownS_below hI_0 hbA19
      have g_20 := bstep g_18 hbA19
      clear hbA19 bA_18 bB_18 bBS_18 bBX_18 bBY_18 hS_18 hX_18 hY_18 hI_0 g_18
      obtain ⟨-, mA0, mA1, mA2⟩ := id bA_20
      obtain ⟨-, mB0, mB1, mB2⟩ := id bB_20
      obtain ⟨-, mBS0, mBS1, mBS2⟩ := id bBS_20
      obtain ⟨-, mBX0, mBX1, mBX2⟩ := id bBX_20
      obtain ⟨-, mBY0, mBY1, mBY2⟩ := id bBY_20
      obtain ⟨-, mBI0, mBI1, mBI2⟩ := id bBI_0
      go_wp2_with fail
      clear mA0 mA1 mA2 mB0 mB1 mB2 mBS0 mBS1 mBS2 mBX0 mBX1 mBX2 mBY0 mBY1 mBY2 mBI0 mBI1 mBI2
      generalize (w_17.alloc (.cells #[.int .i64 S, .int .i64 T, .slice aI R.length cpI] 26)) = w_21 at *
      refine (eqCyl_same S T (Rd.of_own hI_20) (Rd.of_own hS_20)).mono ?_
      rintro e w_22 ⟨rfl, hb22⟩
      have bA_23 := bA_20.below hb22
      have bB_23 := bB_20.below hb22
      have bBS_23 := bBS_20.below hb22
      have bBX_23 := bBX_20.below hb22
      have bBY_23 := bBY_20.below hb22
      have bBI_23 := bBI_0.below hb22
      have hS_23 := ownS_below hS_20 hb22
      have hX_23 := ownS_below hX_20 hb22
      have hY_23 := ownS_below hY_20 hb22
      have hI_23 := ownS_below hI_20 hb22
      have g_23 := bstep g_20 hb22
      clear hb22 bA_20 bB_20 bBS_20 bBX_20 bBY_20 bBI_0 hS_20 hX_20 hY_20 hI_20 g_20
      obtain ⟨-, n0, n1, n2⟩ := id bBX_23
      obtain ⟨-, n3, n4, n5⟩ := id bA_23
      go_wp2_with fail
      go_region_held3 (fun w' => w'.cell? ⟨w_7.heap.size, 0, none⟩ = some (.int .i64 sa) ∧ w'.cell? ⟨w_7.heap.size, 1, none⟩ = some (.int .i64 ta) ∧ w'.cell? ⟨w_7.heap.size, 2, none⟩ = some (.slice aX la.length cpX) ∧ w'.cell? ⟨w.heap.size, 0, none⟩ = some (.int .i64 sa) ∧ w'.cell? ⟨w.heap.size, 1, none⟩ = some (.int .i64 ta) ∧ w'.cell? ⟨w.heap.size, 2, none⟩ = some (.slice aa la.length ca)) (go_keep)
        ((first
            | (go_at_call 19; refine (toCyl_any sa ta (Rd.below hla (Below.drew g_23)) hsa).mono ?_; rintro e wa24 ⟨va, rfl, hva, hba⟩; have q0 := kept_cell hba n0; have q1 := kept_cell hba n1; have q2 := kept_cell hba n2; have q3 := kept_cell hba n3; have q4 := kept_cell hba n4; have q5 := kept_cell hba n5)
            | (go_at_call 20; refine (eqCyl_same sa ta (Rd.of_own (ownS_below hX_23 (below_undrew hba))) (Rd.of_own hva)).mono ?_; rintro e wb24 ⟨rfl, hbb⟩; have r0 := old_cell hbb q0; have r1 := old_cell hbb q1; have r2 := old_cell hbb q2; have r3 := old_cell hbb q3; have r4 := old_cell hbb q4; have r5 := old_cell hbb q5)))
      have hbc := bstep (below_undrew hba) hbb
      clear q0 q1 q2 q3 q4 q5 r0 r1 r2 r3 r4 r5 n0 n1 n2 n3 n4 n5 hva hba hbb
      have bA_25 := bA_23.below hbc
      have bB_25 := bB_23.below hbc
      have bBS_25 := bBS_23.below hbc
      have bBX_25 := bBX_23.below hbc
      have bBY_25 := bBY_23.below hbc
      have bBI_25 := bBI_23.below hbc
      have hS_25 := ownS_below hS_23 hbc
      have hX_25 := ownS_below hX_23 hbc
      have hY_25 := ownS_below hY_23 hbc
      have hI_25 := ownS_below hI_23 hbc
      have g_25 := bstep g_23 hbc
      clear hbc bA_23 bB_23 bBS_23 bBX_23 bBY_23 bBI_23 hS_23 hX_23 hY_23 hI_23 g_23
      obtain ⟨-, n0, n1, n2⟩ := id bBY_25
      obtain ⟨-, n3, n4, n5⟩ := id bB_25
      go_wp2_with fail
      go_region_held3 (fun w' => w'.cell? ⟨w_12.heap.size, 0, none⟩ = some (.int .i64 sb) ∧ w'.cell? ⟨w_12.heap.size, 1, none⟩ = some (.int .i64 tb') ∧ w'.cell? ⟨w_12.heap.size, 2, none⟩ = some (.slice aY lb.length cpY) ∧ w'.cell? ⟨w.heap.size + 1, 0, none⟩ = some (.int .i64 sb) ∧ w'.cell? ⟨w.heap.size + 1, 1, none⟩ = some (.int .i64 tb') ∧ w'.cell? ⟨w.heap.size + 1, 2, none⟩ = some (.slice ab lb.length cb)) (go_keep)
        ((first
            | (go_at_call 19; refine (toCyl_any sb tb' (Rd.below hlb (Below.drew g_25)) hsb).mono ?_; rintro e wa26 ⟨va, rfl, hva, hba⟩; have q0 := kept_cell hba n0; have q1 := kept_cell hba n1; have q2 := kept_cell hba n2; have q3 := kept_cell hba n3; have q4 := kept_cell hba n4; have q5 := kept_cell hba n5)
            | (go_at_call 20; refine (eqCyl_same sb tb' (Rd.of_own (ownS_below hY_25 (below_undrew hba))) (Rd.of_own hva)).mono ?_; rintro e wb26 ⟨rfl, hbb⟩; have r0 := old_cell hbb q0; have r1 := old_cell hbb q1; have r2 := old_cell hbb q2; have r3 := old_cell hbb q3; have r4 := old_cell hbb q4; have r5 := old_cell hbb q5)))
      have hbc := bstep (below_undrew hba) hbb
      clear q0 q1 q2 q3 q4 q5 r0 r1 r2 r3 r4 r5 n0 n1 n2 n3 n4 n5 hva hba hbb
      have bA_27 := bA_25.below hbc
      have bB_27 := bB_25.below hbc
      have bBS_27 := bBS_25.below hbc
      have bBX_27 := bBX_25.below hbc
      have bBY_27 := bBY_25.below hbc
      have bBI_27 := bBI_25.below hbc
      have hS_27 := ownS_below hS_25 hbc
      have hX_27 := ownS_below hX_25 hbc
      have hY_27 := ownS_below hY_25 hbc
      have hI_27 := ownS_below hI_25 hbc
      have g_27 := bstep g_25 hbc
      clear hbc bA_25 bB_25 bBS_25 bBX_25 bBY_25 bBI_25 hS_25 hX_25 hY_25 hI_25 g_25
      have glX : ∀ k, (.slice aX la.length cpX : Value).ownBlock = some k → w.heap.size ≤ k := fun k hk => Nat.le_trans gbX.size (hX_27.lt k hk).1
      obtain ⟨-, mA0, mA1, mA2⟩ := id bA_27
      obtain ⟨-, mB0, mB1, mB2⟩ := id bB_27
      obtain ⟨-, mBS0, mBS1, mBS2⟩ := id bBS_27
      obtain ⟨-, mBX0, mBX1, mBX2⟩ := id bBX_27
      obtain ⟨-, mBY0, mBY1, mBY2⟩ := id bBY_27
      obtain ⟨-, mBI0, mBI1, mBI2⟩ := id bBI_27
      go_wp2_with fail
      clear mA0 mA1 mA2 mB0 mB1 mB2 mBS0 mBS1 mBS2 mBX0 mBX1 mBX2 mBY0 mBY1 mBY2 mBI0 mBI1 mBI2
      refine (markCyl_any sa ta 1 (by omega) hX_27).mono ?_
      rintro e w_28 ⟨rfl, hg28, _⟩
      have bA_28 := bA_27.grown hg28 (Ne.symm apXA)
      have bB_28 := bB_27.grown hg28 (Ne.symm apXB)
      have bBS_28 := bBS_27.grown hg28 (Ne.symm apXBS)
      have bBX_28 := bBX_27.grown hg28 (Ne.symm apXBX)
      have bBY_28 := bBY_27.grown hg28 (Ne.symm apXBY)
      have bBI_28 := bBI_27.grown hg28 (Ne.symm apXBI)
      have hS_28 := World.ownsRow.kept hS_27 hg28 apSX
      have hY_28 := World.ownsRow.kept hY_27 hg28 apYX
      have hI_28 := World.ownsRow.kept hI_27 hg28 apIX
      have g_28 := g_27.grown hg28 g_27.size glX
      clear hg28 hX_27 bA_27 bB_27 bBS_27 bBX_27 bBY_27 bBI_27 hS_27 hY_27 hI_27
      clear apXA apXB apXBS apSX apXS apXBX apXY apYX apXBY apXI apIX apXBI
      have glY : ∀ k, (.slice aY lb.length cpY : Value).ownBlock = some k → w.heap.size ≤ k := fun k hk => Nat.le_trans gbY.size (hY_28.lt k hk).1
      obtain ⟨-, mA0, mA1, mA2⟩ := id bA_28
      obtain ⟨-, mB0, mB1, mB2⟩ := id bB_28
      obtain ⟨-, mBS0, mBS1, mBS2⟩ := id bBS_28
      obtain ⟨-, mBX0, mBX1, mBX2⟩ := id bBX_28
      obtain ⟨-, mBY0, mBY1, mBY2⟩ := id bBY_28
      obtain ⟨-, mBI0, mBI1, mBI2⟩ := id bBI_28
      go_wp2_with fail
      clear mA0 mA1 mA2 mB0 mB1 mB2 mBS0 mBS1 mBS2 mBX0 mBX1 mBX2 mBY0 mBY1 mBY2 mBI0 mBI1 mBI2
      refine (markCyl_any sb tb' (1 + la.length * 2) (by omega) hY_28).mono ?_
      rintro e w_29 ⟨rfl, hg29, _⟩
      have bA_29 := bA_28.grown hg29 (Ne.symm apYA)
      have bB_29 := bB_28.grown hg29 (Ne.symm apYB)
      have bBS_29 := bBS_28.grown hg29 (Ne.symm apYBS)
      have bBX_29 := bBX_28.grown hg29 (Ne.symm apYBX)
      have bBY_29 := bBY_28.grown hg29 (Ne.symm apYBY)
      have bBI_29 := bBI_28.grown hg29 (Ne.symm apYBI)
      have hS_29 := World.ownsRow.kept hS_28 hg29 apSY
      have hI_29 := World.ownsRow.kept hI_28 hg29 apIY
      have g_29 := g_28.grown hg29 g_28.size glY
      clear hg29 hY_28 bA_28 bB_28 bBS_28 bBX_28 bBY_28 bBI_28 hS_28 hI_28
      clear apYA apYB apYBS apYBX apSY apYS apYBY apYI apIY apYBI
      obtain ⟨-, mA0, mA1, mA2⟩ := id bA_29
      obtain ⟨-, mB0, mB1, mB2⟩ := id bB_29
      obtain ⟨-, mBS0, mBS1, mBS2⟩ := id bBS_29
      obtain ⟨-, mBX0, mBX1, mBX2⟩ := id bBX_29
      obtain ⟨-, mBY0, mBY1, mBY2⟩ := id bBY_29
      obtain ⟨-, mBI0, mBI1, mBI2⟩ := id bBI_29
      go_wp2_with fail
      clear mA0 mA1 mA2 mB0 mB1 mB2 mBS0 mBS1 mBS2 mBX0 mBX1 mBX2 mBY0 mBY1 mBY2 mBI0 mBI1 mBI2
      refine (eqCyl_same S T (Rd.of_own hI_29) (Rd.of_own hS_29)).mono ?_
      rintro e w_30 ⟨rfl, hb30⟩
      have bA_31 := bA_29.below hb30
      have bB_31 := bB_29.below hb30
      have bBS_31 := bBS_29.below hb30
      have bBX_31 := bBX_29.below hb30
      have bBY_31 := bBY_29.below hb30
      have bBI_31 := bBI_29.below hb30
      have hS_31 := ownS_below hS_29 hb30
      have hI_31 := ownS_below hI_29 hb30
      have g_31 := bstep g_29 hb30
      clear hb30 bA_29 bB_29 bBS_29 bBX_29 bBY_29 bBI_29 hS_29 hI_29 g_29
      have glI : ∀ k, (.slice aI R.length cpI : Value).ownBlock = some k → w.heap.size ≤ k := fun k hk => Nat.le_trans gbI.size (hI_31.lt k hk).1
      obtain ⟨-, mA0, mA1, mA2⟩ := id bA_31
      obtain ⟨-, mB0, mB1, mB2⟩ := id bB_31
      obtain ⟨-, mBS0, mBS1, mBS2⟩ := id bBS_31
      obtain ⟨-, mBX0, mBX1, mBX2⟩ := id bBX_31
      obtain ⟨-, mBY0, mBY1, mBY2⟩ := id bBY_31
      obtain ⟨-, mBI0, mBI1, mBI2⟩ := id bBI_31
      go_wp2_with fail
      clear mA0 mA1 mA2 mB0 mB1 mB2 mBS0 mBS1 mBS2 mBX0 mBX1 mBX2 mBY0 mBY1 mBY2 mBI0 mBI1 mBI2
      obtain ⟨-, mA0, mA1, mA2⟩ := id bA_31
      obtain ⟨-, mB0, mB1, mB2⟩ := id bB_31
      obtain ⟨-, mBS0, mBS1, mBS2⟩ := id bBS_31
      obtain ⟨-, mBX0, mBX1, mBX2⟩ := id bBX_31
      obtain ⟨-, mBY0, mBY1, mBY2⟩ := id bBY_31
      obtain ⟨-, mBI0, mBI1, mBI2⟩ := id bBI_31
      go_wp2_with fail
      clear mA0 mA1 mA2 mB0 mB1 mB2 mBS0 mBS1 mBS2 mBX0 mBX1 mBX2 mBY0 mBY1 mBY2 mBI0 mBI1 mBI2
      refine (markCyl_any S T 1 (by omega) hI_31).mono ?_
      rintro e w_32 ⟨rfl, hg32, ys, hy32, hmk32⟩
      have bA_32 := bA_31.grown hg32 (Ne.symm apIA)
      have bB_32 := bB_31.grown hg32 (Ne.symm apIB)
      have bBS_32 := bBS_31.grown hg32 (Ne.symm apIBS)
      have bBX_32 := bBX_31.grown hg32 (Ne.symm apIBX)
      have bBY_32 := bBY_31.grown hg32 (Ne.symm apIBY)
      have bBI_32 := bBI_31.grown hg32 (Ne.symm apIBI)
      have hS_32 := World.ownsRow.kept hS_31 hg32 apSI
      have g_32 := g_31.grown hg32 g_31.size glI
      clear hg32 hI_31 bA_31 bB_31 bBS_31 bBX_31 bBY_31 bBI_31 hS_31
      have HMK := Lib.hid hmk32
      clear hmk32
      obtain ⟨-, mA0, mA1, mA2⟩ := id bA_32
      obtain ⟨-, mB0, mB1, mB2⟩ := id bB_32
      obtain ⟨-, mBS0, mBS1, mBS2⟩ := id bBS_32
      obtain ⟨-, mBX0, mBX1, mBX2⟩ := id bBX_32
      obtain ⟨-, mBY0, mBY1, mBY2⟩ := id bBY_32
      obtain ⟨-, mBI0, mBI1, mBI2⟩ := id bBI_32
      go_wp2_with fail
      clear mA0 mA1 mA2 mB0 mB1 mB2 mBS0 mBS1 mBS2 mBX0 mBX1 mBX2 mBY0 mBY1 mBY2 mBI0 mBI1 mBI2
      refine (heldCyl_any S T 1 (by omega) (Rd.of_own hy32) HMK.out).mono ?_
      rintro e w_33 ⟨rfl, hb33⟩
      have bA_34 := bA_32.below hb33
      have bB_34 := bB_32.below hb33
      have bBS_34 := bBS_32.below hb33
      have bBX_34 := bBX_32.below hb33
      have bBY_34 := bBY_32.below hb33
      have bBI_34 := bBI_32.below hb33
      have hS_34 := ownS_below hS_32 hb33
      have hI_34 := ownS_below hy32 hb33
      have g_34 := bstep g_32 hb33
      clear hb33 bA_32 bB_32 bBS_32 bBX_32 bBY_32 bBI_32 hS_32 hy32 g_32
      obtain ⟨-, mA0, mA1, mA2⟩ := id bA_34
      obtain ⟨-, mB0, mB1, mB2⟩ := id bB_34
      obtain ⟨-, mBS0, mBS1, mBS2⟩ := id bBS_34
      obtain ⟨-, mBX0, mBX1, mBX2⟩ := id bBX_34
      obtain ⟨-, mBY0, mBY1, mBY2⟩ := id bBY_34
      obtain ⟨-, mBI0, mBI1, mBI2⟩ := id bBI_34
      go_wp2_with fail
      clear mA0 mA1 mA2 mB0 mB1 mB2 mBS0 mBS1 mBS2 mBX0 mBX1 mBX2 mBY0 mBY1 mBY2 mBI0 mBI1 mBI2
      obtain ⟨-, n0, n1, n2⟩ := id bA_34
      obtain ⟨-, n3, n4, n5⟩ := id bB_34
      have gbH := g_34
      have gd0 : Below w.heap.size w w_33.drew := Below.drew g_34
      have gd1 : Below w.heap.size w (w_33.alloc (.cells #[.int .i64 0, .int .i64 0, .slice none 0 0] 26)).drew := Below.drew (g_34.alloc g_34.size _)
      have gz : Below w_33.heap.size w_33 (w_33.alloc (.cells #[.int .i64 0, .int .i64 0, .slice none 0 0] 26)).drew := below_a w_33 (.cells #[.int .i64 0, .int .i64 0, .slice none 0 0] 26)
      go_upto_region 31 with fail
      go_cut [15, 16] from 15 to 101 (fun z0 z1 wx => ∃ (b : Nat) (ac : Option Addr) (cc : Nat), z0 = .pointer (some ⟨b, 0, none⟩) ∧ z1 = .bool tb ∧ Laid w_33 wx S T b (.slice ac R.length cc) R)
      case first =>
        go_region_held3 (fun w' => w'.cell? ⟨w.heap.size, 0, none⟩ = some (.int .i64 sa) ∧ w'.cell? ⟨w.heap.size, 1, none⟩ = some (.int .i64 ta) ∧ w'.cell? ⟨w.heap.size, 2, none⟩ = some (.slice aa la.length ca) ∧ w'.cell? ⟨w.heap.size + 1, 0, none⟩ = some (.int .i64 sb) ∧ w'.cell? ⟨w.heap.size + 1, 1, none⟩ = some (.int .i64 tb') ∧ w'.cell? ⟨w.heap.size + 1, 2, none⟩ = some (.slice ab lb.length cb)) (go_keep)
          ((first
              | (go_at_call 19; (first | (with_reducible refine (HTA.out _ gd0).mono ?_) | (with_reducible refine (HTA.out _ gd1).mono ?_)); rintro e wa ⟨va, rfl, hva, hba⟩; have hA : Below w_33.heap.size w_33 wa := (by first | exact below_undrew hba | exact bstep gz hba); have q0 := old_cell hA n0; have q1 := old_cell hA n1; have q2 := old_cell hA n2; have q3 := old_cell hA n3; have q4 := old_cell hA n4; have q5 := old_cell hA n5; (first | (have bz1 := BoxW.below (show BoxW (w_33.alloc (.cells #[.int .i64 0, .int .i64 0, .slice none 0 0] 26)).drew w_33.heap.size (.int .i64 0) (.int .i64 0) (.slice none 0 0) from boxw_new w_33 (.int .i64 0) (.int .i64 0) (.slice none 0 0) 26) hba; have e0 := Nat.ne_of_gt (World.block_lt_of_cell? w_33 _ n0); have e1 := Nat.ne_of_gt (World.block_lt_of_cell? w_33 _ n1); have e2 := Nat.ne_of_gt (World.block_lt_of_cell? w_33 _ n2); have e3 := Nat.ne_of_gt (World.block_lt_of_cell? w_33 _ n3); have e4 := Nat.ne_of_gt (World.block_lt_of_cell? w_33 _ n4); have e5 := Nat.ne_of_gt (World.block_lt_of_cell? w_33 _ n5)) | skip))
              | (go_at_call 19; (first | (with_reducible refine (HTB.out _ (bstep g_34 hA)).mono ?_) | (with_reducible refine (HTB.out _ ((bstep g_34 hA).alloc (bstep g_34 hA).size _)).mono ?_)); rintro e wb ⟨vb, rfl, hvb, hbb⟩; have hBB : Below wa.heap.size wa wb := (by first | exact hbb | exact bstep ((Below.refl wa.heap.size wa).alloc (Nat.le_refl _) _) hbb); have hvb' : wb.ownsRow wa.heap.size 34 2 vb lb.length (flat2 lb) := (by first | exact hvb | exact own_low hvb ((Below.refl wa.heap.size wa).alloc (Nat.le_refl _) _).size); have r0 := old_cell hBB q0; have r1 := old_cell hBB q1; have r2 := old_cell hBB q2; have r3 := old_cell hBB q3; have r4 := old_cell hBB q4; have r5 := old_cell hBB q5; (first | (have bz2 := BoxW.below bz1 hBB) | (have bz2 := BoxW.below (boxw_new wa (.int .i64 0) (.int .i64 0) (.slice none 0 0) 26) hbb; have e0 := Nat.ne_of_gt (World.block_lt_of_cell? wa _ q0); have e1 := Nat.ne_of_gt (World.block_lt_of_cell? wa _ q1); have e2 := Nat.ne_of_gt (World.block_lt_of_cell? wa _ q2); have e3 := Nat.ne_of_gt (World.block_lt_of_cell? wa _ q3); have e4 := Nat.ne_of_gt (World.block_lt_of_cell? wa _ q4); have e5 := Nat.ne_of_gt (World.block_lt_of_cell? wa _ q5)) | skip))
              | (go_at_call 13; refine (HI.out _ _ _ (RdC.of_own (ownS_below (ownS_below hva hBB) (by first | exact Below.refl _ _ | exact ((Below.refl wb.heap.size wb).alloc (Nat.le_refl _) _)))) (RdC.of_own (ownS_below hvb' (by first | exact Below.refl _ _ | exact ((Below.refl wb.heap.size wb).alloc (Nat.le_refl _) _))))).mono ?_; rintro e wc ⟨vc, rfl, hvc, hbc⟩; have hCC : Below wb.heap.size wb wc := (by first | exact hbc | exact bstep ((Below.refl wb.heap.size wb).alloc (Nat.le_refl _) _) hbc); have hvd : wc.ownsRow wb.heap.size 34 2 vc R.length (flat2 R) := (by first | exact hvc | exact own_low hvc ((Below.refl wb.heap.size wb).alloc (Nat.le_refl _) _).size); obtain ⟨ac, cpc, rfl⟩ := ownS_slice hvd; have u0 := old_cell hCC r0; have u1 := old_cell hCC r1; have u2 := old_cell hCC r2; have u3 := old_cell hCC r3; have u4 := old_cell hCC r4; have u5 := old_cell hCC r5; (first | (have bz3 := BoxW.below bz2 hCC) | (have bz3 := BoxW.below (boxw_new wb (.int .i64 0) (.int .i64 0) (.slice none 0 0) 26) hbc; have e0 := Nat.ne_of_gt (World.block_lt_of_cell? wb _ r0); have e1 := Nat.ne_of_gt (World.block_lt_of_cell? wb _ r1); have e2 := Nat.ne_of_gt (World.block_lt_of_cell? wb _ r2); have e3 := Nat.ne_of_gt (World.block_lt_of_cell? wb _ r3); have e4 := Nat.ne_of_gt (World.block_lt_of_cell? wb _ r4); have e5 := Nat.ne_of_gt (World.block_lt_of_cell? wb _ r5)) | skip); (first | (obtain ⟨-, ⟨z0, z1, z2⟩, zf⟩ := id bz3; have zf0 := zf 0; have zf1 := zf 1; have zf2 := zf 2; have y0 := (set3_cell wc _ (.int .i64 S) (.int .i64 T) (.slice ac R.length cpc) e0).trans u0; have y1 := (set3_cell wc _ (.int .i64 S) (.int .i64 T) (.slice ac R.length cpc) e1).trans u1; have y2 := (set3_cell wc _ (.int .i64 S) (.int .i64 T) (.slice ac R.length cpc) e2).trans u2; have y3 := (set3_cell wc _ (.int .i64 S) (.int .i64 T) (.slice ac R.length cpc) e3).trans u3; have y4 := (set3_cell wc _ (.int .i64 S) (.int .i64 T) (.slice ac R.length cpc) e4).trans u4; have y5 := (set3_cell wc _ (.int .i64 S) (.int .i64 T) (.slice ac R.length cpc) e5).trans u5; have zk : (Value.slice ac R.length cpc).ownBlock ≠ some _ := (by first | exact ob_of_lt hvd bz2.1 | exact ob_of_lt hvc (show wb.heap.size < (wb.alloc (.cells #[.int .i64 0, .int .i64 0, .slice none 0 0] 26)).heap.size by simp)); have HF := laid_store (w0 := w_33) (s := S) (t := T) bz3 hvd (Nat.le_trans hA.size hBB.size) zk (bstep (bstep hA hBB) hCC) (by first | exact Nat.le_refl _ | exact hA.size | exact (Nat.le_trans hA.size hBB.size))) | (have HF := laid_alloc (w0 := w_33) (s := S) (t := T) 26 hvd (Nat.le_trans hA.size hBB.size) (bstep (bstep hA hBB) hCC))))))
        all_goals
          go_wp2_with fail
          go_meet
          exact ⟨_, _, _, rfl, rfl, HF⟩
      case' rest => skip
      obtain ⟨kBH, aH, cpH, rfl, rfl, bBH_0, hH_0, hbd35, apHBH, hge35⟩ := hcut
      rename World => w_35
      clear gd0 gd1 gz n0 n1 n2 n3 n4 n5
      have apHA := ob_of_lt hH_0 bA_34.1
      have apHB := ob_of_lt hH_0 bB_34.1
      have apHBS := ob_of_lt hH_0 bBS_34.1
      have apHBX := ob_of_lt hH_0 bBX_34.1
      have apHBY := ob_of_lt hH_0 bBY_34.1
      have apHBI := ob_of_lt hH_0 bBI_34.1
      have apSH := apartS hS_34 hH_0
      have apHS := apartS' hS_34 hH_0
      have apIH := apartS hI_34 hH_0
      have apHI := apartS' hI_34 hH_0
      have apSBH : (.slice aS R.length cpS : Value).ownBlock ≠ some kBH := fun e => Nat.not_lt.2 hge35 (hS_34.lt _ e).2
      have apIBH : (.slice aI R.length cpI : Value).ownBlock ≠ some kBH := fun e => Nat.not_lt.2 hge35 (hI_34.lt _ e).2
      have bA_36 := bA_34.below hbd35
      have bB_36 := bB_34.below hbd35
      have bBS_36 := bBS_34.below hbd35
      have bBX_36 := bBX_34.below hbd35
      have bBY_36 := bBY_34.below hbd35
      have bBI_36 := bBI_34.below hbd35
      have hS_36 := ownS_below hS_34 hbd35
      have hI_36 := ownS_below hI_34 hbd35
      have g_36 := bstep g_34 hbd35
      clear hbd35 bA_34 bB_34 bBS_34 bBX_34 bBY_34 bBI_34 hS_34 hI_34 g_34
      obtain ⟨-, mA0, mA1, mA2⟩ := id bA_36
      obtain ⟨-, mB0, mB1, mB2⟩ := id bB_36
      obtain ⟨-, mBS0, mBS1, mBS2⟩ := id bBS_36
      obtain ⟨-, mBX0, mBX1, mBX2⟩ := id bBX_36
      obtain ⟨-, mBY0, mBY1, mBY2⟩ := id bBY_36
      obtain ⟨-, mBI0, mBI1, mBI2⟩ := id bBI_36
      obtain ⟨-, mBH0, mBH1, mBH2⟩ := id bBH_0
      go_wp2_with fail
      clear mA0 mA1 mA2 mB0 mB1 mB2 mBS0 mBS1 mBS2 mBX0 mBX1 mBX2 mBY0 mBY1 mBY2 mBI0 mBI1 mBI2 mBH0 mBH1 mBH2
      refine (eqCyl_same S T (Rd.of_own hH_0) (Rd.of_own hS_36)).mono ?_
      rintro e w_37 ⟨rfl, hb37⟩
      have bA_38 := bA_36.below hb37
      have bB_38 := bB_36.below hb37
      have bBS_38 := bBS_36.below hb37
      have bBX_38 := bBX_36.below hb37
      have bBY_38 := bBY_36.below hb37
      have bBI_38 := bBI_36.below hb37
      have bBH_38 := bBH_0.below hb37
      have hS_38 := ownS_below hS_36 hb37
      have hI_38 := ownS_below hI_36 hb37
      have hH_38 := ownS_below hH_0 hb37
      have g_38 := bstep g_36 hb37
      clear hb37 bA_36 bB_36 bBS_36 bBX_36 bBY_36 bBI_36 bBH_0 hS_36 hI_36 hH_0 g_36
      obtain ⟨-, mA0, mA1, mA2⟩ := id bA_38
      obtain ⟨-, mB0, mB1, mB2⟩ := id bB_38
      obtain ⟨-, mBS0, mBS1, mBS2⟩ := id bBS_38
      obtain ⟨-, mBX0, mBX1, mBX2⟩ := id bBX_38
      obtain ⟨-, mBY0, mBY1, mBY2⟩ := id bBY_38
      obtain ⟨-, mBI0, mBI1, mBI2⟩ := id bBI_38
      obtain ⟨-, mBH0, mBH1, mBH2⟩ := id bBH_38
      go_wp2_with fail
      clear mA0 mA1 mA2 mB0 mB1 mB2 mBS0 mBS1 mBS2 mBX0 mBX1 mBX2 mBY0 mBY1 mBY2 mBI0 mBI1 mBI2 mBH0 mBH1 mBH2
      refine (heldCyl_any S T 1 (by omega) (Rd.of_own hI_38) HMK.out).mono ?_
      rintro e w_39 ⟨rfl, hb39⟩
      have bA_40 := bA_38.below hb39
      have bB_40 := bB_38.below hb39
      have bBS_40 := bBS_38.below hb39
      have bBX_40 := bBX_38.below hb39
      have bBY_40 := bBY_38.below hb39
      have bBI_40 := bBI_38.below hb39
      have bBH_40 := bBH_38.below hb39
      have hS_40 := ownS_below hS_38 hb39
      have hI_40 := ownS_below hI_38 hb39
      have hH_40 := ownS_below hH_38 hb39
      have g_40 := bstep g_38 hb39
      clear hb39 bA_38 bB_38 bBS_38 bBX_38 bBY_38 bBI_38 bBH_38 hS_38 hI_38 hH_38 g_38
      go_wp2
      go_ret
      exact ⟨rfl, g_40⟩
    · refine (szCylL_no sb tb' LL hLL2 hsb' hmb).mono ?_
      rintro e w2 ⟨rfl, hb2⟩
      have g2 := bstep g_2 hb2
      clear bA_2 bB_2 g_2 hb2
      go_wp2
      go_ret
      exact ⟨rfl, g2⟩
  · go_enter Try.func5, Try.ntmps5
    go_wp2_with fail
    rw [← hw0]
    clear hw0
    refine (szCylL_no sa ta 1048576 (Nat.le_refl _) hsa hma).mono ?_
    rintro e w1 ⟨rfl, hb1⟩
    have g1 := bstep g0 hb1
    clear bA_0 bB_0 g0 hb1
    go_wp2
    go_ret
    exact ⟨rfl, g1⟩

end Go.Proofs.Ytemhmbaacpfnaaa
