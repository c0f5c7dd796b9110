/- The walk of FnExactDisturbs: THE PROGRAM'S OWN CONTRACT IS A PREMISE (hI). Made by mk_cyl.py. -/
import Derived.Test.YtemhmbaacpfnaaaDistSpec
import Derived.Test.YtemhmbaacpfnaaaMergeWalk
namespace Go.Proofs.Ytemhmbaacpfnaaa
open Go.ChangeShapes Go.WideShapes Go.ChangeAt Go.RowKit

set_option maxHeartbeats 8000000 in
set_option maxRecDepth 100000 in
theorem exactdist_walk {w : World} {qa qb : Value} {la lb : List (Int × Int)} (sa ta sb tb' : Int) (d : Int) (hI : ∀ (W : World) (U V : Value), RdC W U la → RdC W V lb → la.length ≤ 1048576 → lb.length ≤ 1048576 → Calls Try.prog 14 #[.agg #[.int .i64 sa, .int .i64 ta, U], .agg #[.int .i64 sb, .int .i64 tb', V], .int .i64 d] W ((fun e w' => e = .returned (.int .i64 (dsM (sa, ta, la) (sb, tb', lb) d)) ∧ Below W.heap.size W w'))) (hla : Rd2 w qa la) (hlb : Rd2 w qb lb) :
    Calls Try.prog 8 #[.agg #[.int .i64 sa, .int .i64 ta, qa], .agg #[.int .i64 sb, .int .i64 tb', qb], .int .i64 d] w fun e w' => e = .returned (.bool true) ∧ Below w.heap.size w w' := by
  obtain ⟨aa, ca, rfl⟩ := Rd.slice hla
  obtain ⟨ab, cb, rfl⟩ := Rd.slice hlb
  have hma := hla.2.1
  have hmb := hlb.2.1
  unfold maxLen at hma hmb
  obtain ⟨w0, hw0⟩ : ∃ w0, w0 = (w.alloc (.cells #[.int .i64 sa, .int .i64 ta, .slice aa la.length ca] 40)).alloc (.cells #[.int .i64 sb, .int .i64 tb', .slice ab lb.length cb] 40) := ⟨_, rfl⟩
  have g0 : Below w.heap.size w w0 := by rw [hw0]; exact ((Below.refl _ _).alloc (Nat.le_refl _) _).alloc (by simp) _
  have bA_0 : Box w0 w.heap.size sa ta (.slice aa la.length ca) := by rw [hw0]; exact (box_new _ _ _ _ _).below ((Below.refl _ _).alloc (Nat.le_refl _) _)
  have bB_0 : Box w0 (w.heap.size + 1) sb tb' (.slice ab lb.length cb) := by
    have := box_new (w.alloc (.cells #[.int .i64 sa, .int .i64 ta, .slice aa la.length ca] 40)) sb tb' (.slice ab lb.length cb) 40
    rw [size_alloc, ← hw0] at this; exact this
  by_cases hsa : la.length ≤ 1048576
  · go_enter Try.func8, Try.ntmps8
    go_wp2_with fail
    rw [← hw0]
    clear hw0
    refine (szCylL_yes sa ta 1048576 (Nat.le_refl _) hsa).mono ?_
    rintro e w_1 ⟨rfl, hb1⟩
    have bA_2 := bA_0.below hb1
    have bB_2 := bB_0.below hb1
    have g_2 := bstep g0 hb1
    clear hb1 bA_0 bB_0 g0
    obtain ⟨LL, hLL⟩ : ∃ LL : Nat, LL = 1048576 - la.length := ⟨_, rfl⟩
    rw [← hLL]
    have hLL2 : LL ≤ 1048576 := by omega
    have hdL : decide ((LL : Int) < 0) = false := decide_eq_false (by omega)
    have HLL := Lib.hid hLL
    clear hLL
    obtain ⟨-, mA0, mA1, mA2⟩ := id bA_2
    obtain ⟨-, mB0, mB1, mB2⟩ := id bB_2
    go_wp2_with fail
    clear mA0 mA1 mA2 mB0 mB1 mB2
    by_cases hsb' : lb.length ≤ LL
    · have hsb : lb.length ≤ 1048576 := by omega
      have HI := Lib.hid (fun (W : World) (U V : Value) (pl : RdC W U la) (pm : RdC W V lb) => hI W U V pl pm hsa hsb)
      have HS := Lib.hid (fun (W : World) (U V : Value) (pl : RdC W U la) (pm : RdC W V lb) => sdist_any (sa, ta, la) (sb, tb', lb) d pl.1 pm.1)
      clear hI
      generalize (dsM (sa, ta, la) (sb, tb', lb) d) = R at *
      refine (szCylL_yes sb tb' LL hLL2 hsb').mono ?_
      rintro e w_3 ⟨rfl, hb3⟩
      have bA_4 := bA_2.below hb3
      have bB_4 := bB_2.below hb3
      have g_4 := bstep g_2 hb3
      clear hb3 bA_2 bB_2 g_2
      have HTA := Lib.hid (fun (X : World) (hX : Below w.heap.size w X) => toCyl_any sa ta (Rd.below hla hX) hsa)
      have HTB := Lib.hid (fun (X : World) (hX : Below w.heap.size w X) => toCyl_any sb tb' (Rd.below hlb hX) hsb)
      obtain ⟨L2, hL2⟩ : ∃ L2 : Nat, L2 = LL - lb.length := ⟨_, rfl⟩
      rw [← hL2]
      have hdL2 : decide ((L2 : Int) < 0) = false := decide_eq_false (by omega)
      clear hL2
      obtain ⟨-, mA0, mA1, mA2⟩ := id bA_4
      obtain ⟨-, mB0, mB1, mB2⟩ := id bB_4
      go_wp2_with fail
      clear mA0 mA1 mA2 mB0 mB1 mB2
      obtain ⟨-, n0, n1, n2⟩ := id bA_4
      obtain ⟨-, n3, n4, n5⟩ := id bB_4
      go_wp2_with fail
      go_region_held3 (fun w' => w'.cell? ⟨w.heap.size, 0, none⟩ = some (.int .i64 sa) ∧ w'.cell? ⟨w.heap.size, 1, none⟩ = some (.int .i64 ta) ∧ w'.cell? ⟨w.heap.size, 2, none⟩ = some (.slice aa la.length ca) ∧ w'.cell? ⟨w.heap.size + 1, 0, none⟩ = some (.int .i64 sb) ∧ w'.cell? ⟨w.heap.size + 1, 1, none⟩ = some (.int .i64 tb') ∧ w'.cell? ⟨w.heap.size + 1, 2, none⟩ = some (.slice ab lb.length cb)) (go_keep)
        ((first
            | (go_at_call 19; (with_reducible refine (HTA.out _ (Below.drew g_4)).mono ?_); rintro e wa ⟨va, rfl, hva, hba⟩; have hA := below_undrew hba; have q0 := old_cell hA n0; have q1 := old_cell hA n1; have q2 := old_cell hA n2; have q3 := old_cell hA n3; have q4 := old_cell hA n4; have q5 := old_cell hA n5)
            | (go_at_call 19; (with_reducible refine (HTB.out _ (bstep g_4 hA)).mono ?_); rintro e wb ⟨vb, rfl, hvb, hbb⟩; have r0 := old_cell hbb q0; have r1 := old_cell hbb q1; have r2 := old_cell hbb q2; have r3 := old_cell hbb q3; have r4 := old_cell hbb q4; have r5 := old_cell hbb q5)
            | (go_at_call 30; refine (HS.out _ _ _ (RdC.of_own (ownS_below hva hbb)) (RdC.of_own hvb)).mono ?_; rintro e wc5 ⟨rfl, hbc⟩; have u0 := old_cell hbc r0; have u1 := old_cell hbc r1; have u2 := old_cell hbc r2; have u3 := old_cell hbc r3; have u4 := old_cell hbc r4; have u5 := old_cell hbc r5)))
      have hbd := bstep (bstep hA hbb) hbc
      clear n0 n1 n2 n3 n4 n5 q0 q1 q2 q3 q4 q5 r0 r1 r2 r3 r4 r5 u0 u1 u2 u3 u4 u5 hva hba hA hvb hbb hbc
      have bA_6 := bA_4.below hbd
      have bB_6 := bB_4.below hbd
      have g_6 := bstep g_4 hbd
      clear hbd bA_4 bB_4 g_4
      obtain ⟨-, mA0, mA1, mA2⟩ := id bA_6
      obtain ⟨-, mB0, mB1, mB2⟩ := id bB_6
      go_wp2_with fail
      clear mA0 mA1 mA2 mB0 mB1 mB2
      have gbX := g_6
      refine (toCyl_any sa ta (Rd.below hla g_6) hsa).mono ?_
      rintro e w_7 ⟨vX, rfl, hX_0, hb7⟩
      obtain ⟨aX, cpX, rfl⟩ := ownS_slice hX_0
      have apXA := ob_of_lt hX_0 bA_6.1
      have apXB := ob_of_lt hX_0 bB_6.1
      have bA_8 := bA_6.below hb7
      have bB_8 := bB_6.below hb7
      have g_8 := bstep g_6 hb7
      clear hb7 bA_6 bB_6 g_6
      have hbA9 : Below w_7.heap.size w_7 (w_7.alloc (.cells #[.int .i64 sa, .int .i64 ta, .slice aX la.length cpX] 26)) := (Below.refl _ _).alloc (Nat.le_refl _) _
      have bBX_0 : Box (w_7.alloc (.cells #[.int .i64 sa, .int .i64 ta, .slice aX la.length cpX] 26)) w_7.heap.size sa ta (.slice aX la.length cpX) := box_new _ _ _ _ _
      have apXBX : (.slice aX la.length cpX : Value).ownBlock ≠ some w_7.heap.size := fun e => Nat.lt_irrefl _ (hX_0.lt _ e).2
      have bA_10 := bA_8.below hbA9
      have bB_10 := bB_8.below hbA9
      have hX_10 := ownS_below hX_0 hbA9
      have g_10 := bstep g_8 hbA9
      clear hbA9 bA_8 bB_8 hX_0 g_8
      obtain ⟨-, mA0, mA1, mA2⟩ := id bA_10
      obtain ⟨-, mB0, mB1, mB2⟩ := id bB_10
      obtain ⟨-, mBX0, mBX1, mBX2⟩ := id bBX_0
      go_wp2_with fail
      clear mA0 mA1 mA2 mB0 mB1 mB2 mBX0 mBX1 mBX2
      generalize (w_7.alloc (.cells #[.int .i64 sa, .int .i64 ta, .slice aX la.length cpX] 26)) = w_11 at *
      have gbY := g_10
      refine (toCyl_any sb tb' (Rd.below hlb g_10) hsb).mono ?_
      rintro e w_12 ⟨vY, rfl, hY_0, hb12⟩
      obtain ⟨aY, cpY, rfl⟩ := ownS_slice hY_0
      have apYA := ob_of_lt hY_0 bA_10.1
      have apYB := ob_of_lt hY_0 bB_10.1
      have apYBX := ob_of_lt hY_0 bBX_0.1
      have apXY := apartS hX_10 hY_0
      have apYX := apartS' hX_10 hY_0
      have bA_13 := bA_10.below hb12
      have bB_13 := bB_10.below hb12
      have bBX_13 := bBX_0.below hb12
      have hX_13 := ownS_below hX_10 hb12
      have g_13 := bstep g_10 hb12
      clear hb12 bA_10 bB_10 bBX_0 hX_10 g_10
      have hbA14 : Below w_12.heap.size w_12 (w_12.alloc (.cells #[.int .i64 sb, .int .i64 tb', .slice aY lb.length cpY] 26)) := (Below.refl _ _).alloc (Nat.le_refl _) _
      have bBY_0 : Box (w_12.alloc (.cells #[.int .i64 sb, .int .i64 tb', .slice aY lb.length cpY] 26)) w_12.heap.size sb tb' (.slice aY lb.length cpY) := box_new _ _ _ _ _
      have apXBY : (.slice aX la.length cpX : Value).ownBlock ≠ some w_12.heap.size := fun e => Nat.lt_irrefl _ (hX_13.lt _ e).2
      have apYBY : (.slice aY lb.length cpY : Value).ownBlock ≠ some w_12.heap.size := fun e => Nat.lt_irrefl _ (hY_0.lt _ e).2
      have bA_15 := bA_13.below hbA14
      have bB_15 := bB_13.below hbA14
      have bBX_15 := bBX_13.below hbA14
      have hX_15 := ownS_below hX_13 hbA14
      have hY_15 := ownS_below hY_0 hbA14
      have g_15 := bstep g_13 hbA14
      clear hbA14 bA_13 bB_13 bBX_13 hX_13 hY_0 g_13
      obtain ⟨-, mA0, mA1, mA2⟩ := id bA_15
      obtain ⟨-, mB0, mB1, mB2⟩ := id bB_15
      obtain ⟨-, mBX0, mBX1, mBX2⟩ := id bBX_15
      obtain ⟨-, mBY0, mBY1, mBY2⟩ := id bBY_0
      go_wp2_with fail
      clear mA0 mA1 mA2 mB0 mB1 mB2 mBX0 mBX1 mBX2 mBY0 mBY1 mBY2
      generalize (w_12.alloc (.cells #[.int .i64 sb, .int .i64 tb', .slice aY lb.length cpY] 26)) = w_16 at *
      refine (HI.out _ _ _ (RdC.of_own hX_15) (RdC.of_own hY_15)).mono ?_
      rintro e w_17 ⟨rfl, hb17⟩
      have bA_18 := bA_15.below hb17
      have bB_18 := bB_15.below hb17
      have bBX_18 := bBX_15.below hb17
      have bBY_18 := bBY_0.below hb17
      have hX_18 := ownS_below hX_15 hb17
      have hY_18 := ownS_below hY_15 hb17
      have g_18 := bstep g_15 hb17
      clear hb17 bA_15 bB_15 bBX_15 bBY_0 hX_15 hY_15 g_15
      obtain ⟨-, n0, n1, n2⟩ := id bBX_18
      obtain ⟨-, n3, n4, n5⟩ := id bA_18
      go_wp2_with fail
      go_region_held3 (fun w' => w'.cell? ⟨w_7.heap.size, 0, none⟩ = some (.int .i64 sa) ∧ w'.cell? ⟨w_7.heap.size, 1, none⟩ = some (.int .i64 ta) ∧ w'.cell? ⟨w_7.heap.size, 2, none⟩ = some (.slice aX la.length cpX) ∧ w'.cell? ⟨w.heap.size, 0, none⟩ = some (.int .i64 sa) ∧ w'.cell? ⟨w.heap.size, 1, none⟩ = some (.int .i64 ta) ∧ w'.cell? ⟨w.heap.size, 2, none⟩ = some (.slice aa la.length ca)) (go_keep)
        ((first
            | (go_at_call 19; refine (toCyl_any sa ta (Rd.below hla (Below.drew g_18)) hsa).mono ?_; rintro e wa19 ⟨va, rfl, hva, hba⟩; have q0 := kept_cell hba n0; have q1 := kept_cell hba n1; have q2 := kept_cell hba n2; have q3 := kept_cell hba n3; have q4 := kept_cell hba n4; have q5 := kept_cell hba n5)
            | (go_at_call 20; refine (eqCyl_same sa ta (Rd.of_own (ownS_below hX_18 (below_undrew hba))) (Rd.of_own hva)).mono ?_; rintro e wb19 ⟨rfl, hbb⟩; have r0 := old_cell hbb q0; have r1 := old_cell hbb q1; have r2 := old_cell hbb q2; have r3 := old_cell hbb q3; have r4 := old_cell hbb q4; have r5 := old_cell hbb q5)))
      have hbc := bstep (below_undrew hba) hbb
      clear q0 q1 q2 q3 q4 q5 r0 r1 r2 r3 r4 r5 n0 n1 n2 n3 n4 n5 hva hba hbb
      have bA_20 := bA_18.below hbc
      have bB_20 := bB_18.below hbc
      have bBX_20 := bBX_18.below hbc
      have bBY_20 := bBY_18.below hbc
      have hX_20 := ownS_below hX_18 hbc
      have hY_20 := ownS_below hY_18 hbc
      have g_20 := bstep g_18 hbc
      clear hbc bA_18 bB_18 bBX_18 bBY_18 hX_18 hY_18 g_18
      obtain ⟨-, n0, n1, n2⟩ := id bBY_20
      obtain ⟨-, n3, n4, n5⟩ := id bB_20
      go_wp2_with fail
      go_region_held3 (fun w' => w'.cell? ⟨w_12.heap.size, 0, none⟩ = some (.int .i64 sb) ∧ w'.cell? ⟨w_12.heap.size, 1, none⟩ = some (.int .i64 tb') ∧ w'.cell? ⟨w_12.heap.size, 2, none⟩ = some (.slice aY lb.length cpY) ∧ w'.cell? ⟨w.heap.size + 1, 0, none⟩ = some (.int .i64 sb) ∧ w'.cell? ⟨w.heap.size + 1, 1, none⟩ = some (.int .i64 tb') ∧ w'.cell? ⟨w.heap.size + 1, 2, none⟩ = some (.slice ab lb.length cb)) (go_keep)
        ((first
            | (go_at_call 19; refine (toCyl_any sb tb' (Rd.below hlb (Below.drew g_20)) hsb).mono ?_; rintro e wa21 ⟨va, rfl, hva, hba⟩; have q0 := kept_cell hba n0; have q1 := kept_cell hba n1; have q2 := kept_cell hba n2; have q3 := kept_cell hba n3; have q4 := kept_cell hba n4; have q5 := kept_cell hba n5)
            | (go_at_call 20; refine (eqCyl_same sb tb' (Rd.of_own (ownS_below hY_20 (below_undrew hba))) (Rd.of_own hva)).mono ?_; rintro e wb21 ⟨rfl, hbb⟩; have r0 := old_cell hbb q0; have r1 := old_cell hbb q1; have r2 := old_cell hbb q2; have r3 := old_cell hbb q3; have r4 := old_cell hbb q4; have r5 := old_cell hbb q5)))
      have hbc := bstep (below_undrew hba) hbb
      clear q0 q1 q2 q3 q4 q5 r0 r1 r2 r3 r4 r5 n0 n1 n2 n3 n4 n5 hva hba hbb
      have bA_22 := bA_20.below hbc
      have bB_22 := bB_20.below hbc
      have bBX_22 := bBX_20.below hbc
      have bBY_22 := bBY_20.below hbc
      have hX_22 := ownS_below hX_20 hbc
      have hY_22 := ownS_below hY_20 hbc
      have g_22 := bstep g_20 hbc
      clear hbc bA_20 bB_20 bBX_20 bBY_20 hX_20 hY_20 g_20
      go_wp2
      go_ret
      exact ⟨rfl, g_22⟩
    · refine (szCylL_no sb tb' LL hLL2 hsb' hmb).mono ?_
      rintro e w2 ⟨rfl, hb2⟩
      have g2 := bstep g_2 hb2
      clear bA_2 bB_2 g_2 hb2
      go_wp2
      go_ret
      exact ⟨rfl, g2⟩
  · go_enter Try.func8, Try.ntmps8
    go_wp2_with fail
    rw [← hw0]
    clear hw0
    refine (szCylL_no sa ta 1048576 (Nat.le_refl _) hsa hma).mono ?_
    rintro e w1 ⟨rfl, hb1⟩
    have g1 := bstep g0 hb1
    clear bA_0 bB_0 g0 hb1
    go_wp2
    go_ret
    exact ⟨rfl, g1⟩

end Go.Proofs.Ytemhmbaacpfnaaa
