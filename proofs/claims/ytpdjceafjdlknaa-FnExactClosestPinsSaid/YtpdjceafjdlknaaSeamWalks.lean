/- The walks of FnExactClosestPins, QuietAngle, IsPlayable, OnlyAtSeam: THE PROGRAM'S OWN CONTRACT IS A PREMISE (hI). Made by mk_cyl.py. -/
import Derived.Test.YtpdjceafjdlknaaSeamSpec
import Derived.Test.YtpdjceafjdlknaaBoxKit
import Derived.Test.YtpdjceafjdlknaaWalkKit
namespace Go.Proofs.Ytpdjceafjdlknaa
open Go.ChangeShapes Go.WideShapes Go.ChangeAt Go.RowKit

set_option maxHeartbeats 8000000 in
set_option maxRecDepth 100000 in
theorem exactclose_walk {w : World} {ql : Value} {l : List (Int × Int)} (s t : Int) (hI : ∀ (W : World) (U : Value), RdC W U l → l.length ≤ 1048576 → Calls Try.prog 15 #[.agg #[.int .i64 s, .int .i64 t, U]] W (fun e w' => e = .returned (.int .i64 (closM s t l)) ∧ Below W.heap.size W w')) (hl : Rd2 w ql l) :
    Calls Try.prog 5 #[.agg #[.int .i64 s, .int .i64 t, ql]] w fun e w' => e = .returned (.bool true) ∧ Below w.heap.size w w' := by
  obtain ⟨al, cl, rfl⟩ := Rd.slice hl
  have hml := hl.2.1
  unfold maxLen at hml
  obtain ⟨w0, hw0⟩ : ∃ w0, w0 = w.alloc (.cells #[.int .i64 s, .int .i64 t, .slice al l.length cl] 43) := ⟨_, rfl⟩
  have g0 : Below w.heap.size w w0 := by rw [hw0]; exact (Below.refl _ _).alloc (Nat.le_refl _) _
  have bA_0 : Box w0 w.heap.size s t (.slice al l.length cl) := by rw [hw0]; exact box_new _ _ _ _ _
  by_cases hsl : l.length ≤ 1048576
  · have HI := Lib.hid (fun (W : World) (U : Value) (pl : RdC W U l) => hI W U pl hsl)
    have HS := Lib.hid (fun (W : World) (U : Value) (pl : RdC W U l) => sclose_any s t pl.1)
    clear hI
    generalize (closM s t l) = tb at *
    go_enter Try.func5, Try.ntmps5
    go_wp2_with fail
    rw [← hw0]
    clear hw0
    refine (szCyl_yes s t hsl).mono ?_
    rintro e w_1 ⟨x0, hx0, rfl, hb1⟩
    have bA_2 := bA_0.below hb1
    have g_2 := bstep g0 hb1
    clear hb1 bA_0 g0
    obtain ⟨-, mA0, mA1, mA2⟩ := id bA_2
    go_wp2_with fail
    clear mA0 mA1 mA2
    have gbP := g_2
    refine (toCyl_any s t (Rd.below hl g_2) hsl).mono ?_
    rintro e w_3 ⟨vP, rfl, hP_0, hb3⟩
    obtain ⟨aP, cpP, rfl⟩ := ownS_slice hP_0
    have apPA := ob_of_lt hP_0 bA_2.1
    have bA_4 := bA_2.below hb3
    have g_4 := bstep g_2 hb3
    clear hb3 bA_2 g_2
    obtain ⟨-, mA0, mA1, mA2⟩ := id bA_4
    go_wp2_with fail
    clear mA0 mA1 mA2
    refine (HS.out _ _ (RdC.of_own hP_0)).mono ?_
    rintro e w_5 ⟨rfl, hb5⟩
    have bA_6 := bA_4.below hb5
    have hP_6 := ownS_below hP_0 hb5
    have g_6 := bstep g_4 hb5
    clear hb5 bA_4 hP_0 g_4
    clear hP_6 apPA
    obtain ⟨-, mA0, mA1, mA2⟩ := id bA_6
    go_wp2_with fail
    clear mA0 mA1 mA2
    have gbX := g_6
    refine (toCyl_any s t (Rd.below hl g_6) hsl).mono ?_
    rintro e w_7 ⟨vX, rfl, hX_0, hb7⟩
    obtain ⟨aX, cpX, rfl⟩ := ownS_slice hX_0
    have apXA := ob_of_lt hX_0 bA_6.1
    have bA_8 := bA_6.below hb7
    have g_8 := bstep g_6 hb7
    clear hb7 bA_6 g_6
    have hbA9 : Below w_7.heap.size w_7 (w_7.alloc (.cells #[.int .i64 s, .int .i64 t, .slice aX l.length cpX] 26)) := (Below.refl _ _).alloc (Nat.le_refl _) _
    have bBX_0 : Box (w_7.alloc (.cells #[.int .i64 s, .int .i64 t, .slice aX l.length cpX] 26)) w_7.heap.size s t (.slice aX l.length cpX) := box_new _ _ _ _ _
    have apXBX : (.slice aX l.length cpX : Value).ownBlock ≠ some w_7.heap.size := fun e => Nat.lt_irrefl _ (hX_0.lt _ e).2
    have bA_10 := bA_8.below hbA9
    have hX_10 := ownS_below hX_0 hbA9
    have g_10 := bstep g_8 hbA9
    clear hbA9 bA_8 hX_0 g_8
    obtain ⟨-, mA0, mA1, mA2⟩ := id bA_10
    obtain ⟨-, mBX0, mBX1, mBX2⟩ := id bBX_0
    go_wp2_with fail
    clear mA0 mA1 mA2 mBX0 mBX1 mBX2
    generalize (w_7.alloc (.cells #[.int .i64 s, .int .i64 t, .slice aX l.length cpX] 26)) = w_11 at *
    refine (HI.out _ _ (RdC.of_own hX_10)).mono ?_
    rintro e w_12 ⟨rfl, hb12⟩
    have bA_13 := bA_10.below hb12
    have bBX_13 := bBX_0.below hb12
    have hX_13 := ownS_below hX_10 hb12
    have g_13 := bstep g_10 hb12
    clear hb12 bA_10 bBX_0 hX_10 g_10
    obtain ⟨-, n0, n1, n2⟩ := id bBX_13
    obtain ⟨-, n3, n4, n5⟩ := id bA_13
    go_wp2_with fail
    go_region_held3 (fun w' => w'.cell? ⟨w_7.heap.size, 0, none⟩ = some (.int .i64 s) ∧ w'.cell? ⟨w_7.heap.size, 1, none⟩ = some (.int .i64 t) ∧ w'.cell? ⟨w_7.heap.size, 2, none⟩ = some (.slice aX l.length cpX) ∧ w'.cell? ⟨w.heap.size, 0, none⟩ = some (.int .i64 s) ∧ w'.cell? ⟨w.heap.size, 1, none⟩ = some (.int .i64 t) ∧ w'.cell? ⟨w.heap.size, 2, none⟩ = some (.slice al l.length cl)) (go_keep)
      ((first
          | (go_at_call 25; refine (toCyl_any s t (Rd.below hl (Below.drew g_13)) hsl).mono ?_; rintro e wa ⟨va, rfl, hva, hba⟩; have q0 := kept_cell hba n0; have q1 := kept_cell hba n1; have q2 := kept_cell hba n2; have q3 := kept_cell hba n3; have q4 := kept_cell hba n4; have q5 := kept_cell hba n5)
          | (go_at_call 26; refine (eqCyl_same s t (Rd.of_own (ownS_below hX_13 (below_undrew hba))) (Rd.of_own hva)).mono ?_; rintro e wb ⟨rfl, hbb⟩; have r0 := old_cell hbb q0; have r1 := old_cell hbb q1; have r2 := old_cell hbb q2; have r3 := old_cell hbb q3; have r4 := old_cell hbb q4; have r5 := old_cell hbb q5)))
    have hbc := bstep (below_undrew hba) hbb
    clear q0 q1 q2 q3 q4 q5 r0 r1 r2 r3 r4 r5 n0 n1 n2 n3 n4 n5 hva hba hbb
    have bA_14 := bA_13.below hbc
    have bBX_14 := bBX_13.below hbc
    have hX_14 := ownS_below hX_13 hbc
    have g_14 := bstep g_13 hbc
    clear hbc bA_13 bBX_13 hX_13 g_13
    go_wp2
    go_ret
    exact ⟨rfl, g_14⟩
  · go_enter Try.func5, Try.ntmps5
    go_wp2_with fail
    rw [← hw0]
    clear hw0
    refine (szCyl_no s t hsl hml).mono ?_
    rintro e w1 ⟨rfl, hb1⟩
    have g1 := bstep g0 hb1
    clear bA_0 g0 hb1
    go_wp2
    go_ret
    exact ⟨rfl, g1⟩

set_option maxHeartbeats 8000000 in
set_option maxRecDepth 100000 in
theorem exactquiet_walk {w : World} {ql : Value} {l : List (Int × Int)} (s t : Int) (hI : ∀ (W : World) (U : Value), RdC W U l → l.length ≤ 1048576 → Calls Try.prog 18 #[.agg #[.int .i64 s, .int .i64 t, U]] W (fun e w' => e = .returned (.int .i64 (quietM s t l)) ∧ Below W.heap.size W w')) (hl : Rd2 w ql l) :
    Calls Try.prog 9 #[.agg #[.int .i64 s, .int .i64 t, ql]] w fun e w' => e = .returned (.bool true) ∧ Below w.heap.size w w' := by
  obtain ⟨al, cl, rfl⟩ := Rd.slice hl
  have hml := hl.2.1
  unfold maxLen at hml
  obtain ⟨w0, hw0⟩ : ∃ w0, w0 = w.alloc (.cells #[.int .i64 s, .int .i64 t, .slice al l.length cl] 43) := ⟨_, rfl⟩
  have g0 : Below w.heap.size w w0 := by rw [hw0]; exact (Below.refl _ _).alloc (Nat.le_refl _) _
  have bA_0 : Box w0 w.heap.size s t (.slice al l.length cl) := by rw [hw0]; exact box_new _ _ _ _ _
  by_cases hsl : l.length ≤ 1048576
  · have HI := Lib.hid (fun (W : World) (U : Value) (pl : RdC W U l) => hI W U pl hsl)
    have HS := Lib.hid (fun (W : World) (U : Value) (pl : RdC W U l) => squiet_any s t pl.1)
    clear hI
    generalize (quietM s t l) = tb at *
    go_enter Try.func9, Try.ntmps9
    go_wp2_with fail
    rw [← hw0]
    clear hw0
    refine (szCyl_yes s t hsl).mono ?_
    rintro e w_1 ⟨x0, hx0, rfl, hb1⟩
    have bA_2 := bA_0.below hb1
    have g_2 := bstep g0 hb1
    clear hb1 bA_0 g0
    obtain ⟨-, mA0, mA1, mA2⟩ := id bA_2
    go_wp2_with fail
    clear mA0 mA1 mA2
    have gbP := g_2
    refine (toCyl_any s t (Rd.below hl g_2) hsl).mono ?_
    rintro e w_3 ⟨vP, rfl, hP_0, hb3⟩
    obtain ⟨aP, cpP, rfl⟩ := ownS_slice hP_0
    have apPA := ob_of_lt hP_0 bA_2.1
    have bA_4 := bA_2.below hb3
    have g_4 := bstep g_2 hb3
    clear hb3 bA_2 g_2
    obtain ⟨-, mA0, mA1, mA2⟩ := id bA_4
    go_wp2_with fail
    clear mA0 mA1 mA2
    refine (HS.out _ _ (RdC.of_own hP_0)).mono ?_
    rintro e w_5 ⟨rfl, hb5⟩
    have bA_6 := bA_4.below hb5
    have hP_6 := ownS_below hP_0 hb5
    have g_6 := bstep g_4 hb5
    clear hb5 bA_4 hP_0 g_4
    clear hP_6 apPA
    obtain ⟨-, mA0, mA1, mA2⟩ := id bA_6
    go_wp2_with fail
    clear mA0 mA1 mA2
    have gbX := g_6
    refine (toCyl_any s t (Rd.below hl g_6) hsl).mono ?_
    rintro e w_7 ⟨vX, rfl, hX_0, hb7⟩
    obtain ⟨aX, cpX, rfl⟩ := ownS_slice hX_0
    have apXA := ob_of_lt hX_0 bA_6.1
    have bA_8 := bA_6.below hb7
    have g_8 := bstep g_6 hb7
    clear hb7 bA_6 g_6
    have hbA9 : Below w_7.heap.size w_7 (w_7.alloc (.cells #[.int .i64 s, .int .i64 t, .slice aX l.length cpX] 26)) := (Below.refl _ _).alloc (Nat.le_refl _) _
    have bBX_0 : Box (w_7.alloc (.cells #[.int .i64 s, .int .i64 t, .slice aX l.length cpX] 26)) w_7.heap.size s t (.slice aX l.length cpX) := box_new _ _ _ _ _
    have apXBX : (.slice aX l.length cpX : Value).ownBlock ≠ some w_7.heap.size := fun e => Nat.lt_irrefl _ (hX_0.lt _ e).2
    have bA_10 := bA_8.below hbA9
    have hX_10 := ownS_below hX_0 hbA9
    have g_10 := bstep g_8 hbA9
    clear hbA9 bA_8 hX_0 g_8
    obtain ⟨-, mA0, mA1, mA2⟩ := id bA_10
    obtain ⟨-, mBX0, mBX1, mBX2⟩ := id bBX_0
    go_wp2_with fail
    clear mA0 mA1 mA2 mBX0 mBX1 mBX2
    generalize (w_7.alloc (.cells #[.int .i64 s, .int .i64 t, .slice aX l.length cpX] 26)) = w_11 at *
    refine (HI.out _ _ (RdC.of_own hX_10)).mono ?_
    rintro e w_12 ⟨rfl, hb12⟩
    have bA_13 := bA_10.below hb12
    have bBX_13 := bBX_0.below hb12
    have hX_13 := ownS_below hX_10 hb12
    have g_13 := bstep g_10 hb12
    clear hb12 bA_10 bBX_0 hX_10 g_10
    obtain ⟨-, n0, n1, n2⟩ := id bBX_13
    obtain ⟨-, n3, n4, n5⟩ := id bA_13
    go_wp2_with fail
    go_region_held3 (fun w' => w'.cell? ⟨w_7.heap.size, 0, none⟩ = some (.int .i64 s) ∧ w'.cell? ⟨w_7.heap.size, 1, none⟩ = some (.int .i64 t) ∧ w'.cell? ⟨w_7.heap.size, 2, none⟩ = some (.slice aX l.length cpX) ∧ w'.cell? ⟨w.heap.size, 0, none⟩ = some (.int .i64 s) ∧ w'.cell? ⟨w.heap.size, 1, none⟩ = some (.int .i64 t) ∧ w'.cell? ⟨w.heap.size, 2, none⟩ = some (.slice al l.length cl)) (go_keep)
      ((first
          | (go_at_call 25; refine (toCyl_any s t (Rd.below hl (Below.drew g_13)) hsl).mono ?_; rintro e wa ⟨va, rfl, hva, hba⟩; have q0 := kept_cell hba n0; have q1 := kept_cell hba n1; have q2 := kept_cell hba n2; have q3 := kept_cell hba n3; have q4 := kept_cell hba n4; have q5 := kept_cell hba n5)
          | (go_at_call 26; refine (eqCyl_same s t (Rd.of_own (ownS_below hX_13 (below_undrew hba))) (Rd.of_own hva)).mono ?_; rintro e wb ⟨rfl, hbb⟩; have r0 := old_cell hbb q0; have r1 := old_cell hbb q1; have r2 := old_cell hbb q2; have r3 := old_cell hbb q3; have r4 := old_cell hbb q4; have r5 := old_cell hbb q5)))
    have hbc := bstep (below_undrew hba) hbb
    clear q0 q1 q2 q3 q4 q5 r0 r1 r2 r3 r4 r5 n0 n1 n2 n3 n4 n5 hva hba hbb
    have bA_14 := bA_13.below hbc
    have bBX_14 := bBX_13.below hbc
    have hX_14 := ownS_below hX_13 hbc
    have g_14 := bstep g_13 hbc
    clear hbc bA_13 bBX_13 hX_13 g_13
    go_wp2
    go_ret
    exact ⟨rfl, g_14⟩
  · go_enter Try.func9, Try.ntmps9
    go_wp2_with fail
    rw [← hw0]
    clear hw0
    refine (szCyl_no s t hsl hml).mono ?_
    rintro e w1 ⟨rfl, hb1⟩
    have g1 := bstep g0 hb1
    clear bA_0 g0 hb1
    go_wp2
    go_ret
    exact ⟨rfl, g1⟩

set_option maxHeartbeats 8000000 in
set_option maxRecDepth 100000 in
theorem exactplay_walk {w : World} {ql : Value} {l : List (Int × Int)} (s t : Int) (d : Int) (hI : ∀ (W : World) (U : Value), RdC W U l → l.length ≤ 1048576 → Calls Try.prog 16 #[.agg #[.int .i64 s, .int .i64 t, U], .int .i64 d] W (fun e w' => e = .returned (.bool (playM s t l d)) ∧ Below W.heap.size W w')) (hl : Rd2 w ql l) :
    Calls Try.prog 7 #[.agg #[.int .i64 s, .int .i64 t, ql], .int .i64 d] w fun e w' => e = .returned (.bool true) ∧ Below w.heap.size w w' := by
  obtain ⟨al, cl, rfl⟩ := Rd.slice hl
  have hml := hl.2.1
  unfold maxLen at hml
  obtain ⟨w0, hw0⟩ : ∃ w0, w0 = w.alloc (.cells #[.int .i64 s, .int .i64 t, .slice al l.length cl] 43) := ⟨_, rfl⟩
  have g0 : Below w.heap.size w w0 := by rw [hw0]; exact (Below.refl _ _).alloc (Nat.le_refl _) _
  have bA_0 : Box w0 w.heap.size s t (.slice al l.length cl) := by rw [hw0]; exact box_new _ _ _ _ _
  by_cases hsl : l.length ≤ 1048576
  · have HI := Lib.hid (fun (W : World) (U : Value) (pl : RdC W U l) => hI W U pl hsl)
    have HS := Lib.hid (fun (W : World) (U : Value) (pl : RdC W U l) => splay_any s t d pl.1)
    clear hI
    generalize (playM s t l d) = tb at *
    go_enter Try.func7, Try.ntmps7
    go_wp2_with fail
    rw [← hw0]
    clear hw0
    refine (szCyl_yes s t hsl).mono ?_
    rintro e w_1 ⟨x0, hx0, rfl, hb1⟩
    have bA_2 := bA_0.below hb1
    have g_2 := bstep g0 hb1
    clear hb1 bA_0 g0
    obtain ⟨-, mA0, mA1, mA2⟩ := id bA_2
    go_wp2_with fail
    clear mA0 mA1 mA2
    have gbP := g_2
    refine (toCyl_any s t (Rd.below hl g_2) hsl).mono ?_
    rintro e w_3 ⟨vP, rfl, hP_0, hb3⟩
    obtain ⟨aP, cpP, rfl⟩ := ownS_slice hP_0
    have apPA := ob_of_lt hP_0 bA_2.1
    have bA_4 := bA_2.below hb3
    have g_4 := bstep g_2 hb3
    clear hb3 bA_2 g_2
    obtain ⟨-, mA0, mA1, mA2⟩ := id bA_4
    go_wp2_with fail
    clear mA0 mA1 mA2
    refine (HS.out _ _ (RdC.of_own hP_0)).mono ?_
    rintro e w_5 ⟨rfl, hb5⟩
    have bA_6 := bA_4.below hb5
    have hP_6 := ownS_below hP_0 hb5
    have g_6 := bstep g_4 hb5
    clear hb5 bA_4 hP_0 g_4
    clear hP_6 apPA
    obtain ⟨-, mA0, mA1, mA2⟩ := id bA_6
    go_wp2_with fail
    clear mA0 mA1 mA2
    have gbX := g_6
    refine (toCyl_any s t (Rd.below hl g_6) hsl).mono ?_
    rintro e w_7 ⟨vX, rfl, hX_0, hb7⟩
    obtain ⟨aX, cpX, rfl⟩ := ownS_slice hX_0
    have apXA := ob_of_lt hX_0 bA_6.1
    have bA_8 := bA_6.below hb7
    have g_8 := bstep g_6 hb7
    clear hb7 bA_6 g_6
    have hbA9 : Below w_7.heap.size w_7 (w_7.alloc (.cells #[.int .i64 s, .int .i64 t, .slice aX l.length cpX] 26)) := (Below.refl _ _).alloc (Nat.le_refl _) _
    have bBX_0 : Box (w_7.alloc (.cells #[.int .i64 s, .int .i64 t, .slice aX l.length cpX] 26)) w_7.heap.size s t (.slice aX l.length cpX) := box_new _ _ _ _ _
    have apXBX : (.slice aX l.length cpX : Value).ownBlock ≠ some w_7.heap.size := fun e => Nat.lt_irrefl _ (hX_0.lt _ e).2
    have bA_10 := bA_8.below hbA9
    have hX_10 := ownS_below hX_0 hbA9
    have g_10 := bstep g_8 hbA9
    clear hbA9 bA_8 hX_0 g_8
    obtain ⟨-, mA0, mA1, mA2⟩ := id bA_10
    obtain ⟨-, mBX0, mBX1, mBX2⟩ := id bBX_0
    go_wp2_with fail
    clear mA0 mA1 mA2 mBX0 mBX1 mBX2
    generalize (w_7.alloc (.cells #[.int .i64 s, .int .i64 t, .slice aX l.length cpX] 26)) = w_11 at *
    refine (HI.out _ _ (RdC.of_own hX_10)).mono ?_
    rintro e w_12 ⟨rfl, hb12⟩
    have bA_13 := bA_10.below hb12
    have bBX_13 := bBX_0.below hb12
    have hX_13 := ownS_below hX_10 hb12
    have g_13 := bstep g_10 hb12
    clear hb12 bA_10 bBX_0 hX_10 g_10
    obtain ⟨-, n0, n1, n2⟩ := id bBX_13
    obtain ⟨-, n3, n4, n5⟩ := id bA_13
    go_wp2_with fail
    go_region_held3 (fun w' => w'.cell? ⟨w_7.heap.size, 0, none⟩ = some (.int .i64 s) ∧ w'.cell? ⟨w_7.heap.size, 1, none⟩ = some (.int .i64 t) ∧ w'.cell? ⟨w_7.heap.size, 2, none⟩ = some (.slice aX l.length cpX) ∧ w'.cell? ⟨w.heap.size, 0, none⟩ = some (.int .i64 s) ∧ w'.cell? ⟨w.heap.size, 1, none⟩ = some (.int .i64 t) ∧ w'.cell? ⟨w.heap.size, 2, none⟩ = some (.slice al l.length cl)) (go_keep)
      ((first
          | (go_at_call 25; refine (toCyl_any s t (Rd.below hl (Below.drew g_13)) hsl).mono ?_; rintro e wa ⟨va, rfl, hva, hba⟩; have q0 := kept_cell hba n0; have q1 := kept_cell hba n1; have q2 := kept_cell hba n2; have q3 := kept_cell hba n3; have q4 := kept_cell hba n4; have q5 := kept_cell hba n5)
          | (go_at_call 26; refine (eqCyl_same s t (Rd.of_own (ownS_below hX_13 (below_undrew hba))) (Rd.of_own hva)).mono ?_; rintro e wb ⟨rfl, hbb⟩; have r0 := old_cell hbb q0; have r1 := old_cell hbb q1; have r2 := old_cell hbb q2; have r3 := old_cell hbb q3; have r4 := old_cell hbb q4; have r5 := old_cell hbb q5)))
    have hbc := bstep (below_undrew hba) hbb
    clear q0 q1 q2 q3 q4 q5 r0 r1 r2 r3 r4 r5 n0 n1 n2 n3 n4 n5 hva hba hbb
    have bA_14 := bA_13.below hbc
    have bBX_14 := bBX_13.below hbc
    have hX_14 := ownS_below hX_13 hbc
    have g_14 := bstep g_13 hbc
    clear hbc bA_13 bBX_13 hX_13 g_13
    go_wp2
    go_ret
    exact ⟨rfl, g_14⟩
  · go_enter Try.func7, Try.ntmps7
    go_wp2_with fail
    rw [← hw0]
    clear hw0
    refine (szCyl_no s t hsl hml).mono ?_
    rintro e w1 ⟨rfl, hb1⟩
    have g1 := bstep g0 hb1
    clear bA_0 g0 hb1
    go_wp2
    go_ret
    exact ⟨rfl, g1⟩

set_option maxHeartbeats 8000000 in
set_option maxRecDepth 100000 in
theorem exactonly_walk {w : World} {ql : Value} {l : List (Int × Int)} (s t : Int) (d : Int) (hI : ∀ (W : World) (U : Value), RdC W U l → l.length ≤ 1048576 → Calls Try.prog 21 #[.agg #[.int .i64 s, .int .i64 t, U], .int .i64 d] W (fun e w' => e = .returned (.bool (onlyM s t l d)) ∧ Below W.heap.size W w')) (hl : Rd2 w ql l) :
    Calls Try.prog 8 #[.agg #[.int .i64 s, .int .i64 t, ql], .int .i64 d] w fun e w' => e = .returned (.bool true) ∧ Below w.heap.size w w' := by
  obtain ⟨al, cl, rfl⟩ := Rd.slice hl
  have hml := hl.2.1
  unfold maxLen at hml
  obtain ⟨w0, hw0⟩ : ∃ w0, w0 = w.alloc (.cells #[.int .i64 s, .int .i64 t, .slice al l.length cl] 43) := ⟨_, rfl⟩
  have g0 : Below w.heap.size w w0 := by rw [hw0]; exact (Below.refl _ _).alloc (Nat.le_refl _) _
  have bA_0 : Box w0 w.heap.size s t (.slice al l.length cl) := by rw [hw0]; exact box_new _ _ _ _ _
  by_cases hsl : l.length ≤ 1048576
  · have HI := Lib.hid (fun (W : World) (U : Value) (pl : RdC W U l) => hI W U pl hsl)
    have HS := Lib.hid (fun (W : World) (U : Value) (pl : RdC W U l) => sonly_any s t d pl.1)
    clear hI
    generalize (onlyM s t l d) = tb at *
    go_enter Try.func8, Try.ntmps8
    go_wp2_with fail
    rw [← hw0]
    clear hw0
    refine (szCyl_yes s t hsl).mono ?_
    rintro e w_1 ⟨x0, hx0, rfl, hb1⟩
    have bA_2 := bA_0.below hb1
    have g_2 := bstep g0 hb1
    clear hb1 bA_0 g0
    obtain ⟨-, mA0, mA1, mA2⟩ := id bA_2
    go_wp2_with fail
    clear mA0 mA1 mA2
    have gbP := g_2
    refine (toCyl_any s t (Rd.below hl g_2) hsl).mono ?_
    rintro e w_3 ⟨vP, rfl, hP_0, hb3⟩
    obtain ⟨aP, cpP, rfl⟩ := ownS_slice hP_0
    have apPA := ob_of_lt hP_0 bA_2.1
    have bA_4 := bA_2.below hb3
    have g_4 := bstep g_2 hb3
    clear hb3 bA_2 g_2
    obtain ⟨-, mA0, mA1, mA2⟩ := id bA_4
    go_wp2_with fail
    clear mA0 mA1 mA2
    refine (HS.out _ _ (RdC.of_own hP_0)).mono ?_
    rintro e w_5 ⟨rfl, hb5⟩
    have bA_6 := bA_4.below hb5
    have hP_6 := ownS_below hP_0 hb5
    have g_6 := bstep g_4 hb5
    clear hb5 bA_4 hP_0 g_4
    clear hP_6 apPA
    obtain ⟨-, mA0, mA1, mA2⟩ := id bA_6
    go_wp2_with fail
    clear mA0 mA1 mA2
    have gbX := g_6
    refine (toCyl_any s t (Rd.below hl g_6) hsl).mono ?_
    rintro e w_7 ⟨vX, rfl, hX_0, hb7⟩
    obtain ⟨aX, cpX, rfl⟩ := ownS_slice hX_0
    have apXA := ob_of_lt hX_0 bA_6.1
    have bA_8 := bA_6.below hb7
    have g_8 := bstep g_6 hb7
    clear hb7 bA_6 g_6
    have hbA9 : Below w_7.heap.size w_7 (w_7.alloc (.cells #[.int .i64 s, .int .i64 t, .slice aX l.length cpX] 26)) := (Below.refl _ _).alloc (Nat.le_refl _) _
    have bBX_0 : Box (w_7.alloc (.cells #[.int .i64 s, .int .i64 t, .slice aX l.length cpX] 26)) w_7.heap.size s t (.slice aX l.length cpX) := box_new _ _ _ _ _
    have apXBX : (.slice aX l.length cpX : Value).ownBlock ≠ some w_7.heap.size := fun e => Nat.lt_irrefl _ (hX_0.lt _ e).2
    have bA_10 := bA_8.below hbA9
    have hX_10 := ownS_below hX_0 hbA9
    have g_10 := bstep g_8 hbA9
    clear hbA9 bA_8 hX_0 g_8
    obtain ⟨-, mA0, mA1, mA2⟩ := id bA_10
    obtain ⟨-, mBX0, mBX1, mBX2⟩ := id bBX_0
    go_wp2_with fail
    clear mA0 mA1 mA2 mBX0 mBX1 mBX2
    generalize (w_7.alloc (.cells #[.int .i64 s, .int .i64 t, .slice aX l.length cpX] 26)) = w_11 at *
    refine (HI.out _ _ (RdC.of_own hX_10)).mono ?_
    rintro e w_12 ⟨rfl, hb12⟩
    have bA_13 := bA_10.below hb12
    have bBX_13 := bBX_0.below hb12
    have hX_13 := ownS_below hX_10 hb12
    have g_13 := bstep g_10 hb12
    clear hb12 bA_10 bBX_0 hX_10 g_10
    obtain ⟨-, n0, n1, n2⟩ := id bBX_13
    obtain ⟨-, n3, n4, n5⟩ := id bA_13
    go_wp2_with fail
    go_region_held3 (fun w' => w'.cell? ⟨w_7.heap.size, 0, none⟩ = some (.int .i64 s) ∧ w'.cell? ⟨w_7.heap.size, 1, none⟩ = some (.int .i64 t) ∧ w'.cell? ⟨w_7.heap.size, 2, none⟩ = some (.slice aX l.length cpX) ∧ w'.cell? ⟨w.heap.size, 0, none⟩ = some (.int .i64 s) ∧ w'.cell? ⟨w.heap.size, 1, none⟩ = some (.int .i64 t) ∧ w'.cell? ⟨w.heap.size, 2, none⟩ = some (.slice al l.length cl)) (go_keep)
      ((first
          | (go_at_call 25; refine (toCyl_any s t (Rd.below hl (Below.drew g_13)) hsl).mono ?_; rintro e wa ⟨va, rfl, hva, hba⟩; have q0 := kept_cell hba n0; have q1 := kept_cell hba n1; have q2 := kept_cell hba n2; have q3 := kept_cell hba n3; have q4 := kept_cell hba n4; have q5 := kept_cell hba n5)
          | (go_at_call 26; refine (eqCyl_same s t (Rd.of_own (ownS_below hX_13 (below_undrew hba))) (Rd.of_own hva)).mono ?_; rintro e wb ⟨rfl, hbb⟩; have r0 := old_cell hbb q0; have r1 := old_cell hbb q1; have r2 := old_cell hbb q2; have r3 := old_cell hbb q3; have r4 := old_cell hbb q4; have r5 := old_cell hbb q5)))
    have hbc := bstep (below_undrew hba) hbb
    clear q0 q1 q2 q3 q4 q5 r0 r1 r2 r3 r4 r5 n0 n1 n2 n3 n4 n5 hva hba hbb
    have bA_14 := bA_13.below hbc
    have bBX_14 := bBX_13.below hbc
    have hX_14 := ownS_below hX_13 hbc
    have g_14 := bstep g_13 hbc
    clear hbc bA_13 bBX_13 hX_13 g_13
    go_wp2
    go_ret
    exact ⟨rfl, g_14⟩
  · go_enter Try.func8, Try.ntmps8
    go_wp2_with fail
    rw [← hw0]
    clear hw0
    refine (szCyl_no s t hsl hml).mono ?_
    rintro e w1 ⟨rfl, hb1⟩
    have g1 := bstep g0 hb1
    clear bA_0 g0 hb1
    go_wp2
    go_ret
    exact ⟨rfl, g1⟩

end Go.Proofs.Ytpdjceafjdlknaa
