/- The contract of the program's PullPin. No condition. Made by mk_implpull.py. -/
import Derived.Test.YtcbdoldcdgaooaaImplWith
import Derived.Test.YtcbdoldcdgaooaaPinDelete
import Derived.Test.YtcbdoldcdgaooaaPullSpec
namespace Go.Proofs.Ytcbdoldcdgaooaa
open Go.ChangeShapes Go.WideShapes Go.ChangeAt Go.RowKit

set_option maxHeartbeats 8000000 in
set_option maxRecDepth 100000 in
theorem ipull_any {w : World} {v : Value} {l : List (Int × Int)} (s t ki : Int) (h : RdC w v l) (hl : l.length ≤ 1048576) :
    Calls Try.prog 20 #[.agg #[.int .i64 s, .int .i64 t, v], .int .i64 ki] w (NewCylB w s t (pullP s t l ki).1 (pullP s t l ki).2) := by
  obtain ⟨a1, cap1, rfl⟩ := Rd.slice h.1
  obtain ⟨W, hW⟩ : ∃ W, W = (w.alloc (.cells #[.int .i64 s, .int .i64 t, .slice a1 l.length cap1] 26)).alloc (.cells #[.int .i64 0, .int .i64 0, .slice none 0 0] 26) := ⟨_, rfl⟩
  obtain ⟨hX, hR, hB, hsz⟩ := box_two (w := w) s t (.slice a1 l.length cap1) (.int .i64 0) (.int .i64 0) (.slice none 0 0) 26 26
  rw [← hW] at hX hR hB hsz
  obtain ⟨bx, hbx⟩ : ∃ b, b = w.heap.size := ⟨_, rfl⟩
  have hle : w.heap.size ≤ bx := by omega
  rw [← hbx] at hX hR hsz
  by_cases tc : cylB s t l = true
  · have TC := Lib.hid tc
    have hl100 := (cylB_true.1 tc).2.2.1
    by_cases t0 : ki < 0
    · have HL := Lib.hid (show pullP s t l ki = (l, false) from if_neg fun k => by omega)
      clear tc
      go_enter Try.func20, Try.ntmps20
      go_wp2_with fail
      rw [← hW]
      simp only [← hbx]
      clear hW hbx
      refine (icyl_yes (Rd.below h.1 hB) TC.out).mono ?_
      rintro e w1 ⟨rfl, hb1⟩
      have hX1 := hX.below hb1
      have hR1 := hR.below hb1
      have g1 := bstep hB hb1
      clear hX hR hB hb1 hsz
      obtain ⟨k0, k1, k2⟩ := id hX1.2.1
      go_wp2_with fail
      refine (unchanged_any s t (Rd.below h.1 g1) hl).mono ?_
      rintro e w3 ⟨v3, rfl, ho3, hb3⟩
      obtain ⟨a3, cap3, rfl⟩ := ownS_slice ho3
      have hR3 := hR1.below hb3
      have g3 := bstep g1 hb3
      obtain ⟨d0, d1, d2⟩ := id hR3.2.1
      have f0 := hR3.2.2 0
      have f1 := hR3.2.2 1
      have f2 := hR3.2.2 2
      have hq := read3 hR3 (.int .i64 s) (.int .i64 t) (.slice a3 l.length cap3)
      have ho9 := own_low (wr3_own ho3 (ob_of_lt ho3 (show bx + 1 < w1.heap.size from hR1.1)) (.int .i64 s) (.int .i64 t) (.slice a3 l.length cap3)) (show w.heap.size ≤ w1.heap.size from g1.size)
      have hb9 := wr3_below g3 (show w.heap.size ≤ bx + 1 by omega) (.int .i64 s) (.int .i64 t) (.slice a3 l.length cap3)
      clear k0 k1 k2 hX1 hR1 ho3 hb3 hR3 g3
      go_wp2
      exact bodyPost_ret (v := .tuple #[.agg #[.int .i64 s, .int .i64 t, .slice a3 l.length cap3], .bool false]) (by simp [results, Try.results20, go_sem, hq.1, hq.2.1, hq.2.2]) rfl ⟨_, by rw [HL.out], by rw [HL.out]; exact ho9, hb9⟩
    · obtain ⟨k, rfl⟩ := Int.eq_ofNat_of_zero_le (show 0 ≤ ki by omega)
      by_cases t1 : k < l.length
      · have HL := Lib.hid (show pullP s t l (k : Int) = (cutP l k, true) from if_pos ⟨tc, by omega, by omega⟩)
        have t1' : decide ((l.length : Int) ≤ (k : Int)) = false := decide_eq_false (by omega)
        have t1'' : decide (l.length ≤ k) = false := decide_eq_false (by omega)
        clear tc t0
        go_enter Try.func20, Try.ntmps20
        go_wp2_with fail
        rw [← hW]
        simp only [← hbx]
        clear hW hbx
        refine (icyl_yes (Rd.below h.1 hB) TC.out).mono ?_
        rintro e w1 ⟨rfl, hb1⟩
        have hX1 := hX.below hb1
        have hR1 := hR.below hb1
        have g1 := bstep hB hb1
        clear hX hR hB hb1 hsz
        obtain ⟨k0, k1, k2⟩ := id hX1.2.1
        have hkl : k < l.length := by omega
        have ek : IntKind.i64.wrap ((k : Int) + 1) = (k : Int) + 1 := IntWalk.i64_in _ (by omega)
        have HCL := Lib.hid (cloneP_any (Rd.below (Rd.below h.1 g1) (Below.refl w1.heap.size w1).drew) hl)
        have hWd : Below w1.heap.size w1 w1.drew := (Below.refl _ _).drew
        have hXd : BoxW w1.drew bx (.int .i64 s) (.int .i64 t) (.slice a1 l.length cap1) := hX1
        have hRd : BoxW w1.drew (bx + 1) (.int .i64 0) (.int .i64 0) (.slice none 0 0) := hR1
        have hbl : bx + 1 < w1.drew.heap.size := hRd.1
        go_wp2_with fail
        go_region_held3 (fun w' => w'.cell? ⟨bx, 0, none⟩ = some (.int .i64 s) ∧ w'.cell? ⟨bx, 1, none⟩ = some (.int .i64 t) ∧ w'.cell? ⟨bx, 2, none⟩ = some (.slice a1 l.length cap1)) (go_keep)
          ((first
              | (go_at_call 70; (with_reducible refine HCL.out.mono ?_); rintro e w3 ⟨v3, rfl, ho3, hb3⟩; have hX3 := hXd.below hb3; have hR3 := hRd.below hb3; have g3 := bstep (bstep g1 hWd) hb3; obtain ⟨q0, q1, q2⟩ := id hX3.2.1)
              | (go_at_call 71; (with_reducible refine (deleteP_any (i := k) ho3 hkl hl).mono ?_); rintro e w4 ⟨v4, rfl, ho4, hg4⟩; obtain ⟨a4, cap4, rfl⟩ := ownS_slice ho4; have hX4 := hX3.grown hg4 (Ne.symm (ob_of_lt ho3 (show bx < w1.drew.heap.size by omega))); have hR4 := hR3.grown hg4 (Ne.symm (ob_of_lt ho3 hbl)); have g4 := g3.grown hg4 g3.size (fun j hj => Nat.le_trans (show w.heap.size ≤ w1.drew.heap.size from g1.size) (ho3.lt j hj).1); obtain ⟨j0, j1, j2⟩ := id hX4.2.1)
              | (go_at_call 64; (with_reducible refine (withpins_any s t a1 a4 l.length cap1 (cutP l k).length cap4 w4).mono ?_); rintro e w5 ⟨rfl, hb5⟩; have hX5 := hX4.below hb5; have hR5 := hR4.below hb5; have g5 := bstep g4 hb5; have ho5 := ownS_below ho4 hb5; obtain ⟨r0, r1, r2⟩ := id hX5.2.1; obtain ⟨d0, d1, d2⟩ := id hR5.2.1; have f0 := hR5.2.2 0; have f1 := hR5.2.2 1; have f2 := hR5.2.2 2; have hq := read3 hR5 (.int .i64 s) (.int .i64 t) (.slice a4 (cutP l k).length cap4); obtain ⟨u0, u1, u2⟩ : _ ∧ _ ∧ _ := ⟨(set3_cell w5 (bx + 1) (.int .i64 s) (.int .i64 t) (.slice a4 (cutP l k).length cap4) (a := ⟨bx, 0, none⟩) (by show bx + 1 ≠ bx; omega)).trans r0, (set3_cell w5 (bx + 1) (.int .i64 s) (.int .i64 t) (.slice a4 (cutP l k).length cap4) (a := ⟨bx, 1, none⟩) (by show bx + 1 ≠ bx; omega)).trans r1, (set3_cell w5 (bx + 1) (.int .i64 s) (.int .i64 t) (.slice a4 (cutP l k).length cap4) (a := ⟨bx, 2, none⟩) (by show bx + 1 ≠ bx; omega)).trans r2⟩)))
        rename_i hHeld
        have ho9 := own_low (wr3_own ho5 (ob_of_lt ho5 hbl) (.int .i64 s) (.int .i64 t) (.slice a4 (cutP l k).length cap4)) (show w.heap.size ≤ w1.drew.heap.size from g1.size)
        have hb9 := wr3_below g5 (show w.heap.size ≤ bx + 1 by omega) (.int .i64 s) (.int .i64 t) (.slice a4 (cutP l k).length cap4)
        clear hHeld
        go_wp2
        exact bodyPost_ret (v := .tuple #[.agg #[.int .i64 s, .int .i64 t, .slice a4 (cutP l k).length cap4], .bool true]) (by simp [results, Try.results20, go_sem, hq.1, hq.2.1, hq.2.2]) rfl ⟨_, by rw [HL.out], by rw [HL.out]; exact ho9, hb9⟩
      · have HL := Lib.hid (show pullP s t l (k : Int) = (l, false) from if_neg fun k => by omega)
        have t1' : (l.length : Int) ≤ (k : Int) := by omega
        clear tc t0
        go_enter Try.func20, Try.ntmps20
        go_wp2_with fail
        rw [← hW]
        simp only [← hbx]
        clear hW hbx
        refine (icyl_yes (Rd.below h.1 hB) TC.out).mono ?_
        rintro e w1 ⟨rfl, hb1⟩
        have hX1 := hX.below hb1
        have hR1 := hR.below hb1
        have g1 := bstep hB hb1
        clear hX hR hB hb1 hsz
        obtain ⟨k0, k1, k2⟩ := id hX1.2.1
        go_wp2_with fail
        refine (unchanged_any s t (Rd.below h.1 g1) hl).mono ?_
        rintro e w3 ⟨v3, rfl, ho3, hb3⟩
        obtain ⟨a3, cap3, rfl⟩ := ownS_slice ho3
        have hR3 := hR1.below hb3
        have g3 := bstep g1 hb3
        obtain ⟨d0, d1, d2⟩ := id hR3.2.1
        have f0 := hR3.2.2 0
        have f1 := hR3.2.2 1
        have f2 := hR3.2.2 2
        have hq := read3 hR3 (.int .i64 s) (.int .i64 t) (.slice a3 l.length cap3)
        have ho9 := own_low (wr3_own ho3 (ob_of_lt ho3 (show bx + 1 < w1.heap.size from hR1.1)) (.int .i64 s) (.int .i64 t) (.slice a3 l.length cap3)) (show w.heap.size ≤ w1.heap.size from g1.size)
        have hb9 := wr3_below g3 (show w.heap.size ≤ bx + 1 by omega) (.int .i64 s) (.int .i64 t) (.slice a3 l.length cap3)
        clear k0 k1 k2 hX1 hR1 ho3 hb3 hR3 g3
        go_wp2
        exact bodyPost_ret (v := .tuple #[.agg #[.int .i64 s, .int .i64 t, .slice a3 l.length cap3], .bool false]) (by simp [results, Try.results20, go_sem, hq.1, hq.2.1, hq.2.2]) rfl ⟨_, by rw [HL.out], by rw [HL.out]; exact ho9, hb9⟩
  · have HL := Lib.hid (show pullP s t l ki = (l, false) from if_neg fun k => tc k.1)
    have TC := Lib.hid (show cylB s t l = false by simpa using tc)
    clear tc
    go_enter Try.func20, Try.ntmps20
    go_wp2_with fail
    rw [← hW]
    simp only [← hbx]
    clear hW hbx
    refine (icyl_no (Rd.below h.1 hB) TC.out).mono ?_
    rintro e w1 ⟨rfl, hb1⟩
    have hX1 := hX.below hb1
    have hR1 := hR.below hb1
    have g1 := bstep hB hb1
    clear hX hR hB hb1 hsz
    obtain ⟨k0, k1, k2⟩ := id hX1.2.1
    go_wp2_with fail
    refine (unchanged_any s t (Rd.below h.1 g1) hl).mono ?_
    rintro e w3 ⟨v3, rfl, ho3, hb3⟩
    obtain ⟨a3, cap3, rfl⟩ := ownS_slice ho3
    have hR3 := hR1.below hb3
    have g3 := bstep g1 hb3
    obtain ⟨d0, d1, d2⟩ := id hR3.2.1
    have f0 := hR3.2.2 0
    have f1 := hR3.2.2 1
    have f2 := hR3.2.2 2
    have hq := read3 hR3 (.int .i64 s) (.int .i64 t) (.slice a3 l.length cap3)
    have ho9 := own_low (wr3_own ho3 (ob_of_lt ho3 (show bx + 1 < w1.heap.size from hR1.1)) (.int .i64 s) (.int .i64 t) (.slice a3 l.length cap3)) (show w.heap.size ≤ w1.heap.size from g1.size)
    have hb9 := wr3_below g3 (show w.heap.size ≤ bx + 1 by omega) (.int .i64 s) (.int .i64 t) (.slice a3 l.length cap3)
    clear k0 k1 k2 hX1 hR1 ho3 hb3 hR3 g3
    go_wp2
    exact bodyPost_ret (v := .tuple #[.agg #[.int .i64 s, .int .i64 t, .slice a3 l.length cap3], .bool false]) (by simp [results, Try.results20, go_sem, hq.1, hq.2.1, hq.2.2]) rfl ⟨_, by rw [HL.out], by rw [HL.out]; exact ho9, hb9⟩
end Go.Proofs.Ytcbdoldcdgaooaa
