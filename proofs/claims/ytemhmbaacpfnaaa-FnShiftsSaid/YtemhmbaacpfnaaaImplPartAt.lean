/- The contract of the program's PartAt. No condition. -/
import Derived.Test.YtemhmbaacpfnaaaImplPart
import Derived.Test.YtemhmbaacpfnaaaImplCyl
import Derived.Deep.CutRange
namespace Go.Proofs.Ytemhmbaacpfnaaa
open Go.ChangeShapes Go.WideShapes Go.ChangeAt Go.RowKit

set_option maxHeartbeats 4000000 in
set_option maxRecDepth 100000 in
theorem ipart_any {w : World} {v : Value} (c : Cyl) (d h : Int) (hc : Rd2 w v c.2.2) :
    Calls Try.prog 12 #[.agg #[.int .i64 c.1, .int .i64 c.2.1, v], .int .i64 d, .int .i64 h] w (NewCylO w (ptO c d h)) := by
  obtain ⟨s, t, l⟩ := c
  simp only at hc ⊢
  obtain ⟨a1, cap1, rfl⟩ := Rd.slice hc
  have hm := hc.2.1
  unfold maxLen at hm
  obtain ⟨W0, hW0⟩ : ∃ W, W = (w.alloc (.cells #[.int .i64 s, .int .i64 t, .slice a1 l.length cap1] 26)).alloc (.cells #[.int .i64 0, .int .i64 0, .slice none 0 0] 26) := ⟨_, rfl⟩
  obtain ⟨W, hW⟩ : ∃ W, W = W0.alloc (.cells #[.int .i64 s, .int .i64 t, .slice a1 l.length cap1, .int .i64 d, .int .i64 h] 61) := ⟨_, rfl⟩
  have hs0 : W0.heap.size = w.heap.size + 1 + 1 := by rw [hW0]; simp
  have hbA : Below (w.alloc (.cells #[.int .i64 s, .int .i64 t, .slice a1 l.length cap1] 26)).heap.size (w.alloc (.cells #[.int .i64 s, .int .i64 t, .slice a1 l.length cap1] 26)) W0 := by rw [hW0]; exact (Below.refl _ _).alloc (Nat.le_refl _) _
  have hbB : Below W0.heap.size W0 W := by rw [hW]; exact (Below.refl _ _).alloc (Nat.le_refl _) _
  have hX : Box W w.heap.size s t (.slice a1 l.length cap1) := ((box_new _ _ _ _ _).below hbA).below hbB
  have hR : BoxW W (w.heap.size + 1) (.int .i64 0) (.int .i64 0) (.slice none 0 0) := by
    have := boxw_new (w.alloc (.cells #[.int .i64 s, .int .i64 t, .slice a1 l.length cap1] 26)) (.int .i64 0) (.int .i64 0) (.slice none 0 0) 26
    rw [size_alloc, ← hW0] at this; exact this.below hbB
  have hP : BoxP W (w.heap.size + 1 + 1) s t (.slice a1 l.length cap1) d h := by
    have := boxp_new W0 s t (.slice a1 l.length cap1) d h 61
    rw [hs0, ← hW] at this; exact this
  have hB : Below w.heap.size w W := bstep (bstep ((Below.refl _ _).alloc (Nat.le_refl _) _) hbA) hbB
  rw [hW0] at hW
  clear hbA hbB hs0 hW0
  go_enter Try.func12, Try.ntmps12
  go_wp2_with fail
  rw [← hW]
  clear hW
  obtain ⟨bx, hbx⟩ : ∃ b, b = w.heap.size := ⟨_, rfl⟩
  have hle : w.heap.size ≤ bx + 1 := by omega
  rw [← hbx] at hX hR hP
  simp only [← hbx]
  clear hbx
  by_cases tc : cylB s t l = true
  · have TC := Lib.hid tc
    have CC := Lib.hid (cylB_true.1 tc)
    have hl := (cylB_true.1 tc).2.2.1
    have ht := (cylB_true.1 tc).2.1
    clear tc
    refine (icyl_yes (Rd.below hc hB) TC.out).mono ?_
    rintro e w1 ⟨rfl, hb1⟩
    have hR1 := hR.below hb1
    have hP1 := hP.below hb1
    have g1 := bstep hB hb1
    clear hX hR hP hB hb1
    obtain ⟨-, n0, n1, n2, n3, n4⟩ := id hP1
    go_wp2_with fail
    clear n0 n1 n2 n3 n4
    by_cases tp : placeB d h = true
    · have TP := Lib.hid tp
      have td := (placeB_true.1 tp).1
      have th := (placeB_true.1 tp).2
      clear tp
      refine (place_yes TP.out s t a1 l.length cap1 w1).mono ?_
      rintro e w2 ⟨rfl, hb2⟩
      have hR2 := hR1.below hb2
      have hP2 := hP1.below hb2
      have g2 := bstep g1 hb2
      have hne : w2.heap.size ≠ bx + 1 + 1 := Nat.ne_of_gt hP2.1
      clear hR1 hP1 g1 hb2
      obtain ⟨-, n0, n1, n2, n3, n4⟩ := id hP2
      have HSP := Lib.hid (fun (X : World) (hX : Below w.heap.size w X) => gathered_any (Rd.below hc hX) CC.out td th)
      have HTR := Lib.hid (fun (X : World) => tracks_any (s := s) (h := h) (a := a1) (n := l.length) (c := cap1) ht td X)
      have HM := Lib.hid (ptO_yes (c := (s, t, l)) TC.out td th)
      simp only at HM
      generalize partL d h l = M at *
      generalize (t + d - 1) / d = T at *
      have gd0 : Below w.heap.size w w2.drew := Below.drew g2
      obtain ⟨d0, d1, d2⟩ := id hR2.2.1
      have f0 := hR2.2.2 0
      have f1 := hR2.2.2 1
      have f2 := hR2.2.2 2
      have hsz2 : bx + 1 < w2.heap.size := hR2.1
      have hne2 : bx + 1 ≠ bx + 1 + 1 := by omega
      go_wp2_with fail
      go_region_held3 (fun w' => w'.cell? ⟨bx + 1 + 1, 0, none⟩ = some (.int .i64 s) ∧ w'.cell? ⟨bx + 1 + 1, 1, none⟩ = some (.int .i64 t) ∧ w'.cell? ⟨bx + 1 + 1, 2, none⟩ = some (.slice a1 l.length cap1) ∧ w'.cell? ⟨bx + 1 + 1, 3, none⟩ = some (.int .i64 d) ∧ w'.cell? ⟨bx + 1 + 1, 4, none⟩ = some (.int .i64 h)) (go_keep)
        ((first
          | (go_at_call 36; refine (HTR.out _).mono ?_; rintro e wt ⟨rfl, hbt⟩; (first | (have hbZ := bstep hbg2 hbt; have hoZ := ownS_below hog hbt; have r0 := old_cell hbZ n0; have r1 := old_cell hbZ n1; have r2 := old_cell hbZ n2; have r3 := old_cell hbZ n3; have r4 := old_cell hbZ n4; have hRZ := hR2.below hbZ; obtain ⟨p0, p1, p2⟩ := id hRZ.2.1; have pf0 := hRZ.2.2 0; have pf1 := hRZ.2.2 1; have pf2 := hRZ.2.2 2; have hq := read3 hRZ (.int .i64 s) (.int .i64 T) (.slice ag M.length cg); have ho7 := own_low (wr3_own hoZ (ob_of_lt hoZ hsz2) (.int .i64 s) (.int .i64 T) (.slice ag M.length cg)) g2.size; have hb7 := wr3_below (bstep g2 hbZ) hle (.int .i64 s) (.int .i64 T) (.slice ag M.length cg); have y0 := (set3_cell _ (bx + 1) (.int .i64 s) (.int .i64 T) (.slice ag M.length cg) hne2).trans r0; have y1 := (set3_cell _ (bx + 1) (.int .i64 s) (.int .i64 T) (.slice ag M.length cg) hne2).trans r1; have y2 := (set3_cell _ (bx + 1) (.int .i64 s) (.int .i64 T) (.slice ag M.length cg) hne2).trans r2; have y3 := (set3_cell _ (bx + 1) (.int .i64 s) (.int .i64 T) (.slice ag M.length cg) hne2).trans r3; have y4 := (set3_cell _ (bx + 1) (.int .i64 s) (.int .i64 T) (.slice ag M.length cg) hne2).trans r4) | (have hbt2 := below_undrew hbt; have q0 := old_cell hbt2 n0; have q1 := old_cell hbt2 n1; have q2 := old_cell hbt2 n2; have q3 := old_cell hbt2 n3; have q4 := old_cell hbt2 n4)))
          | (go_at_call 37; refine (HSP.out _ (by first | exact gd0 | exact bstep g2 hbt2)).mono ?_; rintro e wg ⟨vg, rfl, hog, hbg⟩; obtain ⟨ag, cg, rfl⟩ := ownS_slice hog; (first | (have hbZ := bstep hbt2 hbg; have hoZ := own_low hog hbt2.size; have r0 := old_cell hbZ n0; have r1 := old_cell hbZ n1; have r2 := old_cell hbZ n2; have r3 := old_cell hbZ n3; have r4 := old_cell hbZ n4; have hRZ := hR2.below hbZ; obtain ⟨p0, p1, p2⟩ := id hRZ.2.1; have pf0 := hRZ.2.2 0; have pf1 := hRZ.2.2 1; have pf2 := hRZ.2.2 2; have hq := read3 hRZ (.int .i64 s) (.int .i64 T) (.slice ag M.length cg); have ho7 := own_low (wr3_own hoZ (ob_of_lt hoZ hsz2) (.int .i64 s) (.int .i64 T) (.slice ag M.length cg)) g2.size; have hb7 := wr3_below (bstep g2 hbZ) hle (.int .i64 s) (.int .i64 T) (.slice ag M.length cg); have y0 := (set3_cell _ (bx + 1) (.int .i64 s) (.int .i64 T) (.slice ag M.length cg) hne2).trans r0; have y1 := (set3_cell _ (bx + 1) (.int .i64 s) (.int .i64 T) (.slice ag M.length cg) hne2).trans r1; have y2 := (set3_cell _ (bx + 1) (.int .i64 s) (.int .i64 T) (.slice ag M.length cg) hne2).trans r2; have y3 := (set3_cell _ (bx + 1) (.int .i64 s) (.int .i64 T) (.slice ag M.length cg) hne2).trans r3; have y4 := (set3_cell _ (bx + 1) (.int .i64 s) (.int .i64 T) (.slice ag M.length cg) hne2).trans r4) | (have hbg2 := below_undrew hbg; have q0 := old_cell hbg2 n0; have q1 := old_cell hbg2 n1; have q2 := old_cell hbg2 n2; have q3 := old_cell hbg2 n3; have q4 := old_cell hbg2 n4)))))
      all_goals
        go_wp2
        refine bodyPost_ret (v := .tuple #[.agg #[.int .i64 s, .int .i64 T, .slice ag M.length cg], .bool true]) (by simp [results, Try.results12, go_sem, hq.1, hq.2.1, hq.2.2]) rfl ?_
        rw [HM.out]
        exact ⟨_, rfl, ho7, hb7⟩
    · have HM := Lib.hid (ptO_no (c := (s, t, l)) (d := d) (h := h) fun k => tp (placeB_true.2 ⟨k.2.1, k.2.2⟩))
      have TP := Lib.hid (show placeB d h = false by simpa using tp)
      clear tp
      refine (place_no TP.out s t a1 l.length cap1 w1).mono ?_
      rintro e w2 ⟨rfl, hb2⟩
      have hR2 := hR1.below hb2
      have g2 := bstep g1 hb2
      clear hR1 hP1 g1 hb2
      obtain ⟨d0, d1, d2⟩ := id hR2.2.1
      have f0 := hR2.2.2 0
      have f1 := hR2.2.2 1
      have f2 := hR2.2.2 2
      have hq := read3 hR2 (.int .i64 0) (.int .i64 0) (.slice none 0 0)
      have hb9 := wr3_below g2 hle (.int .i64 0) (.int .i64 0) (.slice none 0 0)
      clear g2
      go_wp2
      refine bodyPost_ret (v := .tuple #[.agg #[.int .i64 0, .int .i64 0, .slice none 0 0], .bool false]) (by simp [results, Try.results12, go_sem, hq.1, hq.2.1, hq.2.2]) rfl ?_
      rw [HM.out]
      exact ⟨_, rfl, World.ownsRow_nil _ _ _ _, hb9⟩
  · have TC := Lib.hid (show cylB s t l = false by simpa using tc)
    have HM := Lib.hid (ptO_no (c := (s, t, l)) (d := d) (h := h) fun k => tc k.1)
    refine (icyl_no (Rd.below hc hB) TC.out).mono ?_
    rintro e w1 ⟨rfl, hb1⟩
    have hR1 := hR.below hb1
    have g1 := bstep hB hb1
    clear hX hR hP hB hb1 tc
    obtain ⟨d0, d1, d2⟩ := id hR1.2.1
    have f0 := hR1.2.2 0
    have f1 := hR1.2.2 1
    have f2 := hR1.2.2 2
    have hq := read3 hR1 (.int .i64 0) (.int .i64 0) (.slice none 0 0)
    have hb9 := wr3_below g1 hle (.int .i64 0) (.int .i64 0) (.slice none 0 0)
    clear g1
    go_wp2
    refine bodyPost_ret (v := .tuple #[.agg #[.int .i64 0, .int .i64 0, .slice none 0 0], .bool false]) (by simp [results, Try.results12, go_sem, hq.1, hq.2.1, hq.2.2]) rfl ?_
    rw [HM.out]
    exact ⟨_, rfl, World.ownsRow_nil _ _ _ _, hb9⟩
end Go.Proofs.Ytemhmbaacpfnaaa
