/- The contract of the program's ShiftedTracks. No condition. -/
import Derived.Test.YtemhmbaacpfnaaaImplPart
import Derived.Test.YtemhmbaacpfnaaaImplCyl
import Derived.Deep.CutRange
namespace Go.Proofs.Ytemhmbaacpfnaaa
open Go.ChangeShapes Go.WideShapes Go.ChangeAt Go.RowKit

set_option maxHeartbeats 4000000 in
set_option maxRecDepth 100000 in
theorem ishift_any {w : World} {v : Value} (c : Cyl) (d h : Int) (hc : Rd2 w v c.2.2) :
    Calls Try.prog 15 #[.agg #[.int .i64 c.1, .int .i64 c.2.1, v], .int .i64 d, .int .i64 h] w (NewCylO w (shO c d h)) := by
  obtain ⟨s, t, l⟩ := c
  simp only at hc ⊢
  obtain ⟨a1, cap1, rfl⟩ := Rd.slice hc
  have hm := hc.2.1
  unfold maxLen at hm
  obtain ⟨W0, hW0⟩ : ∃ W, W = (w.alloc (.cells #[.int .i64 s, .int .i64 t, .slice a1 l.length cap1] 26)).alloc (.cells #[.int .i64 0, .int .i64 0, .slice none 0 0] 26) := ⟨_, rfl⟩
  obtain ⟨W, hW⟩ : ∃ W, W = W0.alloc (.cells #[.int .i64 s, .int .i64 t, .slice a1 l.length cap1, .int .i64 d, .int .i64 h] 61) := ⟨_, rfl⟩
  have hs0 : W0.heap.size = w.heap.size + 1 + 1 := by rw [hW0]; simp
  have hbA : Below (w.alloc (.cells #[.int .i64 s, .int .i64 t, .slice a1 l.length cap1] 26)).heap.size (w.alloc (.cells #[.int .i64 s, .int .i64 t, .slice a1 l.length cap1] 26)) W0 := by rw [hW0]; exact (Below.refl _ _).alloc (Nat.le_refl _) _
  have hbB : Below W0.heap.size W0 W := by rw [hW]; exact (Below.refl _ _).alloc (Nat.le_refl _) _
  have hX : Box W w.heap.size s t (.slice a1 l.length cap1) := ((box_new _ _ _ _ _).below hbA).below hbB
  have hR : BoxW W (w.heap.size + 1) (.int .i64 0) (.int .i64 0) (.slice none 0 0) := by
    have := boxw_new (w.alloc (.cells #[.int .i64 s, .int .i64 t, .slice a1 l.length cap1] 26)) (.int .i64 0) (.int .i64 0) (.slice none 0 0) 26
    rw [size_alloc, ← hW0] at this; exact this.below hbB
  have hP : BoxP W (w.heap.size + 1 + 1) s t (.slice a1 l.length cap1) d h := by
    have := boxp_new W0 s t (.slice a1 l.length cap1) d h 61
    rw [hs0, ← hW] at this; exact this
  have hB : Below w.heap.size w W := bstep (bstep ((Below.refl _ _).alloc (Nat.le_refl _) _) hbA) hbB
  rw [hW0] at hW
  clear hbA hbB hs0 hW0
  go_enter Try.func15, Try.ntmps15
  go_wp2_with fail
  rw [← hW]
  clear hW
  obtain ⟨bx, hbx⟩ : ∃ b, b = w.heap.size := ⟨_, rfl⟩
  have hle : w.heap.size ≤ bx + 1 := by omega
  rw [← hbx] at hX hR hP
  simp only [← hbx]
  clear hbx
  by_cases tc : cylB s t l = true
  · have TC := Lib.hid tc
    have CC := Lib.hid (cylB_true.1 tc)
    have hl := (cylB_true.1 tc).2.2.1
    have ht := (cylB_true.1 tc).2.1
    clear tc
    refine (icyl_yes (Rd.below hc hB) TC.out).mono ?_
    rintro e w1 ⟨rfl, hb1⟩
    have hR1 := hR.below hb1
    have hP1 := hP.below hb1
    have g1 := bstep hB hb1
    clear hX hR hP hB hb1
    obtain ⟨-, n0, n1, n2, n3, n4⟩ := id hP1
    go_wp2_with fail
    clear n0 n1 n2 n3 n4
    by_cases tp : placeB d h = true
    · have TP := Lib.hid tp
      have td := (placeB_true.1 tp).1
      have th := (placeB_true.1 tp).2
      clear tp
      refine (place_yes TP.out s t a1 l.length cap1 w1).mono ?_
      rintro e w2 ⟨rfl, hb2⟩
      have hR2 := hR1.below hb2
      have hP2 := hP1.below hb2
      have g2 := bstep g1 hb2
      have hne : w2.heap.size ≠ bx + 1 + 1 := Nat.ne_of_gt hP2.1
      have hsz2 : bx + 1 + 1 < w2.heap.size := hP2.1
      have hsw2 : w.heap.size ≤ w2.heap.size := g2.size
      clear hR1 hP1 g1 hb2
      obtain ⟨-, n0, n1, n2, n3, n4⟩ := id hP2
      have HSP := Lib.hid (fun (X : World) (hX : Below w.heap.size w X) => spread_any (Rd.below hc hX) CC.out td th)
      have HY := Lib.hid (fun k4 => shO_yes (c := (s, t, l)) TC.out td th k4)
      have HN := Lib.hid (fun k4 => shO_no (c := (s, t, l)) (d := d) (h := h) k4)
      simp only at HY HN
      have hM100 : (shiftL d h l).length ≤ 100 := by rw [shift_len]; exact hl
      generalize shiftL d h l = M at *
      have gd0 : Below w.heap.size w w2.drew := Below.drew g2
      have gd1 : Below w.heap.size w (w2.alloc (.cells #[.int .i64 0, .int .i64 0, .slice none 0 0] 26)).drew := Below.drew (g2.alloc g2.size _)
      have gz : Below w2.heap.size w2 (w2.alloc (.cells #[.int .i64 0, .int .i64 0, .slice none 0 0] 26)).drew := below_a w2 (.cells #[.int .i64 0, .int .i64 0, .slice none 0 0] 26)
      go_upto_region 4 with fail
      go_cut [9] from 9 to 28 (fun s9 wx => ∃ (b : Nat) (a5 : Option Addr) (c5 : Nat), s9 = .pointer (some ⟨b, 0, none⟩) ∧ Laid w2 wx s 100 b (.slice a5 M.length c5) M)
      case first =>
        go_region_held3 (fun w' => w'.cell? ⟨bx + 1 + 1, 0, none⟩ = some (.int .i64 s) ∧ w'.cell? ⟨bx + 1 + 1, 1, none⟩ = some (.int .i64 t) ∧ w'.cell? ⟨bx + 1 + 1, 2, none⟩ = some (.slice a1 l.length cap1) ∧ w'.cell? ⟨bx + 1 + 1, 3, none⟩ = some (.int .i64 d) ∧ w'.cell? ⟨bx + 1 + 1, 4, none⟩ = some (.int .i64 h)) (go_keep)
          ((first
            | (go_at_call 44; refine (HSP.out _ (by first | exact gd0 | exact gd1)).mono ?_; rintro e w5 ⟨v5, rfl, ho5, hb5⟩; obtain ⟨a5, c5, rfl⟩ := ownS_slice ho5; have hB5 : Below w2.heap.size w2 w5 := (by first | exact below_undrew hb5 | exact bstep gz hb5); have u0 := old_cell hB5 n0; have u1 := old_cell hB5 n1; have u2 := old_cell hB5 n2; have u3 := old_cell hB5 n3; have u4 := old_cell hB5 n4; (first | (have bz := BoxW.below (show BoxW (w2.alloc (.cells #[.int .i64 0, .int .i64 0, .slice none 0 0] 26)).drew w2.heap.size (.int .i64 0) (.int .i64 0) (.slice none 0 0) from boxw_new w2 (.int .i64 0) (.int .i64 0) (.slice none 0 0) 26) hb5; obtain ⟨-, ⟨z0, z1, z2⟩, zf⟩ := id bz; have zf0 := zf 0; have zf1 := zf 1; have zf2 := zf 2; have y0 := (set3_cell w5 _ (.int .i64 s) (.int .i64 100) (.slice a5 M.length c5) hne).trans u0; have y1 := (set3_cell w5 _ (.int .i64 s) (.int .i64 100) (.slice a5 M.length c5) hne).trans u1; have y2 := (set3_cell w5 _ (.int .i64 s) (.int .i64 100) (.slice a5 M.length c5) hne).trans u2; have y3 := (set3_cell w5 _ (.int .i64 s) (.int .i64 100) (.slice a5 M.length c5) hne).trans u3; have y4 := (set3_cell w5 _ (.int .i64 s) (.int .i64 100) (.slice a5 M.length c5) hne).trans u4; have zk : (Value.slice a5 M.length c5).ownBlock ≠ some w2.heap.size := ob_of_lt ho5 (show w2.heap.size < (w2.alloc (.cells #[.int .i64 0, .int .i64 0, .slice none 0 0] 26)).heap.size by simp); have HF := laid_store (w0 := w2) (s := s) (t := 100) bz ho5 (show w2.heap.size ≤ (w2.alloc (.cells #[.int .i64 0, .int .i64 0, .slice none 0 0] 26)).drew.heap.size from gz.size) zk hB5 (Nat.le_refl _)) | (have HF := laid_alloc (w0 := w2) (s := s) (t := 100) 26 ho5 (Nat.le_refl _) hB5)))))
        all_goals
          go_wp2_with fail
          go_meet
          exact ⟨_, _, _, rfl, HF⟩
      case rest =>
        obtain ⟨b, a5, c5, rfl, hbo, ho, hbw, hk, hge⟩ := hcut
        have hR5 := hR2.below hbw
        have g5 := bstep g2 hbw
        clear hbw hR2 hP2 g2 gd0 gd1 gz n0 n1 n2 n3 n4 HSP
        obtain ⟨-, e0, e1, e2⟩ := id hbo
        go_wp2_with fail
        clear e0 e1 e2
        by_cases t3 : cylB s 100 M = true
        · have HM := Lib.hid (HY.out t3)
          refine (icyl_yes (Rd.of_own ho) t3).mono ?_
          rintro e w6 ⟨rfl, hb6⟩
          have hR6 := hR5.below hb6
          have hO6 := hbo.below hb6
          have g6 := bstep g5 hb6
          have ho6 := ownS_below ho hb6
          obtain ⟨d0, d1, d2⟩ := id hR6.2.1
          obtain ⟨-, j0, j1, j2⟩ := id hO6
          have f0 := hR6.2.2 0
          have f1 := hR6.2.2 1
          have f2 := hR6.2.2 2
          have hq := read3 hR6 (.int .i64 s) (.int .i64 100) (.slice a5 M.length c5)
          have hsz : bx + 1 < w2.heap.size := by clear HY HN HM; omega
          have ho7 := own_low (wr3_own ho6 (ob_of_lt ho6 hsz) (.int .i64 s) (.int .i64 100) (.slice a5 M.length c5)) (show w.heap.size ≤ w2.heap.size by omega)
          have hb7 := wr3_below g6 hle (.int .i64 s) (.int .i64 100) (.slice a5 M.length c5)
          clear hb6 hR5 hbo g5 ho ho6 t3 HY HN
          go_wp2
          refine bodyPost_ret (v := .tuple #[.agg #[.int .i64 s, .int .i64 100, .slice a5 M.length c5], .bool true]) (by simp [results, Try.results15, go_sem, hq.1, hq.2.1, hq.2.2]) rfl ?_
          rw [HM.out]
          exact ⟨_, rfl, ho7, hb7⟩
        · have HM := Lib.hid (HN.out fun k2 => t3 k2.2.2.2)
          refine (icyl_no (Rd.of_own ho) (by simpa using t3)).mono ?_
          rintro e w6 ⟨rfl, hb6⟩
          have hR6 := hR5.below hb6
          have g6 := bstep g5 hb6
          clear hb6 hR5 hbo g5 ho t3 HY HN
          obtain ⟨d0, d1, d2⟩ := id hR6.2.1
          have f0 := hR6.2.2 0
          have f1 := hR6.2.2 1
          have f2 := hR6.2.2 2
          have hq := read3 hR6 (.int .i64 0) (.int .i64 0) (.slice none 0 0)
          have hb9 := wr3_below g6 hle (.int .i64 0) (.int .i64 0) (.slice none 0 0)
          clear g6
          go_wp2
          refine bodyPost_ret (v := .tuple #[.agg #[.int .i64 0, .int .i64 0, .slice none 0 0], .bool false]) (by simp [results, Try.results15, go_sem, hq.1, hq.2.1, hq.2.2]) rfl ?_
          rw [HM.out]
          exact ⟨_, rfl, World.ownsRow_nil _ _ _ _, hb9⟩
    · have HM := Lib.hid (shO_no (c := (s, t, l)) (d := d) (h := h) fun k => tp (placeB_true.2 ⟨k.2.1, k.2.2.1⟩))
      have TP := Lib.hid (show placeB d h = false by simpa using tp)
      clear tp
      refine (place_no TP.out s t a1 l.length cap1 w1).mono ?_
      rintro e w2 ⟨rfl, hb2⟩
      have hR2 := hR1.below hb2
      have g2 := bstep g1 hb2
      clear hR1 hP1 g1 hb2
      obtain ⟨d0, d1, d2⟩ := id hR2.2.1
      have f0 := hR2.2.2 0
      have f1 := hR2.2.2 1
      have f2 := hR2.2.2 2
      have hq := read3 hR2 (.int .i64 0) (.int .i64 0) (.slice none 0 0)
      have hb9 := wr3_below g2 hle (.int .i64 0) (.int .i64 0) (.slice none 0 0)
      clear g2
      go_wp2
      refine bodyPost_ret (v := .tuple #[.agg #[.int .i64 0, .int .i64 0, .slice none 0 0], .bool false]) (by simp [results, Try.results15, go_sem, hq.1, hq.2.1, hq.2.2]) rfl ?_
      rw [HM.out]
      exact ⟨_, rfl, World.ownsRow_nil _ _ _ _, hb9⟩
  · have TC := Lib.hid (show cylB s t l = false by simpa using tc)
    have HM := Lib.hid (shO_no (c := (s, t, l)) (d := d) (h := h) fun k => tc k.1)
    refine (icyl_no (Rd.below hc hB) TC.out).mono ?_
    rintro e w1 ⟨rfl, hb1⟩
    have hR1 := hR.below hb1
    have g1 := bstep hB hb1
    clear hX hR hP hB hb1 tc
    obtain ⟨d0, d1, d2⟩ := id hR1.2.1
    have f0 := hR1.2.2 0
    have f1 := hR1.2.2 1
    have f2 := hR1.2.2 2
    have hq := read3 hR1 (.int .i64 0) (.int .i64 0) (.slice none 0 0)
    have hb9 := wr3_below g1 hle (.int .i64 0) (.int .i64 0) (.slice none 0 0)
    clear g1
    go_wp2
    refine bodyPost_ret (v := .tuple #[.agg #[.int .i64 0, .int .i64 0, .slice none 0 0], .bool false]) (by simp [results, Try.results15, go_sem, hq.1, hq.2.1, hq.2.2]) rfl ?_
    rw [HM.out]
    exact ⟨_, rfl, World.ownsRow_nil _ _ _ _, hb9⟩
end Go.Proofs.Ytemhmbaacpfnaaa
