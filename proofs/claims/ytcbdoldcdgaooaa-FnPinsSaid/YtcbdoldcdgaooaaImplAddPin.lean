/- The contract of the program's AddPin. No condition. Made by mk_impladd.py. -/
import Derived.Test.YtcbdoldcdgaooaaMidKit
import Derived.Test.YtcbdoldcdgaooaaAddPinSpec
namespace Go.Proofs.Ytcbdoldcdgaooaa
open Go.ChangeShapes Go.WideShapes Go.ChangeAt Go.RowKit

set_option maxHeartbeats 8000000 in
set_option maxRecDepth 100000 in
theorem iaddpin_any {w : World} {v : Value} {l : List (Int × Int)} (s t : Int) (x : Int × Int) (h : RdC w v l) (hl : l.length ≤ 1048576) :
    Calls Try.prog 18 #[.agg #[.int .i64 s, .int .i64 t, v], .agg #[.int .i64 x.1, .int .i64 x.2]] w (NewCylB w s t (addP s t l x).1 (addP s t l x).2) := by
  obtain ⟨a1, cap1, rfl⟩ := Rd.slice h.1
  obtain ⟨W, hW⟩ : ∃ W, W = ((w.alloc (.cells #[.int .i64 s, .int .i64 t, .slice a1 l.length cap1] 26)).alloc (.cells #[.int .i64 x.1, .int .i64 x.2] 32)).alloc (.cells #[.int .i64 0, .int .i64 0, .slice none 0 0] 26) := ⟨_, rfl⟩
  have hsz : W.heap.size = w.heap.size + 1 + 1 + 1 := by rw [hW]; simp
  have hB : Below w.heap.size w W := by rw [hW]; exact (((Below.refl _ _).alloc (Nat.le_refl _) _).alloc (by simp) _).alloc (by simp; omega) _
  have hX : BoxW W w.heap.size (.int .i64 s) (.int .i64 t) (.slice a1 l.length cap1) := by
    rw [hW]; exact (boxw_new _ _ _ _ _).below (bstep ((Below.refl _ _).alloc (Nat.le_refl _) _) ((Below.refl _ _).alloc (Nat.le_refl _) _))
  have hp : W.cell? ⟨w.heap.size + 1, 0, none⟩ = some (.int .i64 x.1) ∧ W.cell? ⟨w.heap.size + 1, 1, none⟩ = some (.int .i64 x.2) := by rw [hW]; constructor <;> simp [go_sem]
  have hR : BoxW W (w.heap.size + 1 + 1) (.int .i64 0) (.int .i64 0) (.slice none 0 0) := by
    have := boxw_new ((w.alloc (.cells #[.int .i64 s, .int .i64 t, .slice a1 l.length cap1] 26)).alloc (.cells #[.int .i64 x.1, .int .i64 x.2] 32)) (.int .i64 0) (.int .i64 0) (.slice none 0 0) 26
    rw [size_alloc, size_alloc, ← hW] at this; exact this
  obtain ⟨bx, hbx⟩ : ∃ b, b = w.heap.size := ⟨_, rfl⟩
  have hle : w.heap.size ≤ bx := by omega
  rw [← hbx] at hX hR hsz hp
  obtain ⟨z0, z1⟩ := hp
  by_cases tc : cylB s t l = true
  · have TC := Lib.hid tc
    have hl100 := (cylB_true.1 tc).2.2.1
    have hsp := cyl_sp (cylB_true.1 tc)
    by_cases tx : x ∈ l
    · have HL := Lib.hid (show addP s t l x = (l, false) from addP_no fun k => (put_ok hsp).1 k.2.1 tx)
      have HX := Lib.hid (memB_true.2 tx)
      clear tc tx hsp
      go_enter Try.func18, Try.ntmps18
      go_wp2_with fail
      rw [← hW]
      simp only [← hbx]
      clear hW hbx
      refine (icyl_yes (Rd.below h.1 hB) TC.out).mono ?_
      rintro e w1 ⟨rfl, hb1⟩
      have hX1 := hX.below hb1
      have hR1 := hR.below hb1
      have p0 := old_cell hb1 z0
      have p1 := old_cell hb1 z1
      have g1 := bstep hB hb1
      clear hX hR hB hb1 hsz z0 z1
      obtain ⟨k0, k1, k2⟩ := id hX1.2.1
      go_wp2_with fail
      refine (containsP_yes (Rd.below h.1 g1) hl HX.out).mono ?_
      rintro e w2 ⟨rfl, hb2⟩
      have hX2 := hX1.below hb2
      have hR2 := hR1.below hb2
      have p2 := old_cell hb2 p0
      have p3 := old_cell hb2 p1
      have g2 := bstep g1 hb2
      clear hX1 hR1 g1 hb2 p0 p1 k0 k1 k2
      obtain ⟨k0, k1, k2⟩ := id hX2.2.1
      go_wp2_with fail
      refine (unchanged_any s t (Rd.below h.1 g2) hl).mono ?_
      rintro e w8 ⟨v3, rfl, ho3, hb3⟩
      obtain ⟨a3, cap3, rfl⟩ := ownS_slice ho3
      have hR3 := hR2.below hb3
      have g3 := bstep g2 hb3
      obtain ⟨d0, d1, d2⟩ := id hR3.2.1
      have f0 := hR3.2.2 0
      have f1 := hR3.2.2 1
      have f2 := hR3.2.2 2
      have hq := read3 hR3 (.int .i64 s) (.int .i64 t) (.slice a3 l.length cap3)
      have ho9 := own_low (wr3_own ho3 (ob_of_lt ho3 (show bx + 1 + 1 < w2.heap.size from hR2.1)) (.int .i64 s) (.int .i64 t) (.slice a3 l.length cap3)) (show w.heap.size ≤ w2.heap.size from g2.size)
      have hb9 := wr3_below g3 (show w.heap.size ≤ bx + 1 + 1 by omega) (.int .i64 s) (.int .i64 t) (.slice a3 l.length cap3)
      clear k0 k1 k2 hX2 hR2 ho3 hb3 hR3 g3
      go_wp2
      exact bodyPost_ret (v := .tuple #[.agg #[.int .i64 s, .int .i64 t, .slice a3 l.length cap3], .bool false]) (by simp [results, Try.results18, go_sem, hq.1, hq.2.1, hq.2.2]) rfl ⟨_, by rw [HL.out], by rw [HL.out]; exact ho9, hb9⟩
    · have HX := Lib.hid (memB_false.2 tx)
      have hok := (put_ok hsp).2 tx
      have hMM : l.take (rankP l x) ++ [x] ++ l.drop (rankP l x) = (putP l x).1 := by rw [putP_out (fun k => tx (List.mem_of_getElem? k))]
      have HBS := Lib.hid (fun (W : World) (hW : Rd2 W (.slice a1 l.length cap1) l) => bsearchP_any x hW hl hsp tx)
      have hrl := rankP_le l x
      have hAY : cylB s t (putP l x).1 = true → addP s t l x = ((putP l x).1, true) := fun k => addP_yes tc hok k
      have hAN : ¬ cylB s t (putP l x).1 = true → addP s t l x = (l, false) := fun k => addP_no fun k' => k k'.2.2
      have HAY := Lib.hid hAY
      have HAN := Lib.hid hAN
      have hMl := putP_le l x
      clear tc tx hsp hok hAY hAN
      generalize (putP l x).1 = M at *
      obtain ⟨r, hr⟩ : ∃ r, r = rankP l x := ⟨_, rfl⟩
      rw [← hr] at hrl
      have HBS' := Lib.hid (show ∀ (W : World) (hW : Rd2 W (.slice a1 l.length cap1) l), _ from fun W hW => by have := HBS.out W hW; rw [← hr] at this; exact this)
      clear HBS
      go_enter Try.func18, Try.ntmps18
      go_wp2_with fail
      rw [← hW]
      simp only [← hbx]
      clear hW hbx
      refine (icyl_yes (Rd.below h.1 hB) TC.out).mono ?_
      rintro e w1 ⟨rfl, hb1⟩
      have hX1 := hX.below hb1
      have hR1 := hR.below hb1
      have p0 := old_cell hb1 z0
      have p1 := old_cell hb1 z1
      have g1 := bstep hB hb1
      clear hX hR hB hb1 hsz z0 z1
      obtain ⟨k0, k1, k2⟩ := id hX1.2.1
      go_wp2_with fail
      refine (containsP_no (Rd.below h.1 g1) hl HX.out).mono ?_
      rintro e w2 ⟨rfl, hb2⟩
      have hX2 := hX1.below hb2
      have hR2 := hR1.below hb2
      have p2 := old_cell hb2 p0
      have p3 := old_cell hb2 p1
      have g2 := bstep g1 hb2
      clear hX1 hR1 g1 hb2 p0 p1 k0 k1 k2
      obtain ⟨k0, k1, k2⟩ := id hX2.2.1
      go_wp2_with fail
      refine (HBS'.out _ (Rd.below h.1 g2)).mono ?_
      rintro e w5 ⟨rfl, hb5⟩
      have hX5 := hX2.below hb5
      have hR5 := hR2.below hb5
      have p4 := old_cell hb5 p2
      have p5 := old_cell hb5 p3
      have g5 := bstep g2 hb5
      clear hX2 hR2 g2 hb5 p2 p3 k0 k1 k2 HBS'
      have hl1 : l.length ≤ 1000 := by omega
      have HM := Lib.hid (show l.take r ++ [x] ++ l.drop r = M from by rw [← hMM, hr])
      obtain ⟨n0, n1, n2⟩ := id hX5.2.1
      have n3 := p4
      have n4 := p5
      have hbx5 : bx + 1 + 1 < w5.heap.size := hR5.1
      clear hMM hr
      have M0 := Lib.hid ((mid_0 w5 x).drew)
      have M1 := Lib.hid (((mid_0 w5 x).z rfl).drew)
      have M2 := Lib.hid (((mid_0 w5 x).p rfl).drew)
      have M3 := Lib.hid ((((mid_0 w5 x).z rfl).p (size_alloc _ _)).drew)
      have M4 := Lib.hid ((((mid_0 w5 x).p rfl).z (size_alloc _ _)).drew)
      have HC0 := Lib.hid (cloneP_any (Rd.below h.1 (bstep g5 M0.out.1)) hl)
      have HC1 := Lib.hid (cloneP_any (Rd.below h.1 (bstep g5 M1.out.1)) hl)
      have HC2 := Lib.hid (cloneP_any (Rd.below h.1 (bstep g5 M2.out.1)) hl)
      have HC3 := Lib.hid (cloneP_any (Rd.below h.1 (bstep g5 M3.out.1)) hl)
      have HC4 := Lib.hid (cloneP_any (Rd.below h.1 (bstep g5 M4.out.1)) hl)
      go_wp2_with fail
      apply cut_rule
      · intro HCUT
        go_region_held3 (fun w' => w'.cell? ⟨bx, 0, none⟩ = some (.int .i64 s) ∧ w'.cell? ⟨bx, 1, none⟩ = some (.int .i64 t) ∧ w'.cell? ⟨bx, 2, none⟩ = some (.slice a1 l.length cap1) ∧ w'.cell? ⟨bx + 1, 0, none⟩ = some (.int .i64 x.1) ∧ w'.cell? ⟨bx + 1, 1, none⟩ = some (.int .i64 x.2)) (go_keep)
          ((first
              | (go_at_call 70; (first | ((with_reducible refine HC0.out.mono ?_); rintro e w6 ⟨v6, rfl, ho6, hb6⟩; have N6 := mid_clone M0.out ho6 hb6) | ((with_reducible refine HC1.out.mono ?_); rintro e w6 ⟨v6, rfl, ho6, hb6⟩; have N6 := mid_clone M1.out ho6 hb6) | ((with_reducible refine HC2.out.mono ?_); rintro e w6 ⟨v6, rfl, ho6, hb6⟩; have N6 := mid_clone M2.out ho6 hb6) | ((with_reducible refine HC3.out.mono ?_); rintro e w6 ⟨v6, rfl, ho6, hb6⟩; have N6 := mid_clone M3.out ho6 hb6) | ((with_reducible refine HC4.out.mono ?_); rintro e w6 ⟨v6, rfl, ho6, hb6⟩; have N6 := mid_clone M4.out ho6 hb6)); have G6 := N6.1.1; have q0 := old_cell G6 n0; have q1 := old_cell G6 n1; have q2 := old_cell G6 n2; have q3 := old_cell G6 n3; have q4 := old_cell G6 n4)
              | (go_at_call 69; (first | (with_reducible refine (mid_ins (N6) hl1 hrl HM.out).mono ?_) | (with_reducible refine (mid_ins (N6.z rfl) hl1 hrl HM.out).mono ?_) | (with_reducible refine (mid_ins (N6.p rfl) hl1 hrl HM.out).mono ?_) | (with_reducible refine (mid_ins ((N6.z rfl).p (size_alloc _ _)) hl1 hrl HM.out).mono ?_) | (with_reducible refine (mid_ins ((N6.p rfl).z (size_alloc _ _)) hl1 hrl HM.out).mono ?_)); rintro e w7 ⟨v7, rfl, N7⟩; obtain ⟨a7, c7, rfl⟩ := ownS_slice N7.2.2; have G7 := N7.1; have r0 := old_cell G7 n0; have r1 := old_cell G7 n1; have r2 := old_cell G7 n2; have r3 := old_cell G7 n3; have r4 := old_cell G7 n4)
              | (go_at_call 64; (with_reducible refine (withpins_any _ _ _ _ _ _ _ _ _).mono ?_); rintro e w8 ⟨rfl, hb8⟩; (first | (have N8 := N7.below hb8) | (have N8 := (N7.z rfl).below hb8)); have G8 := N8.1; have u0 := old_cell G8 n0; have u1 := old_cell G8 n1; have u2 := old_cell G8 n2; have u3 := old_cell G8 n3; have u4 := old_cell G8 n4; (first | (have bz := N8.box; obtain ⟨-, ⟨e0, e1, e2⟩, zf⟩ := id bz; have zf0 := zf 0; have zf1 := zf 1; have zf2 := zf 2; have y0 := N8.far (s := s) (t := t) n0; have y1 := N8.far (s := s) (t := t) n1; have y2 := N8.far (s := s) (t := t) n2; have y3 := N8.far (s := s) (t := t) n3; have y4 := N8.far (s := s) (t := t) n4; have HF := N8.stored (s := s) (t := t)) | (have HF := N8.made (s := s) (t := t))))))
        · rename_i hHeld
          clear hHeld hb8 N8 G8 u0 u1 u2 u3 u4 N7 G7 r0 r1 r2 r3 r4 ho6 hb6 N6 G6 q0 q1 q2 q3 q4
          generalize w8.alloc (.cells #[.int .i64 s, .int .i64 t, .slice a7 M.length c7] 26) = W9 at HF ⊢
          generalize w8.heap.size = b9 at HF ⊢
          generalize w6.heap.size = b6
          revert HF; revert b9; revert W9; revert c7; revert a7; revert b6; revert v6
          exact HCUT.out
        all_goals exact HCUT.out v6 _ a7 c7 _ _ HF
      intro v6 b6 a7 c7 W9 b9 HF
      obtain ⟨hbF, hoF, hbd, hap, hge⟩ := HF
      clear M0 HC0 M1 HC1 M2 HC2 M3 HC3 M4 HC4 HM
      have hR9 := hR5.below hbd
      have g9 := bstep g5 hbd
      have hX9 := hX5.below hbd
      clear hX5 hR5 p4 p5 n0 n1 n2 n3 n4
      obtain ⟨-, m0, m1, m2⟩ := id hbF
      by_cases tm : cylB s t M = true
      · have HL := Lib.hid (HAY.out tm)
        go_wp2_with fail
        refine (icyl_yes (Rd.of_own hoF) tm).mono ?_
        rintro e w9 ⟨rfl, hb9⟩
        have hR8 := hR9.below hb9
        obtain ⟨-, j0, j1, j2⟩ := hbF.below hb9
        have ho8 := ownS_below hoF hb9
        have g8 := bstep g9 hb9
        obtain ⟨d0, d1, d2⟩ := id hR8.2.1
        have f0 := hR8.2.2 0
        have f1 := hR8.2.2 1
        have f2 := hR8.2.2 2
        have hq := read3 hR8 (.int .i64 s) (.int .i64 t) (.slice a7 M.length c7)
        have ho9 := own_low (wr3_own ho8 (ob_of_lt ho8 hbx5) (.int .i64 s) (.int .i64 t) (.slice a7 M.length c7)) (show w.heap.size ≤ w5.heap.size from g5.size)
        have hb8 := wr3_below g8 (show w.heap.size ≤ bx + 1 + 1 by omega) (.int .i64 s) (.int .i64 t) (.slice a7 M.length c7)
        clear hR8 hR9 hbF hoF ho8 g8 g9 hX9 hbd m0 m1 m2 hb9
        go_wp2
        exact bodyPost_ret (v := .tuple #[.agg #[.int .i64 s, .int .i64 t, .slice a7 M.length c7], .bool true]) (by simp [results, Try.results18, go_sem, hq.1, hq.2.1, hq.2.2]) rfl ⟨_, by rw [HL.out], by rw [HL.out]; exact ho9, hb8⟩
      · have HL := Lib.hid (HAN.out tm)
        have tm' : cylB s t M = false := by simpa using tm
        clear tm
        go_wp2_with fail
        refine (icyl_no (Rd.of_own hoF) tm').mono ?_
        rintro e w9 ⟨rfl, hb9⟩
        have hR8 := hR9.below hb9
        have hX8 := hX9.below hb9
        have g8 := bstep g9 hb9
        clear hR9 hX9 g9 hbF hoF hap hb9 hbd m0 m1 m2
        obtain ⟨k0, k1, k2⟩ := id hX8.2.1
        go_wp2_with fail
        refine (unchanged_any s t (Rd.below h.1 g8) hl).mono ?_
        rintro e w10 ⟨v3, rfl, ho3, hb3⟩
        obtain ⟨a3, cap3, rfl⟩ := ownS_slice ho3
        have hR3 := hR8.below hb3
        have g3 := bstep g8 hb3
        obtain ⟨d0, d1, d2⟩ := id hR3.2.1
        have f0 := hR3.2.2 0
        have f1 := hR3.2.2 1
        have f2 := hR3.2.2 2
        have hq := read3 hR3 (.int .i64 s) (.int .i64 t) (.slice a3 l.length cap3)
        have ho9 := own_low (wr3_own ho3 (ob_of_lt ho3 (show bx + 1 + 1 < w9.heap.size from hR8.1)) (.int .i64 s) (.int .i64 t) (.slice a3 l.length cap3)) (show w.heap.size ≤ w9.heap.size from g8.size)
        have hb9 := wr3_below g3 (show w.heap.size ≤ bx + 1 + 1 by omega) (.int .i64 s) (.int .i64 t) (.slice a3 l.length cap3)
        clear k0 k1 k2 hX8 hR8 ho3 hb3 hR3 g3
        go_wp2
        exact bodyPost_ret (v := .tuple #[.agg #[.int .i64 s, .int .i64 t, .slice a3 l.length cap3], .bool false]) (by simp [results, Try.results18, go_sem, hq.1, hq.2.1, hq.2.2]) rfl ⟨_, by rw [HL.out], by rw [HL.out]; exact ho9, hb9⟩
  · have HL := Lib.hid (show addP s t l x = (l, false) from addP_no fun k => tc k.1)
    have TC := Lib.hid (show cylB s t l = false by simpa using tc)
    clear tc
    go_enter Try.func18, Try.ntmps18
    go_wp2_with fail
    rw [← hW]
    simp only [← hbx]
    clear hW hbx
    refine (icyl_no (Rd.below h.1 hB) TC.out).mono ?_
    rintro e w1 ⟨rfl, hb1⟩
    have hX1 := hX.below hb1
    have hR1 := hR.below hb1
    have p0 := old_cell hb1 z0
    have p1 := old_cell hb1 z1
    have g1 := bstep hB hb1
    clear hX hR hB hb1 hsz z0 z1
    obtain ⟨k0, k1, k2⟩ := id hX1.2.1
    go_wp2_with fail
    refine (unchanged_any s t (Rd.below h.1 g1) hl).mono ?_
    rintro e w8 ⟨v3, rfl, ho3, hb3⟩
    obtain ⟨a3, cap3, rfl⟩ := ownS_slice ho3
    have hR3 := hR1.below hb3
    have g3 := bstep g1 hb3
    obtain ⟨d0, d1, d2⟩ := id hR3.2.1
    have f0 := hR3.2.2 0
    have f1 := hR3.2.2 1
    have f2 := hR3.2.2 2
    have hq := read3 hR3 (.int .i64 s) (.int .i64 t) (.slice a3 l.length cap3)
    have ho9 := own_low (wr3_own ho3 (ob_of_lt ho3 (show bx + 1 + 1 < w1.heap.size from hR1.1)) (.int .i64 s) (.int .i64 t) (.slice a3 l.length cap3)) (show w.heap.size ≤ w1.heap.size from g1.size)
    have hb9 := wr3_below g3 (show w.heap.size ≤ bx + 1 + 1 by omega) (.int .i64 s) (.int .i64 t) (.slice a3 l.length cap3)
    clear k0 k1 k2 hX1 hR1 ho3 hb3 hR3 g3
    go_wp2
    exact bodyPost_ret (v := .tuple #[.agg #[.int .i64 s, .int .i64 t, .slice a3 l.length cap3], .bool false]) (by simp [results, Try.results18, go_sem, hq.1, hq.2.1, hq.2.2]) rfl ⟨_, by rw [HL.out], by rw [HL.out]; exact ho9, hb9⟩
end Go.Proofs.Ytcbdoldcdgaooaa
