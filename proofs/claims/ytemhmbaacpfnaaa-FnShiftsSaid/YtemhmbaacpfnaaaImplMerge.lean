/- The contract of the program's Merge. No condition. -/
import Derived.Test.YtemhmbaacpfnaaaShiftSpec
import Derived.Test.YtemhmbaacpfnaaaPinConcat
import Derived.Test.YtemhmbaacpfnaaaPinSort
import Derived.Test.YtemhmbaacpfnaaaImplWith
namespace Go.Proofs.Ytemhmbaacpfnaaa
open Go.ChangeShapes Go.WideShapes Go.ChangeAt Go.RowKit

set_option maxHeartbeats 4000000 in
set_option maxRecDepth 100000 in
theorem imerge_any {w : World} {va vb : Value} (a b : Cyl) (ha : Rd2 w va a.2.2) (hb : Rd2 w vb b.2.2) :
    Calls Try.prog 13 #[.agg #[.int .i64 a.1, .int .i64 a.2.1, va], .agg #[.int .i64 b.1, .int .i64 b.2.1, vb]] w (NewCylO w (mgO a b)) := by
  obtain ⟨sa, ta, la⟩ := a
  obtain ⟨sb, tb, lb⟩ := b
  simp only at ha hb ⊢
  obtain ⟨a1, cap1, rfl⟩ := Rd.slice ha
  obtain ⟨a2, cap2, rfl⟩ := Rd.slice hb
  have hma := ha.2.1
  have hmb := hb.2.1
  unfold maxLen at hma hmb
  obtain ⟨W0, hW0⟩ : ∃ W, W = (w.alloc (.cells #[.int .i64 sa, .int .i64 ta, .slice a1 la.length cap1] 26)).alloc (.cells #[.int .i64 sb, .int .i64 tb, .slice a2 lb.length cap2] 26) := ⟨_, rfl⟩
  obtain ⟨W, hW⟩ : ∃ W, W = W0.alloc (.cells #[.int .i64 0, .int .i64 0, .slice none 0 0] 26) := ⟨_, rfl⟩
  have hs0 : W0.heap.size = w.heap.size + 1 + 1 := by rw [hW0]; simp
  have hbA : Below (w.alloc (.cells #[.int .i64 sa, .int .i64 ta, .slice a1 la.length cap1] 26)).heap.size (w.alloc (.cells #[.int .i64 sa, .int .i64 ta, .slice a1 la.length cap1] 26)) W0 := by rw [hW0]; exact (Below.refl _ _).alloc (Nat.le_refl _) _
  have hbB : Below W0.heap.size W0 W := by rw [hW]; exact (Below.refl _ _).alloc (Nat.le_refl _) _
  have hX : Box W w.heap.size sa ta (.slice a1 la.length cap1) := ((box_new _ _ _ _ _).below hbA).below hbB
  have hY : Box W (w.heap.size + 1) sb tb (.slice a2 lb.length cap2) := by
    have := box_new (w.alloc (.cells #[.int .i64 sa, .int .i64 ta, .slice a1 la.length cap1] 26)) sb tb (.slice a2 lb.length cap2) 26
    rw [size_alloc, ← hW0] at this; exact this.below hbB
  have hR : BoxW W (w.heap.size + 1 + 1) (.int .i64 0) (.int .i64 0) (.slice none 0 0) := by
    have := boxw_new W0 (.int .i64 0) (.int .i64 0) (.slice none 0 0) 26
    rw [hs0, ← hW] at this; exact this
  have hB : Below w.heap.size w W := bstep (bstep ((Below.refl _ _).alloc (Nat.le_refl _) _) hbA) hbB
  rw [hW0] at hW
  clear hbA hbB hs0 hW0
  go_enter Try.func13, Try.ntmps13
  go_wp2_with fail
  rw [← hW]
  clear hW
  obtain ⟨bx, hbx⟩ : ∃ b, b = w.heap.size := ⟨_, rfl⟩
  have hle : w.heap.size ≤ bx + 1 + 1 := by omega
  rw [← hbx] at hX hY hR
  simp only [← hbx]
  clear hbx
  by_cases tca : cylB sa ta la = true
  · have TCA := Lib.hid tca
    have hla := (cylB_true.1 tca).2.2.1
    clear tca
    refine (icyl_yes (Rd.below ha hB) TCA.out).mono ?_
    rintro e w1 ⟨rfl, hb1⟩
    have hX1 := hX.below hb1
    have hY1 := hY.below hb1
    have hR1 := hR.below hb1
    have g1 := bstep hB hb1
    clear hX hY hR hB hb1
    obtain ⟨-, c0, c1, c2⟩ := id hX1
    obtain ⟨-, m0, m1, m2⟩ := id hY1
    go_wp2_with fail
    clear c0 c1 c2 m0 m1 m2
    by_cases tcb : cylB sb tb lb = true
    · have TCB := Lib.hid tcb
      have hlb := (cylB_true.1 tcb).2.2.1
      clear tcb
      refine (icyl_yes (Rd.below hb g1) TCB.out).mono ?_
      rintro e w2 ⟨rfl, hb2⟩
      have hX2 := hX1.below hb2
      have hY2 := hY1.below hb2
      have hR2 := hR1.below hb2
      have g2 := bstep g1 hb2
      clear hX1 hY1 hR1 g1 hb2
      obtain ⟨-, c0, c1, c2⟩ := id hX2
      obtain ⟨-, m0, m1, m2⟩ := id hY2
      by_cases hs : sa = sb
      · by_cases ht : ta = tb
        · have hsb : (sa != sb) = false := by simp [hs]
          have htb : (ta != tb) = false := by simp [ht]
          have HCOND := Lib.hid (show cylB sa ta la = true ∧ cylB sb tb lb = true ∧ sa = sb ∧ ta = tb from ⟨TCA.out, TCB.out, hs, ht⟩)
          have HMG := Lib.hid (mgO_merge (a := (sa, ta, la)) (b := (sb, tb, lb)) HCOND.out)
          simp only at HMG
          clear hs ht
          go_wp2_with fail
          obtain ⟨W3, hW3⟩ : ∃ W3, W3 = w2.alloc (.cells #[.slice a1 la.length cap1, .slice a2 lb.length cap2] 24) := ⟨_, rfl⟩
          have hb3 : Below w2.heap.size w2 W3 := by rw [hW3]; exact (Below.refl _ _).alloc (Nat.le_refl _) _
          have z0 : W3.cell? ⟨w2.heap.size, 0, none⟩ = some (.slice a1 la.length cap1) := by rw [hW3]; exact cell0 _ _ _ _
          have z1 : W3.cell? ⟨w2.heap.size, 1, none⟩ = some (.slice a2 lb.length cap2) := by rw [hW3]; exact cell0 _ _ _ _
          rw [← hW3]
          clear hW3
          have hX3 := hX2.below hb3
          have hR3 := hR2.below hb3
          have g3 := bstep g2 hb3
          clear hX2 hY2 hR2 g2 hb3 c0 c1 c2 m0 m1 m2
          refine (concatP_any z0 z1 (Rd.below ha g3) (Rd.below hb g3) (by omega) (by omega)).mono ?_
          rintro e w4 ⟨v4, rfl, ho4, hb4⟩
          have hX4 := hX3.below hb4
          have hR4 := hR3.below hb4
          have g4 := bstep g3 hb4
          have hsz3 := hR3.1
          have hxz3 := hX3.1
          clear hX3 hR3 g3 hb4 z0 z1
          have HLL := Lib.hid (show (la ++ lb).length ≤ 1048576 by rw [List.length_append]; omega)
          have HML := Lib.hid (mergeP_len (la ++ lb))
          have hs4 : w.heap.size ≤ w4.heap.size := g4.size
          go_wp2_with fail
          refine (sortfP_any ho4 HLL.out).mono ?_
          rintro e w5 ⟨rfl, hg5, ho5⟩
          have hX5 := hX4.grown hg5 (fun e => by have := (ho4.lt bx e.symm).1; omega)
          have hR5 := hR4.grown hg5 (fun e => by have := (ho4.lt (bx + 1 + 1) e.symm).1; omega)
          have g5 := g4.grown hg5 hs4 (fun k hk => Nat.le_trans (by omega) (ho4.lt k hk).1)
          have ho5' : w5.ownsRow W3.heap.size 34 2 v4 (mergeP (la ++ lb)).length (flat2 (mergeP (la ++ lb))) := by rw [HML.out]; exact ho5
          clear hX4 hR4 g4 hg5 ho4 ho5 HLL HML hs4
          generalize mergeP (la ++ lb) = M at *
          obtain ⟨a5, c5, rfl⟩ := ownS_slice ho5'
          obtain ⟨-, c0, c1, c2⟩ := id hX5
          go_wp2_with fail
          refine (withpins_any sa ta a1 a5 la.length cap1 M.length c5 w5).mono ?_
          rintro e w6 ⟨rfl, hb6⟩
          have hR6 := hR5.below hb6
          have g6 := bstep g5 hb6
          have ho6 := ownS_below ho5' hb6
          clear hX5 hR5 g5 hb6 ho5' c0 c1 c2
          obtain ⟨W7, hW7⟩ : ∃ W7, W7 = w6.alloc (.cells #[.int .i64 sa, .int .i64 ta, .slice a5 M.length c5] 26) := ⟨_, rfl⟩
          have hb7 : Below w6.heap.size w6 W7 := by rw [hW7]; exact (Below.refl _ _).alloc (Nat.le_refl _) _
          have hO7 : Box W7 w6.heap.size sa ta (.slice a5 M.length c5) := by rw [hW7]; exact box_new _ _ _ _ _
          have hR7 := hR6.below hb7
          have g7 := bstep g6 hb7
          have ho7 := ownS_below ho6 hb7
          go_wp2_with fail
          rw [← hW7]
          clear hW7 hR6 g6 ho6 hb7
          by_cases t3 : cylB sa ta M = true
          · have HM := Lib.hid (HMG.out.trans (if_pos t3))
            refine (icyl_yes (Rd.of_own ho7) t3).mono ?_
            rintro e w8 ⟨rfl, hb8⟩
            have hR8 := hR7.below hb8
            have hO8 := hO7.below hb8
            have g8 := bstep g7 hb8
            have ho8 := ownS_below ho7 hb8
            obtain ⟨d0, d1, d2⟩ := id hR8.2.1
            obtain ⟨-, j0, j1, j2⟩ := id hO8
            have f0 := hR8.2.2 0
            have f1 := hR8.2.2 1
            have f2 := hR8.2.2 2
            have hq := read3 hR8 (.int .i64 sa) (.int .i64 ta) (.slice a5 M.length c5)
            have ho9 := own_low (wr3_own ho8 (ob_of_lt ho8 hsz3) (.int .i64 sa) (.int .i64 ta) (.slice a5 M.length c5)) (show w.heap.size ≤ W3.heap.size by omega)
            have hb9 := wr3_below g8 hle (.int .i64 sa) (.int .i64 ta) (.slice a5 M.length c5)
            clear hb8 hR7 hO7 g7 ho7 ho8 t3 HMG
            go_wp2
            refine bodyPost_ret (v := .tuple #[.agg #[.int .i64 sa, .int .i64 ta, .slice a5 M.length c5], .bool true]) (by simp [results, Try.results13, go_sem, hq.1, hq.2.1, hq.2.2]) rfl ?_
            rw [HM.out]
            exact ⟨_, rfl, ho9, hb9⟩
          · have HM := Lib.hid (HMG.out.trans (if_neg t3))
            refine (icyl_no (Rd.of_own ho7) (by simpa using t3)).mono ?_
            rintro e w8 ⟨rfl, hb8⟩
            have hR8 := hR7.below hb8
            have g8 := bstep g7 hb8
            clear hb8 hR7 hO7 g7 ho7 t3 HMG
            obtain ⟨d0, d1, d2⟩ := id hR8.2.1
            have f0 := hR8.2.2 0
            have f1 := hR8.2.2 1
            have f2 := hR8.2.2 2
            have hq := read3 hR8 (.int .i64 0) (.int .i64 0) (.slice none 0 0)
            have hb9 := wr3_below g8 hle (.int .i64 0) (.int .i64 0) (.slice none 0 0)
            clear g8
            go_wp2
            refine bodyPost_ret (v := .tuple #[.agg #[.int .i64 0, .int .i64 0, .slice none 0 0], .bool false]) (by simp [results, Try.results13, go_sem, hq.1, hq.2.1, hq.2.2]) rfl ?_
            rw [HM.out]
            exact ⟨_, rfl, World.ownsRow_nil _ _ _ _, hb9⟩
        · have hsb : (sa != sb) = false := by simp [hs]
          have htb : (ta != tb) = true := by simpa using ht
          have HM := Lib.hid (mgO_no (a := (sa, ta, la)) (b := (sb, tb, lb)) fun kk => ht kk.1.2.2.2)
          clear hs ht hX2 hY2
          obtain ⟨d0, d1, d2⟩ := id hR2.2.1
          have f0 := hR2.2.2 0
          have f1 := hR2.2.2 1
          have f2 := hR2.2.2 2
          have hq := read3 hR2 (.int .i64 0) (.int .i64 0) (.slice none 0 0)
          have hb9 := wr3_below g2 hle (.int .i64 0) (.int .i64 0) (.slice none 0 0)
          clear g2
          go_wp2
          refine bodyPost_ret (v := .tuple #[.agg #[.int .i64 0, .int .i64 0, .slice none 0 0], .bool false]) (by simp [results, Try.results13, go_sem, hq.1, hq.2.1, hq.2.2]) rfl ?_
          rw [HM.out]
          exact ⟨_, rfl, World.ownsRow_nil _ _ _ _, hb9⟩
      · have hsb : (sa != sb) = true := by simpa using hs
        have HM := Lib.hid (mgO_no (a := (sa, ta, la)) (b := (sb, tb, lb)) fun kk => hs kk.1.2.2.1)
        clear hs hX2 hY2
        obtain ⟨d0, d1, d2⟩ := id hR2.2.1
        have f0 := hR2.2.2 0
        have f1 := hR2.2.2 1
        have f2 := hR2.2.2 2
        have hq := read3 hR2 (.int .i64 0) (.int .i64 0) (.slice none 0 0)
        have hb9 := wr3_below g2 hle (.int .i64 0) (.int .i64 0) (.slice none 0 0)
        clear g2
        go_wp2
        refine bodyPost_ret (v := .tuple #[.agg #[.int .i64 0, .int .i64 0, .slice none 0 0], .bool false]) (by simp [results, Try.results13, go_sem, hq.1, hq.2.1, hq.2.2]) rfl ?_
        rw [HM.out]
        exact ⟨_, rfl, World.ownsRow_nil _ _ _ _, hb9⟩
    · have TCB := Lib.hid (show cylB sb tb lb = false by simpa using tcb)
      have HM := Lib.hid (mgO_no (a := (sa, ta, la)) (b := (sb, tb, lb)) fun kk => tcb kk.1.2.1)
      refine (icyl_no (Rd.below hb g1) TCB.out).mono ?_
      rintro e w2 ⟨rfl, hb2⟩
      have hR2 := hR1.below hb2
      have g2 := bstep g1 hb2
      clear hX1 hY1 hR1 g1 hb2 tcb
      obtain ⟨d0, d1, d2⟩ := id hR2.2.1
      have f0 := hR2.2.2 0
      have f1 := hR2.2.2 1
      have f2 := hR2.2.2 2
      have hq := read3 hR2 (.int .i64 0) (.int .i64 0) (.slice none 0 0)
      have hb9 := wr3_below g2 hle (.int .i64 0) (.int .i64 0) (.slice none 0 0)
      clear g2
      go_wp2
      refine bodyPost_ret (v := .tuple #[.agg #[.int .i64 0, .int .i64 0, .slice none 0 0], .bool false]) (by simp [results, Try.results13, go_sem, hq.1, hq.2.1, hq.2.2]) rfl ?_
      rw [HM.out]
      exact ⟨_, rfl, World.ownsRow_nil _ _ _ _, hb9⟩
  · have TCA := Lib.hid (show cylB sa ta la = false by simpa using tca)
    have HM := Lib.hid (mgO_no (a := (sa, ta, la)) (b := (sb, tb, lb)) fun kk => tca kk.1.1)
    refine (icyl_no (Rd.below ha hB) TCA.out).mono ?_
    rintro e w1 ⟨rfl, hb1⟩
    have hR1 := hR.below hb1
    have g1 := bstep hB hb1
    clear hX hY hR hB hb1 tca
    obtain ⟨d0, d1, d2⟩ := id hR1.2.1
    have f0 := hR1.2.2 0
    have f1 := hR1.2.2 1
    have f2 := hR1.2.2 2
    have hq := read3 hR1 (.int .i64 0) (.int .i64 0) (.slice none 0 0)
    have hb9 := wr3_below g1 hle (.int .i64 0) (.int .i64 0) (.slice none 0 0)
    clear g1
    go_wp2
    refine bodyPost_ret (v := .tuple #[.agg #[.int .i64 0, .int .i64 0, .slice none 0 0], .bool false]) (by simp [results, Try.results13, go_sem, hq.1, hq.2.1, hq.2.2]) rfl ?_
    rw [HM.out]
    exact ⟨_, rfl, World.ownsRow_nil _ _ _ _, hb9⟩
end Go.Proofs.Ytemhmbaacpfnaaa
