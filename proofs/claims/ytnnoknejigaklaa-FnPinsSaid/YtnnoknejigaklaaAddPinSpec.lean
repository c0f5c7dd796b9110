/- The contract of the model's AddPin. No condition but the row's length. -/
import Derived.Test.YtnnoknejigaklaaBoxKit
namespace Go.Proofs.Ytnnoknejigaklaa
open Go.ChangeShapes Go.WideShapes Go.ChangeAt Go.RowKit

noncomputable def addP (s t : Int) (l : List (Int × Int)) (x : Int × Int) : List (Int × Int) × Bool := if cylB s t l = true ∧ (putP l x).2 = true ∧ cylB s t (putP l x).1 = true then ((putP l x).1, true) else (l, false)
theorem addP_yes {s t : Int} {l : List (Int × Int)} {x : Int × Int} (h1 : cylB s t l = true) (h2 : (putP l x).2 = true) (h3 : cylB s t (putP l x).1 = true) : addP s t l x = ((putP l x).1, true) := if_pos ⟨h1, h2, h3⟩
theorem addP_no {s t : Int} {l : List (Int × Int)} {x : Int × Int} (h : ¬ (cylB s t l = true ∧ (putP l x).2 = true ∧ cylB s t (putP l x).1 = true)) : addP s t l x = (l, false) := if_neg h
theorem addP_le (s t : Int) (l : List (Int × Int)) (x : Int × Int) (h : l.length ≤ 1048576) : (addP s t l x).1.length ≤ 1048576 := by
  unfold addP; split
  · rename_i k; have := (cylB_true.1 k.2.2).2.2.1; exact Nat.le_trans this (by omega)
  · exact h

set_option maxHeartbeats 4000000 in
theorem addpin_any {w : World} {v : Value} {l : List (Int × Int)} (s t : Int) (x : Int × Int) (h : RdC w v l) (hl : l.length ≤ 1048576) :
    Calls Try.prog 30 #[.agg #[.int .i64 s, .int .i64 t, v], .agg #[.int .i64 x.1, .int .i64 x.2]] w (NewCylB w s t (addP s t l x).1 (addP s t l x).2) := by
  obtain ⟨a1, cap1, rfl⟩ := Rd.slice h.1
  obtain ⟨W, hW⟩ : ∃ W, W = ((w.alloc (.cells #[.int .i64 s, .int .i64 t, .slice a1 l.length cap1] 26)).alloc (.cells #[.int .i64 x.1, .int .i64 x.2] 32)).alloc (.cells #[.int .i64 0, .int .i64 0, .slice none 0 0] 26) := ⟨_, rfl⟩
  have hsz : W.heap.size = w.heap.size + 1 + 1 + 1 := by rw [hW]; simp
  have hB : Below w.heap.size w W := by rw [hW]; exact (((Below.refl _ _).alloc (Nat.le_refl _) _).alloc (by simp) _).alloc (by simp; omega) _
  have hX : BoxW W w.heap.size (.int .i64 s) (.int .i64 t) (.slice a1 l.length cap1) := by
    rw [hW]; exact (boxw_new _ _ _ _ _).below (bstep ((Below.refl _ _).alloc (Nat.le_refl _) _) ((Below.refl _ _).alloc (Nat.le_refl _) _))
  have hp : W.cell? ⟨w.heap.size + 1, 0, none⟩ = some (.int .i64 x.1) ∧ W.cell? ⟨w.heap.size + 1, 1, none⟩ = some (.int .i64 x.2) := by rw [hW]; constructor <;> simp [go_sem]
  have hR : BoxW W (w.heap.size + 1 + 1) (.int .i64 0) (.int .i64 0) (.slice none 0 0) := by
    have := boxw_new ((w.alloc (.cells #[.int .i64 s, .int .i64 t, .slice a1 l.length cap1] 26)).alloc (.cells #[.int .i64 x.1, .int .i64 x.2] 32)) (.int .i64 0) (.int .i64 0) (.slice none 0 0) 26
    rw [size_alloc, size_alloc, ← hW] at this; exact this
  go_enter Try.func30, Try.ntmps30
  go_wp2_with fail
  rw [← hW]
  clear hW
  obtain ⟨bx, hbx⟩ : ∃ b, b = w.heap.size := ⟨_, rfl⟩
  have hle : w.heap.size ≤ bx := by omega
  rw [← hbx] at hX hR hp hsz
  simp only [← hbx]
  clear hbx
  refine (ccopy_any s t (Rd.below h.1 hB) hl).mono ?_
  rintro e w1 ⟨v1, rfl, ho1, hb1⟩
  obtain ⟨a2, cap2, rfl⟩ := ownS_slice ho1
  have hX1 := hX.below hb1
  have hR1 := hR.below hb1
  have p0 := old_cell hb1 hp.1
  have p1 := old_cell hb1 hp.2
  have g1 := bstep hB hb1
  have hlt1 : bx + 1 + 1 < W.heap.size := by omega
  have hsz1 : bx + 1 + 1 < w1.heap.size := hR1.1
  have hob1 := ob_of_lt ho1 hlt1
  have ho1' := own_low ho1 hB.size
  clear hX hR hp hb1 hB ho1 hsz
  have hb2 : Below w1.heap.size w1 (w1.alloc (.cells #[.int .i64 s, .int .i64 t, .slice a2 l.length cap2] 26)) := (Below.refl _ _).alloc (Nat.le_refl _) _
  have hO2 : BoxW (w1.alloc (.cells #[.int .i64 s, .int .i64 t, .slice a2 l.length cap2] 26)) w1.heap.size (.int .i64 s) (.int .i64 t) (.slice a2 l.length cap2) := boxw_new _ _ _ _ _
  have hX2 := hX1.below hb2
  have hR2 := hR1.below hb2
  obtain ⟨c0, c1, c2⟩ := id hX2.2.1
  go_wp2_with fail
  generalize w1.alloc (.cells #[.int .i64 s, .int .i64 t, .slice a2 l.length cap2] 26) = W2 at *
  obtain ⟨bo, hbo⟩ : ∃ b, b = w1.heap.size := ⟨_, rfl⟩
  have hboR : bo ≠ bx + 1 + 1 := by omega
  have hboX : bo ≠ bx := by omega
  have hboP : bo ≠ bx + 1 := by omega
  have hoblt : w.heap.size ≤ bo := by omega
  have hobo : (Value.slice a2 l.length cap2).ownBlock ≠ some bo := by rw [hbo]; exact fun e => by have := (ho1'.lt _ e).2; omega
  rw [← hbo] at hO2
  simp only [← hbo]
  clear hbo
  have q0 := old_cell hb2 p0
  have q1 := old_cell hb2 p1
  have g2 := bstep g1 hb2
  have ho2 := ownS_below ho1' hb2
  clear hX1 hR1 p0 p1 c0 c1 c2 g1 ho1' hb2
  by_cases tc : cylB s t l = true
  · have TC := Lib.hid tc
    have hl100 := (cylB_true.1 tc).2.2.1
    refine (cylok_yes (Rd.below h.1 g2) TC.out).mono ?_
    rintro e w3 ⟨rfl, hb3⟩
    have hX3 := hX2.below hb3
    have hR3 := hR2.below hb3
    have hO3 := hO2.below hb3
    have r0 := old_cell hb3 q0
    have r1 := old_cell hb3 q1
    have g3 := bstep g2 hb3
    clear hX2 hR2 hO2 q0 q1 g2 hb3 tc ho2 hobo hob1
    obtain ⟨c0, c1, c2⟩ := id hX3.2.1
    go_wp2_with fail
    refine (putspec_any x (h.below g3) (by omega)).mono ?_
    rintro e w4 ⟨v4, rfl, ho4, hb4⟩
    have hX4 := hX3.below hb4
    have hR4 := hR3.below hb4
    have hO4 := hO3.below hb4
    have g4 := bstep g3 hb4
    have hob4 := ob_of_lt ho4 hO3.1
    have hobR := ob_of_lt ho4 hR3.1
    have ho4' := own_low ho4 g3.size
    clear hX3 hR3 hO3 r0 r1 hb4 ho4 c0 c1 c2
    have hY := Lib.hid (fun (h2 : (putP l x).2 = true) (h3 : cylB s t (putP l x).1 = true) => addP_yes TC.out h2 h3)
    have hN := Lib.hid (fun k => addP_no (s := s) (t := t) (l := l) (x := x) k)
    generalize hM1 : (putP l x).1 = M at *
    generalize hM2 : (putP l x).2 = ok at *
    obtain ⟨a4, cap4, rfl⟩ := ownS_slice ho4'
    have hX5 := box_set_other hX4 hboX 2 (.slice a4 M.length cap4)
    have hR5 := box_set_other hR4 hboR 2 (.slice a4 M.length cap4)
    have hO5 := box_set2 hO4 (.slice a4 M.length cap4)
    have g5 : Below w.heap.size w (w4.setCell ⟨bo, 2, none⟩ (.slice a4 M.length cap4)) := g4.setCell hoblt _
    have ho5 := own_set' (p := ⟨bo, 2, none⟩) (u := .slice a4 M.length cap4) ho4' hob4
    obtain ⟨e0, e1, e2⟩ := id hO4.2.1
    have ef := hO4.2.2 2
    cases ok with
    | false =>
      have HA := Lib.hid (hN.out fun k => by cases k.2.1)
      clear hX4 hR4 g4 ho4' hM1 hM2
      obtain ⟨c0, c1, c2⟩ := id hX5.2.1
      go_wp2_with fail
      clear e0 e1 e2 ef hO4 hob4 hobR ho5
      generalize w4.setCell ⟨bo, 2, none⟩ (.slice a4 M.length cap4) = W5 at *
      refine (ccopy_any s t (Rd.below h.1 g5) hl).mono ?_
      rintro e w6 ⟨v6, rfl, ho6, hb6⟩
      obtain ⟨a6, cap6, rfl⟩ := ownS_slice ho6
      have hR6 := hR5.below hb6
      have g6 := bstep g5 hb6
      have hob6 := ob_of_lt ho6 hR5.1
      have ho6' := own_low ho6 g5.size
      obtain ⟨d0, d1, d2⟩ := id hR6.2.1
      have f0 := hR6.2.2 0
      have f1 := hR6.2.2 1
      have f2 := hR6.2.2 2
      have hq := read3 hR6 (.int .i64 s) (.int .i64 t) (.slice a6 l.length cap6)
      have ho7 := wr3_own ho6' hob6 (.int .i64 s) (.int .i64 t) (.slice a6 l.length cap6)
      have hb7 := wr3_below g6 (show w.heap.size ≤ bx + 1 + 1 by omega) (.int .i64 s) (.int .i64 t) (.slice a6 l.length cap6)
      clear ho6 hb6 hX5 hR5 hO5 g5 c0 c1 c2
      go_wp2
      exact bodyPost_ret (v := .tuple #[.agg #[.int .i64 s, .int .i64 t, .slice a6 l.length cap6], .bool false]) (by simp [results, Try.results30, go_sem, hq.1, hq.2.1, hq.2.2]) rfl ⟨_, by rw [HA.out], by rw [HA.out]; exact ho7, hb7⟩
    | true =>
      clear hX4 hR4 g4 ho4' hM1 hM2
      obtain ⟨k0, k1, k2⟩ := id hO5.2.1
      obtain ⟨c0, c1, c2⟩ := id hX5.2.1
      go_wp2_with fail
      clear e0 e1 e2 ef hO4
      generalize w4.setCell ⟨bo, 2, none⟩ (.slice a4 M.length cap4) = W5 at *
      by_cases t3 : cylB s t M = true
      · have HA := Lib.hid (hY.out (by trivial) t3)
        refine (cylok_yes (Rd.of_own ho5) t3).mono ?_
        rintro e w6 ⟨rfl, hb6⟩
        have hR6 := hR5.below hb6
        have hO6 := hO5.below hb6
        have g6 := bstep g5 hb6
        have ho6 := ownS_below ho5 hb6
        obtain ⟨d0, d1, d2⟩ := id hR6.2.1
        obtain ⟨j0, j1, j2⟩ := id hO6.2.1
        have f0 := hR6.2.2 0
        have f1 := hR6.2.2 1
        have f2 := hR6.2.2 2
        have hq := read3 hR6 (.int .i64 s) (.int .i64 t) (.slice a4 M.length cap4)
        have ho7 := wr3_own ho6 hobR (.int .i64 s) (.int .i64 t) (.slice a4 M.length cap4)
        have hb7 := wr3_below g6 (show w.heap.size ≤ bx + 1 + 1 by omega) (.int .i64 s) (.int .i64 t) (.slice a4 M.length cap4)
        clear hb6 hX5 hR5 hO5 g5 ho5 c0 c1 c2 k0 k1 k2 t3
        go_wp2
        exact bodyPost_ret (v := .tuple #[.agg #[.int .i64 s, .int .i64 t, .slice a4 M.length cap4], .bool true]) (by simp [results, Try.results30, go_sem, hq.1, hq.2.1, hq.2.2]) rfl ⟨_, by rw [HA.out], by rw [HA.out]; exact ho7, hb7⟩
      · have HA := Lib.hid (hN.out fun k => t3 k.2.2)
        refine (cylok_no (Rd.of_own ho5) (by simpa using t3)).mono ?_
        rintro e w6 ⟨rfl, hb6⟩
        replace hX5 := hX5.below hb6
        replace hR5 := hR5.below hb6
        replace hO5 := hO5.below hb6
        replace g5 := bstep g5 hb6
        obtain ⟨c0, c1, c2⟩ := id hX5.2.1
        clear k0 k1 k2 t3 ho5 hb6
        go_wp2_with fail
        refine (ccopy_any s t (Rd.below h.1 g5) hl).mono ?_
        rintro e w6 ⟨v6, rfl, ho6, hb6⟩
        obtain ⟨a6, cap6, rfl⟩ := ownS_slice ho6
        have hR6 := hR5.below hb6
        have g6 := bstep g5 hb6
        have hob6 := ob_of_lt ho6 hR5.1
        have ho6' := own_low ho6 g5.size
        obtain ⟨d0, d1, d2⟩ := id hR6.2.1
        have f0 := hR6.2.2 0
        have f1 := hR6.2.2 1
        have f2 := hR6.2.2 2
        have hq := read3 hR6 (.int .i64 s) (.int .i64 t) (.slice a6 l.length cap6)
        have ho7 := wr3_own ho6' hob6 (.int .i64 s) (.int .i64 t) (.slice a6 l.length cap6)
        have hb7 := wr3_below g6 (show w.heap.size ≤ bx + 1 + 1 by omega) (.int .i64 s) (.int .i64 t) (.slice a6 l.length cap6)
        clear ho6 hb6 hX5 hR5 hO5 g5 c0 c1 c2
        go_wp2
        exact bodyPost_ret (v := .tuple #[.agg #[.int .i64 s, .int .i64 t, .slice a6 l.length cap6], .bool false]) (by simp [results, Try.results30, go_sem, hq.1, hq.2.1, hq.2.2]) rfl ⟨_, by rw [HA.out], by rw [HA.out]; exact ho7, hb7⟩
  · have TC := Lib.hid (show cylB s t l = false by simpa using tc)
    have HA := Lib.hid (addP_no (x := x) (fun k => tc k.1))
    refine (cylok_no (Rd.below h.1 g2) TC.out).mono ?_
    rintro e w3 ⟨rfl, hb3⟩
    have hR3 := hR2.below hb3
    have hO3 := hO2.below hb3
    have g3 := bstep g2 hb3
    have ho3 := ownS_below ho2 hb3
    obtain ⟨c0, c1, c2⟩ := id hO3.2.1
    obtain ⟨d0, d1, d2⟩ := id hR3.2.1
    have f0 := hR3.2.2 0
    have f1 := hR3.2.2 1
    have f2 := hR3.2.2 2
    clear hX2 hR2 hO2 q0 q1 g2 hb3 tc ho2
    have hq := read3 hR3 (.int .i64 s) (.int .i64 t) (.slice a2 l.length cap2)
    have ho4 := wr3_own ho3 hob1 (.int .i64 s) (.int .i64 t) (.slice a2 l.length cap2)
    have hb4 := wr3_below g3 (show w.heap.size ≤ bx + 1 + 1 by omega) (.int .i64 s) (.int .i64 t) (.slice a2 l.length cap2)
    go_wp2
    refine bodyPost_ret (v := .tuple #[.agg #[.int .i64 s, .int .i64 t, .slice a2 l.length cap2], .bool false]) (by simp [results, Try.results30, go_sem, hq.1, hq.2.1, hq.2.2]) rfl ⟨_, by rw [HA.out], by rw [HA.out]; exact ho4, hb4⟩
end Go.Proofs.Ytnnoknejigaklaa
