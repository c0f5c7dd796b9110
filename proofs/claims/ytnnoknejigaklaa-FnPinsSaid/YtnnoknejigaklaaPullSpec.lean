/- The contract of the model's PullPin. No condition but the row's length. -/
import Derived.Test.YtnnoknejigaklaaBoxKit
namespace Go.Proofs.Ytnnoknejigaklaa
open Go.ChangeShapes Go.WideShapes Go.ChangeAt Go.RowKit

noncomputable def pullP (s t : Int) (l : List (Int × Int)) (k : Int) : List (Int × Int) × Bool := if cylB s t l = true ∧ (0 ≤ k ∧ k ≤ (l.length : Int) - 1) then (cutP l k.toNat, true) else (l, false)
theorem pullP_le (s t : Int) (l : List (Int × Int)) (k : Int) (h : l.length ≤ 1048576) : (pullP s t l k).1.length ≤ 1048576 := by
  unfold pullP; split
  · exact Nat.le_trans (cutP_le _ _) h
  · exact h
theorem rd_pre {w : World} {g cap : Nat} {o : List (Int × Int)} (h : Rd2 w (.slice (some ⟨g, 0, none⟩) o.length cap) o) {a : Nat} (ha : a ≤ o.length) : Rd2 w (.slice (some ⟨g, 0, none⟩) a cap) (o.take a) := by
  have hl : (o.take a).length = a := by rw [List.length_take]; omega
  refine ⟨flat2_length _, by rw [hl]; exact Nat.le_trans ha h.2.1, ?_⟩
  by_cases h0 : a = 0
  · left; subst h0; exact ⟨by simp, some ⟨g, 0, none⟩, cap, by simp⟩
  · right
    refine ⟨g, 0, cap, by rw [hl], by omega, fun c hc => ?_⟩
    obtain ⟨u, hu⟩ : ∃ u, (flat2 (o.take a))[c]? = some u := ⟨_, List.getElem?_eq_getElem (by rw [flat2_length]; exact hc)⟩
    have := rd_take h a c u hu
    rw [hu, ← this, add_plain]
theorem rd_suf {w : World} {g cap : Nat} {o : List (Int × Int)} (h : Rd2 w (.slice (some ⟨g, 0, none⟩) o.length cap) o) {a c2 : Nat} (ha : a ≤ o.length) : Rd2 w (.slice (some ⟨g, a * 2, none⟩) (o.length - a) c2) (o.drop a) := by
  have hl : (o.drop a).length = o.length - a := by rw [List.length_drop]
  refine ⟨flat2_length _, by rw [hl]; have := h.2.1; omega, ?_⟩
  by_cases h0 : o.length - a = 0
  · left; exact ⟨by rw [hl, h0], some ⟨g, a * 2, none⟩, c2, by rw [h0]⟩
  · right
    refine ⟨g, a * 2, c2, by rw [hl], by omega, fun c hc => ?_⟩
    obtain ⟨u, hu⟩ : ∃ u, (flat2 (o.drop a))[c]? = some u := ⟨_, List.getElem?_eq_getElem (by rw [flat2_length]; exact hc)⟩
    have := rd_drop h a c u hu
    rw [hu, ← this, add_plain]
theorem rd_zero {w : World} (a : Option Addr) (cap : Nat) : Rd2 w (.slice a 0 cap) [] := ⟨rfl, Nat.zero_le _, Or.inl ⟨rfl, _, _, rfl⟩⟩
set_option maxHeartbeats 4000000 in
theorem pullpin_any {w : World} {v : Value} {l : List (Int × Int)} (s t ki : Int) (h : RdC w v l) (hl : l.length ≤ 1048576) :
    Calls Try.prog 33 #[.agg #[.int .i64 s, .int .i64 t, v], .int .i64 ki] w (NewCylB w s t (pullP s t l ki).1 (pullP s t l ki).2) := by
  have hC := h.2
  obtain ⟨a1, cap1, rfl⟩ := Rd.slice h.1
  obtain ⟨W, hW⟩ : ∃ W, W = (w.alloc (.cells #[.int .i64 s, .int .i64 t, .slice a1 l.length cap1] 26)).alloc (.cells #[.int .i64 0, .int .i64 0, .slice none 0 0] 26) := ⟨_, rfl⟩
  have hsz : W.heap.size = w.heap.size + 1 + 1 := by rw [hW]; simp
  have hB : Below w.heap.size w W := by rw [hW]; exact ((Below.refl _ _).alloc (Nat.le_refl _) _).alloc (by simp) _
  have hX : BoxW W w.heap.size (.int .i64 s) (.int .i64 t) (.slice a1 l.length cap1) := by
    rw [hW]; exact (boxw_new _ _ _ _ _).below ((Below.refl _ _).alloc (Nat.le_refl _) _)
  have hR : BoxW W (w.heap.size + 1) (.int .i64 0) (.int .i64 0) (.slice none 0 0) := by
    have := boxw_new (w.alloc (.cells #[.int .i64 s, .int .i64 t, .slice a1 l.length cap1] 26)) (.int .i64 0) (.int .i64 0) (.slice none 0 0) 26
    rw [size_alloc, ← hW] at this; exact this
  go_enter Try.func33, Try.ntmps33
  go_wp2_with fail
  rw [← hW]
  clear hW
  obtain ⟨bx, hbx⟩ : ∃ b, b = w.heap.size := ⟨_, rfl⟩
  have hle : w.heap.size ≤ bx := by omega
  rw [← hbx] at hX hR hsz
  simp only [← hbx]
  clear hbx
  refine (ccopy_any s t (Rd.below h.1 hB) hl).mono ?_
  rintro e w1 ⟨v1, rfl, ho1, hb1⟩
  obtain ⟨a2, cap2, rfl⟩ := ownS_slice ho1
  have hX1 := hX.below hb1
  have hR1 := hR.below hb1
  have g1 := bstep hB hb1
  have hlt1 : bx + 1 < W.heap.size := by omega
  have hsz1 : bx + 1 < w1.heap.size := hR1.1
  have hob1 := ob_of_lt ho1 hlt1
  have ho1' := own_low ho1 hB.size
  clear hX hR hb1 hB ho1 hsz
  have hb2 : Below w1.heap.size w1 (w1.alloc (.cells #[.int .i64 s, .int .i64 t, .slice a2 l.length cap2] 26)) := (Below.refl _ _).alloc (Nat.le_refl _) _
  have hO2 : BoxW (w1.alloc (.cells #[.int .i64 s, .int .i64 t, .slice a2 l.length cap2] 26)) w1.heap.size (.int .i64 s) (.int .i64 t) (.slice a2 l.length cap2) := boxw_new _ _ _ _ _
  have hX2 := hX1.below hb2
  have hR2 := hR1.below hb2
  obtain ⟨c0, c1, c2⟩ := id hX2.2.1
  go_wp2_with fail
  generalize w1.alloc (.cells #[.int .i64 s, .int .i64 t, .slice a2 l.length cap2] 26) = W2 at *
  obtain ⟨bo, hbo⟩ : ∃ b, b = w1.heap.size := ⟨_, rfl⟩
  have hboR : bo ≠ bx + 1 := by omega
  have hboX : bo ≠ bx := by omega
  have hoblt : w.heap.size ≤ bo := by omega
  rw [← hbo] at hO2
  simp only [← hbo]
  clear hbo
  have g2 := bstep g1 hb2
  have ho2 := ownS_below ho1' hb2
  clear hX1 hR1 c0 c1 c2 g1 ho1' hb2
  by_cases tc : cylB s t l = true
  · have TC := Lib.hid tc
    have hl100 := (cylB_true.1 tc).2.2.1
    refine (cylok_yes (Rd.below h.1 g2) TC.out).mono ?_
    rintro e w3 ⟨rfl, hb3⟩
    have hX3 := hX2.below hb3
    have elen : IntKind.i64.wrap ((l.length : Int) - 1) = (l.length : Int) - 1 := IntWalk.i64_in _ (by omega)
    obtain ⟨b0, b1, b2⟩ := id hX3.2.1
    by_cases tk : 0 ≤ ki ∧ ki ≤ (l.length : Int) - 1
    · have HA := Lib.hid (show pullP s t l ki = (cutP l ki.toNat, true) from if_pos ⟨tc, tk⟩)
      obtain ⟨k, rfl⟩ := Int.eq_ofNat_of_zero_le tk.1
      rw [Int.toNat_natCast] at HA
      have hkl : k < l.length := by omega
      rcases hC with hv | ⟨g, cap, hv, hc1, hc2⟩
      · simp only [Value.slice.injEq] at hv; omega
      simp only [Value.slice.injEq, true_and] at hv
      obtain ⟨rfl, rfl⟩ := hv
      have hg0 := h.1
      have hR3 := hR2.below hb3
      have hO3 := hO2.below hb3
      have g3 := bstep g2 hb3
      clear hX2 hR2 hO2 g2 hb3 ho2 tc
      go_wp2_with fail
      refine (in_yes _ _ _ tk _).mono ?_
      rintro e w9 ⟨rfl, rfl⟩
      unfold maxLen at hc2
      have hk1 : IntKind.i64.wrap ((k : Int) + 1) = (k : Int) + 1 := IntWalk.i64_in _ (by omega)
      have hk2 : (0 : Int) ≤ (k : Int) + 1 := by omega
      have hk3 : ((k : Int) + 1).toNat = k + 1 := by omega
      have hk4 : (k : Int) + 1 ≤ (l.length : Int) := by omega
      have hk5 : (k : Int) ≤ (cap1 : Int) := by omega
      have hk6 : (l.length : Int) ≤ (cap1 : Int) := by omega
      have hk7 : ¬ (cap1 = k) := by omega
      go_wp2_with fail
      by_cases hcz : cap1 = k + 1
      · have hcz' : (cap1 = k + 1) = True := eq_true hcz
        have hRW2 : Rd2 w3 (.slice (some ⟨g, 0, none⟩) (l.length - (k + 1)) (cap1 - (k + 1))) (l.drop (k + 1)) := by
          have e1 : l.drop (k + 1) = [] := List.drop_eq_nil_of_le (by omega)
          rw [e1, show l.length - (k + 1) = 0 by omega]; exact rd_zero _ _
        have HCZ := Lib.hid hcz
        clear hcz
        have hRW1 := rd_pre (Rd.below hg0 g3) (show k ≤ l.length by omega)
        obtain ⟨v4, w4, E1, ho4, hg4⟩ := append_rdP (xs := []) (start_aP w3) (Rd.below hRW1 (below_a w3 _)) (by rw [List.length_take]; omega) (below_a w3 (.cells #[] 32)).size
        have hb4 : Below w3.heap.size w3 w4 := (below_a w3 (.cells #[] 32)).grown hg4 (below_a w3 (.cells #[] 32)).size (fun j hj => ((start_aP w3).lt j hj).1)
        obtain ⟨v5, w5, E2, ho5, hg5⟩ := append_rdP (va := .slice (some ⟨g, 0, none⟩) (l.length - (k + 1)) (cap1 - (k + 1))) (l := l.drop (k + 1)) ho4 (Rd.below hRW2 hb4) (by rw [List.length_take, List.length_drop]; omega) hb4.size
        have hb5 : Below w3.heap.size w3 w5 := hb4.grown hg5 hb4.size (fun j hj => (ho4.lt j hj).1)
        have ho6 : w5.ownsRow w3.heap.size 32 2 v5 (cutP l k).length (flat2 (cutP l k)) := by
          have hlen : (cutP l k).length = 0 + (l.take k).length + (l.drop (k + 1)).length := by unfold cutP; rw [List.length_append]; omega
          rw [hlen]; simpa [cutP] using ho5
        clear hg4 hg5 ho5 ho4 hRW1
        have E1' := Lib.hid E1
        have E2' := Lib.hid E2
        clear E1 E2
        have hO4 := hO3.below hb5
        have hR4 := hR3.below hb5
        have hX4 := hX3.below hb5
        have g4 := bstep g3 hb5
        have m2 := hX3.2.1.2.2
        have m4 := old_cell hb4 m2
        have m5 := old_cell hb5 m2
        obtain ⟨e0, e1, e2⟩ := id hO4.2.1
        have ef := hO4.2.2 2
        have hobR := ob_of_lt ho6 hR3.1
        have hobO := ob_of_lt ho6 hO3.1
        obtain ⟨a5, cap5, rfl⟩ := ownS_slice ho6
        have ho7 := own_low ho6 g3.size
        have htl : (l.take k).length = k := by rw [List.length_take]; omega
        have m6 : (w5.setCell ⟨bo, 2, none⟩ (.slice a5 (cutP l k).length cap5)).cell? ⟨bx, 2, none⟩ = some (.slice (some ⟨g, 0, none⟩) l.length cap1) := by rw [World.cell?_setCell_far _ _ _ _ hboX]; exact m5
        clear hb4 hO3 hR3 hX3 ho6
        go_region_held3 (fun w' => w'.cell? ⟨bx, 2, none⟩ = some (.slice (some ⟨g, 0, none⟩) l.length cap1)) (go_keep)
          (first
            | ((with_reducible refine step_append_eqP ?h10 (.tmp 22) (.tmp 26) #[24, 24] ?h20 (.slice (some ⟨w3.heap.size, 0, none⟩) 0 0) (.slice (some ⟨g, 0, none⟩) k cap1) v4 ?h30 ?h40 E1'.out ?h50); (case h10 => rfl); (case h20 => rfl); (case h30 => rfl); (case h40 => rfl))
            | ((with_reducible refine step_append_eqP ?k10 (.tmp 27) (.tmp 32) #[24, 24] ?k20 v4 (.slice (some ⟨g, 0, none⟩) (l.length - (k + 1)) (cap1 - (k + 1))) (.slice a5 (cutP l k).length cap5) ?k30 ?k40 E2'.out ?k50); (case k10 => rfl); (case k20 => rfl); (case k30 => rfl); (case k40 => rfl)))
        rename_i hHeld
        have hO5 := box_set2 hO4 (.slice a5 (cutP l k).length cap5)
        have hR5 := box_set_other hR4 hboR 2 (.slice a5 (cutP l k).length cap5)
        have g5 : Below w.heap.size w (w5.setCell ⟨bo, 2, none⟩ (.slice a5 (cutP l k).length cap5)) := g4.setCell hoblt _
        have ho8 := own_set' (p := ⟨bo, 2, none⟩) (u := .slice a5 (cutP l k).length cap5) ho7 hobO
        clear hHeld E1' E2' m2 m4 m5 m6 e0 e1 e2 ef hO4 hR4 hX4 g4 ho7 g3
        generalize w5.setCell ⟨bo, 2, none⟩ (.slice a5 (cutP l k).length cap5) = W5 at *
        obtain ⟨j0, j1, j2⟩ := id hO5.2.1
        obtain ⟨d0, d1, d2⟩ := id hR5.2.1
        have f0 := hR5.2.2 0
        have f1 := hR5.2.2 1
        have f2 := hR5.2.2 2
        have hq := read3 hR5 (.int .i64 s) (.int .i64 t) (.slice a5 (cutP l k).length cap5)
        have ho9 := wr3_own ho8 hobR (.int .i64 s) (.int .i64 t) (.slice a5 (cutP l k).length cap5)
        have hb9 := wr3_below g5 (show w.heap.size ≤ bx + 1 by omega) (.int .i64 s) (.int .i64 t) (.slice a5 (cutP l k).length cap5)
        clear ho8 g5
        go_wp2
        exact bodyPost_ret (v := .tuple #[.agg #[.int .i64 s, .int .i64 t, .slice a5 (cutP l k).length cap5], .bool true]) (by simp [results, Try.results33, go_sem, hq.1, hq.2.1, hq.2.2]) rfl ⟨_, by rw [HA.out], by rw [HA.out]; exact ho9, hb9⟩
      · have hcz' : (cap1 = k + 1) = False := eq_false hcz
        clear hcz
        have hRW1 := rd_pre (Rd.below hg0 g3) (show k ≤ l.length by omega)
        obtain ⟨v4, w4, E1, ho4, hg4⟩ := append_rdP (xs := []) (start_aP w3) (Rd.below hRW1 (below_a w3 _)) (by rw [List.length_take]; omega) (below_a w3 (.cells #[] 32)).size
        have hb4 : Below w3.heap.size w3 w4 := (below_a w3 (.cells #[] 32)).grown hg4 (below_a w3 (.cells #[] 32)).size (fun j hj => ((start_aP w3).lt j hj).1)
        obtain ⟨v5, w5, E2, ho5, hg5⟩ := append_rdP (va := .slice (some ⟨g, (k + 1) * 2, none⟩) (l.length - (k + 1)) (cap1 - (k + 1))) (l := l.drop (k + 1)) ho4 (Rd.below (rd_suf (Rd.below hg0 g3) (show k + 1 ≤ l.length by omega)) hb4) (by rw [List.length_take, List.length_drop]; omega) hb4.size
        have hb5 : Below w3.heap.size w3 w5 := hb4.grown hg5 hb4.size (fun j hj => (ho4.lt j hj).1)
        have ho6 : w5.ownsRow w3.heap.size 32 2 v5 (cutP l k).length (flat2 (cutP l k)) := by
          have hlen : (cutP l k).length = 0 + (l.take k).length + (l.drop (k + 1)).length := by unfold cutP; rw [List.length_append]; omega
          rw [hlen]; simpa [cutP] using ho5
        clear hg4 hg5 ho5 ho4 hRW1
        have E1' := Lib.hid E1
        have E2' := Lib.hid E2
        clear E1 E2
        have hO4 := hO3.below hb5
        have hR4 := hR3.below hb5
        have hX4 := hX3.below hb5
        have g4 := bstep g3 hb5
        have m2 := hX3.2.1.2.2
        have m4 := old_cell hb4 m2
        have m5 := old_cell hb5 m2
        obtain ⟨e0, e1, e2⟩ := id hO4.2.1
        have ef := hO4.2.2 2
        have hobR := ob_of_lt ho6 hR3.1
        have hobO := ob_of_lt ho6 hO3.1
        obtain ⟨a5, cap5, rfl⟩ := ownS_slice ho6
        have ho7 := own_low ho6 g3.size
        have htl : (l.take k).length = k := by rw [List.length_take]; omega
        have m6 : (w5.setCell ⟨bo, 2, none⟩ (.slice a5 (cutP l k).length cap5)).cell? ⟨bx, 2, none⟩ = some (.slice (some ⟨g, 0, none⟩) l.length cap1) := by rw [World.cell?_setCell_far _ _ _ _ hboX]; exact m5
        clear hb4 hO3 hR3 hX3 ho6
        go_region_held3 (fun w' => w'.cell? ⟨bx, 2, none⟩ = some (.slice (some ⟨g, 0, none⟩) l.length cap1)) (go_keep)
          (first
            | ((with_reducible refine step_append_eqP ?h11 (.tmp 22) (.tmp 26) #[24, 24] ?h21 (.slice (some ⟨w3.heap.size, 0, none⟩) 0 0) (.slice (some ⟨g, 0, none⟩) k cap1) v4 ?h31 ?h41 E1'.out ?h51); (case h11 => rfl); (case h21 => rfl); (case h31 => rfl); (case h41 => rfl))
            | ((with_reducible refine step_append_eqP ?k11 (.tmp 27) (.tmp 32) #[24, 24] ?k21 v4 (.slice (some ⟨g, (k + 1) * 2, none⟩) (l.length - (k + 1)) (cap1 - (k + 1))) (.slice a5 (cutP l k).length cap5) ?k31 ?k41 E2'.out ?k51); (case k11 => rfl); (case k21 => rfl); (case k31 => rfl); (case k41 => rfl)))
        rename_i hHeld
        have hO5 := box_set2 hO4 (.slice a5 (cutP l k).length cap5)
        have hR5 := box_set_other hR4 hboR 2 (.slice a5 (cutP l k).length cap5)
        have g5 : Below w.heap.size w (w5.setCell ⟨bo, 2, none⟩ (.slice a5 (cutP l k).length cap5)) := g4.setCell hoblt _
        have ho8 := own_set' (p := ⟨bo, 2, none⟩) (u := .slice a5 (cutP l k).length cap5) ho7 hobO
        clear hHeld E1' E2' m2 m4 m5 m6 e0 e1 e2 ef hO4 hR4 hX4 g4 ho7 g3
        generalize w5.setCell ⟨bo, 2, none⟩ (.slice a5 (cutP l k).length cap5) = W5 at *
        obtain ⟨j0, j1, j2⟩ := id hO5.2.1
        obtain ⟨d0, d1, d2⟩ := id hR5.2.1
        have f0 := hR5.2.2 0
        have f1 := hR5.2.2 1
        have f2 := hR5.2.2 2
        have hq := read3 hR5 (.int .i64 s) (.int .i64 t) (.slice a5 (cutP l k).length cap5)
        have ho9 := wr3_own ho8 hobR (.int .i64 s) (.int .i64 t) (.slice a5 (cutP l k).length cap5)
        have hb9 := wr3_below g5 (show w.heap.size ≤ bx + 1 by omega) (.int .i64 s) (.int .i64 t) (.slice a5 (cutP l k).length cap5)
        clear ho8 g5
        go_wp2
        exact bodyPost_ret (v := .tuple #[.agg #[.int .i64 s, .int .i64 t, .slice a5 (cutP l k).length cap5], .bool true]) (by simp [results, Try.results33, go_sem, hq.1, hq.2.1, hq.2.2]) rfl ⟨_, by rw [HA.out], by rw [HA.out]; exact ho9, hb9⟩
    · have HA := Lib.hid (show pullP s t l ki = (l, false) from if_neg fun k => tk k.2)
      have tk' : ¬ (0 ≤ ki ∧ ki ≤ IntKind.i64.wrap ((l.length : Int) - 1)) := by rw [elen]; exact tk
      have hR3 := hR2.below hb3
      have hO3 := hO2.below hb3
      have g3 := bstep g2 hb3
      have ho3 := ownS_below ho2 hb3
      obtain ⟨c0, c1, c2⟩ := id hO3.2.1
      obtain ⟨d0, d1, d2⟩ := id hR3.2.1
      have f0 := hR3.2.2 0
      have f1 := hR3.2.2 1
      have f2 := hR3.2.2 2
      have hq := read3 hR3 (.int .i64 s) (.int .i64 t) (.slice a2 l.length cap2)
      have ho4 := wr3_own ho3 hob1 (.int .i64 s) (.int .i64 t) (.slice a2 l.length cap2)
      have hb4 := wr3_below g3 (show w.heap.size ≤ bx + 1 by omega) (.int .i64 s) (.int .i64 t) (.slice a2 l.length cap2)
      clear hX2 hR2 hO2 g2 hb3 ho2 tc
      go_wp2_with fail
      refine (in_no _ _ _ tk _).mono ?_
      rintro e w9 ⟨rfl, rfl⟩
      go_wp2
      exact bodyPost_ret (v := .tuple #[.agg #[.int .i64 s, .int .i64 t, .slice a2 l.length cap2], .bool false]) (by simp [results, Try.results33, go_sem, hq.1, hq.2.1, hq.2.2]) rfl ⟨_, by rw [HA.out], by rw [HA.out]; exact ho4, hb4⟩
  · have TC := Lib.hid (show cylB s t l = false by simpa using tc)
    have HA := Lib.hid (show pullP s t l ki = (l, false) from if_neg fun k => tc k.1)
    refine (cylok_no (Rd.below h.1 g2) TC.out).mono ?_
    rintro e w3 ⟨rfl, hb3⟩
    have hR3 := hR2.below hb3
    have hO3 := hO2.below hb3
    have g3 := bstep g2 hb3
    have ho3 := ownS_below ho2 hb3
    obtain ⟨c0, c1, c2⟩ := id hO3.2.1
    obtain ⟨d0, d1, d2⟩ := id hR3.2.1
    have f0 := hR3.2.2 0
    have f1 := hR3.2.2 1
    have f2 := hR3.2.2 2
    have hq := read3 hR3 (.int .i64 s) (.int .i64 t) (.slice a2 l.length cap2)
    have ho4 := wr3_own ho3 hob1 (.int .i64 s) (.int .i64 t) (.slice a2 l.length cap2)
    have hb4 := wr3_below g3 (show w.heap.size ≤ bx + 1 by omega) (.int .i64 s) (.int .i64 t) (.slice a2 l.length cap2)
    clear hX2 hR2 hO2 g2 hb3 ho2 tc
    go_wp2
    exact bodyPost_ret (v := .tuple #[.agg #[.int .i64 s, .int .i64 t, .slice a2 l.length cap2], .bool false]) (by simp [results, Try.results33, go_sem, hq.1, hq.2.1, hq.2.2]) rfl ⟨_, by rw [HA.out], by rw [HA.out]; exact ho4, hb4⟩
end Go.Proofs.Ytnnoknejigaklaa
