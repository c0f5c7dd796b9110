/- The contract of the model's Merge. No condition. -/
import Derived.Test.YtemhmbaacpfnaaaShiftSpec
namespace Go.Proofs.Ytemhmbaacpfnaaa
open Go.ChangeShapes Go.WideShapes Go.ChangeAt Go.RowKit

theorem putAll_nil (l r : List (Int × Int)) : putAll l (r.take 0) = some l := by rw [List.take_zero]; rfl

set_option maxHeartbeats 4000000 in
set_option maxRecDepth 100000 in
theorem smerge_any {w : World} {va vb : Value} (a b : Cyl) (ha : Rd2 w va a.2.2) (hb : Rd2 w vb b.2.2) :
    Calls Try.prog 23 #[.agg #[.int .i64 a.1, .int .i64 a.2.1, va], .agg #[.int .i64 b.1, .int .i64 b.2.1, vb]] w (NewCylO w (mgO a b)) := by
  obtain ⟨sa, ta, la⟩ := a
  obtain ⟨sb, tb, lb⟩ := b
  simp only at ha hb ⊢
  obtain ⟨a1, cap1, rfl⟩ := Rd.slice ha
  obtain ⟨a2, cap2, rfl⟩ := Rd.slice hb
  have hma := ha.2.1
  have hmb := hb.2.1
  unfold maxLen at hma hmb
  obtain ⟨W0, hW0⟩ : ∃ W, W = (w.alloc (.cells #[.int .i64 sa, .int .i64 ta, .slice a1 la.length cap1] 26)).alloc (.cells #[.int .i64 sb, .int .i64 tb, .slice a2 lb.length cap2] 26) := ⟨_, rfl⟩
  obtain ⟨W, hW⟩ : ∃ W, W = W0.alloc (.cells #[.int .i64 0, .int .i64 0, .slice none 0 0] 26) := ⟨_, rfl⟩
  have hs0 : W0.heap.size = w.heap.size + 1 + 1 := by rw [hW0]; simp
  have hbA : Below (w.alloc (.cells #[.int .i64 sa, .int .i64 ta, .slice a1 la.length cap1] 26)).heap.size (w.alloc (.cells #[.int .i64 sa, .int .i64 ta, .slice a1 la.length cap1] 26)) W0 := by rw [hW0]; exact (Below.refl _ _).alloc (Nat.le_refl _) _
  have hbB : Below W0.heap.size W0 W := by rw [hW]; exact (Below.refl _ _).alloc (Nat.le_refl _) _
  have hX : Box W w.heap.size sa ta (.slice a1 la.length cap1) := ((box_new _ _ _ _ _).below hbA).below hbB
  have hY : Box W (w.heap.size + 1) sb tb (.slice a2 lb.length cap2) := by
    have := box_new (w.alloc (.cells #[.int .i64 sa, .int .i64 ta, .slice a1 la.length cap1] 26)) sb tb (.slice a2 lb.length cap2) 26
    rw [size_alloc, ← hW0] at this; exact this.below hbB
  have hR : BoxW W (w.heap.size + 1 + 1) (.int .i64 0) (.int .i64 0) (.slice none 0 0) := by
    have := boxw_new W0 (.int .i64 0) (.int .i64 0) (.slice none 0 0) 26
    rw [hs0, ← hW] at this; exact this
  have hB : Below w.heap.size w W := bstep (bstep ((Below.refl _ _).alloc (Nat.le_refl _) _) hbA) hbB
  rw [hW0] at hW
  clear hbA hbB hs0 hW0
  go_enter Try.func23, Try.ntmps23
  go_wp2_with fail
  rw [← hW]
  clear hW
  obtain ⟨bx, hbx⟩ : ∃ b, b = w.heap.size := ⟨_, rfl⟩
  have hle : w.heap.size ≤ bx + 1 + 1 := by omega
  rw [← hbx] at hX hY hR
  simp only [← hbx]
  clear hbx
  by_cases tca : cylB sa ta la = true
  · have TCA := Lib.hid tca
    have hla := (cylB_true.1 tca).2.2.1
    clear tca
    refine (cylok_yes (Rd.below ha hB) TCA.out).mono ?_
    rintro e w1 ⟨rfl, hb1⟩
    have hX1 := hX.below hb1
    have hY1 := hY.below hb1
    have hR1 := hR.below hb1
    have g1 := bstep hB hb1
    clear hX hY hR hB hb1
    obtain ⟨-, c0, c1, c2⟩ := id hX1
    obtain ⟨-, m0, m1, m2⟩ := id hY1
    go_wp2_with fail
    clear c0 c1 c2 m0 m1 m2
    by_cases tcb : cylB sb tb lb = true
    · have TCB := Lib.hid tcb
      have hlb := (cylB_true.1 tcb).2.2.1
      clear tcb
      refine (cylok_yes (Rd.below hb g1) TCB.out).mono ?_
      rintro e w2 ⟨rfl, hb2⟩
      have hX2 := hX1.below hb2
      have hY2 := hY1.below hb2
      have hR2 := hR1.below hb2
      have g2 := bstep g1 hb2
      clear hX1 hY1 hR1 g1 hb2
      obtain ⟨-, c0, c1, c2⟩ := id hX2
      obtain ⟨-, m0, m1, m2⟩ := id hY2
      by_cases hs : sa = sb
      · by_cases ht : ta = tb
        · have hsb : (sa != sb) = false := by simp [hs]
          have htb : (ta != tb) = false := by simp [ht]
          have HCOND := Lib.hid (show cylB sa ta la = true ∧ cylB sb tb lb = true ∧ sa = sb ∧ ta = tb from ⟨TCA.out, TCB.out, hs, ht⟩)
          clear hs ht
          go_wp2_with fail
          refine (ccopy_any sa ta (Rd.below ha g2) (by omega)).mono ?_
          rintro e w3 ⟨v3, rfl, ho3, hb3⟩
          obtain ⟨a3, cap3, rfl⟩ := ownS_slice ho3
          have hX3 := hX2.below hb3
          have hY3 := hY2.below hb3
          have hR3 := hR2.below hb3
          have g3 := bstep g2 hb3
          have ho3' := own_low ho3 (show bx + 1 + 1 + 1 ≤ w2.heap.size from hR2.1)
          clear hX2 hY2 hR2 g2 hb3 ho3 c0 c1 c2 m0 m1 m2
          go_wp2_with fail
          obtain ⟨W4, hW4⟩ : ∃ W4, W4 = w3.alloc (.cells #[.int .i64 sa, .int .i64 ta, .slice a3 la.length cap3] 26) := ⟨_, rfl⟩
          have hb4 : Below w3.heap.size w3 W4 := by rw [hW4]; exact (Below.refl _ _).alloc (Nat.le_refl _) _
          have hO : BoxW W4 w3.heap.size (.int .i64 sa) (.int .i64 ta) (.slice a3 la.length cap3) := by rw [hW4]; exact boxw_new _ _ _ _ _
          rw [← hW4]
          clear hW4
          have hX4 := hX3.below hb4
          have hY4 := hY3.below hb4
          have hR4 := hR3.below hb4
          have g4 := bstep g3 hb4
          have ho4 := ownS_below ho3' hb4
          have hob4 : (Value.slice a3 la.length cap3).ownBlock ≠ some w3.heap.size := fun e => Nat.lt_irrefl _ (ho3'.lt _ e).2
          have hsz3 : bx + 1 + 1 < w3.heap.size := hR3.1
          have hlo : w.heap.size ≤ w3.heap.size := g3.size
          obtain ⟨bo, hbo⟩ : ∃ b, b = w3.heap.size := ⟨_, rfl⟩
          rw [← hbo] at hO hsz3 hlo hob4
          simp only [← hbo]
          clear hbo hX3 hY3 hR3 g3 ho3' hb4
          go_loopw [7] (fun v7 wr => ∃ (k : Nat) (u : Value) (M : List (Int × Int)), k ≤ lb.length ∧ v7 = .int .i64 k ∧ Hid (putAll la (lb.take k) = some M) ∧ Hid (M.length = la.length + k) ∧ wr.ownsRow (bx + 1 + 1 + 1) 34 2 u M.length (flat2 M) ∧ Below w.heap.size w wr ∧ (Box wr bx sa ta (.slice a1 la.length cap1) ∧ Box wr (bx + 1) sb tb (.slice a2 lb.length cap2)) ∧ BoxW wr (bx + 1 + 1) (.int .i64 0) (.int .i64 0) (.slice none 0 0) ∧ BoxW wr bo (.int .i64 sa) (.int .i64 ta) u ∧ Hid (u.ownBlock ≠ some bo)) (fun v7 _ => lb.length - (intOf v7).toNat)
          case atStart => exact ⟨0, _, la, Nat.zero_le _, rfl, Lib.hid (putAll_nil _ _), Lib.hid rfl, ho4, g4, ⟨hX4, hY4⟩, hR4, hO, Lib.hid hob4⟩
          case round =>
            clear hX4 hY4 hR4 g4 ho4 hO hob4
            obtain ⟨k, u, M, hk, rfl, HPA, hML, hown, hbr, ⟨hX, hY⟩, hR, hO, HOB⟩ := hrel
            obtain ⟨-, m0, m1, m2⟩ := id hY
            obtain ⟨e0, e1, e2⟩ := id hO.2.1
            have ef := hO.2.2 2
            by_cases hlt : k < lb.length
            · obtain ⟨p, hp⟩ : ∃ p, lb[k]? = some p := ⟨_, List.getElem?_eq_getElem hlt⟩
              have HP := Lib.hid hp
              obtain ⟨b1, o1, cc1, hv1, x0, y0⟩ := Rd2.cells hb hp
              simp only [Value.slice.injEq, true_and] at hv1
              obtain ⟨rfl, rfl⟩ := hv1
              have x1 := old_cell hbr x0
              have y1 := old_cell hbr y0
              clear hp x0 y0
              have hfl : M.length ≤ 1000 := by have := hML.out; omega
              have C1 : Calls Try.prog 34 #[u, .agg #[.int .i64 p.1, .int .i64 p.2]] wr.drew (NewPinsB wr.drew (putP M p).1 (putP M p).2) := putspec_any p (RdC.of_own hown.drew) hfl
              obtain ⟨au, cu, rfl⟩ := ownS_slice hown
              go_wp2_with fail
              go_region_held3 (fun w' => w'.cell? ⟨bo, 2, none⟩ = some (.slice au M.length cu) ∧ w'.cell? ⟨bx + 1, 2, none⟩ = some (.slice (some ⟨b1, o1, none⟩) lb.length cap2) ∧ w'.cell? ⟨b1, o1 + k * 2, none⟩ = some (.int .i64 p.1) ∧ w'.cell? ⟨b1, o1 + k * 2 + 1, none⟩ = some (.int .i64 p.2)) (go_keep)
                ((first
                    | (go_at_call 34; (with_reducible refine C1.mono ?_); rintro e w5 ⟨v5, rfl, ho5, hb5⟩; have q2 := kept_cell hb5 e2; have q3 := kept_cell hb5 m2; have q4 := kept_cell hb5 x1; have q5 := kept_cell hb5 y1)))
              have hb6 := below_undrew hb5
              have hX6 := hX.below hb6
              have hY6 := hY.below hb6
              have hR6 := hR.below hb6
              have hO6 := hO.below hb6
              have g6 := bstep hbr hb6
              have hob5 := ob_of_lt ho5 (show bo < wr.drew.heap.size from hO.1)
              have ho6 := own_low ho5 (show bx + 1 + 1 + 1 ≤ wr.drew.heap.size from hR.1)
              clear q2 q3 q4 q5 C1 ho5 hb5 hb6 hX hY hR hO hbr hown m0 m1 m2 e0 e1 e2 ef x1 y1 HOB
              have HY := Lib.hid (fun hh => putAll_step_yes HPA.out HP.out hh)
              have HN := Lib.hid (fun hh => putAll_step_no HPA.out HP.out hh)
              have hlen2 := putP_len M p
              have HLEN2 := Lib.hid hlen2
              clear hlen2
              generalize (putP M p).1 = M2 at *
              generalize (putP M p).2 = ok at *
              obtain ⟨a5, cp5, rfl⟩ := ownS_slice ho6
              cases ok with
              | false =>
                have HM := Lib.hid (mgO_no (a := (sa, ta, la)) (b := (sb, tb, lb)) fun kk => by
                  obtain ⟨m, h1, _⟩ := kk.2
                  rw [HN.out (by simp)] at h1; cases h1)
                clear ho6 hob5 hO6 HN HY HPA hX6 hY6 HLEN2
                obtain ⟨d0, d1, d2⟩ := id hR6.2.1
                have f0 := hR6.2.2 0
                have f1 := hR6.2.2 1
                have f2 := hR6.2.2 2
                have hq := read3 hR6 (.int .i64 0) (.int .i64 0) (.slice none 0 0)
                have hb9 := wr3_below g6 hle (.int .i64 0) (.int .i64 0) (.slice none 0 0)
                clear g6
                go_wp2
                refine bodyPost_ret (v := .tuple #[.agg #[.int .i64 0, .int .i64 0, .slice none 0 0], .bool false]) (by simp [results, Try.results23, go_sem, hq.1, hq.2.1, hq.2.2]) rfl ?_
                rw [HM.out]
                exact ⟨_, rfl, World.ownsRow_nil _ _ _ _, hb9⟩
              | true =>
                have HPA2 := Lib.hid (HY.out rfl)
                have hML2 : Hid (M2.length = la.length + (k + 1)) := Lib.hid (by have := hML.out; have hlen2 := HLEN2.out; simp at hlen2; omega)
                obtain ⟨e0, e1, e2⟩ := id hO6.2.1
                have ef := hO6.2.2 2
                have hX7 := hX6.set_other (show bo ≠ bx by omega) 2 (.slice a5 M2.length cp5)
                have hY7 := hY6.set_other (show bo ≠ bx + 1 by omega) 2 (.slice a5 M2.length cp5)
                have hR7 := box_set_other hR6 (show bo ≠ bx + 1 + 1 by omega) 2 (.slice a5 M2.length cp5)
                have hO7 := box_set2 hO6 (.slice a5 M2.length cp5)
                have g7 : Below w.heap.size w (w5.setCell ⟨bo, 2, none⟩ (.slice a5 M2.length cp5)) := g6.setCell (show w.heap.size ≤ bo by omega) _
                have ho7 := own_set' (p := ⟨bo, 2, none⟩) (u := .slice a5 M2.length cp5) ho6 hob5
                have HO7 := Lib.hid (show _ ∧ _ ∧ _ ∧ _ ∧ _ ∧ _ from ⟨hX7, hY7, hR7, hO7, g7, ho7⟩)
                have HOB := Lib.hid hob5
                clear hX6 hX7 hY6 hY7 hR6 hR7 hO7 g6 g7 ho6 ho7 hob5 HN HY HPA HLEN2 hML hfl
                go_wp2
                go_roundw
                case rel => exact ⟨k + 1, _, M2, by omega, by go_num, HPA2, hML2, HO7.out.2.2.2.2.2, HO7.out.2.2.2.2.1, ⟨HO7.out.1, HO7.out.2.1⟩, HO7.out.2.2.1, HO7.out.2.2.2.1, HOB⟩
                case measure => simp [intOf]; omega
            · obtain rfl : k = lb.length := by omega
              have HPB : Hid (putAll la lb = some M) := Lib.hid (by have := HPA.out; rwa [List.take_length] at this)
              have HY := Lib.hid (fun h2 => mgO_yes (a := (sa, ta, la)) (b := (sb, tb, lb)) (m := M) HCOND.out HPB.out h2)
              simp only at HY
              obtain ⟨au, cu, rfl⟩ := ownS_slice hown
              go_wp2_with fail
              by_cases t3 : cylB sa ta M = true
              · have HM := Lib.hid (HY.out t3)
                refine (cylok_yes (Rd.of_own hown) t3).mono ?_
                rintro e w6 ⟨rfl, hb6⟩
                have hR6 := hR.below hb6
                have hO6 := hO.below hb6
                have g6 := bstep hbr hb6
                have ho6 := ownS_below hown hb6
                obtain ⟨d0, d1, d2⟩ := id hR6.2.1
                obtain ⟨j0, j1, j2⟩ := id hO6.2.1
                have f0 := hR6.2.2 0
                have f1 := hR6.2.2 1
                have f2 := hR6.2.2 2
                have hq := read3 hR6 (.int .i64 sa) (.int .i64 ta) (.slice au M.length cu)
                have ho7 := own_low (wr3_own ho6 (ob_of_lt ho6 (show bx + 1 + 1 < bx + 1 + 1 + 1 by omega)) (.int .i64 sa) (.int .i64 ta) (.slice au M.length cu)) (show w.heap.size ≤ bx + 1 + 1 + 1 by omega)
                have hb7 := wr3_below g6 hle (.int .i64 sa) (.int .i64 ta) (.slice au M.length cu)
                clear hb6 hX hY hR hO hbr hown ho6 m0 m1 m2 e0 e1 e2 ef t3 HY HPA HOB hML
                go_wp2
                refine bodyPost_ret (v := .tuple #[.agg #[.int .i64 sa, .int .i64 ta, .slice au M.length cu], .bool true]) (by simp [results, Try.results23, go_sem, hq.1, hq.2.1, hq.2.2]) rfl ?_
                rw [HM.out]
                exact ⟨_, rfl, ho7, hb7⟩
              · have HM := Lib.hid (mgO_no (a := (sa, ta, la)) (b := (sb, tb, lb)) fun kk => by
                  obtain ⟨m, h1, h2⟩ := kk.2
                  have h3 := HPB.out
                  simp only at h1
                  rw [h3] at h1
                  obtain rfl := Option.some.inj h1
                  exact t3 h2)
                refine (cylok_no (Rd.of_own hown) (by simpa using t3)).mono ?_
                rintro e w6 ⟨rfl, hb6⟩
                have hR6 := hR.below hb6
                have g6 := bstep hbr hb6
                clear hb6 hX hY hR hO hbr hown m0 m1 m2 e0 e1 e2 ef t3 HY HPA HOB hML
                obtain ⟨d0, d1, d2⟩ := id hR6.2.1
                have f0 := hR6.2.2 0
                have f1 := hR6.2.2 1
                have f2 := hR6.2.2 2
                have hq := read3 hR6 (.int .i64 0) (.int .i64 0) (.slice none 0 0)
                have hb9 := wr3_below g6 hle (.int .i64 0) (.int .i64 0) (.slice none 0 0)
                clear g6
                go_wp2
                refine bodyPost_ret (v := .tuple #[.agg #[.int .i64 0, .int .i64 0, .slice none 0 0], .bool false]) (by simp [results, Try.results23, go_sem, hq.1, hq.2.1, hq.2.2]) rfl ?_
                rw [HM.out]
                exact ⟨_, rfl, World.ownsRow_nil _ _ _ _, hb9⟩
        · have hsb : (sa != sb) = false := by simp [hs]
          have htb : (ta != tb) = true := by simpa using ht
          have HM := Lib.hid (mgO_no (a := (sa, ta, la)) (b := (sb, tb, lb)) fun kk => ht kk.1.2.2.2)
          clear hs ht hX2 hY2
          obtain ⟨d0, d1, d2⟩ := id hR2.2.1
          have f0 := hR2.2.2 0
          have f1 := hR2.2.2 1
          have f2 := hR2.2.2 2
          have hq := read3 hR2 (.int .i64 0) (.int .i64 0) (.slice none 0 0)
          have hb9 := wr3_below g2 hle (.int .i64 0) (.int .i64 0) (.slice none 0 0)
          clear g2
          go_wp2
          refine bodyPost_ret (v := .tuple #[.agg #[.int .i64 0, .int .i64 0, .slice none 0 0], .bool false]) (by simp [results, Try.results23, go_sem, hq.1, hq.2.1, hq.2.2]) rfl ?_
          rw [HM.out]
          exact ⟨_, rfl, World.ownsRow_nil _ _ _ _, hb9⟩
      · have hsb : (sa != sb) = true := by simpa using hs
        have HM := Lib.hid (mgO_no (a := (sa, ta, la)) (b := (sb, tb, lb)) fun kk => hs kk.1.2.2.1)
        clear hs hX2 hY2
        obtain ⟨d0, d1, d2⟩ := id hR2.2.1
        have f0 := hR2.2.2 0
        have f1 := hR2.2.2 1
        have f2 := hR2.2.2 2
        have hq := read3 hR2 (.int .i64 0) (.int .i64 0) (.slice none 0 0)
        have hb9 := wr3_below g2 hle (.int .i64 0) (.int .i64 0) (.slice none 0 0)
        clear g2
        go_wp2
        refine bodyPost_ret (v := .tuple #[.agg #[.int .i64 0, .int .i64 0, .slice none 0 0], .bool false]) (by simp [results, Try.results23, go_sem, hq.1, hq.2.1, hq.2.2]) rfl ?_
        rw [HM.out]
        exact ⟨_, rfl, World.ownsRow_nil _ _ _ _, hb9⟩
    · have TCB := Lib.hid (show cylB sb tb lb = false by simpa using tcb)
      have HM := Lib.hid (mgO_no (a := (sa, ta, la)) (b := (sb, tb, lb)) fun kk => tcb kk.1.2.1)
      refine (cylok_no (Rd.below hb g1) TCB.out).mono ?_
      rintro e w2 ⟨rfl, hb2⟩
      have hR2 := hR1.below hb2
      have g2 := bstep g1 hb2
      clear hX1 hY1 hR1 g1 hb2 tcb
      obtain ⟨d0, d1, d2⟩ := id hR2.2.1
      have f0 := hR2.2.2 0
      have f1 := hR2.2.2 1
      have f2 := hR2.2.2 2
      have hq := read3 hR2 (.int .i64 0) (.int .i64 0) (.slice none 0 0)
      have hb9 := wr3_below g2 hle (.int .i64 0) (.int .i64 0) (.slice none 0 0)
      clear g2
      go_wp2
      refine bodyPost_ret (v := .tuple #[.agg #[.int .i64 0, .int .i64 0, .slice none 0 0], .bool false]) (by simp [results, Try.results23, go_sem, hq.1, hq.2.1, hq.2.2]) rfl ?_
      rw [HM.out]
      exact ⟨_, rfl, World.ownsRow_nil _ _ _ _, hb9⟩
  · have TCA := Lib.hid (show cylB sa ta la = false by simpa using tca)
    have HM := Lib.hid (mgO_no (a := (sa, ta, la)) (b := (sb, tb, lb)) fun kk => tca kk.1.1)
    refine (cylok_no (Rd.below ha hB) TCA.out).mono ?_
    rintro e w1 ⟨rfl, hb1⟩
    have hR1 := hR.below hb1
    have g1 := bstep hB hb1
    clear hX hY hR hB hb1 tca
    obtain ⟨d0, d1, d2⟩ := id hR1.2.1
    have f0 := hR1.2.2 0
    have f1 := hR1.2.2 1
    have f2 := hR1.2.2 2
    have hq := read3 hR1 (.int .i64 0) (.int .i64 0) (.slice none 0 0)
    have hb9 := wr3_below g1 hle (.int .i64 0) (.int .i64 0) (.slice none 0 0)
    clear g1
    go_wp2
    refine bodyPost_ret (v := .tuple #[.agg #[.int .i64 0, .int .i64 0, .slice none 0 0], .bool false]) (by simp [results, Try.results23, go_sem, hq.1, hq.2.1, hq.2.2]) rfl ?_
    rw [HM.out]
    exact ⟨_, rfl, World.ownsRow_nil _ _ _ _, hb9⟩
end Go.Proofs.Ytemhmbaacpfnaaa
