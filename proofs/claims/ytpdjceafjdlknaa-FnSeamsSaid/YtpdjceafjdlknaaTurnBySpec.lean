/- The contract of the model's TurnBy. No condition but the row's length. -/
import Derived.Test.YtpdjceafjdlknaaBoxKit
namespace Go.Proofs.Ytpdjceafjdlknaa
open Go.ChangeShapes Go.WideShapes Go.ChangeAt Go.RowKit

noncomputable def turnM (s t : Int) (l : List (Int × Int)) (d : Int) : List (Int × Int) := if cylB s t l = true ∧ (-1000000 ≤ d ∧ d ≤ 1000000) then turnL s d l else l
theorem turnM_le (s t : Int) (l : List (Int × Int)) (d : Int) (h : l.length ≤ 1048576) : (turnM s t l d).length ≤ 1048576 := by
  unfold turnM; split
  · exact Nat.le_trans (foldP_le _ _) h
  · exact h

set_option maxHeartbeats 4000000 in
theorem turnby_any {w : World} {v : Value} {l : List (Int × Int)} (s t d : Int) (h : Rd2 w v l) (hl : l.length ≤ 1048576) :
    Calls Try.prog 13 #[.agg #[.int .i64 s, .int .i64 t, v], .int .i64 d] w (NewCyl w s t (turnM s t l d)) := by
  obtain ⟨a1, cap1, rfl⟩ := Rd.slice h
  have hm := h.2.1
  unfold maxLen at hm
  obtain ⟨W, hW⟩ : ∃ W, W = (w.alloc (.cells #[.int .i64 s, .int .i64 t, .slice a1 l.length cap1] 26)).alloc (.cells #[.int .i64 0, .int .i64 0, .slice none 0 0] 26) := ⟨_, rfl⟩
  have hsz : W.heap.size = w.heap.size + 1 + 1 := by rw [hW]; simp
  have hB : Below w.heap.size w W := by rw [hW]; exact ((Below.refl _ _).alloc (Nat.le_refl _) _).alloc (by simp) _
  have hX : BoxW W w.heap.size (.int .i64 s) (.int .i64 t) (.slice a1 l.length cap1) := by
    rw [hW]; exact (boxw_new _ _ _ _ _).below ((Below.refl _ _).alloc (Nat.le_refl _) _)
  have hR : BoxW W (w.heap.size + 1) (.int .i64 0) (.int .i64 0) (.slice none 0 0) := by
    have := boxw_new (w.alloc (.cells #[.int .i64 s, .int .i64 t, .slice a1 l.length cap1] 26)) (.int .i64 0) (.int .i64 0) (.slice none 0 0) 26
    rw [size_alloc, ← hW] at this; exact this
  go_enter Try.func13, Try.ntmps13
  go_wp2_with fail
  rw [← hW]
  clear hW
  obtain ⟨bx, hbx⟩ : ∃ b, b = w.heap.size := ⟨_, rfl⟩
  have hle : w.heap.size ≤ bx := by omega
  rw [← hbx] at hX hR hsz
  simp only [← hbx]
  clear hbx
  by_cases tc : cylB s t l = true
  · have TC := Lib.hid tc
    have hs := (cylB_true.1 tc).1
    have ht := (cylB_true.1 tc).2.1
    have hl100 := (cylB_true.1 tc).2.2.1
    have HBD := Lib.hid (fun p (hp : p ∈ l) => cyl_bd (cylB_true.1 tc) hp)
    refine (cylok_yes (Rd.below h hB) TC.out).mono ?_
    rintro e w1 ⟨rfl, hb1⟩
    have hX1 := hX.below hb1
    have hR1 := hR.below hb1
    have g1 := bstep hB hb1
    clear hX hR hB hb1 hsz
    by_cases td : -1000000 ≤ d ∧ d ≤ 1000000
    · have HL := Lib.hid (show turnM s t l d = turnL s d l from if_pos ⟨tc, td⟩)
      go_wp2_with fail
      refine (in_yes _ _ _ td _).mono ?_
      rintro e w9 ⟨rfl, rfl⟩
      obtain ⟨c0, c1, c2⟩ := id hX1.2.1
      obtain ⟨W2, hW2⟩ : ∃ W2, W2 = (w1.alloc (.cells #[] 36)).alloc (.cells #[.int .i64 s, .int .i64 t, .slice (some ⟨w1.heap.size, 0, none⟩) 0 0] 26) := ⟨_, rfl⟩
      have hb2 : Below w1.heap.size w1 W2 := by rw [hW2]; exact ((Below.refl _ _).alloc (Nat.le_refl _) _).alloc (by simp) _
      have hO2 : BoxW W2 (w1.heap.size + 1) (.int .i64 s) (.int .i64 t) (.slice (some ⟨w1.heap.size, 0, none⟩) 0 0) := by
        have := boxw_new (w1.alloc (.cells #[] 36)) (.int .i64 s) (.int .i64 t) (.slice (some ⟨w1.heap.size, 0, none⟩) 0 0) 26
        rw [size_alloc, ← hW2] at this; exact this
      have ho2 : W2.ownsRow w1.heap.size 36 2 (.slice (some ⟨w1.heap.size, 0, none⟩) 0 0) 0 (flat2 []) := by
        rw [hW2]; exact (World.ownsRow_made w1 #[] 0 (Nat.le_refl _) (by simp) rfl).alloc _
      go_wp2_with fail
      rw [← hW2]
      clear hW2 c0 c1 c2
      have hX2 := hX1.below hb2
      have hR2 := hR1.below hb2
      have g2 := bstep g1 hb2
      have hboX : w1.heap.size + 1 ≠ bx := by have := hX1.1; omega
      have hboR : w1.heap.size + 1 ≠ bx + 1 := by have := hR1.1; omega
      have hoblt : w.heap.size ≤ w1.heap.size + 1 := by have := g1.size; omega
      have hsz1 : bx + 1 < w1.heap.size := hR1.1
      have hob2 : (Value.slice (some ⟨w1.heap.size, 0, none⟩) 0 0).ownBlock ≠ some (w1.heap.size + 1) := by simp [Value.ownBlock]
      obtain ⟨bs, hbs⟩ : ∃ b, b = w1.heap.size := ⟨_, rfl⟩
      rw [← hbs] at hO2 ho2 hboX hboR hoblt hsz1 hob2
      simp only [← hbs]
      clear hX1 hR1 g1 hb2 hbs tc
      go_loopw [6] (fun v6 wr => ∃ (k : Nat) (u : Value), k ≤ l.length ∧ v6 = .int .i64 k ∧ wr.ownsRow bs 36 2 u (foldP (rotP s d) (l.take k)).length (flat2 (foldP (rotP s d) (l.take k))) ∧ Below w.heap.size w wr ∧ BoxW wr bx (.int .i64 s) (.int .i64 t) (.slice a1 l.length cap1) ∧ BoxW wr (bx + 1) (.int .i64 0) (.int .i64 0) (.slice none 0 0) ∧ BoxW wr (bs + 1) (.int .i64 s) (.int .i64 t) u ∧ Hid (u.ownBlock ≠ some (bs + 1))) (fun v6 _ => l.length - (intOf v6).toNat)
      case atStart => exact ⟨0, _, Nat.zero_le _, rfl, ho2, g2, hX2, hR2, hO2, Lib.hid hob2⟩
      case round =>
        clear ho2 g2 hX2 hR2 hO2 hob2
        obtain ⟨k, u, hk, rfl, hown, hbr, hX, hR, hO, HOB⟩ := hrel
        obtain ⟨c0, c1, c2⟩ := id hX.2.1
        obtain ⟨e0, e1, e2⟩ := id hO.2.1
        have ef := hO.2.2 2
        by_cases hlt : k < l.length
        · obtain ⟨p, hp⟩ : ∃ p, l[k]? = some p := ⟨_, List.getElem?_eq_getElem hlt⟩
          have HF := Lib.hid (foldP_step (g := rotP s d) hp)
          have hpb := HBD.out p (List.mem_of_getElem? hp)
          obtain ⟨b1, o1, cc1, hv1, x1, y1⟩ := Rd2.cells (Rd.below h hbr) hp
          simp only [Value.slice.injEq, true_and] at hv1
          obtain ⟨rfl, rfl⟩ := hv1
          have ew : IntKind.i64.wrap (p.2 + d) = p.2 + d := IntWalk.i64_in _ (by omega)
          have hfl : (foldP (rotP s d) (l.take k)).length ≤ 1000 := by have := foldP_le (rotP s d) (l.take k); rw [List.length_take] at this; omega
          have C1 : Calls Try.prog 40 #[u, .agg #[.int .i64 p.1, .int .i64 ((p.2 + d) % s)]] wr.drew (NewPinsB wr.drew (putP (foldP (rotP s d) (l.take k)) (rotP s d p)).1 (putP (foldP (rotP s d) (l.take k)) (rotP s d p)).2) :=
            putspec_any (rotP s d p) (RdC.of_own hown.drew) hfl
          clear hp
          obtain ⟨au, cu, rfl⟩ := ownS_slice hown
          go_wp2_with fail
          go_region_held3 (fun w' => (w'.cell? ⟨bx, 0, none⟩ = some (.int .i64 s) ∧ w'.cell? ⟨bx, 2, none⟩ = some (.slice (some ⟨b1, o1, none⟩) l.length cap1)) ∧ w'.cell? ⟨bs + 1, 2, none⟩ = some (.slice au (foldP (rotP s d) (l.take k)).length cu) ∧ w'.cell? ⟨b1, o1 + k * 2, none⟩ = some (.int .i64 p.1) ∧ w'.cell? ⟨b1, o1 + k * 2 + 1, none⟩ = some (.int .i64 p.2)) (go_keep)
            ((first
                | (go_at_call 41; refine (mod_any _ _ hs _).mono ?_; rintro e w5 ⟨rfl, rfl⟩)
                | (go_at_call 40; (with_reducible refine C1.mono ?_); rintro e w5 ⟨v5, rfl, ho5, hb5⟩; have q1 := kept_cell hb5 c0; have q2 := kept_cell hb5 c2; have q3 := kept_cell hb5 e2; have q4 := kept_cell hb5 x1; have q5 := kept_cell hb5 y1)))
          have hb6 := below_undrew hb5
          have hX6 := hX.below hb6
          have hR6 := hR.below hb6
          have hO6 := hO.below hb6
          have g6 := bstep hbr hb6
          have hob5 := ob_of_lt ho5 (show bs + 1 < wr.drew.heap.size from hO.1)
          have ho6 := own_low ho5 (show bs ≤ wr.drew.heap.size from Nat.le_of_lt (Nat.lt_of_succ_lt hO.1))
          clear q1 q2 q3 q4 q5 C1 ho5 hb5 hb6 hX hR hO hbr hown c0 c1 c2 e0 e1 e2 ef x1 y1 HOB
          generalize (putP (foldP (rotP s d) (l.take k)) (rotP s d p)).1 = M at *
          generalize (putP (foldP (rotP s d) (l.take k)) (rotP s d p)).2 = ok at *
          obtain ⟨a5, cp5, rfl⟩ := ownS_slice ho6
          obtain ⟨e0, e1, e2⟩ := id hO6.2.1
          have ef := hO6.2.2 2
          have hX7 := box_set_other hX6 hboX 2 (.slice a5 M.length cp5)
          have hR7 := box_set_other hR6 hboR 2 (.slice a5 M.length cp5)
          have hO7 := box_set2 hO6 (.slice a5 M.length cp5)
          have g7 : Below w.heap.size w (w5.setCell ⟨bs + 1, 2, none⟩ (.slice a5 M.length cp5)) := g6.setCell hoblt _
          have ho7 := own_set' (p := ⟨bs + 1, 2, none⟩) (u := .slice a5 M.length cp5) ho6 hob5
          have HO7 := Lib.hid (show _ ∧ _ ∧ _ ∧ _ ∧ _ from ⟨hX7, hR7, hO7, g7, ho7⟩)
          have HOB := Lib.hid hob5
          clear hX6 hR6 hX7 hR7 hO7 g6 g7 ho6 ho7 hob5
          go_wp2
          go_roundw
          case rel => exact ⟨k + 1, _, by omega, by go_num, by rw [HF.out]; exact HO7.out.2.2.2.2, HO7.out.2.2.2.1, HO7.out.1, HO7.out.2.1, HO7.out.2.2.1, HOB⟩
          case measure => simp [intOf]; omega
        · obtain rfl : k = l.length := by omega
          rw [List.take_length] at hown
          have HL2 := Lib.hid (show turnM s t l d = foldP (rotP s d) l from HL.out)
          generalize foldP (rotP s d) l = M at *
          obtain ⟨au, cu, rfl⟩ := ownS_slice hown
          obtain ⟨d0, d1, d2⟩ := id hR.2.1
          have f0 := hR.2.2 0
          have f1 := hR.2.2 1
          have f2 := hR.2.2 2
          have hq := read3 hR (.int .i64 s) (.int .i64 t) (.slice au M.length cu)
          have ho9 := own_low (wr3_own hown (ob_of_lt hown hsz1) (.int .i64 s) (.int .i64 t) (.slice au M.length cu)) (show w.heap.size ≤ bs by omega)
          have hb9 := wr3_below hbr (show w.heap.size ≤ bx + 1 by omega) (.int .i64 s) (.int .i64 t) (.slice au M.length cu)
          clear hown hbr HOB
          go_wp2
          exact bodyPost_ret (v := .agg #[.int .i64 s, .int .i64 t, .slice au M.length cu]) (by simp [results, Try.results13, go_sem, hq.1, hq.2.1, hq.2.2]) rfl ⟨_, rfl, by rw [HL2.out]; exact ho9, hb9⟩
    · have HL := Lib.hid (show turnM s t l d = l from if_neg fun k => td k.2)
      go_wp2_with fail
      refine (in_no _ _ _ td _).mono ?_
      rintro e w9 ⟨rfl, rfl⟩
      obtain ⟨c0, c1, c2⟩ := id hX1.2.1
      go_wp2_with fail
      refine (ccopy_any s t (Rd.below h g1) hl).mono ?_
      rintro e w6 ⟨v6, rfl, ho6, hb6⟩
      obtain ⟨a6, cap6, rfl⟩ := ownS_slice ho6
      have hR6 := hR1.below hb6
      have g6 := bstep g1 hb6
      have hob6 := ob_of_lt ho6 hR1.1
      have ho6' := own_low ho6 g1.size
      obtain ⟨d0, d1, d2⟩ := id hR6.2.1
      have f0 := hR6.2.2 0
      have f1 := hR6.2.2 1
      have f2 := hR6.2.2 2
      have hq := read3 hR6 (.int .i64 s) (.int .i64 t) (.slice a6 l.length cap6)
      have ho7 := wr3_own ho6' hob6 (.int .i64 s) (.int .i64 t) (.slice a6 l.length cap6)
      have hb7 := wr3_below g6 (show w.heap.size ≤ bx + 1 by omega) (.int .i64 s) (.int .i64 t) (.slice a6 l.length cap6)
      clear ho6 hb6 hX1 hR1 g1 c0 c1 c2
      go_wp2
      exact bodyPost_ret (v := .agg #[.int .i64 s, .int .i64 t, .slice a6 l.length cap6]) (by simp [results, Try.results13, go_sem, hq.1, hq.2.1, hq.2.2]) rfl ⟨_, rfl, by rw [HL.out]; exact ho7, hb7⟩
  · have TC := Lib.hid (show cylB s t l = false by simpa using tc)
    have HL := Lib.hid (show turnM s t l d = l from if_neg fun k => tc k.1)
    refine (cylok_no (Rd.below h hB) TC.out).mono ?_
    rintro e w1 ⟨rfl, hb1⟩
    have hX1 := hX.below hb1
    have hR1 := hR.below hb1
    have g1 := bstep hB hb1
    clear hX hR hB hb1 hsz tc
    obtain ⟨c0, c1, c2⟩ := id hX1.2.1
    go_wp2_with fail
    refine (ccopy_any s t (Rd.below h g1) hl).mono ?_
    rintro e w6 ⟨v6, rfl, ho6, hb6⟩
    obtain ⟨a6, cap6, rfl⟩ := ownS_slice ho6
    have hR6 := hR1.below hb6
    have g6 := bstep g1 hb6
    have hob6 := ob_of_lt ho6 hR1.1
    have ho6' := own_low ho6 g1.size
    obtain ⟨d0, d1, d2⟩ := id hR6.2.1
    have f0 := hR6.2.2 0
    have f1 := hR6.2.2 1
    have f2 := hR6.2.2 2
    have hq := read3 hR6 (.int .i64 s) (.int .i64 t) (.slice a6 l.length cap6)
    have ho7 := wr3_own ho6' hob6 (.int .i64 s) (.int .i64 t) (.slice a6 l.length cap6)
    have hb7 := wr3_below g6 (show w.heap.size ≤ bx + 1 by omega) (.int .i64 s) (.int .i64 t) (.slice a6 l.length cap6)
    clear ho6 hb6 hX1 hR1 g1 c0 c1 c2
    go_wp2
    exact bodyPost_ret (v := .agg #[.int .i64 s, .int .i64 t, .slice a6 l.length cap6]) (by simp [results, Try.results13, go_sem, hq.1, hq.2.1, hq.2.2]) rfl ⟨_, rfl, by rw [HL.out]; exact ho7, hb7⟩
end Go.Proofs.Ytpdjceafjdlknaa
