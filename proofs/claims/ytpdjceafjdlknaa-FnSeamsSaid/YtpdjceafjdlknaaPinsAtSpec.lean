/- The contract of the model's PinsAt. No condition. -/
import Derived.Test.YtpdjceafjdlknaaBoxKit
namespace Go.Proofs.Ytpdjceafjdlknaa
open Go.ChangeShapes Go.WideShapes Go.ChangeAt Go.RowKit

noncomputable def pinsM (s t : Int) (l : List (Int × Int)) (a : Int) : List Int := if cylB s t l = true ∧ (-1000000 ≤ a ∧ a ≤ 1000000) then pinsL l (a % s) else []
theorem pinsM_len (s t : Int) (l : List (Int × Int)) (a : Int) : (pinsM s t l a).length ≤ 100 := by
  unfold pinsM
  split
  · rename_i h; exact Nat.le_trans (pinsL_len _ _) ((cylB_true.1 h.1).2.2.1)
  · simp

set_option maxHeartbeats 2000000 in
set_option maxRecDepth 100000 in
theorem pinsat_any {w : World} {v : Value} {l : List (Int × Int)} (s t a : Int) (h : Rd2 w v l) :
    Calls Try.prog 20 #[.agg #[.int .i64 s, .int .i64 t, v], .int .i64 a] w (NewInts w (pinsM s t l a)) := by
  obtain ⟨i0, hi, hz0, hz1, hz2⟩ := info_parts infoInt
  obtain ⟨a1, cap1, rfl⟩ := Rd.slice h
  have hm := h.2.1
  unfold maxLen at hm
  obtain ⟨W, hW⟩ : ∃ W, W = (w.alloc (.cells #[.int .i64 s, .int .i64 t, .slice a1 l.length cap1] 26)).alloc (.cells #[] 3) := ⟨_, rfl⟩
  have hb1 : Below (w.alloc (.cells #[.int .i64 s, .int .i64 t, .slice a1 l.length cap1] 26)).heap.size (w.alloc (.cells #[.int .i64 s, .int .i64 t, .slice a1 l.length cap1] 26)) W := by rw [hW]; exact (Below.refl _ _).alloc (Nat.le_refl _) _
  have hX : Box W w.heap.size s t (.slice a1 l.length cap1) := (box_new _ _ _ _ _).below hb1
  have hB : Below w.heap.size w W := bstep ((Below.refl _ _).alloc (Nat.le_refl _) _) hb1
  have ho : W.ownsRow (w.heap.size + 1) 3 1 (.slice (some ⟨w.heap.size + 1, 0, none⟩) 0 0) 0 [] := by
    have := World.ownsRow_made (base := w.heap.size + 1) (e := 3) (size := 1) (w.alloc (.cells #[.int .i64 s, .int .i64 t, .slice a1 l.length cap1] 26)) #[] 0 (by rw [size_alloc]; exact Nat.le_refl _) (by simp) rfl
    rw [size_alloc, ← hW] at this; exact this
  by_cases tc : cylB s t l = true
  · have TC := Lib.hid tc
    have hs := (cylB_true.1 tc).1
    have hl := (cylB_true.1 tc).2.2.1
    by_cases ta : -1000000 ≤ a ∧ a ≤ 1000000
    · have HL := Lib.hid (show pinsM s t l a = pinsL l (a % s) by unfold pinsM; rw [if_pos ⟨tc, ta⟩])
      clear tc
      go_enter Try.func20, Try.ntmps20
      go_wp2_with fail
      rw [← hW]
      clear hW hb1
      obtain ⟨bx, hbx⟩ : ∃ b, b = w.heap.size := ⟨_, rfl⟩
      rw [← hbx] at hX
      simp only [← hbx]
      rw [show w.heap.size + 1 = bx + 1 by rw [hbx]] at ho
      have hle : w.heap.size ≤ bx + 1 := by omega
      have hle2 : w.heap.size ≤ bx := by omega
      clear hbx
      refine (cylok_yes (Rd.below h hB) TC.out).mono ?_
      rintro e w1 ⟨rfl, hb1⟩
      have hX1 := hX.below hb1
      have g1 := bstep hB hb1
      have ho1 := ownS_below ho hb1
      clear hX hB hb1 ho
      go_wp2_with fail
      refine (in_yes' _ _ _ ta _).mono ?_
      rintro e w2 ⟨rfl, rfl⟩
      go_wp2_with fail
      go_loopw [5, 6] (fun v5 v6 wr => ∃ k : Nat, k ≤ l.length ∧ v6 = .int .i64 k ∧ wr.ownsRow (bx + 1) 3 1 v5 (pinsL (l.take k) (a % s)).length ((pinsL (l.take k) (a % s)).map intV) ∧ Below w.heap.size w wr ∧ Box wr bx s t (.slice a1 l.length cap1)) (fun _ v6 _ => l.length - (intOf v6).toNat)
      case atStart => exact ⟨0, Nat.zero_le _, rfl, ho1, g1, hX1⟩
      case round =>
        clear ho1 g1 hX1
        obtain ⟨k, hk, rfl, hown, hbr, hX⟩ := hrel
        obtain ⟨kx, k0, k1, k2⟩ := id hX
        by_cases hlt : k < l.length
        · obtain ⟨p, hp⟩ : ∃ p, l[k]? = some p := ⟨_, List.getElem?_eq_getElem hlt⟩
          have HP := Lib.hid hp
          obtain ⟨b1, o1, c1, hv1, x1, y1⟩ := Rd2.cells (Rd.below h hbr) hp
          simp only [Value.slice.injEq, true_and] at hv1
          obtain ⟨rfl, rfl⟩ := hv1
          have hpl := pinsL_len (l.take k) (a % s)
          rw [List.length_take] at hpl
          clear hp
          go_wp2_with fail
          go_quiet ((go_at_call 41; exact Calls.quiet_of_same (mod_any a s hs _)))
          obtain ⟨W2, hW2⟩ : ∃ W : World, W = wr.drewN nq := ⟨_, rfl⟩
          have hb2 : Below wr.heap.size wr W2 := by rw [hW2]; exact below_drewN (Below.refl _ _) _
          rw [← hW2]
          clear hW2
          have hown2 := ownS_below hown hb2
          have hbr2 := bstep hbr hb2
          have hX2 := hX.below hb2
          have x2 := old_cell hb2 x1
          have y2 := old_cell hb2 y1
          obtain ⟨kx2, j0, j1, j2⟩ := id hX2
          clear hown hbr hX hb2 x1 y1 kx k0 k1 k2
          by_cases hpa : p.2 = a % s
          · have HA := Lib.hid (pinsL_yes HP.out hpa)
            have hpa' : (p.2 == a % s) = true := by simpa using hpa
            go_wp2_with (at_builtin; refine wpList_append_own _ rfl _ _ 34 rfl (bx + 1) 3 i0 (.int .i64 0) 1 8 Try.underlying34 hi hz0 hz1 hz2 rfl (by decide) _ (pinsL (l.take k) (a % s)).length _ rfl (hown2.alloc _) ⟨W2.heap.size, 0, none⟩ 1 1 [.int .i64 p.1] rfl rfl ?c1 ?c2 ?c3 ?c4 ?c5 ?_)
            case c1 => first | exact World.news_of_block (heap_alloc_new W2 _) | exact fun _ _ h => h
            case c2 => simp [Value.oneCell']
            case c3 => unfold maxLen; omega
            case c4 => omega
            case c5 => simp; omega
            intro v' w4 hown4 hgrow _
            have hb3 := (hbr2.alloc hbr2.size _).grown hgrow (by have := hbr2.size; simp; omega) (fun q hq => Nat.le_trans hle (hown2.lt q hq).1)
            have hown5 : w4.ownsRow (bx + 1) 3 1 v' (pinsL (l.take (k + 1)) (a % s)).length ((pinsL (l.take (k + 1)) (a % s)).map intV) := by
              rw [HA.out, List.map_append, List.length_append]; exact hown4
            have hX3 : Box w4 bx s t (.slice (some ⟨b1, o1, none⟩) l.length cap1) := by
              refine (hX2.below ((Below.refl _ _).alloc (Nat.le_refl _) _)).grown hgrow fun e => ?_
              have := (hown2.lt bx e.symm).1
              omega
            clear hown2 hown4 hgrow hbr2 x2 y2 hpl kx2 j0 j1 j2 hX2
            go_wp2
            go_roundw
            case rel => exact ⟨k + 1, by omega, by go_num, hown5, hb3, hX3⟩
            case measure => simp [intOf]; omega
          · have HA := Lib.hid (pinsL_no HP.out hpa)
            have hpa' : (p.2 == a % s) = false := by simpa using hpa
            have hown5 : W2.ownsRow (bx + 1) 3 1 u5 (pinsL (l.take (k + 1)) (a % s)).length ((pinsL (l.take (k + 1)) (a % s)).map intV) := by
              rw [HA.out]; exact hown2
            clear hown2 x2 y2 hpl kx2 j0 j1 j2
            go_wp2
            go_roundw
            case rel => exact ⟨k + 1, by omega, by go_num, hown5, hbr2, hX2⟩
            case measure => simp [intOf]; omega
        · obtain rfl : k = l.length := by omega
          rw [List.take_length] at hown
          go_wp2
          go_ret
          exact ⟨_, rfl, by rw [HL.out]; exact own_low hown hle, hbr⟩
    · have HL := Lib.hid (show pinsM s t l a = [] by unfold pinsM; rw [if_neg fun k => ta k.2])
      clear tc
      go_enter Try.func20, Try.ntmps20
      go_wp2_with fail
      rw [← hW]
      clear hW hb1
      refine (cylok_yes (Rd.below h hB) TC.out).mono ?_
      rintro e w1 ⟨rfl, hb1⟩
      have g1 := bstep hB hb1
      have ho1 := ownS_below ho hb1
      go_wp2_with fail
      refine (in_no' _ _ _ ta _).mono ?_
      rintro e w2 ⟨rfl, rfl⟩
      clear hX hB hb1 ho
      go_wp2
      go_ret
      exact ⟨_, rfl, by rw [HL.out]; exact own_low ho1 (Nat.le_succ _), g1⟩
  · have TC := Lib.hid (show cylB s t l = false by simpa using tc)
    have HL := Lib.hid (show pinsM s t l a = [] by unfold pinsM; rw [if_neg fun k => tc k.1])
    clear tc
    go_enter Try.func20, Try.ntmps20
    go_wp2_with fail
    rw [← hW]
    clear hW hb1
    refine (cylok_no (Rd.below h hB) TC.out).mono ?_
    rintro e w1 ⟨rfl, hb1⟩
    have g1 := bstep hB hb1
    have ho1 := ownS_below ho hb1
    clear hX hB hb1 ho
    go_wp2
    go_ret
    exact ⟨_, rfl, by rw [HL.out]; exact own_low ho1 (Nat.le_succ _), g1⟩
end Go.Proofs.Ytpdjceafjdlknaa
