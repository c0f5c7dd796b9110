/- The contract of the program's PinsAt. No condition. -/
import Derived.Test.YtcbdoldcdgaooaaImplCyl
import Derived.Test.YtcbdoldcdgaooaaPinsAtSpec
namespace Go.Proofs.Ytcbdoldcdgaooaa
open Go.ChangeShapes Go.WideShapes Go.ChangeAt Go.RowKit

set_option maxHeartbeats 4000000 in
set_option maxRecDepth 100000 in
theorem ipinsat_any {w : World} {v : Value} {l : List (Int × Int)} (s t d : Int) (h : Rd2 w v l) :
    Calls Try.prog 16 #[.agg #[.int .i64 s, .int .i64 t, v], .int .i64 d] w (NewInts w (pinsM s t l d)) := by
  obtain ⟨i0, hi, hz0, hz1, hz2⟩ := info_parts infoInt
  obtain ⟨a1, cap1, rfl⟩ := Rd.slice h
  obtain ⟨W, hW⟩ : ∃ W, W = w.alloc (.cells #[.int .i64 s, .int .i64 t, .slice a1 l.length cap1] 26) := ⟨_, rfl⟩
  have hBW : Box W w.heap.size s t (.slice a1 l.length cap1) := by rw [hW]; exact box_new _ _ _ _ _
  have hb0 : Below w.heap.size w W := by rw [hW]; exact (Below.refl _ _).alloc (Nat.le_refl _) _
  by_cases tc : cylB s t l = true
  · have TC := Lib.hid tc
    have hs := (cylB_true.1 tc).1
    have hl100 := (cylB_true.1 tc).2.2.1
    by_cases tt : -1000000 ≤ d ∧ d ≤ 1000000
    · have HL := Lib.hid (show pinsM s t l d = pinsL l (d % s) from if_pos ⟨tc, tt⟩)
      clear tc
      go_enter Try.func16, Try.ntmps16
      go_wp2_with fail
      rw [← hW]
      clear hW
      refine (icyl_yes (Rd.below h hb0) TC.out).mono ?_
      rintro e w1 ⟨rfl, hb1⟩
      have hB1 := hBW.below hb1
      have g1 := bstep hb0 hb1
      clear hBW hb0 hb1
      obtain ⟨-, k0, k1, k2⟩ := id hB1
      go_wp2_with fail
      refine (turnok_yes tt _).mono ?_
      rintro e w2 ⟨rfl, rfl⟩
      go_wp2_with fail
      refine (around_any hs _).mono ?_
      rintro e w3 ⟨rfl, hg3⟩
      have hB3 := hB1.below hg3.below
      have g3 := bstep g1 hg3.below
      clear hB1 k0 k1 k2 g1 hg3
      generalize d % s = q at *
      obtain ⟨-, k0, k1, k2⟩ := id hB3
      go_wp2_with fail
      clear k0 k1 k2
      go_loopw [5, 22] (fun v5 v22 wr => ∃ j : Nat, j ≤ l.length ∧ v22 = .int .i64 j ∧ wr.ownsRow w.heap.size 3 1 v5 (pinsL (l.take j) q).length ((pinsL (l.take j) q).map intV) ∧ Below w.heap.size w wr) (fun _ v22 _ => l.length - (intOf v22).toNat)
      case atStart => exact ⟨0, Nat.zero_le _, rfl, World.ownsRow_nil _ _ _ _, g3⟩
      case round =>
        obtain ⟨j, hj, rfl, hown, hbr⟩ := hrel
        by_cases hlt : j < l.length
        · obtain ⟨⟨p1, p2⟩, hp⟩ : ∃ p, l[j]? = some p := ⟨_, List.getElem?_eq_getElem hlt⟩
          have HP := Lib.hid hp; clear hp
          obtain ⟨b1, o1, c1, hv1, x1, y1⟩ := Rd2.cells (Rd.below h hbr) HP.out
          simp only [Value.slice.injEq, true_and] at hv1
          obtain ⟨rfl, rfl⟩ := hv1
          have hal := pinsL_len (l.take j) q
          have htk : (l.take j).length ≤ j := List.length_take_le _ _
          simp only at x1 y1
          have ho1 := hown.alloc (.cells #[.int .i64 p1, .int .i64 p2] 32)
          have hb1 := hbr.alloc hbr.size (.cells #[.int .i64 p1, .int .i64 p2] 32)
          have z1 := cell0 wr #[.int .i64 p1, .int .i64 p2] 32 0
          have z2 := cell0 wr #[.int .i64 p1, .int .i64 p2] 32 1
          simp only [List.getElem?_toArray, List.getElem?_cons_zero, List.getElem?_cons_succ] at z1 z2
          by_cases htp : p2 = q
          · have HA := Lib.hid (pinsL_yes HP.out htp)
            subst htp
            go_wp2_with (at_builtin; refine wpList_append_own _ rfl _ _ 33 rfl w.heap.size 3 i0 _ 1 8 Try.underlying33 hi hz0 hz1 hz2 rfl (by decide) _ (pinsL (l.take j) p2).length _ rfl (ho1.alloc _) ⟨wr.heap.size + 1, 0, none⟩ 1 1 [.int .i64 p1] rfl rfl ?c1 ?c2 ?c3 ?c4 ?c5 ?_)
            case c2 => simp [Value.oneCell']
            case c3 => unfold maxLen; omega
            case c4 => omega
            case c5 => have := hbr.size; simp; omega
            intro v' w2 hown2 hgrow _
            have hb2 := (hb1.alloc hb1.size _).grown hgrow (by have := hb1.size; simp at *; omega) (fun q hq => (hown.lt q hq).1)
            have hown3 : w2.ownsRow w.heap.size 3 1 v' (pinsL (l.take (j + 1)) p2).length ((pinsL (l.take (j + 1)) p2).map intV) := by
              rw [HA.out, List.map_append, List.length_append]; exact hown2
            clear hown hown2 hgrow hbr x1 y1 hal htk ho1 hb1 z1 z2
            go_wp2
            go_roundw
            case rel => exact ⟨j + 1, by omega, by go_num, hown3, hb2⟩
            case measure => simp [intOf]; omega
          · have HA := Lib.hid (pinsL_no HP.out htp)
            have hown3 : (wr.alloc (.cells #[.int .i64 p1, .int .i64 p2] 32)).ownsRow w.heap.size 3 1 u5 (pinsL (l.take (j + 1)) q).length ((pinsL (l.take (j + 1)) q).map intV) := by
              rw [HA.out]; exact ho1
            have htp' : (p2 == q) = false := by simpa using htp
            clear hown ho1 hal htk z1 z2
            go_wp2
            go_roundw
            case rel => exact ⟨j + 1, by omega, by go_num, hown3, hb1⟩
            case measure => simp [intOf]; omega
        · obtain rfl : j = l.length := by omega
          have hfull : l.take l.length = l := List.take_length
          rw [hfull] at hown
          clear hfull
          go_wp2
          go_ret
          exact ⟨_, rfl, by rw [HL.out]; exact hown, hbr⟩
    · have HL := Lib.hid (show pinsM s t l d = [] from if_neg fun k => tt k.2)
      clear tc
      go_enter Try.func16, Try.ntmps16
      go_wp2_with fail
      rw [← hW]
      clear hW
      refine (icyl_yes (Rd.below h hb0) TC.out).mono ?_
      rintro e w1 ⟨rfl, hb1⟩
      have g1 := bstep hb0 hb1
      go_wp2_with fail
      refine (turnok_no tt _).mono ?_
      rintro e w2 ⟨rfl, rfl⟩
      go_wp2
      go_ret
      exact ⟨_, rfl, by rw [HL.out]; exact World.ownsRow_nil _ _ _ _, g1⟩
  · have HL := Lib.hid (show pinsM s t l d = [] from if_neg fun k => tc k.1)
    have TC := Lib.hid (show cylB s t l = false by simpa using tc)
    clear tc
    go_enter Try.func16, Try.ntmps16
    go_wp2_with fail
    rw [← hW]
    clear hW
    refine (icyl_no (Rd.below h hb0) TC.out).mono ?_
    rintro e w1 ⟨rfl, hb1⟩
    have g1 := bstep hb0 hb1
    go_wp2
    go_ret
    exact ⟨_, rfl, by rw [HL.out]; exact World.ownsRow_nil _ _ _ _, g1⟩
end Go.Proofs.Ytcbdoldcdgaooaa
