/- The contract of the program's HoldsTunes. No condition. -/
import Derived.Test.YtemhmbaacpfnaaaHoldSpec
import Derived.Test.YtemhmbaacpfnaaaImplShift
import Derived.Test.YtemhmbaacpfnaaaImplMerge
import Derived.Deep.CutRange
namespace Go.Proofs.Ytemhmbaacpfnaaa
open Go.ChangeShapes Go.WideShapes Go.ChangeAt Go.RowKit

theorem ishift_none {w : World} {v : Value} {c : Cyl} {d h : Int} (k : shO c d h = none) (hc : Rd2 w v c.2.2) :
    Calls Try.prog 15 #[.agg #[.int .i64 c.1, .int .i64 c.2.1, v], .int .i64 d, .int .i64 h] w (NewCylB w 0 0 [] false) := by
  have := ishift_any c d h hc; rw [k] at this; exact this
theorem ishift_some {w : World} {v : Value} {c x : Cyl} {d h : Int} (k : shO c d h = some x) (hc : Rd2 w v c.2.2) :
    Calls Try.prog 15 #[.agg #[.int .i64 c.1, .int .i64 c.2.1, v], .int .i64 d, .int .i64 h] w (NewCylB w x.1 x.2.1 x.2.2 true) := by
  have := ishift_any c d h hc; rw [k] at this; exact this
theorem imerge_none {w : World} {va vb : Value} {a b : Cyl} (k : mgO a b = none) (ha : Rd2 w va a.2.2) (hb : Rd2 w vb b.2.2) :
    Calls Try.prog 13 #[.agg #[.int .i64 a.1, .int .i64 a.2.1, va], .agg #[.int .i64 b.1, .int .i64 b.2.1, vb]] w (NewCylB w 0 0 [] false) := by
  have := imerge_any a b ha hb; rw [k] at this; exact this
theorem imerge_some {w : World} {va vb : Value} {a b x : Cyl} (k : mgO a b = some x) (ha : Rd2 w va a.2.2) (hb : Rd2 w vb b.2.2) :
    Calls Try.prog 13 #[.agg #[.int .i64 a.1, .int .i64 a.2.1, va], .agg #[.int .i64 b.1, .int .i64 b.2.1, vb]] w (NewCylB w x.1 x.2.1 x.2.2 true) := by
  have := imerge_any a b ha hb; rw [k] at this; exact this
theorem hold_step {d : Int} {cs : List Cyl} {k : Nat} {o c x : Cyl} (HO : (k = 0 ∧ ∃ c0, cs[0]? = some c0 ∧ o = (c0.1, 100, [])) ∨ (0 < k ∧ holdO d cs k = some o)) (hc : cs[k]? = some c) (hx : shO c d (k : Int) = some x) : holdO d cs (k + 1) = mgO o x := by
  rcases HO with ⟨rfl, c0, h0, rfl⟩ | ⟨h0, h1⟩
  · rw [hc] at h0
    obtain rfl := Option.some.inj h0
    obtain ⟨_, rfl, hp⟩ := shO_some hx
    rw [holdO_one hc]
    exact hx.trans (mgO_nil hp).symm
  · exact holdO_more h0 hc h1 hx

set_option maxHeartbeats 4000000 in
set_option maxRecDepth 100000 in
theorem ihold_any {w : World} {v : Value} {us : List Value} {cs : List Cyl} (d : Int) (h : RdY w v us cs) :
    Calls Try.prog 11 #[v, .int .i64 d] w (NewCylO w (hdO cs d)) := by
  obtain ⟨a1, cap1, rfl⟩ := h.slice
  have hm := h.len
  unfold maxLen at hm
  obtain ⟨W, hW⟩ : ∃ W, W = w.alloc (.cells #[.int .i64 0, .int .i64 0, .slice none 0 0] 26) := ⟨_, rfl⟩
  have hR : BoxW W w.heap.size (.int .i64 0) (.int .i64 0) (.slice none 0 0) := by rw [hW]; exact boxw_new _ _ _ _ _
  have hB : Below w.heap.size w W := by rw [hW]; exact (Below.refl _ _).alloc (Nat.le_refl _) _
  have hsW : W.heap.size = w.heap.size + 1 := by rw [hW]; simp
  by_cases h0 : cs.length = 0
  · have HM := Lib.hid (hdO_no (cs := cs) (d := d) (by rw [h0]; simp))
    have hd0 : ((cs.length : Int) == 0) = true := by rw [beq_iff_eq]; omega
    obtain ⟨bx, hbx⟩ : ∃ b, b = w.heap.size := ⟨_, rfl⟩
    have hle : w.heap.size ≤ bx := by omega
    go_enter Try.func11, Try.ntmps11
    go_upto_region 1 with fail
    rw [← hW]
    clear hW
    rw [← hbx] at hR
    simp only [← hbx]
    clear hbx h0 hsW
    obtain ⟨d0, d1, d2⟩ := id hR.2.1
    have f0 := hR.2.2 0
    have f1 := hR.2.2 1
    have f2 := hR.2.2 2
    have hq := read3 hR (.int .i64 0) (.int .i64 0) (.slice none 0 0)
    have hb9 := wr3_below hB hle (.int .i64 0) (.int .i64 0) (.slice none 0 0)
    clear hB
    go_wp2
    refine bodyPost_ret (v := .tuple #[.agg #[.int .i64 0, .int .i64 0, .slice none 0 0], .bool false]) (by simp [results, Try.results11, go_sem, hq.1, hq.2.1, hq.2.2]) rfl ?_
    rw [HM.out]
    exact ⟨_, rfl, World.ownsRow_nil _ _ _ _, hb9⟩
  · have hd0 : ((cs.length : Int) == 0) = false := by rw [beq_eq_false_iff_ne]; omega
    by_cases hdl : d < (cs.length : Int)
    · have HM := Lib.hid (hdO_no (cs := cs) (d := d) (by omega))
      have hd1 : decide (d < (cs.length : Int)) = true := decide_eq_true hdl
      obtain ⟨bx, hbx⟩ : ∃ b, b = w.heap.size := ⟨_, rfl⟩
      have hle : w.heap.size ≤ bx := by omega
      go_enter Try.func11, Try.ntmps11
      go_upto_region 1 with fail
      rw [← hW]
      clear hW
      rw [← hbx] at hR
      simp only [← hbx]
      clear hbx h0 hsW hdl
      obtain ⟨d0, d1, d2⟩ := id hR.2.1
      have f0 := hR.2.2 0
      have f1 := hR.2.2 1
      have f2 := hR.2.2 2
      have hq := read3 hR (.int .i64 0) (.int .i64 0) (.slice none 0 0)
      have hb9 := wr3_below hB hle (.int .i64 0) (.int .i64 0) (.slice none 0 0)
      clear hB
      go_wp2
      refine bodyPost_ret (v := .tuple #[.agg #[.int .i64 0, .int .i64 0, .slice none 0 0], .bool false]) (by simp [results, Try.results11, go_sem, hq.1, hq.2.1, hq.2.2]) rfl ?_
      rw [HM.out]
      exact ⟨_, rfl, World.ownsRow_nil _ _ _ _, hb9⟩
    · have hd1 : decide (d < (cs.length : Int)) = false := decide_eq_false hdl
      have tl : 1 ≤ (cs.length : Int) ∧ (cs.length : Int) ≤ d := by omega
      have HD := Lib.hid (hdO_yes tl)
      obtain ⟨c0, hc0⟩ : ∃ c, cs[0]? = some c := ⟨_, List.getElem?_eq_getElem (by omega)⟩
      have HC0 := Lib.hid hc0
      obtain ⟨bp, op, cp, up, -, hvp, p1, p2, p3, -⟩ := (h.below hB).cell hc0
      simp only [Value.slice.injEq, true_and] at hvp
      obtain ⟨rfl, rfl⟩ := hvp
      rw [Nat.zero_mul, Nat.add_zero] at p1
      have hpl : (0 : Int) < (cs.length : Int) := by omega
      obtain ⟨bx, hbx⟩ : ∃ b, b = w.heap.size := ⟨_, rfl⟩
      have hle : w.heap.size ≤ bx := by omega
      clear hc0 p2 p3
      go_enter Try.func11, Try.ntmps11
      go_upto_region 1 with fail
      rw [← hW]
      clear hW
      rw [← hbx] at hR hsW
      simp only [← hbx]
      clear hbx hdl h0
      go_wp2_with fail
      obtain ⟨W3, hW3⟩ : ∃ W3, W3 = W.alloc (.cells #[.int .i64 c0.1, .int .i64 100, .slice none 0 0] 26) := ⟨_, rfl⟩
      have hb3 : Below W.heap.size W W3 := by rw [hW3]; exact (Below.refl _ _).alloc (Nat.le_refl _) _
      have hO : BoxW W3 W.heap.size (.int .i64 c0.1) (.int .i64 100) (.slice none 0 0) := by rw [hW3]; exact boxw_new _ _ _ _ _
      rw [← hW3]
      rw [hsW] at hO
      have hH : Held w bx (bx + 1) (bx + 2) (c0.1, 100, []) (.slice none 0 0) W3 := ⟨World.ownsRow_nil _ _ _ _, bstep hB hb3, hR.below hb3, hO⟩
      clear hW3 hb3 hO hR hB hsW p1
      go_loopw [28] (fun v28 wr => ∃ (k : Nat) (o : Cyl) (u : Value), k ≤ cs.length ∧ v28 = .int .i64 k ∧ Hid ((k = 0 ∧ ∃ c0, cs[0]? = some c0 ∧ o = (c0.1, 100, [])) ∨ (0 < k ∧ holdO d cs k = some o)) ∧ Held w bx (bx + 1) (bx + 2) o u wr) (fun v28 _ => cs.length - (intOf v28).toNat)
      case atStart => exact ⟨0, (c0.1, 100, []), _, Nat.zero_le _, rfl, Lib.hid (Or.inl ⟨rfl, c0, HC0.out, rfl⟩), hH⟩
      case round =>
        clear hH
        obtain ⟨k, o, u, hk, rfl, HO, hH⟩ := hrel
        by_cases hlt : k < cs.length
        · obtain ⟨c, hc⟩ : ∃ c, cs[k]? = some c := ⟨_, List.getElem?_eq_getElem hlt⟩
          have HC := Lib.hid hc
          obtain ⟨b1, o1, c1, uc, -, hv1, x1, x2, x3, hu⟩ := (h.below hH.2.1).cell hc
          simp only [Value.slice.injEq, true_and, Option.some.injEq, Addr.mk.injEq, and_true] at hv1
          obtain ⟨⟨rfl, rfl⟩, rfl⟩ := hv1
          have hbl : bx + 2 ≤ wr.heap.size := hH.2.2.2.1
          obtain ⟨V, hV⟩ : ∃ V, V = wr.alloc (.cells #[.int .i64 c.1, .int .i64 c.2.1, uc] 26) := ⟨_, rfl⟩
          have hbV : Below wr.heap.size wr V := by rw [hV]; exact (Below.refl _ _).alloc (Nat.le_refl _) _
          have hHV := hH.below hbV
          have huV := Rd.below hu hbV
          have hblV : bx + 2 ≤ V.heap.size := Nat.le_trans hbl hbV.size
          clear hc
          obtain ⟨ac, cc, rfl⟩ := Rd.slice hu
          go_wp2_with fail
          rw [← hV]
          clear hV hbV hH hu x1 x2 x3 hbl
          cases hx : shO c d (k : Int) with
          | none =>
            have HM : Hid (hdO cs d = none) := Lib.hid (HD.out.trans (holdO_end (Nat.succ_pos k) (holdO_shno HC.out hx) (by omega)))
            refine (ishift_none hx huV).mono ?_
            rintro e w1 ⟨vx, rfl, hox, hb1⟩
            obtain ⟨ax, cx, rfl⟩ := ownS_slice hox
            have hH1 := (hHV.below hb1).below ((Below.refl w1.heap.size w1).alloc (Nat.le_refl _) (.cells #[.int .i64 0, .int .i64 0, .slice ax 0 cx] 26))
            have hR1 := hH1.2.2.1
            have g1 := hH1.2.1
            clear hHV hH1 hb1 hox huV hx HO
            obtain ⟨d0, d1, d2⟩ := id hR1.2.1
            have f0 := hR1.2.2 0
            have f1 := hR1.2.2 1
            have f2 := hR1.2.2 2
            have hq := read3 hR1 (.int .i64 0) (.int .i64 0) (.slice none 0 0)
            have hb9 := wr3_below g1 hle (.int .i64 0) (.int .i64 0) (.slice none 0 0)
            clear g1
            go_wp2
            refine bodyPost_ret (v := .tuple #[.agg #[.int .i64 0, .int .i64 0, .slice none 0 0], .bool false]) (by simp [results, Try.results11, go_sem, hq.1, hq.2.1, hq.2.2]) rfl ?_
            rw [HM.out]
            exact ⟨_, rfl, World.ownsRow_nil _ _ _ _, hb9⟩
          | some x =>
            have HSTEP := Lib.hid (hold_step HO.out HC.out hx)
            refine (ishift_some hx huV).mono ?_
            rintro e w1 ⟨vx, rfl, hox, hb1⟩
            have hH1 := hHV.below hb1
            obtain ⟨ax, cx, rfl⟩ := ownS_slice hox
            clear hHV hb1 huV hx HO
            obtain ⟨W2, hW2⟩ : ∃ W2, W2 = w1.alloc (.cells #[.int .i64 x.1, .int .i64 x.2.1, .slice ax x.2.2.length cx] 26) := ⟨_, rfl⟩
            have hb2 : Below w1.heap.size w1 W2 := by rw [hW2]; exact (Below.refl _ _).alloc (Nat.le_refl _) _
            have hXb : BoxW W2 w1.heap.size (.int .i64 x.1) (.int .i64 x.2.1) (.slice ax x.2.2.length cx) := by rw [hW2]; exact boxw_new _ _ _ _ _
            have hH2 := hH1.below hb2
            have hox2 := ownS_below hox hb2
            obtain ⟨d0, d1, d2⟩ := id hH2.2.2.2.2.1
            obtain ⟨z0, z1, z2⟩ := id hXb.2.1
            rw [hW2] at d0 d1 d2 z0 z1 z2
            obtain ⟨au, cu, rfl⟩ := ownS_slice hH2.1
            clear hH1 hox
            go_wp2_with fail
            rw [← hW2]
            clear hW2 hXb hb2 d0 d1 d2 z0 z1 z2
            have hbl2 : bx + 2 ≤ W2.heap.size := hH2.2.2.2.1
            cases hm2 : mgO o x with
            | none =>
              have HM : Hid (hdO cs d = none) := Lib.hid (HD.out.trans (holdO_end (Nat.succ_pos k) (HSTEP.out.trans hm2) (by omega)))
              refine (imerge_none hm2 (Rd.of_own hH2.1) (Rd.of_own hox2)).mono ?_
              rintro e w4 ⟨vm, rfl, hom, hb4⟩
              obtain ⟨am, cm, rfl⟩ := ownS_slice hom
              have hH4 := hH2.below hb4
              have hH6 := hH4.lay (x := (0, 0, [])) hom hbl2 (Nat.lt_succ_self _) (by omega) (by omega)
              obtain ⟨d0, d1, d2⟩ := id hH4.2.2.2.2.1
              have f0 := hH4.2.2.2.2.2 0
              have f1 := hH4.2.2.2.2.2 1
              have f2 := hH4.2.2.2.2.2 2
              obtain ⟨W6, hW6⟩ : ∃ W6, W6 = ((w4.setCell ⟨bx + 1, 0, none⟩ (.int .i64 0)).setCell ⟨bx + 1, 1, none⟩ (.int .i64 0)).setCell ⟨bx + 1, 2, none⟩ (.slice am 0 cm) := ⟨_, rfl⟩
              have hH7 : Held w bx (bx + 1) (bx + 2) (0, 0, []) (.slice am 0 cm) W6 := by rw [hW6]; exact hH6
              clear hH2 hH6 hox2 hb4 hom hm2 HSTEP
              go_upto_region 11 with fail
              rw [← hW6]
              clear hW6 hH4 d0 d1 d2 f0 f1 f2
              have hR7 := hH7.2.2.1
              have g7 := hH7.2.1
              clear hH7
              obtain ⟨d0, d1, d2⟩ := id hR7.2.1
              have f0 := hR7.2.2 0
              have f1 := hR7.2.2 1
              have f2 := hR7.2.2 2
              have hq := read3 hR7 (.int .i64 0) (.int .i64 0) (.slice none 0 0)
              have hb9 := wr3_below g7 hle (.int .i64 0) (.int .i64 0) (.slice none 0 0)
              clear g7
              go_wp2
              refine bodyPost_ret (v := .tuple #[.agg #[.int .i64 0, .int .i64 0, .slice none 0 0], .bool false]) (by simp [results, Try.results11, go_sem, hq.1, hq.2.1, hq.2.2]) rfl ?_
              rw [HM.out]
              exact ⟨_, rfl, World.ownsRow_nil _ _ _ _, hb9⟩
            | some m =>
              have HN : Hid ((k + 1 = 0 ∧ ∃ c0, cs[0]? = some c0 ∧ m = (c0.1, 100, [])) ∨ (0 < k + 1 ∧ holdO d cs (k + 1) = some m)) := Lib.hid (Or.inr ⟨by omega, HSTEP.out.trans hm2⟩)
              refine (imerge_some hm2 (Rd.of_own hH2.1) (Rd.of_own hox2)).mono ?_
              rintro e w4 ⟨vm, rfl, hom, hb4⟩
              obtain ⟨am, cm, rfl⟩ := ownS_slice hom
              have hH4 := hH2.below hb4
              have hH6 := hH4.lay hom hbl2 (Nat.lt_succ_self _) (by omega) (by omega)
              obtain ⟨d0, d1, d2⟩ := id hH4.2.2.2.2.1
              have f0 := hH4.2.2.2.2.2 0
              have f1 := hH4.2.2.2.2.2 1
              have f2 := hH4.2.2.2.2.2 2
              have HH6 := Lib.hid hH6
              clear hH2 hH4 hH6 hox2 hb4 hom hm2 HSTEP
              go_wp2
              go_roundw
              case rel => exact ⟨k + 1, m, _, by omega, by go_num, HN, HH6.out⟩
              case measure => simp [intOf]; omega
        · obtain rfl : k = cs.length := by omega
          have HM : Hid (hdO cs d = some o) := Lib.hid (HD.out.trans (HO.out.elim (fun q => absurd q.1 (by omega)) (fun q => q.2)))
          obtain ⟨hown, hbr, hRr, hOr⟩ := hH
          obtain ⟨au, cu, rfl⟩ := ownS_slice hown
          obtain ⟨d0, d1, d2⟩ := id hRr.2.1
          have f0 := hRr.2.2 0
          have f1 := hRr.2.2 1
          have f2 := hRr.2.2 2
          obtain ⟨z0, z1, z2⟩ := id hOr.2.1
          have hq := read3 hRr (.int .i64 o.1) (.int .i64 o.2.1) (.slice au o.2.2.length cu)
          have ho9 := own_low (wr3_own hown (ob_of_lt hown (show bx < bx + 2 by omega)) (.int .i64 o.1) (.int .i64 o.2.1) (.slice au o.2.2.length cu)) (show w.heap.size ≤ bx + 2 by omega)
          have hb9 := wr3_below hbr hle (.int .i64 o.1) (.int .i64 o.2.1) (.slice au o.2.2.length cu)
          clear hown hbr hRr hOr HO
          go_wp2
          refine bodyPost_ret (v := .tuple #[.agg #[.int .i64 o.1, .int .i64 o.2.1, .slice au o.2.2.length cu], .bool true]) (by simp [results, Try.results11, go_sem, hq.1, hq.2.1, hq.2.2]) rfl ?_
          rw [HM.out]
          exact ⟨_, rfl, ho9, hb9⟩
end Go.Proofs.Ytemhmbaacpfnaaa
