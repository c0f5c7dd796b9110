/- The contract of the model's HoldsTunes. No condition. -/
import Derived.Test.YtemhmbaacpfnaaaRowCyl
import Derived.Test.YtemhmbaacpfnaaaMergeSpec
namespace Go.Proofs.Ytemhmbaacpfnaaa
open Go.ChangeShapes Go.WideShapes Go.ChangeAt Go.RowKit

theorem sshift_none {w : World} {v : Value} {c : Cyl} {d h : Int} (k : shO c d h = none) (hc : Rd2 w v c.2.2) :
    Calls Try.prog 18 #[.agg #[.int .i64 c.1, .int .i64 c.2.1, v], .int .i64 d, .int .i64 h] w (NewCylB w 0 0 [] false) := by
  have := sshift_any c d h hc; rw [k] at this; exact this
theorem sshift_some {w : World} {v : Value} {c x : Cyl} {d h : Int} (k : shO c d h = some x) (hc : Rd2 w v c.2.2) :
    Calls Try.prog 18 #[.agg #[.int .i64 c.1, .int .i64 c.2.1, v], .int .i64 d, .int .i64 h] w (NewCylB w x.1 x.2.1 x.2.2 true) := by
  have := sshift_any c d h hc; rw [k] at this; exact this
theorem smerge_none {w : World} {va vb : Value} {a b : Cyl} (k : mgO a b = none) (ha : Rd2 w va a.2.2) (hb : Rd2 w vb b.2.2) :
    Calls Try.prog 23 #[.agg #[.int .i64 a.1, .int .i64 a.2.1, va], .agg #[.int .i64 b.1, .int .i64 b.2.1, vb]] w (NewCylB w 0 0 [] false) := by
  have := smerge_any a b ha hb; rw [k] at this; exact this
theorem smerge_some {w : World} {va vb : Value} {a b x : Cyl} (k : mgO a b = some x) (ha : Rd2 w va a.2.2) (hb : Rd2 w vb b.2.2) :
    Calls Try.prog 23 #[.agg #[.int .i64 a.1, .int .i64 a.2.1, va], .agg #[.int .i64 b.1, .int .i64 b.2.1, vb]] w (NewCylB w x.1 x.2.1 x.2.2 true) := by
  have := smerge_any a b ha hb; rw [k] at this; exact this
/-- What has been merged: in a box b with the answer's box r, both below C. -/
def Held (w : World) (r b C : Nat) (o : Cyl) (u : Value) (wr : World) : Prop :=
  wr.ownsRow C 34 2 u o.2.2.length (flat2 o.2.2) ∧ Below w.heap.size w wr ∧ BoxW wr r (.int .i64 0) (.int .i64 0) (.slice none 0 0) ∧ BoxW wr b (.int .i64 o.1) (.int .i64 o.2.1) u
theorem Held.below {w wr w' : World} {r b C : Nat} {o : Cyl} {u : Value} (h : Held w r b C o u wr) (hb : Below wr.heap.size wr w') : Held w r b C o u w' :=
  ⟨ownS_below h.1 hb, bstep h.2.1 hb, h.2.2.1.below hb, h.2.2.2.below hb⟩
/-- Another cylinder laid into the box. -/
theorem Held.lay {w wr : World} {r b C C' : Nat} {o x : Cyl} {u v : Value} (h : Held w r b C o u wr) (hv : wr.ownsRow C' 34 2 v x.2.2.length (flat2 x.2.2)) (hC : C ≤ C') (hb : b < C) (hr : r ≠ b) (hw : w.heap.size ≤ b) :
    Held w r b C x v (((wr.setCell ⟨b, 0, none⟩ (.int .i64 x.1)).setCell ⟨b, 1, none⟩ (.int .i64 x.2.1)).setCell ⟨b, 2, none⟩ v) :=
  ⟨own_low (wr3_own hv (ob_of_lt hv (Nat.lt_of_lt_of_le hb hC)) _ _ _) hC, wr3_below h.2.1 hw _ _ _, wr3_other h.2.2.1 (Ne.symm hr) _ _ _, wr3_same h.2.2.2 _ _ _⟩

set_option maxHeartbeats 4000000 in
set_option maxRecDepth 100000 in
theorem shold_any {w : World} {v : Value} {us : List Value} {cs : List Cyl} (d : Int) (h : RdY w v us cs) :
    Calls Try.prog 26 #[v, .int .i64 d] w (NewCylO w (hdO cs d)) := by
  obtain ⟨a1, cap1, rfl⟩ := h.slice
  have hm := h.len
  unfold maxLen at hm
  obtain ⟨W, hW⟩ : ∃ W, W = w.alloc (.cells #[.int .i64 0, .int .i64 0, .slice none 0 0] 26) := ⟨_, rfl⟩
  have hR : BoxW W w.heap.size (.int .i64 0) (.int .i64 0) (.slice none 0 0) := by rw [hW]; exact boxw_new _ _ _ _ _
  have hB : Below w.heap.size w W := by rw [hW]; exact (Below.refl _ _).alloc (Nat.le_refl _) _
  have hsW : W.heap.size = w.heap.size + 1 := by rw [hW]; simp
  go_enter Try.func26, Try.ntmps26
  go_wp2_with fail
  rw [← hW]
  clear hW
  obtain ⟨bx, hbx⟩ : ∃ b, b = w.heap.size := ⟨_, rfl⟩
  have hle : w.heap.size ≤ bx := by omega
  rw [← hbx] at hR hsW
  simp only [← hbx]
  clear hbx
  by_cases tl : 1 ≤ (cs.length : Int) ∧ (cs.length : Int) ≤ d
  · have HD := Lib.hid (hdO_yes tl)
    refine (in_yes' _ _ _ tl _).mono ?_
    rintro e W ⟨rfl, rfl⟩
    go_wp2_with fail
    obtain ⟨W3, hW3⟩ : ∃ W3, W3 = W.alloc (.cells #[.int .i64 0, .int .i64 0, .slice none 0 0] 26) := ⟨_, rfl⟩
    have hb3 : Below W.heap.size W W3 := by rw [hW3]; exact (Below.refl _ _).alloc (Nat.le_refl _) _
    have hO : BoxW W3 W.heap.size (.int .i64 0) (.int .i64 0) (.slice none 0 0) := by rw [hW3]; exact boxw_new _ _ _ _ _
    rw [← hW3]
    rw [hsW] at hO
    have hH : Held w bx (bx + 1) (bx + 2) (0, 0, []) (.slice none 0 0) W3 := ⟨World.ownsRow_nil _ _ _ _, bstep hB hb3, hR.below hb3, hO⟩
    have hs3 : bx + 2 ≤ W3.heap.size := by rw [hW3, size_alloc]; omega
    clear hW3 hb3 hO hR hB hsW
    go_loopw [7] (fun v7 wr => ∃ (k : Nat) (o : Cyl) (u : Value), k ≤ cs.length ∧ v7 = .int .i64 k ∧ Hid ((k = 0 ∧ o = (0, 0, [])) ∨ (0 < k ∧ holdO d cs k = some o)) ∧ Held w bx (bx + 1) (bx + 2) o u wr) (fun v7 _ => cs.length - (intOf v7).toNat)
    case atStart => exact ⟨0, (0, 0, []), _, Nat.zero_le _, rfl, Lib.hid (Or.inl ⟨rfl, rfl⟩), hH⟩
    case round =>
      clear hH hs3
      obtain ⟨k, o, u, hk, rfl, HO, hH⟩ := hrel
      by_cases hlt : k < cs.length
      · obtain ⟨c, hc⟩ : ∃ c, cs[k]? = some c := ⟨_, List.getElem?_eq_getElem hlt⟩
        have HC := Lib.hid hc
        obtain ⟨b1, o1, c1, uc, -, hv1, x1, x2, x3, hu⟩ := (h.below hH.2.1).cell hc
        simp only [Value.slice.injEq, true_and] at hv1
        obtain ⟨rfl, rfl⟩ := hv1
        have hbl : bx + 2 ≤ wr.heap.size := hH.2.2.2.1
        clear hc
        go_wp2_with fail
        cases hx : shO c d (k : Int) with
        | none =>
          have HM : Hid (hdO cs d = none) := Lib.hid (HD.out.trans (holdO_end (Nat.succ_pos k) (holdO_shno HC.out hx) (by omega)))
          refine (sshift_none hx hu).mono ?_
          rintro e w1 ⟨vx, rfl, hox, hb1⟩
          obtain ⟨ax, cx, rfl⟩ := ownS_slice hox
          have hH1 := (hH.below hb1).below ((Below.refl w1.heap.size w1).alloc (Nat.le_refl _) (.cells #[.int .i64 0, .int .i64 0, .slice ax 0 cx] 26))
          have hR1 := hH1.2.2.1
          have g1 := hH1.2.1
          clear hH hH1 hb1 hox x1 x2 x3 hu hx
          obtain ⟨d0, d1, d2⟩ := id hR1.2.1
          have f0 := hR1.2.2 0
          have f1 := hR1.2.2 1
          have f2 := hR1.2.2 2
          have hq := read3 hR1 (.int .i64 0) (.int .i64 0) (.slice none 0 0)
          have hb9 := wr3_below g1 hle (.int .i64 0) (.int .i64 0) (.slice none 0 0)
          clear g1
          go_wp2
          refine bodyPost_ret (v := .tuple #[.agg #[.int .i64 0, .int .i64 0, .slice none 0 0], .bool false]) (by simp [results, Try.results26, go_sem, hq.1, hq.2.1, hq.2.2]) rfl ?_
          rw [HM.out]
          exact ⟨_, rfl, World.ownsRow_nil _ _ _ _, hb9⟩
        | some x =>
          have HX := Lib.hid hx
          refine (sshift_some hx hu).mono ?_
          rintro e w1 ⟨vx, rfl, hox, hb1⟩
          have hH1 := hH.below hb1
          have hCx := hb1.size
          obtain ⟨ax, cx, rfl⟩ := ownS_slice hox
          clear hH hb1 x1 x2 x3 hu hx
          obtain ⟨W2, hW2⟩ : ∃ W2, W2 = w1.alloc (.cells #[.int .i64 x.1, .int .i64 x.2.1, .slice ax x.2.2.length cx] 26) := ⟨_, rfl⟩
          have hb2 : Below w1.heap.size w1 W2 := by rw [hW2]; exact (Below.refl _ _).alloc (Nat.le_refl _) _
          have hXb : BoxW W2 w1.heap.size (.int .i64 x.1) (.int .i64 x.2.1) (.slice ax x.2.2.length cx) := by rw [hW2]; exact boxw_new _ _ _ _ _
          have hH2 := hH1.below hb2
          have hox2 := ownS_below hox hb2
          have hlo : bx + 2 ≤ wr.heap.size := hbl
          clear hH1 hox
          by_cases hk0 : k = 0
          · subst hk0
            have HN : Hid ((0 + 1 = 0 ∧ x = (0, 0, [])) ∨ (0 < 0 + 1 ∧ holdO d cs (0 + 1) = some x)) := Lib.hid (Or.inr ⟨by omega, by rw [holdO_one HC.out]; exact HX.out⟩)
            have hH3 := hH2.lay hox2 hbl (Nat.lt_succ_self _) (by omega) (by omega)
            obtain ⟨d0, d1, d2⟩ := id hH2.2.2.2.2.1
            have f0 := hH2.2.2.2.2.2 0
            have f1 := hH2.2.2.2.2.2 1
            have f2 := hH2.2.2.2.2.2 2
            obtain ⟨z0, z1, z2⟩ := id hXb.2.1
            have HH3 := Lib.hid hH3
            rw [hW2] at d0 d1 d2 f0 f1 f2 z0 z1 z2
            clear hH2 hox2 hb2 hXb hH3 HO
            go_wp2
            rw [← hW2]
            go_roundw
            case rel => exact ⟨0 + 1, x, _, by omega, by go_num, HN, HH3.out⟩
            case measure => simp [intOf]; omega
          · have hkb : ((k : Int) == 0) = false := by rw [beq_eq_false_iff_ne]; omega
            have HOK : Hid (holdO d cs k = some o) := Lib.hid (HO.out.elim (fun q => absurd q.1 hk0) (fun q => q.2))
            have HSTEP : Hid (holdO d cs (k + 1) = mgO o x) := Lib.hid (holdO_more (by omega) HC.out HOK.out HX.out)
            obtain ⟨d0, d1, d2⟩ := id hH2.2.2.2.2.1
            obtain ⟨z0, z1, z2⟩ := id hXb.2.1
            rw [hW2] at d0 d1 d2 z0 z1 z2
            obtain ⟨au, cu, rfl⟩ := ownS_slice hH2.1
            go_wp2_with fail
            rw [← hW2]
            clear hW2 hXb hb2 d0 d1 d2 z0 z1 z2 HO
            cases hm2 : mgO o x with
            | none =>
              have HM : Hid (hdO cs d = none) := Lib.hid (HD.out.trans (holdO_end (Nat.succ_pos k) (HSTEP.out.trans hm2) (by omega)))
              refine (smerge_none hm2 (Rd.of_own hH2.1) (Rd.of_own hox2)).mono ?_
              rintro e w4 ⟨vm, rfl, hom, hb4⟩
              obtain ⟨am, cm, rfl⟩ := ownS_slice hom
              have hH4 := (hH2.below hb4).below ((Below.refl w4.heap.size w4).alloc (Nat.le_refl _) (.cells #[.int .i64 0, .int .i64 0, .slice am 0 cm] 26))
              have hR4 := hH4.2.2.1
              have g4 := hH4.2.1
              clear hH2 hH4 hox2 hb4 hom hm2 HSTEP HOK
              obtain ⟨d0, d1, d2⟩ := id hR4.2.1
              have f0 := hR4.2.2 0
              have f1 := hR4.2.2 1
              have f2 := hR4.2.2 2
              have hq := read3 hR4 (.int .i64 0) (.int .i64 0) (.slice none 0 0)
              have hb9 := wr3_below g4 hle (.int .i64 0) (.int .i64 0) (.slice none 0 0)
              clear g4
              go_wp2
              refine bodyPost_ret (v := .tuple #[.agg #[.int .i64 0, .int .i64 0, .slice none 0 0], .bool false]) (by simp [results, Try.results26, go_sem, hq.1, hq.2.1, hq.2.2]) rfl ?_
              rw [HM.out]
              exact ⟨_, rfl, World.ownsRow_nil _ _ _ _, hb9⟩
            | some m =>
              have HN : Hid ((k + 1 = 0 ∧ m = (0, 0, [])) ∨ (0 < k + 1 ∧ holdO d cs (k + 1) = some m)) := Lib.hid (Or.inr ⟨by omega, HSTEP.out.trans hm2⟩)
              refine (smerge_some hm2 (Rd.of_own hH2.1) (Rd.of_own hox2)).mono ?_
              rintro e w4 ⟨vm, rfl, hom, hb4⟩
              have hH4 := hH2.below hb4
              have hC4 := hb4.size
              obtain ⟨am, cm, rfl⟩ := ownS_slice hom
              obtain ⟨W5, hW5⟩ : ∃ W5, W5 = w4.alloc (.cells #[.int .i64 m.1, .int .i64 m.2.1, .slice am m.2.2.length cm] 26) := ⟨_, rfl⟩
              have hb5 : Below w4.heap.size w4 W5 := by rw [hW5]; exact (Below.refl _ _).alloc (Nat.le_refl _) _
              have hMb : BoxW W5 w4.heap.size (.int .i64 m.1) (.int .i64 m.2.1) (.slice am m.2.2.length cm) := by rw [hW5]; exact boxw_new _ _ _ _ _
              have hH5 := hH4.below hb5
              have hom5 := ownS_below hom hb5
              have hH6 := hH5.lay hom5 (show bx + 2 ≤ W2.heap.size from hH2.2.2.2.1) (Nat.lt_succ_self _) (by omega) (by omega)
              obtain ⟨d0, d1, d2⟩ := id hH5.2.2.2.2.1
              have f0 := hH5.2.2.2.2.2 0
              have f1 := hH5.2.2.2.2.2 1
              have f2 := hH5.2.2.2.2.2 2
              obtain ⟨z0, z1, z2⟩ := id hMb.2.1
              have HH6 := Lib.hid hH6
              rw [hW5] at d0 d1 d2 f0 f1 f2 z0 z1 z2
              clear hH2 hox2 hb4 hom hm2 HSTEP HOK hH4 hb5 hMb hH5 hom5 hH6
              go_wp2
              rw [← hW5]
              go_roundw
              case rel => exact ⟨k + 1, m, _, by omega, by go_num, HN, HH6.out⟩
              case measure => simp [intOf]; omega
      · obtain rfl : k = cs.length := by omega
        have HM : Hid (hdO cs d = some o) := Lib.hid (HD.out.trans (HO.out.elim (fun q => absurd q.1 (by omega)) (fun q => q.2)))
        obtain ⟨hown, hbr, hRr, hOr⟩ := hH
        obtain ⟨au, cu, rfl⟩ := ownS_slice hown
        obtain ⟨d0, d1, d2⟩ := id hRr.2.1
        have f0 := hRr.2.2 0
        have f1 := hRr.2.2 1
        have f2 := hRr.2.2 2
        obtain ⟨z0, z1, z2⟩ := id hOr.2.1
        have hq := read3 hRr (.int .i64 o.1) (.int .i64 o.2.1) (.slice au o.2.2.length cu)
        have ho9 := own_low (wr3_own hown (ob_of_lt hown (show bx < bx + 2 by omega)) (.int .i64 o.1) (.int .i64 o.2.1) (.slice au o.2.2.length cu)) (show w.heap.size ≤ bx + 2 by omega)
        have hb9 := wr3_below hbr hle (.int .i64 o.1) (.int .i64 o.2.1) (.slice au o.2.2.length cu)
        clear hown hbr hRr hOr HO
        go_wp2
        refine bodyPost_ret (v := .tuple #[.agg #[.int .i64 o.1, .int .i64 o.2.1, .slice au o.2.2.length cu], .bool true]) (by simp [results, Try.results26, go_sem, hq.1, hq.2.1, hq.2.2]) rfl ?_
        rw [HM.out]
        exact ⟨_, rfl, ho9, hb9⟩
  · have HM := Lib.hid (hdO_no tl)
    refine (in_no _ _ _ tl _).mono ?_
    rintro e W ⟨rfl, rfl⟩
    obtain ⟨d0, d1, d2⟩ := id hR.2.1
    have f0 := hR.2.2 0
    have f1 := hR.2.2 1
    have f2 := hR.2.2 2
    have hq := read3 hR (.int .i64 0) (.int .i64 0) (.slice none 0 0)
    have hb9 := wr3_below hB hle (.int .i64 0) (.int .i64 0) (.slice none 0 0)
    clear hB
    go_wp2
    refine bodyPost_ret (v := .tuple #[.agg #[.int .i64 0, .int .i64 0, .slice none 0 0], .bool false]) (by simp [results, Try.results26, go_sem, hq.1, hq.2.1, hq.2.2]) rfl ?_
    rw [HM.out]
    exact ⟨_, rfl, World.ownsRow_nil _ _ _ _, hb9⟩
end Go.Proofs.Ytemhmbaacpfnaaa
