/- The contract of the model's Disturbs. No condition. -/
import Derived.Test.YtemhmbaacpfnaaaShiftSpec
import Derived.Test.YtemhmbaacpfnaaaGap
namespace Go.Proofs.Ytemhmbaacpfnaaa
open Go.ChangeShapes Go.WideShapes Go.ChangeAt Go.RowKit

theorem two_gap {s ta tb : Int} {a b : List (Int × Int)} (ha : CylP s ta a) (hb : CylP s tb b) {x y : Int × Int} (hx : x ∈ a) (hy : y ∈ b) : gapM x.2 y.2 s = gapG s x.2 y.2 := by
  have h1 := (cyl_bd ha hx).2
  have h2 := (cyl_bd hb hy).2
  have h3 := ha.1
  exact gapM_yes (by omega) h1 h2
theorem close_iff2 {s r : Int} {x y : Int × Int} : closeF s r x y = true ↔ x.1 = y.1 ∧ gapG s x.2 y.2 < r := by unfold closeF; rw [decide_eq_true_eq]

set_option maxHeartbeats 4000000 in
set_option maxRecDepth 100000 in
theorem sdist_any {w : World} {va vb : Value} (a b : Cyl) (r : Int) (ha : Rd2 w va a.2.2) (hb : Rd2 w vb b.2.2) :
    Calls Try.prog 30 #[.agg #[.int .i64 a.1, .int .i64 a.2.1, va], .agg #[.int .i64 b.1, .int .i64 b.2.1, vb], .int .i64 r] w fun e w' => e = .returned (.int .i64 (dsM a b r)) ∧ Below w.heap.size w w' := by
  obtain ⟨sa, ta, la⟩ := a
  obtain ⟨sb, tb, lb⟩ := b
  simp only at ha hb ⊢
  obtain ⟨a1, cap1, rfl⟩ := Rd.slice ha
  obtain ⟨a2, cap2, rfl⟩ := Rd.slice hb
  have hma := ha.2.1
  have hmb := hb.2.1
  unfold maxLen at hma hmb
  obtain ⟨W, hW⟩ : ∃ W, W = (w.alloc (.cells #[.int .i64 sa, .int .i64 ta, .slice a1 la.length cap1] 26)).alloc (.cells #[.int .i64 sb, .int .i64 tb, .slice a2 lb.length cap2] 26) := ⟨_, rfl⟩
  have hbA : Below (w.alloc (.cells #[.int .i64 sa, .int .i64 ta, .slice a1 la.length cap1] 26)).heap.size (w.alloc (.cells #[.int .i64 sa, .int .i64 ta, .slice a1 la.length cap1] 26)) W := by rw [hW]; exact (Below.refl _ _).alloc (Nat.le_refl _) _
  have hX : Box W w.heap.size sa ta (.slice a1 la.length cap1) := (box_new _ _ _ _ _).below hbA
  have hY : Box W (w.heap.size + 1) sb tb (.slice a2 lb.length cap2) := by
    have := box_new (w.alloc (.cells #[.int .i64 sa, .int .i64 ta, .slice a1 la.length cap1] 26)) sb tb (.slice a2 lb.length cap2) 26
    rw [size_alloc, ← hW] at this; exact this
  have hB : Below w.heap.size w W := bstep ((Below.refl _ _).alloc (Nat.le_refl _) _) hbA
  clear hbA
  go_enter Try.func30, Try.ntmps30
  go_wp2_with fail
  rw [← hW]
  clear hW
  obtain ⟨bx, hbx⟩ : ∃ b, b = w.heap.size := ⟨_, rfl⟩
  rw [← hbx] at hX hY
  simp only [← hbx]
  clear hbx
  by_cases tca : cylB sa ta la = true
  · have TCA := Lib.hid tca
    have CCA := Lib.hid (cylB_true.1 tca)
    have hla := (cylB_true.1 tca).2.2.1
    clear tca
    refine (cylok_yes (Rd.below ha hB) TCA.out).mono ?_
    rintro e w1 ⟨rfl, hb1⟩
    have hX1 := hX.below hb1
    have hY1 := hY.below hb1
    have g1 := bstep hB hb1
    clear hX hY hB hb1
    obtain ⟨-, c0, c1, c2⟩ := id hX1
    obtain ⟨-, m0, m1, m2⟩ := id hY1
    go_wp2_with fail
    clear c0 c1 c2 m0 m1 m2
    by_cases tcb : cylB sb tb lb = true
    · have TCB := Lib.hid tcb
      have CCB := Lib.hid (cylB_true.1 tcb)
      have hlb := (cylB_true.1 tcb).2.2.1
      clear tcb
      refine (cylok_yes (Rd.below hb g1) TCB.out).mono ?_
      rintro e w2 ⟨rfl, hb2⟩
      have hX2 := hX1.below hb2
      have hY2 := hY1.below hb2
      have g2 := bstep g1 hb2
      clear hX1 hY1 g1 hb2
      obtain ⟨-, c0, c1, c2⟩ := id hX2
      obtain ⟨-, m0, m1, m2⟩ := id hY2
      by_cases hs : sa = sb
      · subst hs
        have hsb : (sa != sa) = false := by simp
        by_cases tr : 1 ≤ r ∧ r ≤ 96
        · have HL := Lib.hid (dsM_yes (a := (sa, ta, la)) (b := (sa, tb, lb)) ⟨TCA.out, TCB.out, rfl⟩ tr)
          simp only at HL
          go_wp2_with fail
          refine (in_yes' _ _ _ tr _).mono ?_
          rintro e w2 ⟨rfl, rfl⟩
          go_wp2_with fail
          clear c0 c1 c2 m0 m1 m2
          go_loopw [7, 8] (fun v7 v8 wr => ∃ (i N : Nat), i ≤ la.length ∧ v8 = .int .i64 i ∧ v7 = .int .i64 N ∧ Hid (N = distN sa r (la.take i) lb) ∧ Below w.heap.size w wr ∧ Box wr bx sa ta (.slice a1 la.length cap1) ∧ Box wr (bx + 1) sa tb (.slice a2 lb.length cap2)) (fun _ v8 _ => la.length - (intOf v8).toNat)
          case atStart => exact ⟨0, 0, Nat.zero_le _, rfl, rfl, Lib.hid (by simp [distN]), g2, hX2, hY2⟩
          case round =>
            clear hX2 hY2 g2
            obtain ⟨i, N, hi1, rfl, rfl, HN, hbr, hX, hY⟩ := hrel
            obtain ⟨kx, k0, k1, k2⟩ := id hX
            by_cases hlt : i < la.length
            · obtain ⟨p, hp⟩ : ∃ p, la[i]? = some p := ⟨_, List.getElem?_eq_getElem hlt⟩
              have HP := Lib.hid hp
              have hND : N = dsP sa r la lb i 0 := by rw [dsP_zero]; exact HN.out
              have HND := Lib.hid hND
              clear hp hND HN
              go_wp2_with fail
              clear kx k0 k1 k2
              obtain ⟨wo, hwo⟩ : ∃ wo : World, wo = wr := ⟨_, rfl⟩
              rw [← hwo] at hbr hX hY ⊢
              clear hwo
              go_loopw [7, 9] (fun v7 v9 wx => ∃ (k M : Nat), k ≤ lb.length ∧ v9 = .int .i64 k ∧ v7 = .int .i64 M ∧ Hid (M = dsP sa r la lb i k) ∧ Below w.heap.size w wx ∧ Box wx bx sa ta (.slice a1 la.length cap1) ∧ Box wx (bx + 1) sa tb (.slice a2 lb.length cap2)) (fun _ v9 _ => lb.length - (intOf v9).toNat)
              case atStart => exact ⟨0, N, Nat.zero_le _, rfl, rfl, HND, hbr, hX, hY⟩
              case round =>
                clear hbr hX hY HND
                obtain ⟨k, M, hk, rfl, rfl, HMD, hbr, hX, hY⟩ := hrel
                obtain ⟨kx, k0, k1, k2⟩ := id hX
                obtain ⟨ky, j0, j1, j2⟩ := id hY
                by_cases hkl : k < lb.length
                · obtain ⟨q, hq⟩ : ∃ q, lb[k]? = some q := ⟨_, List.getElem?_eq_getElem hkl⟩
                  have HQ := Lib.hid hq
                  have HG := Lib.hid (two_gap CCA.out CCB.out (List.mem_of_getElem? HP.out) (List.mem_of_getElem? hq))
                  have HLE := Lib.hid (dsP_le sa r la lb i k hla hlb)
                  have hM : M ≤ 10100 := by rw [HMD.out]; exact HLE.out
                  obtain ⟨b1, o1, cc1, hv1, x0, y0⟩ := Rd2.cells ha HP.out
                  simp only [Value.slice.injEq, true_and] at hv1
                  obtain ⟨rfl, rfl⟩ := hv1
                  obtain ⟨b2, o2, cc2, hv2, x2, y2⟩ := Rd2.cells hb hq
                  simp only [Value.slice.injEq, true_and] at hv2
                  obtain ⟨rfl, rfl⟩ := hv2
                  have x1 := old_cell hbr x0
                  have y1 := old_cell hbr y0
                  have x3 := old_cell hbr x2
                  have y3 := old_cell hbr y2
                  clear hq x0 y0 x2 y2
                  by_cases hpq : p.1 = q.1
                  · have hpb : (p.1 == q.1) = true := by simpa using hpq
                    have HPQ := Lib.hid hpq
                    clear hpq
                    by_cases hg : gapM p.2 q.2 sa < r
                    · have ew : IntKind.i64.wrap ((M : Int) + 1) = (M : Int) + 1 := IntWalk.i64_in _ (by omega)
                      have HA : Hid (M + 1 = dsP sa r la lb i (k + 1)) := Lib.hid (by rw [dsP_yes HP.out HQ.out (close_iff2.2 ⟨HPQ.out, by rw [← HG.out]; exact hg⟩), HMD.out])
                      have hgd : decide (gapM p.2 q.2 sa < r) = true := decide_eq_true hg
                      clear hg HMD
                      go_wp2_with fail
                      go_quiet ((go_at_call 55; exact Calls.quiet_of_same (sgap_any _ _ _ _)))
                      obtain ⟨W2, hW2⟩ : ∃ W : World, W = wr.drewN nq := ⟨_, rfl⟩
                      have hb2 : Below wr.heap.size wr W2 := by rw [hW2]; exact below_drewN (Below.refl _ _) _
                      rw [← hW2]
                      clear hW2
                      have hbr2 := bstep hbr hb2
                      have hX2 := hX.below hb2
                      have hY2 := hY.below hb2
                      clear hbr hX hY hb2 x1 y1 x3 y3 kx k0 k1 k2 ky j0 j1 j2
                      go_wp2
                      go_roundw
                      case rel => exact ⟨k + 1, M + 1, by omega, by go_num, by go_num, HA, hbr2, hX2, hY2⟩
                      case measure => simp [intOf]; omega
                    · have HA : Hid (M = dsP sa r la lb i (k + 1)) := Lib.hid (by rw [dsP_no HP.out HQ.out fun kk => hg (by rw [HG.out]; exact (close_iff2.1 kk).2), HMD.out])
                      have hgd : decide (gapM p.2 q.2 sa < r) = false := decide_eq_false hg
                      clear hg HMD
                      go_wp2_with fail
                      go_quiet ((go_at_call 55; exact Calls.quiet_of_same (sgap_any _ _ _ _)))
                      obtain ⟨W2, hW2⟩ : ∃ W : World, W = wr.drewN nq := ⟨_, rfl⟩
                      have hb2 : Below wr.heap.size wr W2 := by rw [hW2]; exact below_drewN (Below.refl _ _) _
                      rw [← hW2]
                      clear hW2
                      have hbr2 := bstep hbr hb2
                      have hX2 := hX.below hb2
                      have hY2 := hY.below hb2
                      clear hbr hX hY hb2 x1 y1 x3 y3 kx k0 k1 k2 ky j0 j1 j2
                      go_wp2
                      go_roundw
                      case rel => exact ⟨k + 1, M, by omega, by go_num, rfl, HA, hbr2, hX2, hY2⟩
                      case measure => simp [intOf]; omega
                  · have hpb : (p.1 == q.1) = false := by simpa using hpq
                    have HA : Hid (M = dsP sa r la lb i (k + 1)) := Lib.hid (by rw [dsP_no HP.out HQ.out fun kk => hpq (close_iff2.1 kk).1, HMD.out])
                    clear hpq HMD
                    go_wp2_with fail
                    go_quiet ((go_at_call 55; exact Calls.quiet_of_same (sgap_any _ _ _ _)))
                    obtain ⟨W2, hW2⟩ : ∃ W : World, W = wr.drewN nq := ⟨_, rfl⟩
                    have hb2 : Below wr.heap.size wr W2 := by rw [hW2]; exact below_drewN (Below.refl _ _) _
                    rw [← hW2]
                    clear hW2
                    have hbr2 := bstep hbr hb2
                    have hX2 := hX.below hb2
                    have hY2 := hY.below hb2
                    clear hbr hX hY hb2 x1 y1 x3 y3 kx k0 k1 k2 ky j0 j1 j2
                    go_wp2
                    go_roundw
                    case rel => exact ⟨k + 1, M, by omega, by go_num, rfl, HA, hbr2, hX2, hY2⟩
                    case measure => simp [intOf]; omega
                · obtain rfl : k = lb.length := by omega
                  have HA : Hid (M = distN sa r (la.take (i + 1)) lb) := Lib.hid (by rw [HMD.out, dsP_all HP.out])
                  clear HMD
                  go_wp2
                  go_roundw
                  case rel => exact ⟨i + 1, M, by omega, by go_num, rfl, HA, hbr, hX, hY⟩
                  case measure => simp [intOf]; omega
            · obtain rfl : i = la.length := by omega
              have HA : Hid (N = distN sa r la lb) := Lib.hid (by have := HN.out; rwa [List.take_length] at this)
              clear HN
              go_wp2
              go_ret
              exact ⟨by rw [HL.out, ← HA.out]; rfl, hbr⟩
        · have HM := Lib.hid (dsM_no (a := (sa, ta, la)) (b := (sa, tb, lb)) (r := r) fun k => tr k.2)
          go_wp2_with fail
          refine (in_no _ _ _ tr _).mono ?_
          rintro e w2 ⟨rfl, rfl⟩
          go_wp2
          go_ret
          exact ⟨by rw [HM.out]; rfl, g2⟩
      · have hsb : (sa != sb) = true := by simpa using hs
        have HM := Lib.hid (dsM_no (a := (sa, ta, la)) (b := (sb, tb, lb)) (r := r) fun k => hs k.1.2.2)
        clear hs
        go_wp2
        go_ret
        exact ⟨by rw [HM.out]; rfl, g2⟩
    · have TCB := Lib.hid (show cylB sb tb lb = false by simpa using tcb)
      have HM := Lib.hid (dsM_no (a := (sa, ta, la)) (b := (sb, tb, lb)) (r := r) fun k => tcb k.1.2.1)
      refine (cylok_no (Rd.below hb g1) TCB.out).mono ?_
      rintro e w2 ⟨rfl, hb2⟩
      have g2 := bstep g1 hb2
      clear hX1 hY1 g1 hb2 tcb
      go_wp2
      go_ret
      exact ⟨by rw [HM.out]; rfl, g2⟩
  · have TCA := Lib.hid (show cylB sa ta la = false by simpa using tca)
    have HM := Lib.hid (dsM_no (a := (sa, ta, la)) (b := (sb, tb, lb)) (r := r) fun k => tca k.1.1)
    refine (cylok_no (Rd.below ha hB) TCA.out).mono ?_
    rintro e w1 ⟨rfl, hb1⟩
    have g1 := bstep hB hb1
    clear hX hY hB hb1 tca
    go_wp2
    go_ret
    exact ⟨by rw [HM.out]; rfl, g1⟩
end Go.Proofs.Ytemhmbaacpfnaaa
