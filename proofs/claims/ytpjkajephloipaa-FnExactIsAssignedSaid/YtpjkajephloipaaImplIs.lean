/- The contract of the program's IsAssigned. No condition. -/
import Derived.Test.YtpjkajephloipaaTeethMath3
import Derived.Test.YtpjkajephloipaaImplResting
import Derived.Test.YtpjkajephloipaaImplComb
namespace Go.Proofs.Ytpjkajephloipaa
open Go.ChangeShapes Go.WideShapes Go.ChangeAt Go.RowKit

set_option maxHeartbeats 8000000 in
set_option maxRecDepth 100000 in
theorem iis_any {w : World} {vc vt va : Value} {c : List Int} {t : List (Int × Int)} {a : List Int} (r : Int) (hc : Rd1 w vc c) (ht : Rd2 w vt t) (ha : Rd1 w va a) :
    Calls Try.prog 20 #[vc, vt, .int .i64 r, va] w fun e w' => e = .returned (.bool (isM c t r a)) ∧ Below w.heap.size w w' := by
  obtain ⟨i0, hi, hz0, hz1, hz2⟩ := info_parts infoInt
  obtain ⟨a1, cap1, rfl⟩ := Rd.slice hc
  obtain ⟨a2, cap2, rfl⟩ := Rd.slice ht
  obtain ⟨a3, cap3, rfl⟩ := Rd.slice ha
  have hma := ha.2.1
  unfold maxLen at hma
  by_cases tc : combB c = true
  · have TC := Lib.hid tc
    by_cases tt : tuneB t = true
    · have TT := Lib.hid tt
      by_cases hr : 1 ≤ r ∧ r ≤ 100
      · have hr' : inB r 1 100 = true := decide_eq_true hr
        by_cases hal : a.length = t.length
        · have HY := Lib.hid (fun (h : AssP c t r a) => isM_yes tc tt hr' h)
          have HN := Lib.hid (fun (k : Nat) (hk : k < t.length) (h : ¬ ToothAt c t r a k) => isM_no (c := c) (t := t) (r := r) (a := a) fun j => h (j.2.2.2.2 k hk))
          have HAL := Lib.hid hal
          have h40 := (tuneB_true.1 tt).1
          have h24 := (combB_true.1 tc).1.2
          have HR : Hid (∀ (k : Nat) (q : Int × Int), t[k]? = some q → (0 ≤ q.1 ∧ q.1 ≤ 1000) ∧ (0 ≤ q.2 ∧ q.2 ≤ 60)) := Lib.hid fun k q hq => ⟨((tuneB_true.1 tt).2 k q hq).1, ((tuneB_true.1 tt).2 k q hq).2.1⟩
          have hr1 := hr.1
          have hr2 := hr.2
          have HRR := Lib.hid hr
          have hne : ((a.length : Int) != (t.length : Int)) = false := bne_eq_false_iff_eq.2 (by omega)
          clear tc tt hr' hal
          go_enter Try.func20, Try.ntmps20
          go_wp2_with fail
          refine (icomb_yes hc TC.out).mono ?_
          rintro e w1 ⟨rfl, hb1⟩
          go_wp2_with fail
          refine (itune_yes (Rd.below ht hb1) TT.out).mono ?_
          rintro e w2 ⟨rfl, hb2⟩
          have g2 := bstep hb1 hb2
          clear hb1 hb2
          go_wp2_with fail
          refine (irest_yes hr _).mono ?_
          rintro e w3 ⟨rfl, rfl⟩
          clear hr
          obtain ⟨w3, hrun, hown, hgrow⟩ := run_make_full (P := Try.prog) (w := w2) w.heap.size 27 3 i0 (.int .i64 0) 1 Try.underlying27 hi hz0 hz1 .i64 .i64 c.length (by rw [hz2]; omega) (by unfold maxLen; omega) g2.size
          have g3 : Below w.heap.size w w3 := g2.grown hgrow g2.size (fun k hk => by cases hk)
          have ho3 : w3.ownsRow w.heap.size 3 1 (.slice (some ⟨w2.heap.size, 0, none⟩) c.length c.length) c.length ((List.replicate c.length 0).map intV) := by
            rw [← made_ints]; exact hown
          have hge : w.heap.size ≤ w2.heap.size := g2.size
          clear hown hgrow g2
          generalize w2.heap.size = g at *
          go_wp2_with fail
          go_loopw [38] (fun v38 wr => ∃ (k : Nat) (rl : List Int), k ≤ t.length ∧ v38 = .int .i64 (k : Int) ∧ Hid (RestIs c t r a rl k) ∧ wr.ownsRow w.heap.size 3 1 (.slice (some ⟨g, 0, none⟩) c.length c.length) c.length (rl.map intV) ∧ Below w.heap.size w wr ∧ Hid (∀ j, j < k → ToothAt c t r a j)) (fun v38 _ => t.length - (intOf v38).toNat)
          case atStart => exact ⟨0, _, Nat.zero_le _, rfl, Lib.hid (restIs_start c t r a), ho3, g3, Lib.hid fun j hj => by omega⟩
          case round =>
            obtain ⟨k, rl, hk, rfl, HRI, hown, hbr, HA⟩ := hrel
            clear g3 ho3 hrun
            by_cases hlt : k < t.length
            · obtain ⟨q, hq⟩ : ∃ q, t[k]? = some q := ⟨_, List.getElem?_eq_getElem hlt⟩
              obtain ⟨x, hx⟩ : ∃ x, a[k]? = some x := ⟨_, List.getElem?_eq_getElem (by have := HAL.out; omega)⟩
              have hlta : k < a.length := by have := HAL.out; omega
              have HQ := Lib.hid hq
              have HX := Lib.hid hx
              obtain ⟨⟨hq1, hq2⟩, hq3, hq4⟩ := HR.out k q hq
              obtain ⟨b1, o1, c1, hv1, x1, y1⟩ := Rd2.cells (Rd.below ht hbr) hq
              simp only [Value.slice.injEq, true_and] at hv1
              obtain ⟨rfl, rfl⟩ := hv1
              obtain ⟨b2, o2, c2, hv2, x2⟩ := Rd1.cell (Rd.below ha hbr) hx
              simp only [Value.slice.injEq, true_and] at hv2
              obtain ⟨rfl, rfl⟩ := hv2
              have HBAD := Lib.hid (HN.out k hlt)
              clear hq hx
              obtain ⟨e0, e1, e2, hbs, hoA⟩ : (wr.alloc (.cells #[.int .i64 q.1, .int .i64 q.2] 54)).cell? ⟨wr.heap.size, 0, none⟩ = some (.int .i64 q.1) ∧ (wr.alloc (.cells #[.int .i64 q.1, .int .i64 q.2] 54)).cell? ⟨wr.heap.size, 1, none⟩ = some (.int .i64 q.2) ∧
                  (wr.alloc (.cells #[.int .i64 q.1, .int .i64 q.2] 54)).cell? ⟨b2, o2 + k, none⟩ = some (.int .i64 x) ∧ Below w.heap.size w (wr.alloc (.cells #[.int .i64 q.1, .int .i64 q.2] 54)) ∧
                  (wr.alloc (.cells #[.int .i64 q.1, .int .i64 q.2] 54)).ownsRow w.heap.size 3 1 (.slice (some ⟨g, 0, none⟩) c.length c.length) c.length (rl.map intV) :=
                ⟨cell0 _ _ _ _, cell0 _ _ _ _, Lib.cell?_alloc_some _ x2, hbr.alloc hbr.size _, hown.alloc _⟩
              by_cases hx0 : x < 0
              · have HF := Lib.hid (HBAD.out (out_bad HX.out HQ.out (Or.inl hx0)))
                have hd0 : decide (x < 0) = true := decide_eq_true hx0
                clear hown hbr x2
                go_wp2_with fail
                go_quiet (fail)
                go_wp2
                go_ret
                exact ⟨by rw [HF.out]; rfl, below_drewN hbs _⟩
              · have hd0 : decide (x < 0) = false := decide_eq_false hx0
                by_cases hxc : (c.length : Int) ≤ x
                · have HF := Lib.hid (HBAD.out (out_bad HX.out HQ.out (Or.inr hxc)))
                  have hd1 : decide ((c.length : Int) ≤ x) = true := decide_eq_true hxc
                  clear hown hbr x2
                  go_wp2_with fail
                  go_quiet (fail)
                  go_wp2
                  go_ret
                  exact ⟨by rw [HF.out]; rfl, below_drewN hbs _⟩
                · have hd1 : decide ((c.length : Int) ≤ x) = false := decide_eq_false hxc
                  obtain ⟨j, rfl⟩ := Int.eq_ofNat_of_zero_le (by omega : 0 ≤ x)
                  have hjc : j < c.length := by omega
                  have hji : (j : Int) < (c.length : Int) := by omega
                  have hd1n : decide (c.length ≤ j) = false := decide_eq_false (by omega)
                  have hj0 : (0 : Int) ≤ (j : Int) := by omega
                  obtain ⟨p, hp⟩ : ∃ p, c[j]? = some p := ⟨_, List.getElem?_eq_getElem hjc⟩
                  obtain ⟨z, hz⟩ : ∃ z, rl[j]? = some z := ⟨_, List.getElem?_eq_getElem (by rw [HRI.out.1]; exact hjc)⟩
                  obtain ⟨⟨hz1, hz2⟩, -⟩ := HRI.out.2 j z hz
                  obtain ⟨b3, o3, c3, hv3, x3⟩ := Rd1.cell (Rd.below hc hbs) hp
                  simp only [Value.slice.injEq, true_and] at hv3
                  obtain ⟨rfl, rfl⟩ := hv3
                  have hc0 : (wr.alloc (.cells #[.int .i64 q.1, .int .i64 q.2] 54)).cell? ⟨g, j, none⟩ = some (.int .i64 z) := by
                    rw [hoA.cellAt _ (by omega), List.getElem?_map, hz]; rfl
                  have hf0 := hoA.frozenAt j
                  have BAD := Lib.hid (fun h => HBAD.out (HRI.out.bad HX.out HQ.out hq1 hp hz h))
                  have OK := Lib.hid (fun h1 h2 => HRI.out.ok HX.out HQ.out hq1 hp hz h1 h2)
                  have HNX := Lib.hid (HRI.out.next TT.out HRR.out HX.out HQ.out)
                  clear hp hz hown hbr x2
                  by_cases hpq : p = q.2
                  · have hpb : (p != q.2) = false := by simpa using hpq
                    by_cases hzq : z ≤ q.1
                    · have HOK := Lib.hid (OK.out hpq hzq)
                      have HA2 : Hid (∀ i, i < k + 1 → ToothAt c t r a i) := Lib.hid fun i hi2 => by
                        by_cases hik : i < k
                        · exact HA.out i hik
                        · obtain rfl : i = k := by omega
                          exact HOK.out
                      have hzd : decide (q.1 < z) = false := decide_eq_false (by omega)
                      have ew : IntKind.i64.wrap (q.1 + r) = q.1 + r := IntWalk.i64_in _ (by omega)
                      clear hpq BAD OK HOK
                      go_wp2_with fail
                      generalize wr.alloc (.cells #[.int .i64 q.1, .int .i64 q.2] 54) = W1 at *
                      go_quiet (fail)
                      have hoB := ownS_below hoA (below_drewN (Below.refl _ _) nq)
                      have hbB := below_drewN hbs nq
                      have hst := hoB.stored j (.int .i64 (q.1 + r))
                      have HST : Hid (((W1.drewN nq).setCell ⟨g, j, none⟩ (.int .i64 (q.1 + r))).ownsRow w.heap.size 3 1 (.slice (some ⟨g, 0, none⟩) c.length c.length) c.length ((rl.set j (q.1 + r)).map intV)) := Lib.hid (by rw [List.map_set]; exact hst.1)
                      have hb5 : Below w.heap.size w ((W1.drewN nq).setCell ⟨g, j, none⟩ (.int .i64 (q.1 + r))) := hbB.setCell hge _
                      clear hst hoB hbB hoA hbs
                      go_wp2
                      go_roundw
                      case rel => exact ⟨k + 1, _, by omega, by go_num, HNX, HST.out, hb5, HA2⟩
                      case measure => simp [intOf]; omega
                    · have HF := Lib.hid (BAD.out (Or.inr (by omega)))
                      have hzd : decide (q.1 < z) = true := decide_eq_true (by omega)
                      clear hpq BAD OK
                      go_wp2_with fail
                      go_quiet (fail)
                      go_wp2
                      go_ret
                      exact ⟨by rw [HF.out]; rfl, below_drewN hbs _⟩
                  · have HF := Lib.hid (BAD.out (Or.inl hpq))
                    have hpb : (p != q.2) = true := by simpa using hpq
                    clear hpq BAD OK
                    go_wp2_with fail
                    go_quiet (fail)
                    go_wp2
                    go_ret
                    exact ⟨by rw [HF.out]; rfl, below_drewN hbs _⟩
            · obtain rfl : k = t.length := by omega
              have HF := Lib.hid (HY.out ⟨HAL.out, fun j hj => HA.out j hj⟩)
              go_wp2
              go_ret
              exact ⟨by rw [HF.out]; rfl, hbr⟩
        · have HM := Lib.hid (isM_no (c := c) (t := t) (r := r) (a := a) fun k => hal k.2.2.2.1)
          have hne : ((a.length : Int) != (t.length : Int)) = true := by rw [bne_iff_ne]; omega
          clear tc tt hr'
          go_enter Try.func20, Try.ntmps20
          go_wp2_with fail
          refine (icomb_yes hc TC.out).mono ?_
          rintro e w1 ⟨rfl, hb1⟩
          go_wp2_with fail
          refine (itune_yes (Rd.below ht hb1) TT.out).mono ?_
          rintro e w2 ⟨rfl, hb2⟩
          have g2 := bstep hb1 hb2
          go_wp2_with fail
          refine (irest_yes hr _).mono ?_
          rintro e w3 ⟨rfl, rfl⟩
          go_wp2
          go_ret
          exact ⟨by rw [HM.out]; rfl, g2⟩
      · have HM := Lib.hid (isM_no (c := c) (t := t) (r := r) (a := a) fun k => hr (of_decide_eq_true k.2.2.1))
        clear tc tt
        go_enter Try.func20, Try.ntmps20
        go_wp2_with fail
        refine (icomb_yes hc TC.out).mono ?_
        rintro e w1 ⟨rfl, hb1⟩
        go_wp2_with fail
        refine (itune_yes (Rd.below ht hb1) TT.out).mono ?_
        rintro e w2 ⟨rfl, hb2⟩
        have g2 := bstep hb1 hb2
        go_wp2_with fail
        refine (irest_no hr _).mono ?_
        rintro e w3 ⟨rfl, rfl⟩
        go_wp2
        go_ret
        exact ⟨by rw [HM.out]; rfl, g2⟩
    · have TT := Lib.hid (show tuneB t = false by simpa using tt)
      have HM := Lib.hid (isM_no (c := c) (t := t) (r := r) (a := a) fun k => tt k.2.1)
      clear tc tt
      go_enter Try.func20, Try.ntmps20
      go_wp2_with fail
      refine (icomb_yes hc TC.out).mono ?_
      rintro e w1 ⟨rfl, hb1⟩
      go_wp2_with fail
      refine (itune_no (Rd.below ht hb1) TT.out).mono ?_
      rintro e w2 ⟨rfl, hb2⟩
      have g2 := bstep hb1 hb2
      go_wp2
      go_ret
      exact ⟨by rw [HM.out]; rfl, g2⟩
  · have TC := Lib.hid (show combB c = false by simpa using tc)
    have HM := Lib.hid (isM_no (c := c) (t := t) (r := r) (a := a) fun k => tc k.1)
    clear tc
    go_enter Try.func20, Try.ntmps20
    go_wp2_with fail
    refine (icomb_no hc TC.out).mono ?_
    rintro e w1 ⟨rfl, hb1⟩
    go_wp2
    go_ret
    exact ⟨by rw [HM.out]; rfl, hb1⟩
end Go.Proofs.Ytpjkajephloipaa
