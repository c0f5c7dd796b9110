/- The contracts of the program's slices.Equal at notes and SameTune. No condition. -/
import Derived.Test.YtglehmffmailkaaImplMoves
import Derived.Test.YtglehmffmailkaaOnto
namespace Go.Proofs.Ytglehmffmailkaa
open Go.ChangeShapes Go.WideShapes Go.ChangeAt Go.RowKit

set_option maxHeartbeats 1000000 in
theorem equal_any {w : World} {v1 v2 : Value} {l1 l2 : List (Int × Int)} (h1 : Rd2 w v1 l1) (h2 : Rd2 w v2 l2) :
    Calls Try.prog 63 #[v1, v2] w fun e w' => e = .returned (.bool (decide (l1 = l2))) ∧ Below w.heap.size w w' := by
  obtain ⟨a1, cap1, rfl⟩ := Rd.slice h1
  obtain ⟨a2, cap2, rfl⟩ := Rd.slice h2
  have hm1 := h1.2.1
  have hm2 := h2.2.1
  unfold maxLen at hm1 hm2
  by_cases hl : l1.length = l2.length
  · have hd : decide ((l1.length : Int) = (l2.length : Int)) = true := decide_eq_true (by omega)
    go_enter Try.func63, Try.ntmps63
    go_wp2_with fail
    go_loopw [13] (fun v13 wr => ∃ k : Nat, k ≤ l1.length ∧ v13 = .int .i64 (k : Int) ∧ Below w.heap.size w wr ∧ Hid (∀ j, j < k → l1[j]? = l2[j]?)) (fun v13 _ => l1.length - (intOf v13).toNat)
    case atStart => exact ⟨0, Nat.zero_le _, rfl, Below.refl _ _, Lib.hid fun j hj => by omega⟩
    case round =>
      obtain ⟨k, hk, rfl, hbr, HD⟩ := hrel
      have h1r := Rd.below h1 hbr
      have h2r := Rd.below h2 hbr
      by_cases hlt : k < l1.length
      · obtain ⟨p, hp⟩ : ∃ p, l1[k]? = some p := ⟨_, List.getElem?_eq_getElem hlt⟩
        obtain ⟨q, hq⟩ : ∃ q, l2[k]? = some q := ⟨_, List.getElem?_eq_getElem (by omega)⟩
        obtain ⟨b1, o1, c1, hv1, x1, y1⟩ := Rd2.cells h1r hp
        obtain ⟨b2, o2, c2, hv2, x2, y2⟩ := Rd2.cells h2r hq
        simp only [Value.slice.injEq, true_and] at hv1 hv2
        obtain ⟨rfl, rfl⟩ := hv1
        obtain ⟨rfl, rfl⟩ := hv2
        have HP := Lib.hid hp
        have HQ := Lib.hid hq
        have hlt2 : k < l2.length := by omega
        clear hp hq
        by_cases hqp : p = q
        · have he := fun W => neq_no hqp W
          have HD2 : Hid (∀ j, j < k + 1 → l1[j]? = l2[j]?) := Lib.hid fun j hj => by
            rcases Nat.lt_or_ge j k with hh | hh
            · exact HD.out j hh
            · obtain rfl : j = k := by omega
              rw [HP.out, HQ.out, hqp]
          clear hqp
          go_wp2_with fail
          go_quiet (fail)
          clear he x1 y1 x2 y2
          go_wp2
          go_roundw
          case rel => exact ⟨k + 1, by omega, by go_num, below_drewN hbr nq, HD2⟩
          case measure => simp [intOf]; omega
        · have he := fun W => neq_yes hqp W
          have HM := Lib.hid (show decide (l1 = l2) = false from decide_eq_false fun e => hqp (by
            have a := HP.out; rw [e, HQ.out] at a; exact (Option.some.inj a).symm))
          clear hqp
          go_wp2_with fail
          go_quiet (fail)
          clear he x1 y1 x2 y2
          go_wp2
          go_ret
          exact ⟨by rw [HM.out]; rfl, below_drewN hbr nq⟩
      · obtain rfl : k = l1.length := by omega
        have HM := Lib.hid (show decide (l1 = l2) = true from decide_eq_true (List.ext_getElem? fun j => by
          rcases Nat.lt_or_ge j l1.length with hh | hh
          · exact HD.out j hh
          · rw [List.getElem?_eq_none hh, List.getElem?_eq_none (by omega)]))
        go_wp2
        go_ret
        exact ⟨by rw [HM.out]; rfl, hbr⟩
  · have hd : decide ((l1.length : Int) = (l2.length : Int)) = false := decide_eq_false (by omega)
    have HM := Lib.hid (show decide (l1 = l2) = false from decide_eq_false fun e => hl (by rw [e]))
    go_enter Try.func63, Try.ntmps63
    go_wp2
    go_ret
    exact ⟨by rw [HM.out]; rfl, Below.refl _ _⟩

theorem same_eq {a b : List (Int × Int)} {x y : Int × Int} (ta : tuneB a = true) (tb : tuneB b = true) (hl : a.length = b.length) (hx : a[0]? = some x) (hy : b[0]? = some y) :
    sameM a b = decide (dedM (mergeM (a.map fun p => (p.1 + (y.1 - x.1), p.2 + (y.2 - x.2)))) = b) := by
  have e1 : (a.map fun p : Int × Int => (p.1 + (y.1 - x.1), p.2 + (y.2 - x.2))) = shiftL 1 (y.1 - x.1) (y.2 - x.2) a := List.map_congr_left fun p _ => by simp
  obtain ⟨h40, hs, -⟩ := tune_parts ta
  rw [e1, sort_ss (by rw [shiftL_len]; exact h40) (shift_ss (by decide) hs)]
  by_cases h : shiftL 1 (y.1 - x.1) (y.2 - x.2) a = b
  · rw [sameM_yes ta tb (by rw [← h, off_shift]), h]; simp
  · rw [sameM_ne fun e => h ?_, decide_eq_false h]
    refine List.ext_getElem? fun k => ?_
    by_cases hk : k < a.length
    · obtain ⟨p, hp⟩ : ∃ p, a[k]? = some p := ⟨_, List.getElem?_eq_getElem hk⟩
      obtain ⟨q, hq⟩ : ∃ q, b[k]? = some q := ⟨_, List.getElem?_eq_getElem (by omega)⟩
      have h1 := offL_at hx hp
      rw [e, offL_at hy hq] at h1
      simp only [Option.some.injEq, Prod.mk.injEq] at h1
      rw [shift_at hp, hq]
      exact congrArg some (Prod.ext (by simp only; omega) (by simp only; omega))
    · rw [List.getElem?_eq_none (by rw [shiftL_len]; omega), List.getElem?_eq_none (by omega)]

set_option maxHeartbeats 2000000 in
set_option maxRecDepth 100000 in
theorem isame_any {w : World} {va vb : Value} {la lb : List (Int × Int)} (ha : Rd2 w va la) (hb : Rd2 w vb lb) :
    Calls Try.prog 37 #[va, vb] w fun e w' => e = .returned (.bool (sameM la lb)) ∧ Below w.heap.size w w' := by
  obtain ⟨a1, cap1, rfl⟩ := Rd.slice ha
  obtain ⟨a2, cap2, rfl⟩ := Rd.slice hb
  by_cases ta : tuneB la = true
  · have TA := Lib.hid ta
    by_cases tb : tuneB lb = true
    · have TB := Lib.hid tb
      have h40 := (tuneB_true.1 ta).1
      have h41 := (tuneB_true.1 tb).1
      by_cases hl : la.length = lb.length
      · have HLN := Lib.hid hl
        have hd : ((la.length : Int) != (lb.length : Int)) = false := bne_eq_false_iff_eq.2 (by omega)
        by_cases h0 : la.length = 0
        · obtain rfl : la = [] := List.length_eq_zero_iff.1 h0
          obtain rfl : lb = [] := List.length_eq_zero_iff.1 (by rw [← hl]; rfl)
          have HM := Lib.hid (show sameM [] [] = true from sameM_yes ta tb rfl)
          have ha' : Rd2 w (.slice a1 0 cap1) [] := ha
          have hb' : Rd2 w (.slice a2 0 cap2) [] := hb
          clear ta tb ha hb h0 hl h40 h41 hd HLN
          go_enter Try.func37, Try.ntmps37
          go_wp2_with fail
          refine (itune_yes ha' TA.out).mono ?_
          rintro e w1 ⟨rfl, hb1⟩
          go_wp2_with fail
          refine (itune_yes (Rd.below hb' hb1) TB.out).mono ?_
          rintro e w2 ⟨rfl, hb2⟩
          have g2 := bstep hb1 hb2
          go_wp2
          go_ret
          exact ⟨by rw [HM.out]; rfl, g2⟩
        · obtain ⟨x, hx⟩ : ∃ x, la[0]? = some x := ⟨_, List.getElem?_eq_getElem (by omega)⟩
          obtain ⟨y, hy⟩ : ∃ y, lb[0]? = some y := ⟨_, List.getElem?_eq_getElem (by omega)⟩
          have HM := Lib.hid (same_eq ta tb hl hx hy)
          have rx := (tuneB_true.1 ta).2 _ _ hx
          have ry := (tuneB_true.1 tb).2 _ _ hy
          have rx1 := rx.1
          have rx2 := rx.2.1
          have ry1 := ry.1
          have ry2 := ry.2.1
          have HR1 : Hid (∀ p ∈ la, IntKind.i64.wrap (p.1 + (y.1 - x.1)) = p.1 + (y.1 - x.1)) := Lib.hid fun p hp => IntWalk.i64_in _ (by have := ((tune_parts ta).2.2 p hp).1; omega)
          have HR2 : Hid (∀ p ∈ la, IntKind.i64.wrap (p.2 + (y.2 - x.2)) = p.2 + (y.2 - x.2)) := Lib.hid fun p hp => IntWalk.i64_in _ (by have := ((tune_parts ta).2.2 p hp).2; omega)
          have e1 : IntKind.i64.wrap (y.1 - x.1) = y.1 - x.1 := IntWalk.i64_in _ (by omega)
          have e2 : IntKind.i64.wrap (y.2 - x.2) = y.2 - x.2 := IntWalk.i64_in _ (by omega)
          have HX := Lib.hid hx
          have HY := Lib.hid hy
          have hpos : 0 < la.length := by omega
          have hpos2 : 0 < lb.length := by omega
          have h0' : (la.length == 0) = false := by simpa using h0
          have H40 := Lib.hid h40
          have HL1 := Lib.hid (show la.length ≤ 1048576 by omega)
          clear ta tb hx hy rx ry rx1 rx2 ry1 ry2 hl h40 h41
          go_enter Try.func37, Try.ntmps37
          go_wp2_with fail
          refine (itune_yes ha TA.out).mono ?_
          rintro e w1 ⟨rfl, hb1⟩
          go_wp2_with fail
          refine (itune_yes (Rd.below hb hb1) TB.out).mono ?_
          rintro e w2 ⟨rfl, hb2⟩
          have g2 := bstep hb1 hb2
          clear hb1 hb2
          obtain ⟨b1, o1, c1, hv1, x0, y0⟩ := Rd2.cells (Rd.below ha g2) HX.out
          obtain ⟨b2, o2, c2, hv2, x2, y2⟩ := Rd2.cells (Rd.below hb g2) HY.out
          simp only [Value.slice.injEq, true_and] at hv1 hv2
          obtain ⟨rfl, rfl⟩ := hv1
          obtain ⟨rfl, rfl⟩ := hv2
          rw [Nat.zero_mul, Nat.add_zero] at x0 x2 y0 y2
          go_wp2_with fail
          go_region_held3 (fun w' => w'.cell? ⟨b1, o1, none⟩ = some (.int .i64 x.1) ∧ w'.cell? ⟨b1, o1 + 1, none⟩ = some (.int .i64 x.2) ∧ w'.cell? ⟨b2, o2, none⟩ = some (.int .i64 y.1) ∧ w'.cell? ⟨b2, o2 + 1, none⟩ = some (.int .i64 y.2)) (go_keep)
            (first
              | (go_at_call 54
                 (with_reducible refine (moveonto_any x y e1 e2).mono ?_)
                 rintro e w3 ⟨bt, bp, rfl, hmv, hb3⟩
                 have q1 := kept_cell hb3 x0
                 have q2 := kept_cell hb3 y0
                 have q3 := kept_cell hb3 x2
                 have q4 := kept_cell hb3 y2
                 have g3 := bstep g2 (below_undrew hb3)
                 have HC := Lib.hid (mv_chg (l := la) hmv.1 hmv.2 HR1.out HR2.out)
                 have HRA := Lib.hid (show Rd2 w3 _ la from Rd.below ha g3)
                 clear hb3)
              | (go_at_call 64
                 (with_reducible refine (chg_any HRA.out HL1.out enters_mv HC.out).mono ?_)
                 rintro e w4 ⟨v4, rfl, ho4, hb4⟩
                 have r1 := kept_b hb4 q1
                 have r2 := kept_b hb4 q2
                 have r3 := kept_b hb4 q3
                 have r4 := kept_b hb4 q4
                 have g4 := bstep g3 hb4
                 have HRB := Lib.hid (show Rd2 w4 _ lb from Rd.below hb g4)
                 have HRO := Lib.hid (show Rd2 w4 _ _ from Rd.of_own ho4)
                 clear hb4)
              | (go_at_call 63
                 refine (equal_any HRO.out HRB.out).mono ?_
                 rintro e w5 ⟨rfl, hb5⟩
                 have s1 := kept_b hb5 r1
                 have s2 := kept_b hb5 r2
                 have s3 := kept_b hb5 r3
                 have s4 := kept_b hb5 r4
                 have g5 := bstep g4 hb5))
          go_wp2
          go_ret
          exact ⟨by rw [HM.out]; rfl, g5⟩
      · have HM := Lib.hid (sameM_len hl)
        have hd : decide ((la.length : Int) = (lb.length : Int)) = false := decide_eq_false (by omega)
        clear ta tb
        go_enter Try.func37, Try.ntmps37
        go_wp2_with fail
        refine (itune_yes ha TA.out).mono ?_
        rintro e w1 ⟨rfl, hb1⟩
        go_wp2_with fail
        refine (itune_yes (Rd.below hb hb1) TB.out).mono ?_
        rintro e w2 ⟨rfl, hb2⟩
        have g2 := bstep hb1 hb2
        go_wp2
        go_ret
        exact ⟨by rw [HM.out]; rfl, g2⟩
    · have TB := Lib.hid (show tuneB lb = false by simpa using tb)
      have HM := Lib.hid (sameM_b (a := la) TB.out)
      clear ta tb
      go_enter Try.func37, Try.ntmps37
      go_wp2_with fail
      refine (itune_yes ha TA.out).mono ?_
      rintro e w1 ⟨rfl, hb1⟩
      go_wp2_with fail
      refine (itune_no (Rd.below hb hb1) TB.out).mono ?_
      rintro e w2 ⟨rfl, hb2⟩
      have g2 := bstep hb1 hb2
      go_wp2
      go_ret
      exact ⟨by rw [HM.out]; rfl, g2⟩
  · have TA := Lib.hid (show tuneB la = false by simpa using ta)
    have HM := Lib.hid (sameM_a (b := lb) TA.out)
    clear ta
    go_enter Try.func37, Try.ntmps37
    go_wp2_with fail
    refine (itune_no ha TA.out).mono ?_
    rintro e w1 ⟨rfl, hb1⟩
    go_wp2
    go_ret
    exact ⟨by rw [HM.out]; rfl, hb1⟩
end Go.Proofs.Ytglehmffmailkaa
