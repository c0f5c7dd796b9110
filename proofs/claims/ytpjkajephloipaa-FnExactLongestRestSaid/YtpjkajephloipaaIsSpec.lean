/- The contract of chapter 5's model: IsAssigned. No condition. -/
import Derived.Test.YtpjkajephloipaaCombSpec
namespace Go.Proofs.Ytpjkajephloipaa
open Go.ChangeShapes Go.WideShapes Go.ChangeAt Go.RowKit

/-- A tooth that is well assigned to note k. -/
def ToothAt (c : List Int) (t : List (Int × Int)) (r : Int) (a : List Int) (k : Nat) : Prop :=
  ∀ x q, a[k]? = some x → t[k]? = some q → (0 ≤ x ∧ x ≤ (c.length : Int) - 1) ∧ c[x.toNat]? = some q.2 ∧ ∀ i y s, i < k → a[i]? = some y → t[i]? = some s → ¬ (y = x ∧ q.1 - s.1 < r)
def AssP (c : List Int) (t : List (Int × Int)) (r : Int) (a : List Int) : Prop := a.length = t.length ∧ ∀ k, k < t.length → ToothAt c t r a k
open Classical in
noncomputable def isM (c : List Int) (t : List (Int × Int)) (r : Int) (a : List Int) : Bool := combB c && tuneB t && inB r 1 100 && decide (AssP c t r a)
theorem isM_yes {c : List Int} {t : List (Int × Int)} {r : Int} {a : List Int} (h1 : combB c = true) (h2 : tuneB t = true) (h3 : inB r 1 100 = true) (h : AssP c t r a) : isM c t r a = true := by unfold isM; simp [h1, h2, h3, h]
theorem isM_no {c : List Int} {t : List (Int × Int)} {r : Int} {a : List Int} (h : ¬ (combB c = true ∧ tuneB t = true ∧ inB r 1 100 = true ∧ AssP c t r a)) : isM c t r a = false := by
  rw [← Bool.not_eq_true]; intro hh
  unfold isM at hh
  simp only [Bool.and_eq_true, decide_eq_true_eq] at hh
  exact h ⟨hh.1.1.1, hh.1.1.2, hh.1.2, hh.2⟩

set_option maxHeartbeats 8000000 in
set_option maxRecDepth 100000 in
theorem is_any {w : World} {vc vt va : Value} {c : List Int} {t : List (Int × Int)} {a : List Int} (r : Int) (hc : Rd1 w vc c) (ht : Rd2 w vt t) (ha : Rd1 w va a) :
    Calls Try.prog 32 #[vc, vt, .int .i64 r, va] w fun e w' => e = .returned (.bool (isM c t r a)) ∧ Below w.heap.size w w' := by
  obtain ⟨a1, cap1, rfl⟩ := Rd.slice hc
  obtain ⟨a2, cap2, rfl⟩ := Rd.slice ht
  obtain ⟨a3, cap3, rfl⟩ := Rd.slice ha
  have hma := ha.2.1
  unfold maxLen at hma
  by_cases tc : combB c = true
  · have TC := Lib.hid tc
    by_cases tt : tuneB t = true
    · have TT := Lib.hid tt
      by_cases hr : 1 ≤ r ∧ r ≤ 100
      · have hr' : inB r 1 100 = true := decide_eq_true hr
        by_cases hal : a.length = t.length
        · have HY := Lib.hid (fun (h : AssP c t r a) => isM_yes tc tt hr' h)
          have HN := Lib.hid (fun (h : ¬ AssP c t r a) => isM_no (c := c) (t := t) (r := r) (a := a) fun k => h k.2.2.2)
          have HAL := Lib.hid hal
          have h40 := (tuneB_true.1 tt).1
          have h24 := (combB_true.1 tc).1.2
          have h1c := (combB_true.1 tc).1.1
          have HR : Hid (∀ (k : Nat) (q : Int × Int), t[k]? = some q → (0 ≤ q.1 ∧ q.1 ≤ 1000) ∧ (0 ≤ q.2 ∧ q.2 ≤ 60)) := Lib.hid fun k q hq => ⟨((tuneB_true.1 tt).2 k q hq).1, ((tuneB_true.1 tt).2 k q hq).2.1⟩
          have hr1 := hr.1
          have hr2 := hr.2
          have hne : ((a.length : Int) != (t.length : Int)) = false := bne_eq_false_iff_eq.2 (by omega)
          clear tc tt hr' hal
          go_enter Try.func32, Try.ntmps32
          go_wp2_with fail
          refine (combok_yes hc TC.out).mono ?_
          rintro e w1 ⟨rfl, hb1⟩
          go_wp2_with fail
          refine (tuneok_yes (Rd.below ht hb1) TT.out).mono ?_
          rintro e w2 ⟨rfl, hb2⟩
          have g2 := bstep hb1 hb2
          clear hb1 hb2
          go_wp2_with fail
          refine (in_yes _ _ _ hr _).mono ?_
          rintro e w3 ⟨rfl, rfl⟩
          clear hr
          go_wp2_with fail
          go_loopw [9] (fun v9 wr => ∃ k : Nat, k ≤ t.length ∧ v9 = .int .i64 (k : Int) ∧ Below w.heap.size w wr ∧ Hid (∀ j, j < k → ToothAt c t r a j)) (fun v9 _ => t.length - (intOf v9).toNat)
          case atStart => exact ⟨0, Nat.zero_le _, rfl, g2, Lib.hid fun j hj => by omega⟩
          case round =>
            obtain ⟨k, hk, rfl, hbr, HA⟩ := hrel
            clear g2
            by_cases hlt : k < t.length
            · obtain ⟨q, hq⟩ : ∃ q, t[k]? = some q := ⟨_, List.getElem?_eq_getElem hlt⟩
              obtain ⟨x, hx⟩ : ∃ x, a[k]? = some x := ⟨_, List.getElem?_eq_getElem (by have := HAL.out; omega)⟩
              have hlta : k < a.length := by have := HAL.out; omega
              have HQ := Lib.hid hq
              have HX := Lib.hid hx
              obtain ⟨⟨hq1, hq2⟩, hq3, hq4⟩ := HR.out k q hq
              obtain ⟨b1, o1, c1, hv1, x1, y1⟩ := Rd2.cells (Rd.below ht hbr) hq
              simp only [Value.slice.injEq, true_and] at hv1
              obtain ⟨rfl, rfl⟩ := hv1
              obtain ⟨b2, o2, c2, hv2, x2⟩ := Rd1.cell (Rd.below ha hbr) hx
              simp only [Value.slice.injEq, true_and] at hv2
              obtain ⟨rfl, rfl⟩ := hv2
              have ej1 : IntKind.i64.wrap ((c.length : Int) - 1) = (c.length : Int) - 1 := IntWalk.i64_in _ (by omega)
              have hdk : decide ((k : Int) < (t.length : Int)) = true := decide_eq_true (by omega)
              clear hq hx
              by_cases hin : 0 ≤ x ∧ x ≤ (c.length : Int) - 1
              · obtain ⟨m, rfl⟩ := Int.eq_ofNat_of_zero_le hin.1
                have hm : m < c.length := by omega
                obtain ⟨p, hp⟩ : ∃ p, c[m]? = some p := ⟨_, List.getElem?_eq_getElem hm⟩
                have HP := Lib.hid hp
                obtain ⟨b3, o3, c3, hv3, x3⟩ := Rd1.cell (Rd.below hc hbr) hp
                simp only [Value.slice.injEq, true_and] at hv3
                obtain ⟨rfl, rfl⟩ := hv3
                clear hp
                by_cases hpq : p = q.2
                · have hpb : (p != q.2) = false := bne_eq_false_iff_eq.2 hpq
                  go_wp2_with fail
                  go_quiet ((first | (go_at_call 58; exact Calls.quiet_of_same (in_yes' _ _ _ (by assumption) _)) | (go_at_call 58; exact Calls.quiet_of_same (in_no' _ _ _ (by assumption) _))))
                  have hbr2 := below_drewN hbr nq
                  generalize wr.drewN nq = W2 at *
                  clear hbr x1 y1 x2 x3 hin
                  go_wp2_with fail
                  go_loopw [10] (fun v10 wx => ∃ i : Nat, i ≤ k ∧ v10 = .int .i64 (i : Int) ∧ Below w.heap.size w wx ∧ Hid (∀ j y s, j < i → a[j]? = some y → t[j]? = some s → ¬ (y = (m : Int) ∧ q.1 - s.1 < r))) (fun v10 _ => k - (intOf v10).toNat)
                  case atStart => exact ⟨0, Nat.zero_le _, rfl, hbr2, Lib.hid fun j y s hj => by omega⟩
                  case round =>
                    obtain ⟨i, hi, rfl, hbr, HI⟩ := hrel
                    clear hbr2
                    by_cases hik : i < k
                    · obtain ⟨s, hs⟩ : ∃ s, t[i]? = some s := ⟨_, List.getElem?_eq_getElem (by omega)⟩
                      obtain ⟨y, hy⟩ : ∃ y, a[i]? = some y := ⟨_, List.getElem?_eq_getElem (by omega)⟩
                      have HSS := Lib.hid hs
                      have HYY := Lib.hid hy
                      obtain ⟨⟨hs1, hs2⟩, -, -⟩ := HR.out i s hs
                      obtain ⟨b4, o4, c4, hv4, x4, y4⟩ := Rd2.cells (Rd.below ht hbr) hs
                      simp only [Value.slice.injEq, true_and, Option.some.injEq, Addr.mk.injEq, and_true] at hv4
                      obtain ⟨⟨rfl, rfl⟩, rfl⟩ := hv4
                      obtain ⟨b5, o5, c5, hv5, x5⟩ := Rd1.cell (Rd.below ha hbr) hy
                      simp only [Value.slice.injEq, true_and, Option.some.injEq, Addr.mk.injEq, and_true] at hv5
                      obtain ⟨⟨rfl, rfl⟩, rfl⟩ := hv5
                      obtain ⟨b6, o6, c6, hv6, x6, y6⟩ := Rd2.cells (Rd.below ht hbr) HQ.out
                      simp only [Value.slice.injEq, true_and, Option.some.injEq, Addr.mk.injEq, and_true] at hv6
                      obtain ⟨⟨rfl, rfl⟩, rfl⟩ := hv6
                      obtain ⟨b7, o7, c7, hv7, x7⟩ := Rd1.cell (Rd.below ha hbr) HX.out
                      simp only [Value.slice.injEq, true_and, Option.some.injEq, Addr.mk.injEq, and_true] at hv7
                      obtain ⟨⟨rfl, rfl⟩, rfl⟩ := hv7
                      have hita : i < a.length := by omega
                      have hitt : i < t.length := by omega
                      clear hs hy y4 y6
                      have next : ¬ (y = (m : Int) ∧ q.1 - s.1 < r) → ∀ j y s, j < i + 1 → a[j]? = some y → t[j]? = some s → ¬ (y = (m : Int) ∧ q.1 - s.1 < r) := fun hn j y' s' hj hy' hs' => by
                        by_cases hji : j < i
                        · exact HI.out j y' s' hji hy' hs'
                        · obtain rfl : j = i := by omega
                          rw [HYY.out] at hy'; rw [HSS.out] at hs'
                          obtain rfl := Option.some.inj hy'
                          obtain rfl := Option.some.inj hs'
                          exact hn
                      have NX := Lib.hid next
                      clear next
                      by_cases hym : y = (m : Int)
                      · have hyb : (y == (m : Int)) = true := by simpa using hym
                        by_cases hd : q.1 - s.1 < r
                        · have HM := Lib.hid (HN.out fun hA => (hA.2 k hlt (m : Int) q HX.out HQ.out).2.2 i y s hik HYY.out HSS.out ⟨hym, hd⟩)
                          go_wp2_with fail
                          go_quiet (fail)
                          go_wp2
                          go_ret
                          exact ⟨by rw [HM.out]; rfl, below_drewN hbr _⟩
                        · have HN2 := Lib.hid (NX.out fun h => hd h.2)
                          go_wp2_with fail
                          go_quiet (fail)
                          go_wp2
                          go_roundw
                          case rel => exact ⟨i + 1, by omega, by go_num, below_drewN hbr _, HN2⟩
                          case measure => simp [intOf]; omega
                      · have hyb : (y == (m : Int)) = false := by simpa using hym
                        have HN2 := Lib.hid (NX.out fun h => hym h.1)
                        go_wp2_with fail
                        go_quiet (fail)
                        go_wp2
                        go_roundw
                        case rel => exact ⟨i + 1, by omega, by go_num, below_drewN hbr _, HN2⟩
                        case measure => simp [intOf]; omega
                    · obtain rfl : i = k := by omega
                      have HA2 : Hid (∀ j, j < i + 1 → ToothAt c t r a j) := Lib.hid fun j hj => by
                        by_cases hji : j < i
                        · exact HA.out j hji
                        · obtain rfl : j = i := by omega
                          intro x' q' hx' hq'
                          rw [HX.out] at hx'; rw [HQ.out] at hq'
                          obtain rfl := Option.some.inj hx'
                          obtain rfl := Option.some.inj hq'
                          exact ⟨by omega, by rw [Int.toNat_natCast, HP.out, hpq], HI.out⟩
                      go_wp2
                      go_roundw
                      case rel => exact ⟨i + 1, by omega, by go_num, hbr, HA2⟩
                      case measure => simp [intOf]; omega
                · have hpb : (p != q.2) = true := by simpa using hpq
                  have HM := Lib.hid (HN.out fun hA => hpq (by
                    have h := (hA.2 k hlt (m : Int) q HX.out HQ.out).2.1
                    rw [Int.toNat_natCast, HP.out] at h
                    exact Option.some.inj h))
                  go_wp2_with fail
                  go_quiet ((first | (go_at_call 58; exact Calls.quiet_of_same (in_yes' _ _ _ (by assumption) _)) | (go_at_call 58; exact Calls.quiet_of_same (in_no' _ _ _ (by assumption) _))))
                  go_wp2
                  go_ret
                  exact ⟨by rw [HM.out]; rfl, below_drewN hbr _⟩
              · have HM := Lib.hid (HN.out fun hA => hin (hA.2 k hlt x q HX.out HQ.out).1)
                go_wp2_with fail
                go_quiet ((first | (go_at_call 58; exact Calls.quiet_of_same (in_yes' _ _ _ (by assumption) _)) | (go_at_call 58; exact Calls.quiet_of_same (in_no' _ _ _ (by assumption) _))))
                go_wp2
                go_ret
                exact ⟨by rw [HM.out]; rfl, below_drewN hbr _⟩
            · obtain rfl : k = t.length := by omega
              have HM := Lib.hid (HY.out ⟨HAL.out, HA.out⟩)
              go_wp2
              go_ret
              exact ⟨by rw [HM.out]; rfl, hbr⟩
        · have HM := Lib.hid (isM_no (c := c) (t := t) (r := r) (a := a) fun k => hal k.2.2.2.1)
          have hne : ((a.length : Int) != (t.length : Int)) = true := by simp; omega
          clear tc tt hr'
          go_enter Try.func32, Try.ntmps32
          go_wp2_with fail
          refine (combok_yes hc TC.out).mono ?_
          rintro e w1 ⟨rfl, hb1⟩
          go_wp2_with fail
          refine (tuneok_yes (Rd.below ht hb1) TT.out).mono ?_
          rintro e w2 ⟨rfl, hb2⟩
          have g2 := bstep hb1 hb2
          go_wp2_with fail
          refine (in_yes _ _ _ hr _).mono ?_
          rintro e w3 ⟨rfl, rfl⟩
          go_wp2
          go_ret
          exact ⟨by rw [HM.out]; rfl, g2⟩
      · have HM := Lib.hid (isM_no (c := c) (t := t) (r := r) (a := a) fun k => hr (of_decide_eq_true k.2.2.1))
        clear tc tt
        go_enter Try.func32, Try.ntmps32
        go_wp2_with fail
        refine (combok_yes hc TC.out).mono ?_
        rintro e w1 ⟨rfl, hb1⟩
        go_wp2_with fail
        refine (tuneok_yes (Rd.below ht hb1) TT.out).mono ?_
        rintro e w2 ⟨rfl, hb2⟩
        have g2 := bstep hb1 hb2
        go_wp2_with fail
        refine (in_no _ _ _ hr _).mono ?_
        rintro e w3 ⟨rfl, rfl⟩
        go_wp2
        go_ret
        exact ⟨by rw [HM.out]; rfl, g2⟩
    · have TT := Lib.hid (show tuneB t = false by simpa using tt)
      have HM := Lib.hid (isM_no (c := c) (t := t) (r := r) (a := a) fun k => tt k.2.1)
      clear tc tt
      go_enter Try.func32, Try.ntmps32
      go_wp2_with fail
      refine (combok_yes hc TC.out).mono ?_
      rintro e w1 ⟨rfl, hb1⟩
      go_wp2_with fail
      refine (tuneok_no (Rd.below ht hb1) TT.out).mono ?_
      rintro e w2 ⟨rfl, hb2⟩
      have g2 := bstep hb1 hb2
      go_wp2
      go_ret
      exact ⟨by rw [HM.out]; rfl, g2⟩
  · have TC := Lib.hid (show combB c = false by simpa using tc)
    have HM := Lib.hid (isM_no (c := c) (t := t) (r := r) (a := a) fun k => tc k.1)
    clear tc
    go_enter Try.func32, Try.ntmps32
    go_wp2_with fail
    refine (combok_no hc TC.out).mono ?_
    rintro e w1 ⟨rfl, hb1⟩
    go_wp2
    go_ret
    exact ⟨by rw [HM.out]; rfl, hb1⟩
end Go.Proofs.Ytpjkajephloipaa
