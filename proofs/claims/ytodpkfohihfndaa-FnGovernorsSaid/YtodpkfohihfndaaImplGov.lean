/- The program's chapter 13 in one goroutine: speedOk, percentOk, NextSpeed, SteadySpeed, slices.Min and Max at ints, IsEven. No condition. Made by gen_gov.py. -/
import Derived.Test.YtodpkfohihfndaaGovSpec
namespace Go.Proofs.Ytodpkfohihfndaa
open Go.ChangeShapes Go.WideShapes Go.ChangeAt Go.RowKit

theorem ispeedok_any {w : World} (x : Int) : Calls Try.prog 23 #[.int .i64 x] w fun e w' => e = .returned (.bool (decide (0 ≤ x ∧ x ≤ 100000))) ∧ w' = w := by
  by_cases h1 : 0 ≤ x
  · by_cases h2 : x ≤ 100000
    · have HB : Hid (decide (0 ≤ x ∧ x ≤ 100000) = true) := Lib.hid (decide_eq_true ⟨h1, h2⟩)
      have h1' : decide (0 ≤ x) = true := decide_eq_true h1
      have h2' : decide (x ≤ 100000) = true := decide_eq_true h2
      go_enter Try.func23, Try.ntmps23
      go_wp2
      go_ret
      exact ⟨by first | rfl | (rw [HB.out]; rfl), rfl⟩
    · have HB : Hid (decide (0 ≤ x ∧ x ≤ 100000) = false) := Lib.hid (decide_eq_false fun q => h2 q.2)
      have h1' : decide (0 ≤ x) = true := decide_eq_true h1
      have h2' : decide (x ≤ 100000) = false := decide_eq_false h2
      go_enter Try.func23, Try.ntmps23
      go_wp2
      go_ret
      exact ⟨by first | rfl | (rw [HB.out]; rfl), rfl⟩
  · have HB : Hid (decide (0 ≤ x ∧ x ≤ 100000) = false) := Lib.hid (decide_eq_false fun q => h1 q.1)
    have h1' : decide (0 ≤ x) = false := decide_eq_false h1
    go_enter Try.func23, Try.ntmps23
    go_wp2
    go_ret
    exact ⟨by first | rfl | (rw [HB.out]; rfl), rfl⟩
theorem ispeedok_yes {x : Int} (h : 0 ≤ x ∧ x ≤ 100000) (w : World) : Calls Try.prog 23 #[.int .i64 x] w fun e w' => e = .returned (.bool true) ∧ w' = w := by
  have := ispeedok_any (w := w) x
  rwa [decide_eq_true h] at this
theorem ispeedok_no {x : Int} (h : ¬ (0 ≤ x ∧ x ≤ 100000)) (w : World) : Calls Try.prog 23 #[.int .i64 x] w fun e w' => e = .returned (.bool false) ∧ w' = w := by
  have := ispeedok_any (w := w) x
  rwa [decide_eq_false h] at this
theorem ipercentok_any {w : World} (x : Int) : Calls Try.prog 24 #[.int .i64 x] w fun e w' => e = .returned (.bool (decide (0 ≤ x ∧ x ≤ 100))) ∧ w' = w := by
  by_cases h1 : 0 ≤ x
  · by_cases h2 : x ≤ 100
    · have HB : Hid (decide (0 ≤ x ∧ x ≤ 100) = true) := Lib.hid (decide_eq_true ⟨h1, h2⟩)
      have h1' : decide (0 ≤ x) = true := decide_eq_true h1
      have h2' : decide (x ≤ 100) = true := decide_eq_true h2
      go_enter Try.func24, Try.ntmps24
      go_wp2
      go_ret
      exact ⟨by first | rfl | (rw [HB.out]; rfl), rfl⟩
    · have HB : Hid (decide (0 ≤ x ∧ x ≤ 100) = false) := Lib.hid (decide_eq_false fun q => h2 q.2)
      have h1' : decide (0 ≤ x) = true := decide_eq_true h1
      have h2' : decide (x ≤ 100) = false := decide_eq_false h2
      go_enter Try.func24, Try.ntmps24
      go_wp2
      go_ret
      exact ⟨by first | rfl | (rw [HB.out]; rfl), rfl⟩
  · have HB : Hid (decide (0 ≤ x ∧ x ≤ 100) = false) := Lib.hid (decide_eq_false fun q => h1 q.1)
    have h1' : decide (0 ≤ x) = false := decide_eq_false h1
    go_enter Try.func24, Try.ntmps24
    go_wp2
    go_ret
    exact ⟨by first | rfl | (rw [HB.out]; rfl), rfl⟩
theorem ipercentok_yes {x : Int} (h : 0 ≤ x ∧ x ≤ 100) (w : World) : Calls Try.prog 24 #[.int .i64 x] w fun e w' => e = .returned (.bool true) ∧ w' = w := by
  have := ipercentok_any (w := w) x
  rwa [decide_eq_true h] at this
theorem ipercentok_no {x : Int} (h : ¬ (0 ≤ x ∧ x ≤ 100)) (w : World) : Calls Try.prog 24 #[.int .i64 x] w fun e w' => e = .returned (.bool false) ∧ w' = w := by
  have := ipercentok_any (w := w) x
  rwa [decide_eq_false h] at this
theorem inxt_any {w : World} (v f b : Int) : Calls Try.prog 12 #[.int .i64 v, .int .i64 f, .int .i64 b] w fun e w' => e = .returned (.int .i64 (nxtM v f b)) ∧ w' = w := by
  by_cases h1 : 0 ≤ v ∧ v ≤ 100000
  · by_cases h2 : 0 ≤ f
    · by_cases h3 : f ≤ 10000
      · have h2' : decide (f < 0) = false := decide_eq_false (by omega)
        have h3' : decide (10000 < f) = false := decide_eq_false (by omega)
        by_cases h4 : 0 ≤ b ∧ b ≤ 100
        · have hp : GovP v f b := ⟨h1, ⟨h2, h3⟩, h4⟩
          have HM := Lib.hid ((nxtM_yes (govB_true.2 hp)).trans (nxt_eq hp))
          have hbk := brk_bounds hp.1 hp.2.2
          unfold brkQ at HM hbk
          obtain ⟨P, hP⟩ : ∃ P, b * v = P := ⟨_, rfl⟩
          rw [hP] at HM hbk
          obtain ⟨e1, e2⟩ := wrap_13 hP (by omega) (by omega)
          obtain ⟨Q, hQ⟩ : ∃ Q, P / 100 = Q := ⟨_, rfl⟩
          have htd : P.tdiv 100 = Q := (Int.tdiv_eq_ediv_of_nonneg hbk.1).trans hQ
          rw [hQ] at HM hbk
          obtain ⟨e3, e4⟩ := wrap_13 (x := Q) rfl (by omega) (by omega)
          obtain ⟨e5, e6⟩ := wrap_13 (x := v + f) rfl (by omega) (by omega)
          obtain ⟨X, hX⟩ : ∃ X, v + f - Q = X := ⟨_, rfl⟩
          rw [hX] at HM
          obtain ⟨e7, e8⟩ := wrap_13 hX (by omega) (by omega)
          clear hP hQ hX hbk hp
          go_enter Try.func12, Try.ntmps12
          go_wp2_with fail
          refine (ispeedok_yes h1 _).mono ?_
          rintro e w1 ⟨rfl, rfl⟩
          clear h1
          go_wp2_with fail
          refine (ipercentok_yes h4 _).mono ?_
          rintro e w1 ⟨rfl, rfl⟩
          clear h4
          go_wp2
          go_ret
          exact ⟨by rw [HM.out]; rfl, rfl⟩
        · have HM := Lib.hid (nxtM_no (gov_no (v := v) (f := f) (b := b) fun q => h4 q.2.2))
          go_enter Try.func12, Try.ntmps12
          go_wp2_with fail
          refine (ispeedok_yes h1 _).mono ?_
          rintro e w1 ⟨rfl, rfl⟩
          clear h1
          go_wp2_with fail
          refine (ipercentok_no h4 _).mono ?_
          rintro e w1 ⟨rfl, rfl⟩
          go_wp2
          go_ret
          exact ⟨by rw [HM.out]; rfl, rfl⟩
      · have h2' : decide (f < 0) = false := decide_eq_false (by omega)
        have h3' : decide (10000 < f) = true := decide_eq_true (by omega)
        have HM := Lib.hid (nxtM_no (gov_no (v := v) (f := f) (b := b) fun q => h3 q.2.1.2))
        go_enter Try.func12, Try.ntmps12
        go_wp2_with fail
        refine (ispeedok_yes h1 _).mono ?_
        rintro e w1 ⟨rfl, rfl⟩
        go_wp2
        go_ret
        exact ⟨by rw [HM.out]; rfl, rfl⟩
    · have h2' : decide (f < 0) = true := decide_eq_true (by omega)
      have HM := Lib.hid (nxtM_no (gov_no (v := v) (f := f) (b := b) fun q => h2 q.2.1.1))
      go_enter Try.func12, Try.ntmps12
      go_wp2_with fail
      refine (ispeedok_yes h1 _).mono ?_
      rintro e w1 ⟨rfl, rfl⟩
      go_wp2
      go_ret
      exact ⟨by rw [HM.out]; rfl, rfl⟩
  · have HM := Lib.hid (nxtM_no (gov_no (v := v) (f := f) (b := b) fun q => h1 q.1))
    go_enter Try.func12, Try.ntmps12
    go_wp2_with fail
    refine (ispeedok_no h1 _).mono ?_
    rintro e w1 ⟨rfl, rfl⟩
    go_wp2
    go_ret
    exact ⟨by rw [HM.out]; rfl, rfl⟩
theorem nxt0 {f b : Int} (hf : 0 ≤ f ∧ f ≤ 10000) (hb : 0 ≤ b ∧ b ≤ 100) : nxtM 0 f b = f := by
  have hp : GovP 0 f b := ⟨by omega, hf, hb⟩
  rw [nxtM_yes (govB_true.2 hp), nxt_eq hp]
  unfold brkQ
  rw [Int.mul_zero]; omega
/-- The least speed of which the brake is the force: the force times 100 by the brake, rounded up. -/
theorem std_ceil {f b s : Int} (hf : 0 ≤ f ∧ f ≤ 10000) (hb : 1 ≤ b ∧ b ≤ 100) (hs : s = (f * 100 + b - 1) / b) : (s ≤ 100000 → stdM f b = s) ∧ (100000 < s → stdM f b = -1) ∧ 0 ≤ s ∧ s ≤ 1000100 := by
  have h1 : b * s ≤ f * 100 + b - 1 := by rw [hs]; exact Int.mul_ediv_self_le (by omega)
  have h2 : f * 100 + b - 1 < b * s + b := by rw [hs]; exact Int.lt_mul_ediv_self_add (by omega)
  have h0 : 0 ≤ s := by rw [hs]; exact Int.ediv_nonneg (by omega) (by omega)
  have hq : brkQ b s = f := by unfold brkQ; omega
  have hl : ∀ u : Int, 0 ≤ u → u < s → brkQ b u ≠ f := fun u _ hu he => by
    have h3 : b * (u + 1) ≤ b * s := Int.mul_le_mul_of_nonneg_left (by omega) (by omega)
    rw [Int.mul_add, Int.mul_one] at h3
    unfold brkQ at he
    omega
  refine ⟨fun h => stdM_yes hf hb ⟨⟨h0, h⟩, hq, hl⟩, fun h => stdM_no fun u ⟨a, c, _⟩ => hl u a.1 (by omega) c, h0, ?_⟩
  have : 1 * s ≤ b * s := Int.mul_le_mul_of_nonneg_right hb.1 h0
  omega
theorem istd_any {w : World} (f b : Int) : Calls Try.prog 11 #[.int .i64 f, .int .i64 b] w fun e w' => e = .returned (.int .i64 (stdM f b)) ∧ w' = w := by
  have HN := Lib.hid (fun W : World => inxt_any (w := W) 0 f b)
  by_cases h1 : b < 1
  · have h1' : decide (b < 1) = true := decide_eq_true h1
    have HM := Lib.hid (stdM_bad (f := f) (b := b) fun q => by omega)
    go_enter Try.func11, Try.ntmps11
    go_wp2
    go_ret
    exact ⟨by rw [HM.out]; rfl, rfl⟩
  · have h1' : decide (b < 1) = false := decide_eq_false h1
    by_cases h2 : (0 ≤ f ∧ f ≤ 10000) ∧ b ≤ 100
    · have hn := nxt0 (b := b) h2.1 (by omega)
      rw [hn] at HN
      have h3' : decide (f < 0) = false := decide_eq_false (by omega)
      obtain ⟨s, hs⟩ : ∃ s, (f * 100 + b - 1) / b = s := ⟨_, rfl⟩
      obtain ⟨hy, hno, hs0, hs1⟩ := std_ceil h2.1 (by omega) hs.symm
      have HY := Lib.hid hy
      have HO := Lib.hid hno
      clear hn hy hno
      obtain ⟨P, hP⟩ : ∃ P, f * 100 = P := ⟨_, rfl⟩
      rw [hP] at hs
      obtain ⟨e1, e2⟩ := wrap_13 hP (by omega) (by omega)
      obtain ⟨Q, hQ⟩ : ∃ Q, P + b = Q := ⟨_, rfl⟩
      rw [hQ] at hs
      obtain ⟨e3, e4⟩ := wrap_13 hQ (by omega) (by omega)
      obtain ⟨R, hR⟩ : ∃ R, Q - 1 = R := ⟨_, rfl⟩
      rw [hR] at hs
      obtain ⟨e5, e6⟩ := wrap_13 hR (by omega) (by omega)
      have htd : R.tdiv b = s := (Int.tdiv_eq_ediv_of_nonneg (by omega)).trans hs
      obtain ⟨e7, e8⟩ := wrap_13 (x := s) rfl (by omega) (by omega)
      have hbz : (b == 0) = false := by rw [beq_eq_false_iff_ne]; omega
      have hbn : ¬ b = 0 := by omega
      clear hP hQ hR hs
      by_cases h4 : 0 ≤ s ∧ s ≤ 100000
      · have HM := Lib.hid (HY.out h4.2)
        go_enter Try.func11, Try.ntmps11
        go_wp2_with fail
        refine (HN.out _).mono ?_
        rintro e w1 ⟨rfl, rfl⟩
        go_wp2_with fail
        refine (ispeedok_yes h4 _).mono ?_
        rintro e w1 ⟨rfl, rfl⟩
        go_wp2
        go_ret
        exact ⟨by rw [HM.out]; rfl, rfl⟩
      · have HM := Lib.hid (HO.out (by omega))
        go_enter Try.func11, Try.ntmps11
        go_wp2_with fail
        refine (HN.out _).mono ?_
        rintro e w1 ⟨rfl, rfl⟩
        go_wp2_with fail
        refine (ispeedok_no h4 _).mono ?_
        rintro e w1 ⟨rfl, rfl⟩
        go_wp2
        go_ret
        exact ⟨by rw [HM.out]; rfl, rfl⟩
    · have hn := nxtM_no (gov_no (v := 0) (f := f) (b := b) fun q => h2 ⟨q.2.1, q.2.2.2⟩)
      have HM := Lib.hid (stdM_bad (f := f) (b := b) fun q => h2 ⟨q.1, q.2.2⟩)
      rw [hn] at HN
      clear hn
      go_enter Try.func11, Try.ntmps11
      go_wp2_with fail
      refine (HN.out _).mono ?_
      rintro e w1 ⟨rfl, rfl⟩
      go_wp2
      go_ret
      exact ⟨by rw [HM.out]; rfl, rfl⟩
theorem imin_any {w : World} {v : Value} {l : List Int} (h : Rd1 w v l) (h0 : 1 ≤ l.length) :
    Calls Try.prog 27 #[v] w fun e w' => e = .returned (.int .i64 (lowL (l.headD 0) l)) ∧ w' = w := by
  obtain ⟨a1, cap1, rfl⟩ := Rd.slice h
  have hm := h.2.1
  unfold maxLen at hm
  obtain ⟨x0, hx0⟩ : ∃ x, l[0]? = some x := ⟨_, List.getElem?_eq_getElem (by omega)⟩
  have HH : Hid (l.headD 0 = x0) := Lib.hid (by cases l with | nil => simp at hx0 | cons y t => simpa using hx0)
  obtain ⟨b1, o1, c1, hv1, k1⟩ := Rd1.cell h hx0
  simp only [Value.slice.injEq, true_and] at hv1
  obtain ⟨rfl, rfl⟩ := hv1
  have k2 : w.cell? ⟨b1, o1, none⟩ = some (.int .i64 x0) := k1
  have H1 : Hid (x0 = lowL x0 (l.take 1)) := Lib.hid (by rw [lowL_take hx0]; show x0 = min x0 x0; omega)
  clear hx0 k1
  have hlz : ¬ l.length = 0 := by omega
  have hl1 : decide ((l.length : Int) < 1) = false := decide_eq_false (by omega)
  go_enter Try.func27, Try.ntmps27
  go_wp2
  clear k2
  go_loopw [3, 4] (fun v3 v4 wr => ∃ (k : Nat) (a : Int), k ≤ l.length ∧ v3 = .int .i64 a ∧ v4 = .int .i64 (k : Int) ∧ Hid (a = lowL x0 (l.take k)) ∧ wr = w) (fun _ v4 _ => l.length - (intOf v4).toNat)
  case atStart => exact ⟨1, x0, h0, rfl, rfl, H1, by first | rfl | trivial⟩
  case round =>
    obtain ⟨k, a, hk, rfl, rfl, HI, rfl⟩ := hrel
    by_cases hlt : k < l.length
    · obtain ⟨x, hx⟩ : ∃ x, l[k]? = some x := ⟨_, List.getElem?_eq_getElem hlt⟩
      obtain ⟨b2, o2, c2, hv2, k2⟩ := Rd1.cell h hx
      simp only [Value.slice.injEq, true_and, Option.some.injEq, Addr.mk.injEq, and_true] at hv2
      obtain ⟨⟨rfl, rfl⟩, rfl⟩ := hv2
      have HN : Hid ((if x < a then x else a) = lowL x0 (l.take (k + 1))) := Lib.hid (by rw [lowL_take hx, ← HI.out]; split <;> omega)
      clear hx
      go_wp2
      go_roundw
      case rel => exact ⟨k + 1, _, hlt, rfl, by first | rfl | go_num, HN, by first | rfl | trivial⟩
      case measure => simp [intOf]; omega
    · obtain rfl : k = l.length := by omega
      have HE : Hid (a = lowL (l.headD 0) l) := Lib.hid (by rw [HI.out, List.take_length, HH.out])
      go_wp2
      go_ret
      exact ⟨by rw [← HE.out]; rfl, rfl⟩
theorem imax_any {w : World} {v : Value} {l : List Int} (h : Rd1 w v l) (h0 : 1 ≤ l.length) :
    Calls Try.prog 28 #[v] w fun e w' => e = .returned (.int .i64 (highL (l.headD 0) l)) ∧ w' = w := by
  obtain ⟨a1, cap1, rfl⟩ := Rd.slice h
  have hm := h.2.1
  unfold maxLen at hm
  obtain ⟨x0, hx0⟩ : ∃ x, l[0]? = some x := ⟨_, List.getElem?_eq_getElem (by omega)⟩
  have HH : Hid (l.headD 0 = x0) := Lib.hid (by cases l with | nil => simp at hx0 | cons y t => simpa using hx0)
  obtain ⟨b1, o1, c1, hv1, k1⟩ := Rd1.cell h hx0
  simp only [Value.slice.injEq, true_and] at hv1
  obtain ⟨rfl, rfl⟩ := hv1
  have k2 : w.cell? ⟨b1, o1, none⟩ = some (.int .i64 x0) := k1
  have H1 : Hid (x0 = highL x0 (l.take 1)) := Lib.hid (by rw [highL_take hx0]; show x0 = max x0 x0; omega)
  clear hx0 k1
  have hlz : ¬ l.length = 0 := by omega
  have hl1 : decide ((l.length : Int) < 1) = false := decide_eq_false (by omega)
  go_enter Try.func28, Try.ntmps28
  go_wp2
  clear k2
  go_loopw [3, 4] (fun v3 v4 wr => ∃ (k : Nat) (a : Int), k ≤ l.length ∧ v3 = .int .i64 a ∧ v4 = .int .i64 (k : Int) ∧ Hid (a = highL x0 (l.take k)) ∧ wr = w) (fun _ v4 _ => l.length - (intOf v4).toNat)
  case atStart => exact ⟨1, x0, h0, rfl, rfl, H1, by first | rfl | trivial⟩
  case round =>
    obtain ⟨k, a, hk, rfl, rfl, HI, rfl⟩ := hrel
    by_cases hlt : k < l.length
    · obtain ⟨x, hx⟩ : ∃ x, l[k]? = some x := ⟨_, List.getElem?_eq_getElem hlt⟩
      obtain ⟨b2, o2, c2, hv2, k2⟩ := Rd1.cell h hx
      simp only [Value.slice.injEq, true_and, Option.some.injEq, Addr.mk.injEq, and_true] at hv2
      obtain ⟨⟨rfl, rfl⟩, rfl⟩ := hv2
      have HN : Hid ((if a < x then x else a) = highL x0 (l.take (k + 1))) := Lib.hid (by rw [highL_take hx, ← HI.out]; split <;> omega)
      clear hx
      go_wp2
      go_roundw
      case rel => exact ⟨k + 1, _, hlt, rfl, by first | rfl | go_num, HN, by first | rfl | trivial⟩
      case measure => simp [intOf]; omega
    · obtain rfl : k = l.length := by omega
      have HE : Hid (a = highL (l.headD 0) l) := Lib.hid (by rw [HI.out, List.take_length, HH.out])
      go_wp2
      go_ret
      exact ⟨by rw [← HE.out]; rfl, rfl⟩
theorem even_of {l : List Int} {p : Int} (h0 : 1 ≤ l.length) (h1 : l.length ≤ 100) (hp : 0 ≤ p ∧ p ≤ 100) :
    evenM l p = (decide (0 ≤ lowL (l.headD 0) l ∧ lowL (l.headD 0) l ≤ 100000) && decide (0 ≤ highL (l.headD 0) l ∧ highL (l.headD 0) l ≤ 100000) && decide (highL (l.headD 0) l * 100 ≤ lowL (l.headD 0) l * (100 + p))) := by
  have hle : ∀ (l : List Int) (a c : Int), lowL a l ≤ a ∧ c ≤ highL c l ∧ ∀ x ∈ l, lowL a l ≤ x ∧ x ≤ highL c l := by
    intro l
    induction l with
    | nil => intro a c; exact ⟨Int.le_refl _, Int.le_refl _, by simp⟩
    | cons y t ih =>
      intro a c
      obtain ⟨i1, i2, i3⟩ := ih (min a y) (max c y)
      refine ⟨?_, ?_, ?_⟩
      · show lowL (min a y) t ≤ a; omega
      · show c ≤ highL (max c y) t; omega
      · intro x hx
        show lowL (min a y) t ≤ x ∧ x ≤ highL (max c y) t
        rcases List.mem_cons.1 hx with rfl | hx
        · omega
        · exact i3 x hx
  obtain ⟨-, -, hb⟩ := hle l (l.headD 0) (l.headD 0)
  have hmem : l.headD 0 ∈ l := by cases l with | nil => simp at h0 | cons y t => simp
  by_cases hs : ∀ x ∈ l, 0 ≤ x ∧ x ≤ 100000
  · obtain ⟨k1, k2⟩ := low_high (hs _ hmem) (hs _ hmem) hs
    rw [evenM_yes ⟨⟨h0, h1⟩, hp, hs⟩, decide_eq_true k1, decide_eq_true k2]; rfl
  · rw [evenM_no fun q => hs q.2.2]
    by_cases k1 : 0 ≤ lowL (l.headD 0) l ∧ lowL (l.headD 0) l ≤ 100000
    · by_cases k2 : 0 ≤ highL (l.headD 0) l ∧ highL (l.headD 0) l ≤ 100000
      · exact absurd (fun x hx => ⟨by have := (hb x hx).1; omega, by have := (hb x hx).2; omega⟩) hs
      · rw [decide_eq_false k2, Bool.and_false, Bool.false_and]
    · rw [decide_eq_false k1, Bool.false_and, Bool.false_and]
set_option maxHeartbeats 1000000 in
theorem ieven_any {w : World} {v : Value} {l : List Int} (p : Int) (h : Rd1 w v l) :
    Calls Try.prog 15 #[v, .int .i64 p] w fun e w' => e = .returned (.bool (evenM l p)) ∧ Below w.heap.size w w' := by
  obtain ⟨a1, cap1, rfl⟩ := Rd.slice h
  have hm := h.2.1
  unfold maxLen at hm
  by_cases h0 : l.length = 0
  · have HM := Lib.hid (evenM_no (l := l) (p := p) fun q => by have := q.1; omega)
    have h0' : ((l.length : Int) == 0) = true := by rw [beq_iff_eq]; omega
    go_enter Try.func15, Try.ntmps15
    go_wp2
    go_ret
    exact ⟨by rw [HM.out]; rfl, Below.refl _ _⟩
  · have h0' : ((l.length : Int) == 0) = false := by rw [beq_eq_false_iff_ne]; omega
    by_cases h1 : l.length ≤ 100
    · have h1' : decide (100 < (l.length : Int)) = false := decide_eq_false (by omega)
      by_cases h2 : 0 ≤ p ∧ p ≤ 100
      · have HE := Lib.hid (even_of (by omega) h1 h2)
        have HA := Lib.hid (fun W (k : Rd1 W (.slice a1 l.length cap1) l) => imin_any (w := W) k (by omega))
        have HB := Lib.hid (fun W (k : Rd1 W (.slice a1 l.length cap1) l) => imax_any (w := W) k (by omega))
        generalize lowL (l.headD 0) l = a at *
        generalize highL (l.headD 0) l = c at *
        have hm0 : (0 ≤ a ∧ a ≤ 100000) → 0 ≤ a * (100 + p) := fun q => Int.mul_nonneg q.1 (by omega)
        have hm1 : (0 ≤ a ∧ a ≤ 100000) → a * (100 + p) ≤ 100000 * 200 := fun q => Int.mul_le_mul q.2 (by omega) (by omega) (by omega)
        obtain ⟨P, hP⟩ : ∃ P, a * (100 + p) = P := ⟨_, rfl⟩
        rw [hP] at HE hm0 hm1
        have HP := Lib.hid hP
        have hp2 := h2
        clear hP h0 h1 hm
        go_enter Try.func15, Try.ntmps15
        go_wp2_with fail
        refine (ipercentok_yes h2 _).mono ?_
        rintro e w1 ⟨rfl, rfl⟩
        clear h2
        go_wp2_with fail
        refine (HA.out _ h).mono ?_
        rintro e w1 ⟨rfl, rfl⟩
        go_wp2_with fail
        refine (HB.out _ h).mono ?_
        rintro e w1 ⟨rfl, rfl⟩
        by_cases h4 : 0 ≤ a ∧ a ≤ 100000
        · by_cases h5 : 0 ≤ c ∧ c ≤ 100000
          · have hn0 := hm0 h4
            have hn1 := hm1 h4
            have HT : Hid (evenM l p = decide (c * 100 ≤ P)) := Lib.hid (by rw [HE.out, decide_eq_true h4, decide_eq_true h5]; rfl)
            obtain ⟨e5, e6⟩ := wrap_13 (x := c * 100) rfl (by omega) (by omega)
            obtain ⟨e7, e8⟩ := wrap_13 (x := 100 + p) rfl (by omega) (by omega)
            obtain ⟨e9, e10⟩ := wrap_13 HP.out (by omega) (by omega)
            clear hm0 hm1 hp2 hn0 hn1
            go_wp2_with fail
            refine (ispeedok_yes h4 _).mono ?_
            rintro e w1 ⟨rfl, rfl⟩
            clear h4
            go_wp2_with fail
            refine (ispeedok_yes h5 _).mono ?_
            rintro e w1 ⟨rfl, rfl⟩
            clear h5
            go_wp2
            go_ret
            exact ⟨by rw [HT.out]; rfl, Below.refl _ _⟩
          · have HT : Hid (evenM l p = false) := Lib.hid (by rw [HE.out, decide_eq_false h5, Bool.and_false, Bool.false_and])
            go_wp2_with fail
            refine (ispeedok_yes h4 _).mono ?_
            rintro e w1 ⟨rfl, rfl⟩
            clear h4
            go_wp2_with fail
            refine (ispeedok_no h5 _).mono ?_
            rintro e w1 ⟨rfl, rfl⟩
            go_wp2
            go_ret
            exact ⟨by rw [HT.out]; rfl, Below.refl _ _⟩
        · have HT : Hid (evenM l p = false) := Lib.hid (by rw [HE.out, decide_eq_false h4, Bool.false_and, Bool.false_and])
          go_wp2_with fail
          refine (ispeedok_no h4 _).mono ?_
          rintro e w1 ⟨rfl, rfl⟩
          go_wp2
          go_ret
          exact ⟨by rw [HT.out]; rfl, Below.refl _ _⟩
      · have HM := Lib.hid (evenM_no (l := l) (p := p) fun q => h2 q.2.1)
        go_enter Try.func15, Try.ntmps15
        go_wp2_with fail
        refine (ipercentok_no h2 _).mono ?_
        rintro e w1 ⟨rfl, rfl⟩
        go_wp2
        go_ret
        exact ⟨by rw [HM.out]; rfl, Below.refl _ _⟩
    · have h1' : decide (100 < (l.length : Int)) = true := decide_eq_true (by omega)
      have HM := Lib.hid (evenM_no (l := l) (p := p) fun q => h1 q.1.2)
      go_enter Try.func15, Try.ntmps15
      go_wp2
      go_ret
      exact ⟨by rw [HM.out]; rfl, Below.refl _ _⟩
end Go.Proofs.Ytodpkfohihfndaa
