/- The contracts of chapter 13's model in one goroutine: l13Ok, NextSpeed, SteadySpeed, IsEven. No condition. Made by gen_gov.py. -/
import Derived.Test.YtodpkfohihfndaaGovMath
import Derived.Test.YtodpkfohihfndaaTuneSpec
namespace Go.Proofs.Ytodpkfohihfndaa
open Go.ChangeShapes Go.WideShapes Go.ChangeAt Go.RowKit

theorem wrap_13 {x P : Int} (h : x = P) (h0 : -1000000000000000 ≤ P) (h1 : P ≤ 1000000000000000) : IntKind.i64.wrap x = P ∧ wrap64 x = P := by
  subst h
  have e : IntKind.i64.wrap x = x := IntWalk.i64_in _ (by omega)
  exact ⟨e, by unfold wrap64; omega⟩
theorem gov3 {v f b : Int} (h1 : 0 ≤ v ∧ v ≤ 100000) (h2 : 0 ≤ f ∧ f ≤ 10000) (h3 : 0 ≤ b ∧ b ≤ 100) : govB v f b = true := govB_true.2 ⟨h1, h2, h3⟩
theorem gov_no {v f b : Int} (h : ¬ GovP v f b) : govB v f b = false := govB_false.2 h
theorem ok13_any {w : World} (v f b : Int) : Calls Try.prog 29 #[.int .i64 v, .int .i64 f, .int .i64 b] w fun e w' => e = .returned (.bool (govB v f b)) ∧ w = w' := by
  by_cases h1 : 0 ≤ v ∧ v ≤ 100000
  · by_cases h2 : 0 ≤ f ∧ f ≤ 10000
    · by_cases h3 : 0 ≤ b ∧ b ≤ 100
      · have HG := Lib.hid (gov3 h1 h2 h3)
        go_enter Try.func29, Try.ntmps29
        go_wp2_with fail
        refine (in_yes _ _ _ h1 _).mono ?_
        rintro e w1 ⟨rfl, rfl⟩
        go_wp2_with fail
        refine (in_yes _ _ _ h2 _).mono ?_
        rintro e w1 ⟨rfl, rfl⟩
        go_wp2_with fail
        refine (in_yes _ _ _ h3 _).mono ?_
        rintro e w1 ⟨rfl, rfl⟩
        go_wp2
        go_ret
        exact ⟨by rw [HG.out]; rfl, rfl⟩
      · have HG := Lib.hid (gov_no (v := v) (f := f) (b := b) fun k => h3 k.2.2)
        go_enter Try.func29, Try.ntmps29
        go_wp2_with fail
        refine (in_yes _ _ _ h1 _).mono ?_
        rintro e w1 ⟨rfl, rfl⟩
        go_wp2_with fail
        refine (in_yes _ _ _ h2 _).mono ?_
        rintro e w1 ⟨rfl, rfl⟩
        go_wp2_with fail
        refine (in_no _ _ _ h3 _).mono ?_
        rintro e w1 ⟨rfl, rfl⟩
        go_wp2
        go_ret
        exact ⟨by rw [HG.out]; rfl, rfl⟩
    · have HG := Lib.hid (gov_no (v := v) (f := f) (b := b) fun k => h2 k.2.1)
      go_enter Try.func29, Try.ntmps29
      go_wp2_with fail
      refine (in_yes _ _ _ h1 _).mono ?_
      rintro e w1 ⟨rfl, rfl⟩
      go_wp2_with fail
      refine (in_no _ _ _ h2 _).mono ?_
      rintro e w1 ⟨rfl, rfl⟩
      go_wp2
      go_ret
      exact ⟨by rw [HG.out]; rfl, rfl⟩
  · have HG := Lib.hid (gov_no (v := v) (f := f) (b := b) fun k => h1 k.1)
    go_enter Try.func29, Try.ntmps29
    go_wp2_with fail
    refine (in_no _ _ _ h1 _).mono ?_
    rintro e w1 ⟨rfl, rfl⟩
    go_wp2
    go_ret
    exact ⟨by rw [HG.out]; rfl, rfl⟩
theorem nxtS_any {w : World} (v f b : Int) : Calls Try.prog 16 #[.int .i64 v, .int .i64 f, .int .i64 b] w fun e w' => e = .returned (.int .i64 (nxtM v f b)) ∧ w = w' := by
  have HK := Lib.hid (fun W : World => ok13_any (w := W) v f b)
  cases hg : govB v f b with
  | false =>
    have HM := Lib.hid (nxtM_no hg)
    rw [hg] at HK
    clear hg
    go_enter Try.func16, Try.ntmps16
    go_wp2_with fail
    refine (HK.out _).mono ?_
    rintro e w1 ⟨rfl, rfl⟩
    go_wp2
    go_ret
    exact ⟨by rw [HM.out]; rfl, rfl⟩
  | true =>
    have hp := govB_true.1 hg
    have HM := Lib.hid ((nxtM_yes hg).trans (nxt_eq hp))
    rw [hg] at HK
    have hbk := brk_bounds hp.1 hp.2.2
    obtain ⟨hv, hf, -⟩ := hp
    unfold brkQ at HM hbk
    obtain ⟨P, hP⟩ : ∃ P, b * v = P := ⟨_, rfl⟩
    rw [hP] at HM hbk
    obtain ⟨e1, e2⟩ := wrap_13 hP (by omega) (by omega)
    obtain ⟨Q, hQ⟩ : ∃ Q, P / 100 = Q := ⟨_, rfl⟩
    have htd : P.tdiv 100 = Q := (Int.tdiv_eq_ediv_of_nonneg hbk.1).trans hQ
    rw [hQ] at HM hbk
    obtain ⟨e3, e4⟩ := wrap_13 (x := Q) rfl (by omega) (by omega)
    obtain ⟨e5, e6⟩ := wrap_13 (x := v + f) rfl (by omega) (by omega)
    obtain ⟨X, hX⟩ : ∃ X, v + f - Q = X := ⟨_, rfl⟩
    rw [hX] at HM
    obtain ⟨e7, e8⟩ := wrap_13 hX (by omega) (by omega)
    have hX0 : 0 ≤ X := by omega
    have em : (if X < 0 then 0 else X) = X := by split <;> omega
    have em2 : (if 0 < X then X else 0) = X := by split <;> omega
    clear hP hQ hX hg hbk
    go_enter Try.func16, Try.ntmps16
    go_wp2_with fail
    refine (HK.out _).mono ?_
    rintro e w1 ⟨rfl, rfl⟩
    go_wp2
    go_ret
    exact ⟨by rw [HM.out]; rfl, rfl⟩
theorem brk_step {b : Int} (h0 : 0 ≤ b) (h1 : b ≤ 100) (s : Int) : brkQ b (s + 1) ≤ brkQ b s + 1 := by
  have e : b * (s + 1) = b * s + b := by rw [Int.mul_add, Int.mul_one]
  unfold brkQ
  rw [e]; omega
set_option maxHeartbeats 1000000 in
theorem stdS_any {w : World} (f b : Int) : Calls Try.prog 18 #[.int .i64 f, .int .i64 b] w fun e w' => e = .returned (.int .i64 (stdM f b)) ∧ w = w' := by
  by_cases h1 : 0 ≤ f ∧ f ≤ 10000
  · by_cases h2 : 1 ≤ b ∧ b ≤ 100
    · have H12 := Lib.hid (And.intro h1 h2)
      go_enter Try.func18, Try.ntmps18
      go_wp2_with fail
      refine (in_yes _ _ _ h1 _).mono ?_
      rintro e w1 ⟨rfl, rfl⟩
      go_wp2_with fail
      refine (in_yes _ _ _ h2 _).mono ?_
      rintro e w1 ⟨rfl, rfl⟩
      clear h1
      go_wp2
      go_loopw [5] (fun v5 wr => ∃ s : Nat, s ≤ 100001 ∧ v5 = .int .i64 (s : Int) ∧ Hid (∀ u : Int, 0 ≤ u → u < (s : Int) → brkQ b u ≠ f) ∧ w = wr) (fun v5 _ => 100001 - (intOf v5).toNat)
      case atStart => exact ⟨0, by omega, rfl, Lib.hid (fun u a c => by omega), rfl⟩
      case round =>
        obtain ⟨s, hs, rfl, HL, rfl⟩ := hrel
        by_cases hl : s ≤ 100000
        · have hm0 : 0 ≤ b * (s : Int) := Int.mul_nonneg (by omega) (by omega)
          have hm1 : b * (s : Int) ≤ 100 * (s : Int) := Int.mul_le_mul_of_nonneg_right h2.2 (by omega)
          have HB : Hid (brkQ b (s : Int) = b * (s : Int) / 100) := Lib.hid rfl
          obtain ⟨P, hP⟩ : ∃ P, b * (s : Int) = P := ⟨_, rfl⟩
          rw [hP] at HB hm0 hm1
          obtain ⟨e1, e2⟩ := wrap_13 hP (by omega) (by omega)
          obtain ⟨Q, hQ⟩ : ∃ Q, P / 100 = Q := ⟨_, rfl⟩
          have htd : P.tdiv 100 = Q := (Int.tdiv_eq_ediv_of_nonneg hm0).trans hQ
          rw [hQ] at HB
          obtain ⟨e3, e4⟩ := wrap_13 (x := Q) rfl (by omega) (by omega)
          clear hP hQ hm0 hm1 h2
          by_cases hq : Q = f
          · have HM : Hid (stdM f b = (s : Int)) := Lib.hid (stdM_yes H12.out.1 H12.out.2 ⟨⟨by omega, by omega⟩, by rw [HB.out]; exact hq, HL.out⟩)
            have hq' : (Q == f) = true := by rw [hq]; exact beq_self_eq_true f
            clear hq
            go_wp2
            go_ret
            exact ⟨by rw [HM.out]; rfl, rfl⟩
          · have hq' : (Q == f) = false := by rw [beq_eq_false_iff_ne]; exact hq
            by_cases hg : f < Q
            · have HM : Hid (stdM f b = -1) := Lib.hid (stdM_no (steady_past (by have := H12.out.2; omega) (by rw [HB.out]; exact hg) HL.out))
              have hg' : decide (f < Q) = true := decide_eq_true hg
              clear hq
              go_wp2
              go_ret
              exact ⟨by rw [HM.out]; rfl, rfl⟩
            · have hg' : decide (f < Q) = false := decide_eq_false hg
              have HN : Hid (∀ u : Int, 0 ≤ u → u < ((s + 1 : Nat) : Int) → brkQ b u ≠ f) := Lib.hid (fun u a c => by
                by_cases hu : u < (s : Int)
                · exact HL.out u a hu
                · rw [show u = (s : Int) by omega, HB.out]; exact hq)
              clear hq hg
              go_wp2
              go_roundw
              case rel => exact ⟨s + 1, by omega, by first | rfl | go_num, HN, by first | rfl | trivial⟩
              case measure => simp [intOf]; omega
        · have HM : Hid (stdM f b = -1) := Lib.hid (stdM_no fun u ⟨a, c, _⟩ => HL.out u a.1 (by omega) c)
          clear h2
          go_wp2
          go_ret
          exact ⟨by rw [HM.out]; rfl, rfl⟩
    · have HM := Lib.hid (stdM_bad (f := f) (b := b) fun q => h2 q.2)
      go_enter Try.func18, Try.ntmps18
      go_wp2_with fail
      refine (in_yes _ _ _ h1 _).mono ?_
      rintro e w1 ⟨rfl, rfl⟩
      go_wp2_with fail
      refine (in_no _ _ _ h2 _).mono ?_
      rintro e w1 ⟨rfl, rfl⟩
      go_wp2
      go_ret
      exact ⟨by rw [HM.out]; rfl, rfl⟩
  · have HM := Lib.hid (stdM_bad (f := f) (b := b) fun q => h1 q.1)
    go_enter Try.func18, Try.ntmps18
    go_wp2_with fail
    refine (in_no _ _ _ h1 _).mono ?_
    rintro e w1 ⟨rfl, rfl⟩
    go_wp2
    go_ret
    exact ⟨by rw [HM.out]; rfl, rfl⟩
theorem lowL_idem (l : List Int) (x : Int) : lowL x (x :: l) = lowL x l := by show lowL (min x x) l = lowL x l; rw [Int.min_self]
theorem highL_idem (l : List Int) (x : Int) : highL x (x :: l) = highL x l := by show highL (max x x) l = highL x l; rw [Int.max_self]
set_option maxHeartbeats 2000000 in
theorem evenS_any {w : World} {v : Value} {l : List Int} (p : Int) (h : Rd1 w v l) :
    Calls Try.prog 20 #[v, .int .i64 p] w fun e w' => e = .returned (.bool (evenM l p)) ∧ w = w' := by
  obtain ⟨a1, cap1, rfl⟩ := Rd.slice h
  have hm := h.2.1
  unfold maxLen at hm
  by_cases h1 : (1 : Int) ≤ (l.length : Int) ∧ (l.length : Int) ≤ 100
  · by_cases h2 : 0 ≤ p ∧ p ≤ 100
    · have H12 := Lib.hid (And.intro h1 h2)
      obtain ⟨x0, hx0⟩ : ∃ x, l[0]? = some x := ⟨_, List.getElem?_eq_getElem (by omega)⟩
      have HH : Hid (l.headD 0 = x0) := Lib.hid (by cases l with | nil => simp at hx0 | cons y t => simpa using hx0)
      obtain ⟨b1, o1, c1, hv1, k1⟩ := Rd1.cell h hx0
      simp only [Value.slice.injEq, true_and] at hv1
      obtain ⟨rfl, rfl⟩ := hv1
      have HX := Lib.hid hx0
      clear hx0
      have hlz : ¬ l.length = 0 := by omega
      go_enter Try.func20, Try.ntmps20
      go_wp2_with fail
      refine (in_yes _ _ _ h1 _).mono ?_
      rintro e w1 ⟨rfl, rfl⟩
      go_wp2_with fail
      refine (in_yes _ _ _ h2 _).mono ?_
      rintro e w1 ⟨rfl, rfl⟩
      clear h1 h2
      have k2 : w.cell? ⟨b1, o1, none⟩ = some (.int .i64 x0) := k1
      clear k1
      go_wp2
      clear k2
      go_loopw [5, 6, 7] (fun v5 v6 v7 wr => ∃ (k : Nat) (a c : Int), k ≤ l.length ∧ v5 = .int .i64 a ∧ v6 = .int .i64 c ∧ v7 = .int .i64 (k : Int) ∧ Hid (a = lowL x0 (l.take k) ∧ c = highL x0 (l.take k) ∧ ∀ q ∈ l.take k, 0 ≤ q ∧ q ≤ 100000) ∧ w = wr) (fun _ _ v7 _ => l.length - (intOf v7).toNat)
      case atStart => exact ⟨0, x0, x0, Nat.zero_le _, rfl, rfl, rfl, Lib.hid ⟨rfl, rfl, by simp⟩, rfl⟩
      case round =>
        obtain ⟨k, a, c, hk, rfl, rfl, rfl, HI, rfl⟩ := hrel
        by_cases hlt : k < l.length
        · obtain ⟨x, hx⟩ : ∃ x, l[k]? = some x := ⟨_, List.getElem?_eq_getElem hlt⟩
          have HXX := Lib.hid hx
          obtain ⟨b2, o2, c2, hv2, k2⟩ := Rd1.cell h hx
          simp only [Value.slice.injEq, true_and, Option.some.injEq, Addr.mk.injEq, and_true] at hv2
          obtain ⟨⟨rfl, rfl⟩, rfl⟩ := hv2
          clear hx
          by_cases hr : 0 ≤ x ∧ x ≤ 100000
          · have HN : Hid ((if x < a then x else a) = lowL x0 (l.take (k + 1)) ∧ (if c < x then x else c) = highL x0 (l.take (k + 1)) ∧ ∀ q ∈ l.take (k + 1), 0 ≤ q ∧ q ≤ 100000) := Lib.hid (by
              refine ⟨?_, ?_, ?_⟩
              · rw [lowL_take HXX.out, ← HI.out.1]; split <;> omega
              · rw [highL_take HXX.out, ← HI.out.2.1]; split <;> omega
              · intro q hq
                rw [List.take_add_one, HXX.out, Option.toList_some, List.mem_append] at hq
                rcases hq with hq | hq
                · exact HI.out.2.2 q hq
                · rw [List.mem_singleton.1 hq]; exact hr)
            go_wp2_with fail
            refine (in_yes _ _ _ hr _).mono ?_
            rintro e w2 ⟨rfl, rfl⟩
            clear hr
            go_wp2
            go_roundw
            case rel => exact ⟨k + 1, _, _, hlt, rfl, rfl, by first | rfl | go_num, HN, by first | rfl | trivial⟩
            case measure => simp [intOf]; omega
          · have HE : Hid (evenM l p = false) := Lib.hid (evenM_no fun q => hr (q.2.2 x (List.mem_of_getElem? HXX.out)))
            go_wp2_with fail
            refine (in_no _ _ _ hr _).mono ?_
            rintro e w2 ⟨rfl, rfl⟩
            go_wp2
            go_ret
            exact ⟨by rw [HE.out]; rfl, rfl⟩
        · obtain rfl : k = l.length := by omega
          have HE : Hid (evenM l p = decide (c * 100 ≤ a * (100 + p))) := Lib.hid (by
            have h7 := HI.out
            rw [List.take_length] at h7
            have h8 := H12.out
            rw [evenM_yes ⟨⟨by omega, by omega⟩, h8.2, h7.2.2⟩, HH.out, ← h7.1, ← h7.2.1])
          have hab : (0 ≤ a ∧ a ≤ 100000) ∧ (0 ≤ c ∧ c ≤ 100000) := by
            have h7 := HI.out
            rw [List.take_length] at h7
            have hx1 := h7.2.2 x0 (List.mem_of_getElem? HX.out)
            rw [h7.1, h7.2.1]
            exact low_high hx1 hx1 h7.2.2
          have hp2 := H12.out.2
          have hm0 : 0 ≤ a * (100 + p) := Int.mul_nonneg hab.1.1 (by omega)
          have hm1 : a * (100 + p) ≤ 100000 * 200 := Int.mul_le_mul hab.1.2 (by omega) (by omega) (by omega)
          obtain ⟨e5, e6⟩ := wrap_13 (x := c * 100) rfl (by omega) (by omega)
          obtain ⟨e7, e8⟩ := wrap_13 (x := 100 + p) rfl (by omega) (by omega)
          obtain ⟨P, hP⟩ : ∃ P, a * (100 + p) = P := ⟨_, rfl⟩
          rw [hP] at HE hm0 hm1
          obtain ⟨e9, e10⟩ := wrap_13 hP (by omega) (by omega)
          clear hP hab hp2
          go_wp2
          go_ret
          exact ⟨by rw [HE.out]; rfl, rfl⟩
    · have HM := Lib.hid (evenM_no (l := l) (p := p) fun q => h2 q.2.1)
      go_enter Try.func20, Try.ntmps20
      go_wp2_with fail
      refine (in_yes _ _ _ h1 _).mono ?_
      rintro e w1 ⟨rfl, rfl⟩
      go_wp2_with fail
      refine (in_no _ _ _ h2 _).mono ?_
      rintro e w1 ⟨rfl, rfl⟩
      go_wp2
      go_ret
      exact ⟨by rw [HM.out]; rfl, rfl⟩
  · have HM := Lib.hid (evenM_no (l := l) (p := p) fun q => h1 (by have := q.1; omega))
    go_enter Try.func20, Try.ntmps20
    go_wp2_with fail
    refine (in_no _ _ _ h1 _).mono ?_
    rintro e w1 ⟨rfl, rfl⟩
    go_wp2
    go_ret
    exact ⟨by rw [HM.out]; rfl, rfl⟩
end Go.Proofs.Ytodpkfohihfndaa
