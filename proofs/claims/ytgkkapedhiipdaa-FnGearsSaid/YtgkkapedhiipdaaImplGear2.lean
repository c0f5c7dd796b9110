/- The program's own TurnsOf, TurnTrain and GearsFor. No condition. -/
import Derived.Test.YtgkkapedhiipdaaImplGear
import Derived.Test.YtgkkapedhiipdaaGearApp
namespace Go.Proofs.Ytgkkapedhiipdaa
open Go.ChangeShapes Go.WideShapes Go.ChangeAt Go.RowKit

theorem turnsok_yes {n : Int} (h : 0 ≤ n ∧ n ≤ 1000000) (w : World) : Calls Try.prog 35 #[.int .i64 n] w fun e w' => e = .returned (.bool true) ∧ w = w' := by
  have h1 : decide (0 ≤ n) = true := decide_eq_true h.1
  have h2 : decide (n ≤ 1000000) = true := decide_eq_true h.2
  go_enter Try.func35, Try.ntmps35
  go_wp2
  go_ret
  exact ⟨rfl, rfl⟩
theorem turnsok_no {n : Int} (h : ¬ (0 ≤ n ∧ n ≤ 1000000)) (w : World) : Calls Try.prog 35 #[.int .i64 n] w fun e w' => e = .returned (.bool false) ∧ w = w' := by
  by_cases k : 0 ≤ n
  · have h1 : decide (0 ≤ n) = true := decide_eq_true k
    have h2 : decide (n ≤ 1000000) = false := decide_eq_false fun j => h ⟨k, j⟩
    go_enter Try.func35, Try.ntmps35
    go_wp2
    go_ret
    exact ⟨rfl, rfl⟩
  · have h1 : decide (0 ≤ n) = false := decide_eq_false k
    go_enter Try.func35, Try.ntmps35
    go_wp2
    go_ret
    exact ⟨rfl, rfl⟩
theorem rnum_yes {n : Int} (h : 1 ≤ n ∧ n ≤ 10000) (w : World) : Calls Try.prog 37 #[.int .i64 n] w fun e w' => e = .returned (.bool true) ∧ w = w' := by
  have h1 : decide (1 ≤ n) = true := decide_eq_true h.1
  have h2 : decide (n ≤ 10000) = true := decide_eq_true h.2
  go_enter Try.func37, Try.ntmps37
  go_wp2
  go_ret
  exact ⟨rfl, rfl⟩
theorem rnum_no {n : Int} (h : ¬ (1 ≤ n ∧ n ≤ 10000)) (w : World) : Calls Try.prog 37 #[.int .i64 n] w fun e w' => e = .returned (.bool false) ∧ w = w' := by
  by_cases k : 1 ≤ n
  · have h1 : decide (1 ≤ n) = true := decide_eq_true k
    have h2 : decide (n ≤ 10000) = false := decide_eq_false fun j => h ⟨k, j⟩
    go_enter Try.func37, Try.ntmps37
    go_wp2
    go_ret
    exact ⟨rfl, rfl⟩
  · have h1 : decide (1 ≤ n) = false := decide_eq_false k
    go_enter Try.func37, Try.ntmps37
    go_wp2
    go_ret
    exact ⟨rfl, rfl⟩

set_option maxHeartbeats 2000000 in
theorem iturns_any {w : World} {v : Value} {l : List (Int × Int)} (n : Int) (h : Rd2 w v l) :
    Calls Try.prog 15 #[v, .int .i64 n] w fun e w' => e = .returned (.tuple #[.int .i64 (gturnsM l n).1, .bool (gturnsM l n).2]) ∧ Below w.heap.size w w' := by
  by_cases ht : trainB l = true
  · obtain ⟨a, b, hab, ha, hb, ha2, hb2, hgc⟩ := ratM_parts ht
    have HAB := Lib.hid hab
    have hbz : ((b : Int) == 0) = false := by rw [beq_eq_false_iff_ne]; omega
    by_cases hn : 0 ≤ n ∧ n ≤ 1000000
    · obtain ⟨m, rfl⟩ := Int.eq_ofNat_of_zero_le hn.1
      have hl := low_turns (a := a) (b := b) (m := m) hb hgc
      have HY := Lib.hid (fun q => gturnsM_yes (n := (m : Int)) ht hn q)
      have HN := Lib.hid (fun q => gturnsM_no (l := l) (n := (m : Int)) q)
      rw [HAB.out] at HY HN
      simp only at HY HN
      have HNN := Lib.hid hn
      have HL := Lib.hid hl
      have hmb : (m : Int) ≤ 1000000 := hn.2
      clear hab ht hn hl hgc
      have hm0 := Int.emod_nonneg (m : Int) (show (b : Int) ≠ 0 by omega)
      have hm1 := Int.emod_lt_of_pos (m : Int) (show (0 : Int) < (b : Int) by omega)
      have htm : (m : Int).tmod (b : Int) = (m : Int) % (b : Int) := Int.tmod_eq_emod_of_nonneg (by omega)
      have htd : (m : Int).tdiv (b : Int) = (m : Int) / (b : Int) := Int.tdiv_eq_ediv_of_nonneg (by omega)
      have hd0 : 0 ≤ (m : Int) / (b : Int) := Int.ediv_nonneg (by omega) (by omega)
      have hd1 : (m : Int) / (b : Int) ≤ (m : Int) := Int.ediv_le_self _ (by omega)
      have ewm : IntKind.i64.wrap ((m : Int) % (b : Int)) = (m : Int) % (b : Int) := IntWalk.i64_in _ (by omega)
      have ewd : IntKind.i64.wrap ((m : Int) / (b : Int)) = (m : Int) / (b : Int) := IntWalk.i64_in _ (by omega)
      have hbn : ¬ b = 0 := by omega
      by_cases h0 : (m : Int) % (b : Int) = 0
      · have HR := Lib.hid (HY.out (HL.out.1.2 h0))
        have HQ := Lib.hid (HL.out.2 h0)
        have hz : ((m : Int) % (b : Int) == 0) = true := by rw [beq_iff_eq]; exact h0
        have hz2 : ((m : Int) % (b : Int) != 0) = false := by rw [bne, hz]; rfl
        clear h0
        obtain ⟨Q, hQ⟩ : ∃ Q, (m : Int) / (b : Int) = Q := ⟨_, rfl⟩
        have hp1 : Q * (a : Int) ≤ 1000000 * 207360000 := Int.mul_le_mul (by omega) (by omega) (by omega) (by omega)
        have hp0 : 0 ≤ Q * (a : Int) := Int.mul_nonneg (by omega) (by omega)
        have ewp : IntKind.i64.wrap (Q * (a : Int)) = Q * (a : Int) := IntWalk.i64_in _ (by omega)
        rw [hQ] at HQ hd0 hd1 ewd htd
        go_enter Try.func15, Try.ntmps15
        go_wp2_with fail
        refine (itrain_any h).mono ?_
        rintro e w1 ⟨rfl, hb1⟩
        rw [HAB.out]
        go_wp2_with fail
        refine (turnsok_yes HNN.out _).mono ?_
        rintro e w2 ⟨rfl, rfl⟩
        go_wp2
        go_ret2
        exact ⟨by rw [HR.out, HQ.out]; rfl, hb1⟩
      · have HR := Lib.hid (HN.out fun q => h0 (HL.out.1.1 q.2.2))
        have hz : ((m : Int) % (b : Int) == 0) = false := by rw [beq_eq_false_iff_ne]; exact h0
        have hz2 : ((m : Int) % (b : Int) != 0) = true := by rw [bne, hz]; rfl
        go_enter Try.func15, Try.ntmps15
        go_wp2_with fail
        refine (itrain_any h).mono ?_
        rintro e w1 ⟨rfl, hb1⟩
        rw [HAB.out]
        go_wp2_with fail
        refine (turnsok_yes HNN.out _).mono ?_
        rintro e w2 ⟨rfl, rfl⟩
        go_wp2
        go_ret2
        exact ⟨by rw [HR.out]; rfl, hb1⟩
    · have HR := Lib.hid (gturnsM_no (l := l) (n := n) fun q => hn q.2.1)
      clear hab ht hgc
      go_enter Try.func15, Try.ntmps15
      go_wp2_with fail
      refine (itrain_any h).mono ?_
      rintro e w1 ⟨rfl, hb1⟩
      rw [HAB.out]
      go_wp2_with fail
      refine (turnsok_no hn _).mono ?_
      rintro e w2 ⟨rfl, rfl⟩
      go_wp2
      go_ret2
      exact ⟨by rw [HR.out]; rfl, hb1⟩
  · have htf : trainB l = false := by simpa using ht
    have HAB := Lib.hid (ratM_no htf)
    have HR := Lib.hid (gturnsM_no (l := l) (n := n) fun q => ht q.1)
    clear ht htf
    go_enter Try.func15, Try.ntmps15
    go_wp2_with fail
    refine (itrain_any h).mono ?_
    rintro e w1 ⟨rfl, hb1⟩
    rw [HAB.out]
    go_wp2
    go_ret2
    exact ⟨by rw [HR.out]; rfl, hb1⟩

set_option maxHeartbeats 4000000 in
theorem iback_any {w : World} {v : Value} {l : List (Int × Int)} (h : Rd2 w v l) :
    Calls Try.prog 13 #[v] w (NewGears w (gbackM l)) := by
  obtain ⟨i0, hi, hz0, hz1, hz2⟩ := info_parts infoGear
  obtain ⟨a1, cap1, rfl⟩ := Rd.slice h
  have hm := h.2.1
  unfold maxLen at hm
  cases ht : trainB l with
  | true =>
    have HT := Lib.hid ht
    have HM := Lib.hid (gbackM_yes ht)
    have h4 := (trainB_true.1 ht).1
    clear ht
    go_enter Try.func13, Try.ntmps13
    go_wp2_with fail
    refine (trainok_any h).mono ?_
    rintro e w1 ⟨rfl, hb1⟩
    rw [HT.out]
    go_wp2_with (at_make; refine wpList_make_full _ rfl _ _ 24 rfl w.heap.size 34 i0 (.agg #[.int .i64 0, .int .i64 0]) 2 Try.underlying24 hi hz0 hz1 _ _ _ _ l.length rfl rfl (by omega) (by omega) (by rw [hz2]; omega) (by unfold maxLen; omega) hb1.size ?_)
    intro w2 hown hgrow
    have g2 : Below w.heap.size w w2 := hb1.grown hgrow hb1.size (by intro k hk; cases hk)
    obtain ⟨bx, hbx⟩ : ∃ b, b = w1.heap.size := ⟨_, rfl⟩
    rw [← hbx] at hown
    have hle : w.heap.size ≤ bx := by rw [hbx]; exact hb1.size
    go_wp2_with fail
    simp only [← hbx]
    clear hbx hgrow hb1
    go_loopw [14] (fun v14 wr => ∃ (k : Nat) (ys : List Value), k ≤ l.length ∧ v14 = .int .i64 (k : Int) ∧ wr.ownsRow w.heap.size 34 2 (.slice (some ⟨bx, 0, none⟩) l.length l.length) l.length ys ∧ Below w.heap.size w wr ∧ Hid (∀ c, (l.length - k) * 2 ≤ c → ys[c]? = (flat2 (l.reverse.map swapG))[c]?)) (fun v14 _ => l.length - (intOf v14).toNat)
    case atStart => exact ⟨0, _, Nat.zero_le _, rfl, hown, g2, Lib.hid fun c hc => by rw [List.getElem?_eq_none (by rw [hown.1]; omega), List.getElem?_eq_none (by rw [flat2_length]; simp; omega)]⟩
    case round =>
      obtain ⟨k, ys, hk, rfl, hys, hbr, HEQ⟩ := hrel
      clear hown g2
      by_cases hlt : k < l.length
      · obtain ⟨q, hq⟩ : ∃ q, l[k]? = some q := ⟨_, List.getElem?_eq_getElem hlt⟩
        have HQ := Lib.hid hq
        obtain ⟨b1, o1, c1, hv1, x1, y1⟩ := Rd2.cells (Rd.below h hbr) hq
        simp only [Value.slice.injEq, true_and] at hv1
        obtain ⟨rfl, rfl⟩ := hv1
        clear hq
        have hyl : ys.length = l.length * 2 := hys.1
        obtain ⟨m, hmk⟩ : ∃ m, l.length = m + 1 + k := ⟨l.length - 1 - k, by omega⟩
        have em1 : IntKind.i64.wrap ((l.length : Int) - 1) = (l.length : Int) - 1 := IntWalk.i64_in _ (by omega)
        have em2 : IntKind.i64.wrap ((l.length : Int) - 1 - (k : Int)) = (m : Int) := by rw [show (l.length : Int) - 1 - (k : Int) = (m : Int) by omega]; exact IntWalk.i64_in _ (by omega)
        have hysA := hys.alloc (.cells #[.int .i64 q.1, .int .i64 q.2] 34)
        obtain ⟨u0, hu0⟩ : ∃ u, ys[m * 2]? = some u := ⟨_, List.getElem?_eq_getElem (by omega)⟩
        obtain ⟨u1, hu1⟩ : ∃ u, ys[m * 2 + 1]? = some u := ⟨_, List.getElem?_eq_getElem (by omega)⟩
        have hc0 : (wr.alloc (.cells #[.int .i64 q.1, .int .i64 q.2] 34)).cell? ⟨bx, m * 2, none⟩ = some u0 := by rw [hysA.cellAt _ (by omega)]; exact hu0
        have hc1 : (wr.alloc (.cells #[.int .i64 q.1, .int .i64 q.2] 34)).cell? ⟨bx, m * 2 + 1, none⟩ = some u1 := by rw [hysA.cellAt _ (by omega)]; exact hu1
        have hf0 := hysA.frozenAt (m * 2)
        have hf1 := hysA.frozenAt (m * 2 + 1)
        have hst1 := (hysA.stored (m * 2) (.int .i64 q.2)).1
        have hst2 := (hst1.stored (m * 2 + 1) (.int .i64 q.1)).1
        have hb4 : Below w.heap.size w (((wr.alloc (.cells #[.int .i64 q.1, .int .i64 q.2] 34)).setCell ⟨bx, m * 2, none⟩ (.int .i64 q.2)).setCell ⟨bx, m * 2 + 1, none⟩ (.int .i64 q.1)) := ((hbr.alloc hbr.size _).setCell hle _).setCell hle _
        have HST := Lib.hid hst2
        have HB4 := Lib.hid hb4
        have HNX : Hid (∀ c, (l.length - (k + 1)) * 2 ≤ c → ((ys.set (m * 2) (.int .i64 q.2)).set (m * 2 + 1) (.int .i64 q.1))[c]? = (flat2 (l.reverse.map swapG))[c]?) := Lib.hid (by
          have := HEQ.out
          rw [show l.length - k = m + 1 by omega] at this
          have hb := back_at HQ.out
          rw [show l.length - 1 - k = m by omega] at hb
          rw [show l.length - (k + 1) = m by omega]
          exact set2_prev (p := (q.2, q.1)) this hb (by omega))
        have HMK := Lib.hid hmk
        have hml : (m : Int) < (l.length : Int) := by omega
        have hml' : m < l.length := by omega
        clear hys hysA hst1 hst2 hb4 hbr hyl hu0 hu1 hmk
        go_wp2
        go_roundw
        case rel => exact ⟨k + 1, _, by omega, by go_num, HST.out, HB4.out, HNX.out⟩
        case measure => simp [intOf]; omega
      · obtain rfl : k = l.length := by omega
        have hfl : ys = flat2 (l.reverse.map swapG) := List.ext_getElem? fun c => HEQ.out c (by omega)
        subst hfl
        go_wp2
        go_ret
        refine ⟨_, rfl, ?_, hbr⟩
        rw [HM.out]
        have : (l.reverse.map swapG).length = l.length := by simp
        rw [this]; exact hys
  | false =>
    have HT := Lib.hid ht
    have HM := Lib.hid (gbackM_no ht)
    clear ht
    go_enter Try.func13, Try.ntmps13
    go_wp2_with fail
    refine (trainok_any h).mono ?_
    rintro e w1 ⟨rfl, hb1⟩
    rw [HT.out]
    go_wp2
    go_ret
    refine ⟨_, rfl, ?_, hb1⟩
    rw [HM.out]
    exact ⟨rfl, Or.inl ⟨rfl, rfl⟩⟩

theorem gears_low {top bottom : Int} (h1 : 1 ≤ top ∧ top ≤ 10000) (h2 : 1 ≤ bottom ∧ bottom ≤ 10000) : ∃ d e : Nat, (1 ≤ d ∧ d ≤ 10000) ∧ (1 ≤ e ∧ e ≤ 10000) ∧ ratL [(top, bottom)] = ((d : Int), (e : Int)) ∧
    (∀ s, gearB (timesG d e s) = true → (∀ r, 1 ≤ r → r < s → gearB (timesG d e r) = false) → gearsM top bottom = (timesG d e s, true)) ∧ ((∀ r, 1 ≤ r → r < 7 → gearB (timesG d e r) = false) → gearsM top bottom = ((0, 0), false)) := by
  obtain ⟨T, rfl⟩ := Int.eq_ofNat_of_zero_le (show 0 ≤ top by omega)
  obtain ⟨B, rfl⟩ := Int.eq_ofNat_of_zero_le (show 0 ≤ bottom by omega)
  obtain ⟨d, e, g, rfl, rfl, hd, he, hg, hc, -⟩ := low_terms (T := T) (B := B) (by omega) (by omega)
  have k1 := Nat.mul_le_mul_left d hg
  have k2 := Nat.mul_le_mul_left e hg
  exact ⟨d, e, ⟨hd, by omega⟩, ⟨he, by omega⟩, ratL_one hg hc, fun s hs hl => gears_hit hd he hg hc (by omega) (by omega) hs hl, fun hl => gears_miss hd he hg hc (by omega) (by omega) hl⟩

set_option maxHeartbeats 1500000 in
theorem igfor_any {w : World} (top bottom : Int) :
    Calls Try.prog 17 #[.int .i64 top, .int .i64 bottom] w (GearAns w (gearsM top bottom).1 (gearsM top bottom).2) := by
  have hb0 : Below w.heap.size w (w.alloc (.cells #[.int .i64 0, .int .i64 0] 34)) := (Below.refl _ _).alloc (Nat.le_refl _) _
  by_cases h1 : 1 ≤ top ∧ top ≤ 10000
  · by_cases h2 : 1 ≤ bottom ∧ bottom ≤ 10000
    · obtain ⟨d, e, hd, he, hr, hh, hm⟩ := gears_low h1 h2
      have HRT := Lib.hid hr
      have HHT := Lib.hid hh
      have HMS := Lib.hid hm
      have HP := Lib.hid (prod_one (p := (top, bottom)) h1 h2)
      have HH1 := Lib.hid h1
      have HH2 := Lib.hid h2
      clear h1 h2 hr hh hm
      go_enter Try.func17, Try.ntmps17
      go_wp2_with fail
      refine (rnum_yes HH1.out _).mono ?_
      rintro e1 w1 ⟨rfl, rfl⟩
      go_wp2_with fail
      refine (rnum_yes HH2.out _).mono ?_
      rintro e1 w1 ⟨rfl, rfl⟩
      have hX := box2_new w (.int .i64 0) (.int .i64 0) 34
      generalize w.alloc (.cells #[.int .i64 0, .int .i64 0] 34) = W at *
      obtain ⟨bx, hbx⟩ : ∃ b, b = w.heap.size := ⟨_, rfl⟩
      rw [← hbx] at hX
      simp only [← hbx]
      have hle : w.heap.size ≤ bx := by omega
      clear hbx
      go_wp2_with fail
      have ho := one_row0G (Below.refl W.heap.size W) (top, bottom)
      have hbA : Below W.heap.size W (W.alloc (.cells #[.int .i64 top, .int .i64 bottom] 34)) := (Below.refl _ _).alloc (Nat.le_refl _) _
      have hX1 := hX.below hbA
      have g1 := bstep hb0 hbA
      clear hX hb0 hbA
      refine (ratioof_any (l := [(top, bottom)]) (Rd.of_own ho) HP.out).mono ?_
      rintro e1 w1 ⟨rfl, hb1⟩
      rw [HRT.out]
      have hX2 := hX1.below hb1
      have g2 := bstep g1 hb1
      clear hX1 g1 hb1 ho
      go_wp2_with fail
      go_loopw [8] (fun v8 wr => ∃ s : Nat, 1 ≤ s ∧ s ≤ 7 ∧ v8 = .int .i64 (s : Int) ∧ Hid (∀ r, 1 ≤ r → r < s → gearB (timesG d e r) = false) ∧ Box2 wr bx (.int .i64 0) (.int .i64 0) ∧ Below w.heap.size w wr) (fun v8 _ => (8 - intOf v8).toNat)
      case atStart => exact ⟨1, by omega, by omega, rfl, Lib.hid (fun r h1 h2 => by omega), hX2, g2⟩
      case round =>
        obtain ⟨s, hs1, hs2, rfl, HF, hB, hbr⟩ := hrel
        clear hX2 g2
        by_cases hlt : s ≤ 6
        · have hp1 : (d : Int) * (s : Int) ≤ 10000 * 6 := Int.mul_le_mul (by omega) (by omega) (by omega) (by omega)
          have hq1 : (e : Int) * (s : Int) ≤ 10000 * 6 := Int.mul_le_mul (by omega) (by omega) (by omega) (by omega)
          have hp0 : 0 ≤ (d : Int) * (s : Int) := Int.mul_nonneg (by omega) (by omega)
          have hq0 : 0 ≤ (e : Int) * (s : Int) := Int.mul_nonneg (by omega) (by omega)
          have ht : timesG d e s = ((d : Int) * (s : Int), (e : Int) * (s : Int)) := by unfold timesG; rw [Int.natCast_mul, Int.natCast_mul]
          obtain ⟨A, hA⟩ : ∃ A, (d : Int) * (s : Int) = A := ⟨_, rfl⟩
          obtain ⟨E, hE⟩ : ∃ E, (e : Int) * (s : Int) = E := ⟨_, rfl⟩
          rw [hA, hE] at ht
          rw [hA] at hp0 hp1
          rw [hE] at hq0 hq1
          have HTG := Lib.hid ht
          obtain ⟨ewA1, ewA2⟩ := wrap_as hA (by omega) (by omega)
          obtain ⟨ewE1, ewE2⟩ := wrap_as hE (by omega) (by omega)
          clear hA hE ht hp0 hp1 hq0 hq1
          have hbA : Below wr.heap.size wr (wr.alloc (.cells #[.int .i64 A, .int .i64 E] 34)) := (Below.refl _ _).alloc (Nat.le_refl _) _
          have hY := box2_new wr (.int .i64 A) (.int .i64 E) 34
          have hX := hB.below hbA
          have hb3 := bstep hbr hbA
          clear hB hbA hbr
          go_wp2_with fail
          generalize wr.alloc (.cells #[.int .i64 A, .int .i64 E] 34) = W2 at *
          generalize wr.heap.size = by2 at *
          refine (igear_any (A, E) _).mono ?_
          rintro e1 w2 ⟨rfl, hb2⟩
          have hY2 := hY.below hb2
          have hX2 := hX.below hb2
          have hb4 := bstep hb3 hb2
          clear hY hX hb3 hb2 ewA1 ewA2 ewE1 ewE2
          cases hg : gearB (A, E) with
          | true =>
            have HG := Lib.hid hg
            have HR : Hid (gearsM top bottom = ((A, E), true)) := Lib.hid (by rw [← HTG.out]; exact HHT.out s (by rw [HTG.out]; exact HG.out) HF.out)
            clear hg
            obtain ⟨-, ⟨y0, y1⟩, -⟩ := id hY2
            obtain ⟨-, ⟨x0, x1⟩, xf⟩ := id hX2
            have xf0 := xf 0
            have xf1 := xf 1
            obtain ⟨-, ⟨z0, z1⟩, zf⟩ := wr2_same hX2 (.int .i64 A) (.int .i64 E)
            have hb5 := wr2_below hb4 hle (.int .i64 A) (.int .i64 E)
            have q2 : (w2.setCell ⟨bx, 0, none⟩ (.int .i64 A)).cell? ⟨bx, 1, none⟩ = some (.int .i64 0) := by rw [World.cell?_setCell_other (h := by simp)]; exact x1
            unfold wr2 at z0 z1 hb5
            clear hY2 hX2 hb4
            go_wp2
            exact bodyPost_ret (v := .tuple #[.agg #[.int .i64 A, .int .i64 E], .bool true]) (by simp [results, Try.results17, go_sem, z0, z1]) rfl ⟨by rw [HR.out], hb5⟩
          | false =>
            have HG := Lib.hid hg
            have HN2 : Hid (∀ r, 1 ≤ r → r < s + 1 → gearB (timesG d e r) = false) := Lib.hid fun r r1 r2 => by
              by_cases hrs : r < s
              · exact HF.out r r1 hrs
              · obtain rfl : r = s := by omega
                rw [HTG.out]; exact HG.out
            clear hg
            go_wp2
            go_roundw
            case rel => exact ⟨s + 1, by omega, by omega, by go_num, HN2, hX2, hb4⟩
            case measure => simp [intOf]; omega
        · obtain rfl : s = 7 := by omega
          have HR := Lib.hid (HMS.out HF.out)
          obtain ⟨-, ⟨x0, x1⟩, xf⟩ := id hB
          have xf0 := xf 0
          have xf1 := xf 1
          obtain ⟨-, ⟨z0, z1⟩, zf⟩ := wr2_same hB (.int .i64 0) (.int .i64 0)
          have hb5 := wr2_below hbr hle (.int .i64 0) (.int .i64 0)
          have q2 : (wr.setCell ⟨bx, 0, none⟩ (.int .i64 0)).cell? ⟨bx, 1, none⟩ = some (.int .i64 0) := by rw [World.cell?_setCell_other (h := by simp)]; exact x1
          unfold wr2 at z0 z1 hb5
          clear hB hbr
          go_wp2
          exact bodyPost_ret (v := .tuple #[.agg #[.int .i64 0, .int .i64 0], .bool false]) (by simp [results, Try.results17, go_sem, z0, z1]) rfl ⟨by rw [HR.out], hb5⟩
    · have HR := Lib.hid (gearsM_no (top := top) (bottom := bottom) fun q => h2 q.2)
      have hX := box2_new w (.int .i64 0) (.int .i64 0) 34
      go_enter Try.func17, Try.ntmps17
      go_wp2_with fail
      refine (rnum_yes h1 _).mono ?_
      rintro e w1 ⟨rfl, rfl⟩
      go_wp2_with fail
      refine (rnum_no h2 _).mono ?_
      rintro e w1 ⟨rfl, rfl⟩
      obtain ⟨-, ⟨x0, x1⟩, xf⟩ := id hX
      have xf0 := xf 0
      have xf1 := xf 1
      obtain ⟨-, ⟨z0, z1⟩, zf⟩ := wr2_same hX (.int .i64 0) (.int .i64 0)
      have hb5 := wr2_below hb0 (Nat.le_refl _) (.int .i64 0) (.int .i64 0)
      have q2 : ((w.alloc (.cells #[.int .i64 0, .int .i64 0] 34)).setCell ⟨w.heap.size, 0, none⟩ (.int .i64 0)).cell? ⟨w.heap.size, 1, none⟩ = some (.int .i64 0) := by rw [World.cell?_setCell_other (h := by simp)]; exact x1
      unfold wr2 at z0 z1 hb5
      clear hX hb0
      generalize w.alloc (.cells #[.int .i64 0, .int .i64 0] 34) = W at *
      go_wp2
      exact bodyPost_ret (v := .tuple #[.agg #[.int .i64 0, .int .i64 0], .bool false]) (by simp [results, Try.results17, go_sem, z0, z1]) rfl ⟨by rw [HR.out], hb5⟩
  · have HR := Lib.hid (gearsM_no (top := top) (bottom := bottom) fun q => h1 q.1)
    have hX := box2_new w (.int .i64 0) (.int .i64 0) 34
    go_enter Try.func17, Try.ntmps17
    go_wp2_with fail
    refine (rnum_no h1 _).mono ?_
    rintro e w1 ⟨rfl, rfl⟩
    obtain ⟨-, ⟨x0, x1⟩, xf⟩ := id hX
    have xf0 := xf 0
    have xf1 := xf 1
    obtain ⟨-, ⟨z0, z1⟩, zf⟩ := wr2_same hX (.int .i64 0) (.int .i64 0)
    have hb5 := wr2_below hb0 (Nat.le_refl _) (.int .i64 0) (.int .i64 0)
    have q2 : ((w.alloc (.cells #[.int .i64 0, .int .i64 0] 34)).setCell ⟨w.heap.size, 0, none⟩ (.int .i64 0)).cell? ⟨w.heap.size, 1, none⟩ = some (.int .i64 0) := by rw [World.cell?_setCell_other (h := by simp)]; exact x1
    unfold wr2 at z0 z1 hb5
    clear hX hb0
    generalize w.alloc (.cells #[.int .i64 0, .int .i64 0] 34) = W at *
    go_wp2
    exact bodyPost_ret (v := .tuple #[.agg #[.int .i64 0, .int .i64 0], .bool false]) (by simp [results, Try.results17, go_sem, z0, z1]) rfl ⟨by rw [HR.out], hb5⟩
end Go.Proofs.Ytgkkapedhiipdaa
