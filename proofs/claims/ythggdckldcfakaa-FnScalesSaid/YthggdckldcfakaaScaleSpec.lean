/- The contracts of chapter 17's model. No condition. Made by gen_scale.py. -/
import Derived.Test.YthggdckldcfakaaScaleMath
import Derived.Test.YthggdckldcfakaaCmp
namespace Go.Proofs.Ythggdckldcfakaa
open Go.ChangeShapes Go.WideShapes Go.ChangeAt Go.RowKit

theorem gr_same17 {w w' : World} (h : w = w') : Gr w w' := gr_of_below (by rw [h]; exact Below.refl _ _) (by rw [h]; exact Nat.le_refl _)
theorem bits_pow {S s : Nat} (hS : S < 4096) (hs : s < 12) : bits BinOp.or IntKind.i64 (S : Int) (wrap64 ((2 : Int) ^ s)) = ((S ||| 2 ^ s : Nat) : Int) := by
  rw [wrap_pow hs, bits_or2 (Nat.lt_trans hS (by decide)) (Nat.lt_trans (pow12_lt hs) (by decide))]

theorem rotG_any (s b : Int) (w : World) :
    Calls Try.prog 35 #[.int .i64 s, .int .i64 b] w fun e w' => e = .returned (.int .i64 (rotI s b)) ∧ w = w' := by
  by_cases h1 : 0 ≤ s ∧ s ≤ 4095
  · by_cases h2 : 0 ≤ b ∧ b ≤ 11
    · obtain ⟨s, rfl⟩ := Int.eq_ofNat_of_zero_le h1.1
      obtain ⟨b, rfl⟩ := Int.eq_ofNat_of_zero_le h2.1
      have hb12 : b < 12 := by omega
      have HR := Lib.hid (rotI_yes (s := s) (b := b) (by omega) hb12)
      have HE := Lib.hid (rot_model (s := s) (b := b) (by omega) hb12)
      have e12 : (12 : Int) - (b : Int) = ((12 - b : Nat) : Int) := by omega
      have e12w : IntKind.i64.wrap ((12 - b : Nat) : Int) = ((12 - b : Nat) : Int) := IntWalk.i64_in _ (by omega)
      have h1' := Lib.hid h1
      have h2' := Lib.hid h2
      clear h1 h2
      go_enter Try.func35, Try.ntmps35
      go_wp2_with fail
      have h1 := h1'.out
      refine (in_yes _ _ _ h1 _).mono ?_
      rintro e w1 ⟨rfl, rfl⟩
      clear h1
      go_wp2_with fail
      have h2 := h2'.out
      refine (in_yes _ _ _ h2 _).mono ?_
      rintro e w1 ⟨rfl, rfl⟩
      clear h2
      go_wp2
      go_ret
      refine ⟨?_, rfl⟩
      rw [HR.out, ← HE.out]; (try rfl)
    · have HR := Lib.hid (rotI_no (s := s) (b := b) fun k => h2 k.2)
      have h1' := Lib.hid h1
      have h2' := Lib.hid h2
      clear h1 h2
      go_enter Try.func35, Try.ntmps35
      go_wp2_with fail
      have h1 := h1'.out
      refine (in_yes _ _ _ h1 _).mono ?_
      rintro e w1 ⟨rfl, rfl⟩
      clear h1
      go_wp2_with fail
      have h2 := h2'.out
      refine (in_no _ _ _ h2 _).mono ?_
      rintro e w1 ⟨rfl, rfl⟩
      clear h2
      go_wp2
      go_ret
      exact ⟨by rw [HR.out]; (try rfl), rfl⟩
  · have HR := Lib.hid (rotI_no (s := s) (b := b) fun k => h1 k.1)
    have h1' := Lib.hid h1
    clear h1
    go_enter Try.func35, Try.ntmps35
    go_wp2_with fail
    have h1 := h1'.out
    refine (in_no _ _ _ h1 _).mono ?_
    rintro e w1 ⟨rfl, rfl⟩
    clear h1
    go_wp2
    go_ret
    exact ⟨by rw [HR.out]; (try rfl), rfl⟩
theorem rotG_is {s b c : Int} (h : rotI s b = c) (w : World) :
    Calls Try.prog 35 #[.int .i64 s, .int .i64 b] w fun e w' => e = .returned (.int .i64 c) ∧ w = w' :=
  (rotG_any s b w).mono fun _ _ ⟨he, hw⟩ => ⟨by rw [he, h], hw⟩
theorem majG_any (r : Int) (w : World) :
    Calls Try.prog 27 #[.int .i64 r] w fun e w' => e = .returned (.int .i64 (rotI 2741 r)) ∧ w = w' := by
  have HR := Lib.hid (fun W => rotG_any 2741 r W)
  generalize rotI 2741 r = R at *
  go_enter Try.func27, Try.ntmps27
  go_wp2_with fail
  refine (HR.out _).mono ?_
  rintro e w1 ⟨rfl, rfl⟩
  go_wp2
  go_ret
  exact ⟨rfl, rfl⟩
theorem majG_is {r : Nat} (hr : r < 12) (w : World) :
    Calls Try.prog 27 #[.int .i64 (r : Int)] w fun e w' => e = .returned (.int .i64 ((majN r : Nat) : Int)) ∧ w = w' :=
  (majG_any r w).mono fun _ _ ⟨he, hw⟩ => ⟨by rw [he, majI_yes hr], hw⟩

theorem majG_gr {r : Nat} (hr : r < 12) (w : World) :
    Calls Try.prog 27 #[.int .i64 (r : Int)] w fun e w' => e = .returned (.int .i64 ((majN r : Nat) : Int)) ∧ Gr w w' :=
  (majG_is hr w).mono fun _ _ ⟨he, hw⟩ => ⟨he, gr_same17 hw⟩

set_option maxHeartbeats 1000000 in
theorem symG_any (s : Int) (w : World) :
    Calls Try.prog 36 #[.int .i64 s] w fun e w' => e = .returned (.int .i64 (symI s)) ∧ w = w' := by
  by_cases h1 : 0 ≤ s ∧ s ≤ 4095
  · obtain ⟨s, rfl⟩ := Int.eq_ofNat_of_zero_le h1.1
    have HS : Hid (s < 4096) := Lib.hid (by omega)
    have HR := Lib.hid (symI_yes HS.out)
    have h1' := Lib.hid h1
    clear h1
    go_enter Try.func36, Try.ntmps36
    go_wp2_with fail
    have h1 := h1'.out
    refine (in_yes _ _ _ h1 _).mono ?_
    rintro e w1 ⟨rfl, rfl⟩
    clear h1
    go_wp2_with fail
    go_loopw [3, 4] (fun v3 v4 wr => ∃ n : Nat, n ≤ 12 ∧ v4 = .int .i64 (n : Int) ∧ v3 = .int .i64 ((symN s n : Nat) : Int) ∧ w = wr) (fun _ v4 _ => 12 - (intOf v4).toNat)
    case atStart => exact ⟨0, by omega, rfl, rfl, rfl⟩
    case round =>
      obtain ⟨n, hn, rfl, rfl, rfl⟩ := hrel
      by_cases hlt : n < 12
      · have hsl := symN_le s n
        by_cases hq : rotN s n = s
        · have HY := Lib.hid (symN_yes hq)
          have HQ : Hid (rotI s n = (s : Int)) := Lib.hid (by rw [rotI_yes HS.out hlt, hq])
          clear hq
          generalize symN s n = y at *
          go_wp2_with fail
          refine (rotG_is HQ.out _).mono ?_
          rintro e w1 ⟨rfl, rfl⟩
          go_wp2
          go_roundw
          case rel => exact ⟨n + 1, by omega, by go_num, by rw [HY.out]; go_num, by first | trivial | rfl⟩
          case measure => simp [intOf]; omega
        · have HN := Lib.hid (symN_no hq)
          have hz : (((rotN s n : Nat) : Int) == (s : Int)) = false := by rw [beq_eq_false_iff_ne]; omega
          have HQ : Hid (rotI s n = ((rotN s n : Nat) : Int)) := Lib.hid (rotI_yes HS.out hlt)
          clear hq
          generalize symN s n = y at *
          generalize rotN s n = z at *
          go_wp2_with fail
          refine (rotG_is HQ.out _).mono ?_
          rintro e w1 ⟨rfl, rfl⟩
          go_wp2
          go_roundw
          case rel => exact ⟨n + 1, by omega, by go_num, by rw [HN.out], by first | trivial | rfl⟩
          case measure => simp [intOf]; omega
      · obtain rfl : n = 12 := by omega
        go_wp2
        go_ret
        exact ⟨by rw [HR.out]; (try rfl), rfl⟩
  · have HR := Lib.hid (symI_no h1)
    have h1' := Lib.hid h1
    clear h1
    go_enter Try.func36, Try.ntmps36
    go_wp2_with fail
    have h1 := h1'.out
    refine (in_no _ _ _ h1 _).mono ?_
    rintro e w1 ⟨rfl, rfl⟩
    clear h1
    go_wp2
    go_ret
    exact ⟨by rw [HR.out]; (try rfl), rfl⟩
theorem symG_is {s c : Int} (h : symI s = c) (w : World) :
    Calls Try.prog 36 #[.int .i64 s] w fun e w' => e = .returned (.int .i64 c) ∧ w = w' :=
  (symG_any s w).mono fun _ _ ⟨he, hw⟩ => ⟨by rw [he, h], hw⟩

set_option maxHeartbeats 2000000 in
theorem useG_any {w : World} {v : Value} {l : List (Int × Int)} (h : Rd2 w v l) :
    Calls Try.prog 24 #[v] w fun e w' => e = .returned (.int .i64 (stepsM l)) ∧ Below w.heap.size w w' := by
  obtain ⟨a1, cap1, rfl⟩ := Rd.slice h
  have hm := h.2.1
  unfold maxLen at hm
  by_cases ht : tuneB l = true
  · have HT := Lib.hid ht
    have HP := Lib.hid (tuneB_true.1 ht)
    have h40 := HP.out.1
    have HR := Lib.hid (stepsM_yes ht)
    clear ht
    go_enter Try.func24, Try.ntmps24
    go_wp2_with fail
    refine (tuneok_yes h HT.out).mono ?_
    rintro e w1 ⟨rfl, hb1⟩
    go_wp2_with fail
    go_loopw [3, 4] (fun v3 v4 wr => ∃ j : Nat, j ≤ l.length ∧ v4 = .int .i64 j ∧ v3 = .int .i64 ((useN (l.take j) : Nat) : Int) ∧ Below w.heap.size w wr) (fun _ v4 _ => l.length - (intOf v4).toNat)
    case atStart => exact ⟨0, Nat.zero_le _, rfl, rfl, hb1⟩
    case round =>
      obtain ⟨j, hj, rfl, rfl, hbr⟩ := hrel
      by_cases hlt : j < l.length
      · obtain ⟨p, hp⟩ : ∃ p, l[j]? = some p := ⟨_, List.getElem?_eq_getElem hlt⟩
        have hpr := (HP.out.2 j p hp).2.1
        obtain ⟨b1, o1, c1, hv1, x1, y1⟩ := Rd2.cells (Rd.below h hbr) hp
        simp only [Value.slice.injEq, true_and] at hv1
        obtain ⟨rfl, rfl⟩ := hv1
        have HQ := Lib.hid hp
        clear hp
        have hs : p.2 % 12 = ((stepN p : Nat) : Int) := stepN_cast p
        have hs12 := stepN_lt p
        have hp0 : 0 ≤ p.2 := hpr.1
        have hS := use_lt (l.take j)
        have HU := Lib.hid (use_step HQ.out)
        have hor := bits_pow hS hs12
        generalize useN (l.take j) = S at *
        generalize stepN p = s at *
        go_wp2
        go_roundw
        case rel => exact ⟨j + 1, by omega, by go_num, by rw [HU.out]; (try first | rfl | rw [hor]), hbr⟩
        case measure => simp [intOf]; omega
      · obtain rfl : j = l.length := by omega
        rw [List.take_length] at *
        go_wp2
        go_ret
        exact ⟨by rw [HR.out]; (try rfl), hbr⟩
  · have HT : Hid (tuneB l = false) := Lib.hid (by simpa using ht)
    have HR := Lib.hid (stepsM_no HT.out)
    clear ht
    go_enter Try.func24, Try.ntmps24
    go_wp2_with fail
    refine (tuneok_no h HT.out).mono ?_
    rintro e w1 ⟨rfl, hb1⟩
    go_wp2
    go_ret
    exact ⟨by rw [HR.out]; (try rfl), hb1⟩
theorem useG_is {w : World} {v : Value} {l : List (Int × Int)} {c : Int} (h : Rd2 w v l) (hc : stepsM l = c) :
    Calls Try.prog 24 #[v] w fun e w' => e = .returned (.int .i64 c) ∧ Below w.heap.size w w' :=
  (useG_any h).mono fun _ _ ⟨he, hw⟩ => ⟨by rw [he, hc], hw⟩

set_option maxHeartbeats 2000000 in
theorem wrongG_any {w : World} {v : Value} {l : List (Int × Int)} (r : Int) (h : Rd2 w v l) :
    Calls Try.prog 33 #[v, .int .i64 r] w fun e w' => e = .returned (.int .i64 (wrongI l r)) ∧ Below w.heap.size w w' := by
  obtain ⟨a1, cap1, rfl⟩ := Rd.slice h
  have hm := h.2.1
  unfold maxLen at hm
  by_cases ht : tuneB l = true
  · have HT := Lib.hid ht
    have HP := Lib.hid (tuneB_true.1 ht)
    have h40 := HP.out.1
    by_cases h2 : 0 ≤ r ∧ r ≤ 11
    · obtain ⟨r, rfl⟩ := Int.eq_ofNat_of_zero_le h2.1
      have hr12 : r < 12 := by omega
      have HR := Lib.hid (wrongI_yes ht hr12)
      have h2' := Lib.hid h2
      clear ht h2
      go_enter Try.func33, Try.ntmps33
      go_wp2_with fail
      refine (tuneok_yes h HT.out).mono ?_
      rintro e w1 ⟨rfl, hb1⟩
      go_wp2_with fail
      refine (in_yes _ _ _ h2'.out _).mono ?_
      rintro e w2 ⟨rfl, rfl⟩
      go_wp2_with fail
      go_loopw [5, 6] (fun v5 v6 wr => ∃ j : Nat, j ≤ l.length ∧ v6 = .int .i64 j ∧ v5 = .int .i64 ((wrongN (l.take j) (majN r) : Nat) : Int) ∧ Below w.heap.size w wr) (fun _ v6 _ => l.length - (intOf v6).toNat)
      case atStart => exact ⟨0, Nat.zero_le _, rfl, rfl, hb1⟩
      case round =>
        obtain ⟨j, hj, rfl, rfl, hbr⟩ := hrel
        by_cases hlt : j < l.length
        · obtain ⟨p, hp⟩ : ∃ p, l[j]? = some p := ⟨_, List.getElem?_eq_getElem hlt⟩
          have hpr := (HP.out.2 j p hp).2.1
          obtain ⟨b1, o1, c1, hv1, x1, y1⟩ := Rd2.cells (Rd.below h hbr) hp
          simp only [Value.slice.injEq, true_and] at hv1
          obtain ⟨rfl, rfl⟩ := hv1
          have HQ := Lib.hid hp
          clear hp
          have hs : p.2 % 12 = ((stepN p : Nat) : Int) := stepN_cast p
          have hs12 := stepN_lt p
          have hp0 : 0 ≤ p.2 := hpr.1
          have hml := maj_lt r
          have HM := Lib.hid (fun W => majG_gr hr12 W)
          have HBI := bit_model (m := majN r) (k := stepN p) hml
          have HWI := Lib.hid (wrong_in (m := majN r) HQ.out)
          have HWO := Lib.hid (wrong_out (m := majN r) HQ.out)
          have hwl : wrongN (l.take j) (majN r) ≤ j := Nat.le_trans (wrong_le _ _) (by rw [List.length_take]; omega)
          generalize wrongN (l.take j) (majN r) = y at *
          generalize majN r = m at *
          generalize stepN p = s at *
          have x3 := fun n os => cell_grown (World.block_lt_of_cell? _ _ x1) x1 n os
          have x4 := fun n os => cell_grown (World.block_lt_of_cell? _ _ y1) y1 n os
          clear x1 y1 hb1
          cases hbit : m.testBit s with
          | true =>
            rw [hbit] at HBI
            have HX := Lib.hid (HWI.out hbit)
            clear HWI HWO hbit
            simp only [if_true] at HBI
            go_wp2_with fail
            refine wp_region_quiet_grown (by kernel_rfl) (by kernel_rfl) ?_
            repeat (go_big_quiet_step ((first | (go_at_call 27; exact grown_gr (HM.out _)))))
            refine wpQuiet_nil ?_
            intro _ hw'
            obtain ⟨⟨nq, osq⟩, hw''⟩ := hw'
            subst hw''
            have hge : Gr wr (Sort.grow (wr.drewN nq) osq) := ⟨nq, osq, rfl⟩
            have hbe := bstep hbr hge.below
            generalize Sort.grow (wr.drewN nq) osq = W2 at *
            clear x3 x4 hbr
            go_wp2
            go_roundw
            case rel => exact ⟨j + 1, by omega, by go_num, by rw [HX.out], hbe⟩
            case measure => simp [intOf]; omega
          | false =>
            rw [hbit] at HBI
            have HX := Lib.hid (HWO.out hbit)
            clear HWI HWO hbit
            simp only [Bool.false_eq_true, if_false] at HBI
            go_wp2_with fail
            refine wp_region_quiet_grown (by kernel_rfl) (by kernel_rfl) ?_
            repeat (go_big_quiet_step ((first | (go_at_call 27; exact grown_gr (HM.out _)))))
            refine wpQuiet_nil ?_
            intro _ hw'
            obtain ⟨⟨nq, osq⟩, hw''⟩ := hw'
            subst hw''
            have hge : Gr wr (Sort.grow (wr.drewN nq) osq) := ⟨nq, osq, rfl⟩
            have hbe := bstep hbr hge.below
            generalize Sort.grow (wr.drewN nq) osq = W2 at *
            clear x3 x4 hbr
            go_wp2
            go_roundw
            case rel => exact ⟨j + 1, by omega, by go_num, by rw [HX.out]; go_num, hbe⟩
            case measure => simp [intOf]; omega
        · obtain rfl : j = l.length := by omega
          rw [List.take_length] at *
          go_wp2
          go_ret
          exact ⟨by rw [HR.out]; (try rfl), hbr⟩
    · have HR := Lib.hid (wrongI_no (l := l) (r := r) fun k => h2 k.2)
      have h2' := Lib.hid h2
      clear ht h2
      go_enter Try.func33, Try.ntmps33
      go_wp2_with fail
      refine (tuneok_yes h HT.out).mono ?_
      rintro e w1 ⟨rfl, hb1⟩
      go_wp2_with fail
      refine (in_no _ _ _ h2'.out _).mono ?_
      rintro e w2 ⟨rfl, rfl⟩
      go_wp2
      go_ret
      exact ⟨by rw [HR.out]; (try rfl), hb1⟩
  · have HT : Hid (tuneB l = false) := Lib.hid (by simpa using ht)
    have HR := Lib.hid (wrongI_no (l := l) (r := r) fun k => ht k.1)
    clear ht
    go_enter Try.func33, Try.ntmps33
    go_wp2_with fail
    refine (tuneok_no h HT.out).mono ?_
    rintro e w1 ⟨rfl, hb1⟩
    go_wp2
    go_ret
    exact ⟨by rw [HR.out]; (try rfl), hb1⟩
theorem wrongG_is {w : World} {v : Value} {l : List (Int × Int)} {r c : Int} (h : Rd2 w v l) (hc : wrongI l r = c) :
    Calls Try.prog 33 #[v, .int .i64 r] w fun e w' => e = .returned (.int .i64 c) ∧ Below w.heap.size w w' :=
  (wrongG_any r h).mono fun _ _ ⟨he, hw⟩ => ⟨by rw [he, hc], hw⟩

set_option maxHeartbeats 2000000 in
theorem bestG17_any {w : World} {v : Value} {l : List (Int × Int)} (h : Rd2 w v l) :
    Calls Try.prog 34 #[v] w fun e w' => e = .returned (.int .i64 (bestI l)) ∧ Below w.heap.size w w' := by
  obtain ⟨a1, cap1, rfl⟩ := Rd.slice h
  by_cases ht : tuneB l = true
  · have HT := Lib.hid ht
    have HR := Lib.hid (bestI_yes ht)
    clear ht
    go_enter Try.func34, Try.ntmps34
    go_wp2_with fail
    refine (tuneok_yes h HT.out).mono ?_
    rintro e w1 ⟨rfl, hb1⟩
    go_wp2_with fail
    go_loopw [3, 4] (fun v3 v4 wr => ∃ n : Nat, n ≤ 12 ∧ v4 = .int .i64 (n : Int) ∧ v3 = .int .i64 ((bestN l n : Nat) : Int) ∧ Hid (bestN l n < 12) ∧ Below w.heap.size w wr) (fun _ v4 _ => 12 - (intOf v4).toNat)
    case atStart => exact ⟨0, by omega, rfl, rfl, Lib.hid (by simp [bestN]), hb1⟩
    case round =>
      obtain ⟨n, hn, rfl, rfl, HB, hbr⟩ := hrel
      by_cases hlt : n < 12
      · have H1 := Lib.hid (wrongI_yes HT.out hlt)
        have H2 := Lib.hid (wrongI_yes HT.out HB.out)
        have HBN : Hid (bestN l (n + 1) < 12) := Lib.hid (Nat.lt_of_lt_of_le (bestN_lt l n) (by omega))
        have HYE := Lib.hid (bestN_yes (l := l) (n := n))
        have HNO := Lib.hid (bestN_no (l := l) (n := n))
        go_wp2_with fail
        refine (wrongG_is (Rd.below h hbr) H1.out).mono ?_
        rintro e w2 ⟨rfl, hb2⟩
        have hb3 := bstep hbr hb2
        clear hb2
        go_wp2_with fail
        refine (wrongG_is (Rd.below h hb3) H2.out).mono ?_
        rintro e w3 ⟨rfl, hb4⟩
        have hb5 := bstep hb3 hb4
        clear hb4 hb3
        generalize hB2 : bestN l (n + 1) = B2 at *
        replace hB2 := Lib.hid hB2
        generalize bestN l n = B1 at *
        generalize wrongN l (majN n) = x at *
        generalize wrongN l (majN B1) = y at *
        by_cases hxy : x < y
        · have HE := Lib.hid (HYE.out hxy)
          clear HYE HNO
          go_wp2
          go_roundw
          case rel => exact ⟨n + 1, by omega, by go_num, by rw [hB2.out, HE.out], by rw [hB2.out]; exact HBN, hb5⟩
          case measure => simp [intOf]; omega
        · have HE := Lib.hid (HNO.out hxy)
          clear HYE HNO
          go_wp2
          go_roundw
          case rel => exact ⟨n + 1, by omega, by go_num, by rw [hB2.out, HE.out], by rw [hB2.out]; exact HBN, hb5⟩
          case measure => simp [intOf]; omega
      · obtain rfl : n = 12 := by omega
        go_wp2
        go_ret
        exact ⟨by rw [HR.out]; (try rfl), hbr⟩
  · have HT : Hid (tuneB l = false) := Lib.hid (by simpa using ht)
    have HR := Lib.hid (bestI_no HT.out)
    clear ht
    go_enter Try.func34, Try.ntmps34
    go_wp2_with fail
    refine (tuneok_no h HT.out).mono ?_
    rintro e w1 ⟨rfl, hb1⟩
    go_wp2
    go_ret
    exact ⟨by rw [HR.out]; (try rfl), hb1⟩

set_option maxHeartbeats 2000000 in
theorem scG_any {w : World} {v : Value} {l : List (Int × Int)} (h : Rd2 w v l) :
    Calls Try.prog 28 #[v] w (NewInts w (scalesM l)) := by
  obtain ⟨i0, hi0, hz0, hz1, hz2⟩ := info_parts infoInt
  obtain ⟨a1, cap1, rfl⟩ := Rd.slice h
  have hb0 : Below w.heap.size w (w.alloc (.cells #[] 3)) := (Below.refl _ _).alloc (Nat.le_refl _) _
  have ho0 : (w.alloc (.cells #[] 3)).ownsRow w.heap.size 3 1 (.slice (some ⟨w.heap.size, 0, none⟩) 0 0) 0 [] := World.ownsRow_made w #[] 0 (Nat.le_refl _) (by simp) rfl
  have hR0 := Rd.below h hb0
  by_cases ht : tuneB l = true
  · have HT := Lib.hid ht
    have HR := Lib.hid (scalesM_yes ht)
    have HS := Lib.hid (stepsM_yes ht)
    have hul := use_lt l
    clear ht
    go_enter Try.func28, Try.ntmps28
    go_wp2_with fail
    generalize w.alloc (.cells #[] 3) = W at *
    generalize hbs : w.heap.size = bs at *
    refine (useG_is hR0 HS.out).mono ?_
    rintro e w1 ⟨rfl, hb1⟩
    have ho1 := ownS_below ho0 hb1
    have hb2 : Below bs w w1 := by rw [← hbs] at hb0 ⊢; exact bstep hb0 hb1
    clear ho0 hb0 hb1 hR0
    go_wp2_with fail
    go_loopw [3, 5] (fun v3 v5 wr => ∃ n : Nat, n ≤ 12 ∧ v5 = .int .i64 (n : Int) ∧ wr.ownsRow bs 3 1 v3 (scL l n).length ((scL l n).map intV) ∧ Below bs w wr) (fun _ v5 _ => 12 - (intOf v5).toNat)
    case atStart => exact ⟨0, by omega, rfl, ho1, hb2⟩
    case round =>
      obtain ⟨n, hn, rfl, hown, hbr⟩ := hrel
      clear ho1 hb2
      by_cases hlt : n < 12
      · have hlen := scL_len l n
        have hml := maj_lt n
        have HY := Lib.hid (scL_yes (l := l) (n := n))
        have HN := Lib.hid (scL_no (l := l) (n := n))
        have HU := Lib.hid (use_or (l := l) (m := majN n))
        have hor := bits_or2 (a := useN l) (b := majN n) (Nat.lt_trans hul (by decide)) (Nat.lt_trans hml (by decide))
        have HM := Lib.hid (fun W => majG_is hlt W)
        generalize majN n = m at *
        go_wp2_with fail
        refine (HM.out _).mono ?_
        rintro e w1 ⟨rfl, rfl⟩
        go_wp2_with fail
        refine (HM.out _).mono ?_
        rintro e w1 ⟨rfl, rfl⟩
        by_cases hw : useN l ||| m = m
        · have HA := Lib.hid (HY.out (HU.out.1 hw))
          have hz : (((useN l ||| m : Nat) : Int) == (m : Int)) = true := by rw [beq_iff_eq]; omega
          generalize useN l ||| m = M at *
          clear hw HY HN HU
          go_wp2_with (at_builtin; refine wpList_append_own _ rfl _ _ 27 rfl bs 3 i0 (.int .i64 0) 1 8 Try.underlying27 hi0 hz0 hz1 hz2 rfl (by decide) _ (scL l n).length _ rfl (hown.alloc _) ⟨wr.heap.size, 0, none⟩ 1 1 [.int .i64 (n : Int)] rfl rfl ?c1 ?c2 ?c3 ?c4 ?c5 ?_)
          try (case c1 => first | exact World.news_of_block (heap_alloc_new wr _) | exact fun _ _ h => h)
          case c2 => simp [Value.oneCell']
          case c3 => unfold maxLen; omega
          case c4 => omega
          case c5 => have := hbr.size; simp; omega
          intro v' w2 hown2 hgrow _
          have hsz : bs ≤ wr.heap.size := by rw [← hbs]; have := hbr.size; rw [hbs] at this ⊢; exact this
          have hb2 := (hbr.alloc hsz _).grown hgrow (by simp; omega) (fun q hq => (hown.lt q hq).1)
          have hown3 : w2.ownsRow bs 3 1 v' (scL l (n + 1)).length ((scL l (n + 1)).map intV) := by
            rw [HA.out, List.map_append, List.length_append]; exact hown2
          clear hown hown2 hgrow hbr
          go_wp2
          go_roundw
          case rel => exact ⟨n + 1, by omega, by go_num, hown3, hb2⟩
          case measure => simp [intOf]; omega
        · have HA := Lib.hid (HN.out (fun k => hw (HU.out.2 k)))
          have hz : (((useN l ||| m : Nat) : Int) == (m : Int)) = false := by rw [beq_eq_false_iff_ne]; omega
          generalize useN l ||| m = M at *
          clear hw HY HN HU
          have hown3 : wr.ownsRow bs 3 1 u3 (scL l (n + 1)).length ((scL l (n + 1)).map intV) := by
            rw [HA.out]; exact hown
          clear hown
          go_wp2
          go_roundw
          case rel => exact ⟨n + 1, by omega, by go_num, hown3, hbr⟩
          case measure => simp [intOf]; omega
      · obtain rfl : n = 12 := by omega
        go_wp2
        go_ret
        exact ⟨_, rfl, by rw [hbs, HR.out]; exact hown, by rw [hbs]; exact hbr⟩
  · have HT : Hid (tuneB l = false) := Lib.hid (by simpa using ht)
    have HR := Lib.hid (scalesM_no HT.out)
    have HS := Lib.hid (stepsM_no HT.out)
    clear ht
    go_enter Try.func28, Try.ntmps28
    go_wp2_with fail
    generalize w.alloc (.cells #[] 3) = W at *
    refine (useG_is hR0 HS.out).mono ?_
    rintro e w1 ⟨rfl, hb1⟩
    have ho1 := ownS_below ho0 hb1
    have hb2 := bstep hb0 hb1
    clear ho0 hb0 hb1 hR0
    go_wp2_with fail
    go_loopw [3, 5] (fun v3 v5 wr => v3 = .slice (some ⟨w.heap.size, 0, none⟩) 0 0 ∧ v5 = .int .i64 0 ∧ w1 = wr) (fun _ _ _ => 0)
    case atStart => exact ⟨rfl, rfl, rfl⟩
    case round =>
      obtain ⟨rfl, rfl, rfl⟩ := hrel
      go_wp2
      go_ret
      exact ⟨_, rfl, by rw [HR.out]; exact ho1, hb2⟩
end Go.Proofs.Ythggdckldcfakaa
