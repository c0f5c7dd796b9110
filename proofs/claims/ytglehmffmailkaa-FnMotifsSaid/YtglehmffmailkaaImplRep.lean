/- The contracts of the program's LongestRepeat and CountMotifs. No condition. Made by gen_implmotif.py. -/
import Derived.Test.YtglehmffmailkaaMotifRep
import Derived.Test.YtglehmffmailkaaMotifSpec2
namespace Go.Proofs.Ytglehmffmailkaa
open Go.ChangeShapes Go.WideShapes Go.ChangeAt Go.RowKit

theorem longB_step {l : List (Int × Int)} {best i k c : Nat} (hik : i < k) (hr : RepC l i k c)
    (hB : (∀ i' k' n, i' < k' → k' < k → k' + n ≤ l.length → samT l i' k' n = true → n ≤ best) ∧ ∀ i' n, i' < i → k + n ≤ l.length → samT l i' k n = true → n ≤ best) :
    (∀ i' k' n, i' < k' → k' < k → k' + n ≤ l.length → samT l i' k' n = true → n ≤ max best c) ∧ ∀ i' n, i' < i + 1 → k + n ≤ l.length → samT l i' k n = true → n ≤ max best c := by
  refine ⟨fun i' k' n h1 h2 h3 h4 => Nat.le_trans (hB.1 i' k' n h1 h2 h3 h4) (Nat.le_max_left _ _), fun i' n h1 h2 h3 => ?_⟩
  by_cases hi : i' < i
  · exact Nat.le_trans (hB.2 i' n hi h2 h3) (Nat.le_max_left _ _)
  · obtain rfl : i' = i := by omega
    exact Nat.le_trans ((hr.2 n h2).1 h3) (Nat.le_max_right _ _)

set_option maxHeartbeats 2000000 in
set_option maxRecDepth 100000 in
theorem ilong_any {w : World} {v : Value} {l : List (Int × Int)} (h : Rd2 w v l) :
    Calls Try.prog 13 #[v] w fun e w' => e = .returned (.int .i64 (longI l)) ∧ Below w.heap.size w w' := by
  obtain ⟨a1, cap1, rfl⟩ := Rd.slice h
  by_cases ht : tuneB l = true
  · have HT := Lib.hid ht
    have h40 := (tuneB_true.1 ht).1
    have HR := Lib.hid (longI_yes ht)
    clear ht
    go_enter Try.func13, Try.ntmps13
    go_wp2_with fail
    refine (itune_yes h HT.out).mono ?_
    rintro e w1 ⟨rfl, hb1⟩
    go_wp2_with fail
    go_loopw [3, 11] (fun v3 v11 wr => ∃ k best : Nat, k ≤ l.length ∧ best ≤ l.length ∧ v11 = .int .i64 (k : Int) ∧ v3 = .int .i64 (best : Int) ∧ Hid (best = 0 ∨ RepP l best) ∧ Hid (∀ i' k' n, i' < k' → k' < k → k' + n ≤ l.length → samT l i' k' n = true → n ≤ best) ∧ Below w.heap.size w wr) (fun _ v11 _ => l.length - (intOf v11).toNat)
    case atStart => exact ⟨0, 0, Nat.zero_le _, Nat.zero_le _, rfl, rfl, Lib.hid (Or.inl rfl), Lib.hid (fun i' k' n h1 h2 => by omega), hb1⟩
    case round =>
      obtain ⟨k, best, hk, hbl, rfl, rfl, HA, HB, hbr⟩ := hrel
      by_cases hlt : k < l.length
      · have hdk : decide ((k : Int) < (l.length : Int)) = true := decide_eq_true (by omega)
        have hdk2 : decide (k < l.length) = true := decide_eq_true hlt
        go_wp2_with fail
        go_loopw [3, 15] (fun v3 v15 wx => ∃ i best : Nat, i ≤ k ∧ best ≤ l.length ∧ v15 = .int .i64 (i : Int) ∧ v3 = .int .i64 (best : Int) ∧ Hid (best = 0 ∨ RepP l best) ∧ Hid ((∀ i' k' n, i' < k' → k' < k → k' + n ≤ l.length → samT l i' k' n = true → n ≤ best) ∧ ∀ i' n, i' < i → k + n ≤ l.length → samT l i' k n = true → n ≤ best) ∧ Below w.heap.size w wx) (fun _ v15 _ => k - (intOf v15).toNat)
        case atStart => exact ⟨0, best, Nat.zero_le _, hbl, rfl, rfl, HA, Lib.hid ⟨HB.out, fun i' n h1 => by omega⟩, hbr⟩
        case round =>
          obtain ⟨i, best, hi, hbl, rfl, rfl, HA, HB, hbx⟩ := hrel
          clear hbr
          by_cases hik : i < k
          · have hdi : decide ((i : Int) < (k : Int)) = true := decide_eq_true (by omega)
            have hdi2 : decide (i < k) = true := decide_eq_true hik
            go_wp2_with fail
            refine (repnotes_any (Rd.below h hbx) HT.out (Nat.le_of_lt hik) hlt).mono ?_
            rintro e w2 ⟨c, rfl, hc, hb2⟩
            have g2 := bstep hbx hb2
            clear hbx hb2
            have hcl : k + c ≤ l.length := hc.1
            have HSR := Lib.hid (long_step HA.out hik hcl ((hc.2 c hcl).2 (Nat.le_refl _)))
            have HBR := Lib.hid (longB_step hik hc HB.out)
            have hmx : max best c ≤ l.length := by omega
            have emx : max (best : Int) (c : Int) = ((max best c : Nat) : Int) := by omega
            clear hc
            by_cases hbn : best ≤ c
            · have e1 : max best c = c := by omega
              rw [e1] at HSR HBR hmx emx
              have hbn' : (best : Int) ≤ (c : Int) := by omega
              go_wp2
              go_roundw
              case rel => exact ⟨i + 1, c, by omega, hmx, by go_num, by first | rfl | (rw [emx]; done) | (congr 1; omega), HSR, HBR, g2⟩
              case measure => simp [intOf]; omega
            · have e1 : max best c = best := by omega
              rw [e1] at HSR HBR hmx emx
              have hbn' : ¬ (best : Int) ≤ (c : Int) := by omega
              have hbn2 : (c : Int) ≤ (best : Int) := by omega
              go_wp2
              go_roundw
              case rel => exact ⟨i + 1, best, by omega, hmx, by go_num, by first | rfl | (rw [emx]; done) | (congr 1; omega), HSR, HBR, g2⟩
              case measure => simp [intOf]; omega
          · obtain rfl : i = k := by omega
            have HBI : Hid (∀ i' k' n, i' < k' → k' < i + 1 → k' + n ≤ l.length → samT l i' k' n = true → n ≤ best) := Lib.hid (fun i' k' n h1 h2 h3 h4 => by
              by_cases hk' : k' < i
              · exact HB.out.1 i' k' n h1 hk' h3 h4
              · obtain rfl : k' = i := by omega
                exact HB.out.2 i' n h1 h3 h4)
            go_wp2
            go_roundw
            case rel => exact ⟨i + 1, best, by omega, hbl, by go_num, rfl, HA, HBI, hbx⟩
            case measure => simp [intOf]; omega
      · obtain rfl : k = l.length := by omega
        have HE := Lib.hid (longN_eq hbl HA.out fun n h1 h2 ⟨i, k, h3, h4, h5⟩ => by
          by_cases hn0 : n = 0
          · omega
          · have := HB.out i k n h3 (by omega) h4 h5; omega)
        go_wp2
        go_ret
        exact ⟨by rw [HR.out, HE.out]; (try rfl), hbr⟩
  · have HT : Hid (tuneB l = false) := Lib.hid (by simpa using ht)
    have HR := Lib.hid (longI_no HT.out)
    clear ht
    go_enter Try.func13, Try.ntmps13
    go_wp2_with fail
    refine (itune_no h HT.out).mono ?_
    rintro e w1 ⟨rfl, hb1⟩
    go_wp2
    go_ret
    exact ⟨by rw [HR.out]; (try rfl), hb1⟩

set_option maxHeartbeats 2000000 in
set_option maxRecDepth 100000 in
theorem icount_any {w : World} {v : Value} {l : List (Int × Int)} (n : Int) (h : Rd2 w v l) :
    Calls Try.prog 14 #[v, .int .i64 n] w fun e w' => e = .returned (.int .i64 (countI l n)) ∧ Below w.heap.size w w' := by
  obtain ⟨a1, cap1, rfl⟩ := Rd.slice h
  by_cases ht : tuneB l = true
  · have HT := Lib.hid ht
    have h40 := (tuneB_true.1 ht).1
    by_cases h2 : 1 ≤ n ∧ n ≤ 40
    · obtain ⟨n, rfl⟩ := Int.eq_ofNat_of_zero_le (show 0 ≤ n by omega)
      have hn1 : 1 ≤ n := by omega
      have hn40 : n ≤ 40 := by omega
      have HR := Lib.hid (countI_yes ht ⟨hn1, hn40⟩)
      have hd1 : decide ((n : Int) < 1) = false := decide_eq_false (by omega)
      have hd2 : decide ((40 : Int) < (n : Int)) = false := decide_eq_false (by omega)
      clear ht h2
      go_enter Try.func14, Try.ntmps14
      go_wp2
      go_step3
      go_wp2_with fail
      refine (itune_yes h HT.out).mono ?_
      rintro e w1 ⟨rfl, hb1⟩
      go_wp2
      go_step3
      go_wp2
      go_loopw [5, 6] (fun v5 v6 wr => ∃ k : Nat, k ≤ l.length + 1 ∧ v6 = .int .i64 (k : Int) ∧ v5 = .int .i64 ((cntN l n k : Nat) : Int) ∧ Hid (k ≤ l.length + 1 - n) ∧ Below w.heap.size w wr) (fun _ v6 _ => l.length + 1 - (intOf v6).toNat)
      case atStart => exact ⟨0, Nat.zero_le _, rfl, rfl, Lib.hid (Nat.zero_le _), hb1⟩
      case round =>
        obtain ⟨k, hk, rfl, rfl, HK, hbr⟩ := hrel
        have hcl := cntN_le l n k
        have wkn : IntKind.i64.wrap ((k : Int) + (n : Int)) = (k : Int) + (n : Int) := IntWalk.i64_in _ (by omega)
        by_cases hlt : k + n ≤ l.length
        · have hlz : (k : Int) + (n : Int) ≤ (l.length : Int) := by omega
          have hdz : decide ((k : Int) + (n : Int) ≤ (l.length : Int)) = true := decide_eq_true hlz
          have HY := Lib.hid (cntN_yes (t := l) (n := n) (c := k))
          have HN := Lib.hid (cntN_no (t := l) (n := n) (c := k))
          generalize cntN l n k = y at *
          go_wp2
          go_loopw [28] (fun v28 wx => ∃ i : Nat, i ≤ k ∧ v28 = .int .i64 (i : Int) ∧ Hid (∀ i', i' < i → samT l i' k n = false) ∧ Below w.heap.size w wx) (fun v28 _ => k - (intOf v28).toNat)
          case atStart => exact ⟨0, Nat.zero_le _, rfl, Lib.hid fun i' hi => by omega, hbr⟩
          case round =>
            obtain ⟨i, hi, rfl, HF, hbx⟩ := hrel
            clear hbr
            by_cases hik : i < k
            · have hdi : decide ((i : Int) < (k : Int)) = true := decide_eq_true (by omega)
              have hdi2 : decide (i < k) = true := decide_eq_true hik
              go_wp2_with fail
              refine (repnotes_any (Rd.below h hbx) HT.out (Nat.le_of_lt hik) (by omega)).mono ?_
              rintro e w2 ⟨c, rfl, hc, hb2⟩
              have g2 := bstep hbx hb2
              clear hbx hb2
              have hcl2 : k + c ≤ l.length := hc.1
              have HC := Lib.hid (hc.2 n hlt)
              clear hc
              by_cases hcn : n ≤ c
              · have HFB := Lib.hid (HN.out (fresh_false.2 ⟨i, hik, HC.out.2 hcn⟩))
                have hdc : decide ((n : Int) ≤ (c : Int)) = true := decide_eq_true (by omega)
                have hdc2 : decide (n ≤ c) = true := decide_eq_true hcn
                go_wp2
                go_roundw
                case rel => exact ⟨k + 1, by omega, by go_num, by rw [HFB.out], Lib.hid (by omega), g2⟩
                case measure => simp [intOf]; omega
              · have HF2 : Hid (∀ i', i' < i + 1 → samT l i' k n = false) := Lib.hid fun i' hi' => by
                  by_cases hii : i' < i
                  · exact HF.out i' hii
                  · obtain rfl : i' = i := by omega
                    cases hs : samT l i' k n with
                    | false => rfl
                    | true => exact absurd (HC.out.1 hs) hcn
                have hdc : decide ((n : Int) ≤ (c : Int)) = false := decide_eq_false (by omega)
                have hdc2 : decide (n ≤ c) = false := decide_eq_false hcn
                go_wp2
                go_roundw
                case rel => exact ⟨i + 1, by omega, by go_num, HF2, g2⟩
                case measure => simp [intOf]; omega
            · obtain rfl : i = k := by omega
              have HFB := Lib.hid (HY.out (fresh_true.2 HF.out))
              go_wp2
              go_roundw
              case rel => exact ⟨i + 1, by omega, by go_num, by rw [HFB.out]; go_num, Lib.hid (by omega), hbx⟩
              case measure => simp [intOf]; omega
        · have hlz : ¬ (k : Int) + (n : Int) ≤ (l.length : Int) := by omega
          have hdz : decide ((k : Int) + (n : Int) ≤ (l.length : Int)) = false := decide_eq_false hlz
          have hKe : k = l.length + 1 - n := by have := HK.out; omega
          have HE := Lib.hid (HR.out.trans (by rw [← hKe]))
          clear hKe
          go_wp2
          go_ret
          exact ⟨by rw [HE.out]; (try rfl), hbr⟩
    · have HR := Lib.hid (countI_no (t := l) (n := n) fun k => h2 k.2)
      by_cases h1 : n < 1
      all_goals
        by_cases h3 : 40 < n
        all_goals first | (exfalso; omega) | skip
      all_goals
        go_enter Try.func14, Try.ntmps14
        go_wp2
        go_step3
        go_wp2_with fail
        refine (itune_yes h HT.out).mono ?_
        rintro e w1 ⟨rfl, hb1⟩
        go_wp2
        dsimp only [Exit.noGoto]
        go_ret
        exact ⟨by rw [HR.out]; (try rfl), hb1⟩
  · have HT : Hid (tuneB l = false) := Lib.hid (by simpa using ht)
    have HR := Lib.hid (countI_no (t := l) (n := n) fun k => ht k.1)
    clear ht
    go_enter Try.func14, Try.ntmps14
    go_wp2
    go_step3
    go_wp2_with fail
    refine (itune_no h HT.out).mono ?_
    rintro e w1 ⟨rfl, hb1⟩
    go_wp2
    dsimp only [Exit.noGoto]
    go_ret
    exact ⟨by rw [HR.out]; (try rfl), hb1⟩
end Go.Proofs.Ytglehmffmailkaa
