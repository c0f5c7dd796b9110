/- The contract of chapter 9's model: MostTunes. No condition. -/
import Derived.Test.YtdmjfdigaiokfaaExtraSpec
namespace Go.Proofs.Ytdmjfdigaiokfaa
open Go.ChangeShapes Go.WideShapes Go.ChangeAt Go.RowKit

open Classical in
noncomputable def mostStep (r : Int) (ll : List (List (Int × Int))) (teeth : Int) (st : List Int × Int) (S : Nat) : List Int × Int :=
  if teeth < allS r ll S ∨ (bitsTo S 8).length < st.1.length then st
  else if st.1.length < (bitsTo S 8).length ∨ allS r ll S < st.2 ∨ (allS r ll S = st.2 ∧ rowLess (bitsTo S 8) st.1 = true) then (bitsTo S 8, allS r ll S) else st
theorem mostStep_skip {r : Int} {ll : List (List (Int × Int))} {teeth : Int} {st : List Int × Int} {S : Nat} (h : teeth < allS r ll S ∨ (bitsTo S 8).length < st.1.length) : mostStep r ll teeth st S = st := if_pos h
theorem mostStep_take {r : Int} {ll : List (List (Int × Int))} {teeth : Int} {st : List Int × Int} {S : Nat} (h : ¬ (teeth < allS r ll S ∨ (bitsTo S 8).length < st.1.length)) (h2 : st.1.length < (bitsTo S 8).length ∨ allS r ll S < st.2 ∨ (allS r ll S = st.2 ∧ rowLess (bitsTo S 8) st.1 = true)) : mostStep r ll teeth st S = (bitsTo S 8, allS r ll S) := by
  unfold mostStep; rw [if_neg h, if_pos h2]
theorem mostStep_keep {r : Int} {ll : List (List (Int × Int))} {teeth : Int} {st : List Int × Int} {S : Nat} (h : ¬ (teeth < allS r ll S ∨ (bitsTo S 8).length < st.1.length)) (h2 : ¬ (st.1.length < (bitsTo S 8).length ∨ allS r ll S < st.2 ∨ (allS r ll S = st.2 ∧ rowLess (bitsTo S 8) st.1 = true))) : mostStep r ll teeth st S = st := by
  unfold mostStep; rw [if_neg h, if_neg h2]
/-- The best of the sets from 1 to k. -/
noncomputable def mostTo (r : Int) (ll : List (List (Int × Int))) (teeth : Int) : Nat → List Int × Int
  | 0 => ([], 0)
  | k + 1 => mostStep r ll teeth (mostTo r ll teeth k) (k + 1)
theorem mostTo_succ (r : Int) (ll : List (List (Int × Int))) (teeth : Int) (k : Nat) : mostTo r ll teeth (k + 1) = mostStep r ll teeth (mostTo r ll teeth k) (k + 1) := rfl
open Classical in
noncomputable def mostM (r : Int) (ll : List (List (Int × Int))) (teeth : Int) : List Int × Bool :=
  if progB ll r = true ∧ (0 ≤ teeth ∧ teeth ≤ 100) then ((mostTo r ll teeth (2 ^ ll.length - 1)).1, true) else ([], false)
theorem mostM_yes {r : Int} {ll : List (List (Int × Int))} {teeth : Int} (h : progB ll r = true) (h2 : 0 ≤ teeth ∧ teeth ≤ 100) : mostM r ll teeth = ((mostTo r ll teeth (2 ^ ll.length - 1)).1, true) := if_pos ⟨h, h2⟩
theorem mostM_no {r : Int} {ll : List (List (Int × Int))} {teeth : Int} (h : ¬ (progB ll r = true ∧ (0 ≤ teeth ∧ teeth ≤ 100))) : mostM r ll teeth = ([], false) := if_neg h
theorem shl_all : ∀ n : Fin 9, wrap64 (2 ^ n.1) = ((2 ^ n.1 : Nat) : Int) ∧ IntKind.i64.wrap (2 ^ n.1) = ((2 ^ n.1 : Nat) : Int) ∧ 2 ^ n.1 ≤ 256 ∧ 1 ≤ 2 ^ n.1 := by decide +kernel
theorem shl_len {n M : Nat} (h : n ≤ 8) (hM : 2 ^ n = M) : wrap64 (2 ^ n) = (M : Int) ∧ IntKind.i64.wrap (2 ^ n) = (M : Int) ∧ M ≤ 256 ∧ 1 ≤ M := by
  subst hM; exact shl_all ⟨n, by omega⟩

set_option maxHeartbeats 1000000 in
set_option maxRecDepth 100000 in
theorem most_any {w : World} {v : Value} {us : List Value} {ll : List (List (Int × Int))} (r teeth : Int) (h : RdN w v us ll) :
    Calls Try.prog 29 #[v, .int .i64 r, .int .i64 teeth] w (NewIntsB w (mostM r ll teeth).1 (mostM r ll teeth).2) := by
  obtain ⟨i0, hi, hz0, hz1, hz2⟩ := info_parts infoInt
  obtain ⟨a1, cap1, rfl⟩ := h.slice
  have hm := h.len
  unfold maxLen at hm
  by_cases hok : progB ll r = true
  · by_cases hte : 0 ≤ teeth ∧ teeth ≤ 100
    · have HM := Lib.hid (mostM_yes hok hte)
      have HOK := Lib.hid hok
      have hl8 := (progB_true.1 hok).2.1
      obtain ⟨M, hM⟩ : ∃ M, 2 ^ ll.length = M := ⟨_, rfl⟩
      obtain ⟨ew1, ew2, hM1, hM2⟩ := shl_len hl8 hM
      rw [hM] at HM
      clear hok
      go_enter Try.func29, Try.ntmps29
      go_wp2_with fail
      refine (l09ok_any r h).mono ?_
      rintro e w1 ⟨rfl, hb1⟩
      rw [HOK.out]
      go_wp2_with fail
      refine (in_yes _ _ _ hte _).mono ?_
      rintro e w2 ⟨rfl, rfl⟩
      clear hte hM
      have hown0 : (w1.alloc (.cells #[] 3)).ownsRow w.heap.size 3 1 (.slice (some ⟨w1.heap.size, 0, none⟩) 0 0) 0 [] := World.ownsRow_made w1 #[] 0 hb1.size (by simp) rfl
      have hb0 : Below w.heap.size w (w1.alloc (.cells #[] 3)) := hb1.alloc hb1.size _
      go_wp2_with fail
      go_loopw [8, 9, 10] (fun v8 v9 v10 wr => ∃ (k : Nat) (b : List Int) (n0 : Int), k + 1 ≤ M ∧ v10 = .int .i64 ((k + 1 : Nat) : Int) ∧ v9 = .int .i64 n0 ∧ wr.ownsRow w.heap.size 3 1 v8 b.length (b.map intV) ∧ Below w.heap.size w wr ∧ Hid (mostTo r ll teeth k = (b, n0)) ∧ b.length ≤ 8) (fun _ _ v10 _ => M - (intOf v10).toNat)
      case atStart => exact ⟨0, [], 0, hM2, rfl, rfl, hown0, hb0, Lib.hid rfl, by simp⟩
      case round =>
        obtain ⟨k, b, n0, hk, rfl, rfl, hown, hbr, HT, hb8⟩ := hrel
        clear hown0 hb0 hb1
        obtain ⟨ab, cb, rfl⟩ := ownS_slice hown
        by_cases hlt : k + 1 < M
        · have hS : k + 1 < 256 := by omega
          have hd : decide (((k + 1 : Nat) : Int) < (M : Int)) = true := decide_eq_true (by omega)
          have hns := allS_nonneg (S := k + 1) HOK.out
          have HST := Lib.hid ((mostTo_succ r ll teeth k).trans (by rw [HT.out]))
          go_wp2_with fail
          refine (l09needs_any r (k + 1) hS HOK.out (h.below hbr)).mono ?_
          rintro e w2 ⟨v2, rfl, ho2, hb2⟩
          have hown2 := ownS_below hown hb2
          have g2 := bstep hbr hb2
          clear hown hbr hb2
          go_wp2_with fail
          refine (l09sum_any (Rd.of_own ho2) (by rw [needSL_len]; omega) (needSL_le HOK.out)).mono ?_
          rintro e w3 ⟨rfl, rfl⟩
          clear ho2
          rw [show (needSL r ll (k + 1) ll.length).sum = allS r ll (k + 1) from rfl]
          go_wp2_with fail
          refine (l09bits_any (k + 1) hS).mono ?_
          rintro e w4 ⟨v4, rfl, ho4, hb4⟩
          have hown4 := ownS_below hown2 hb4
          have ho4' := ownS_mono ho4 g2.size
          have g4 := bstep g2 hb4
          clear hown2 g2 hb4 ho4
          obtain ⟨al, cl, rfl⟩ := ownS_slice ho4'
          have hl8' : (bitsTo (k + 1) 8).length ≤ 8 := bitsTo_len _ _
          have HSK := Lib.hid (fun hh => mostStep_skip (r := r) (ll := ll) (teeth := teeth) (st := (b, n0)) (S := k + 1) hh)
          have HTK := Lib.hid (fun hh => mostStep_take (r := r) (ll := ll) (teeth := teeth) (st := (b, n0)) (S := k + 1) hh)
          have HKP := Lib.hid (fun hh => mostStep_keep (r := r) (ll := ll) (teeth := teeth) (st := (b, n0)) (S := k + 1) hh)
          generalize bitsTo (k + 1) 8 = l at *
          generalize allS r ll (k + 1) = n at *
          by_cases c1 : teeth < n
          · have HN := Lib.hid (HST.out.trans (HSK.out (Or.inl c1)))
            go_wp2
            go_roundw
            case rel => exact ⟨k + 1, b, n0, by omega, by go_num, rfl, hown4, g4, HN, hb8⟩
            case measure => simp [intOf]; omega
          · by_cases c2 : l.length < b.length
            · have HN := Lib.hid (HST.out.trans (HSK.out (Or.inr c2)))
              go_wp2
              go_roundw
              case rel => exact ⟨k + 1, b, n0, by omega, by go_num, rfl, hown4, g4, HN, hb8⟩
              case measure => simp [intOf]; omega
            · have hno : ¬ (teeth < n ∨ l.length < b.length) := fun k => k.elim c1 c2
              by_cases c3 : b.length < l.length
              · have HN := Lib.hid (HST.out.trans (HTK.out hno (Or.inl c3)))
                go_wp2
                go_roundw
                case rel => exact ⟨k + 1, l, n, by omega, by go_num, rfl, ho4', g4, HN, hl8'⟩
                case measure => simp [intOf]; omega
              · by_cases c4 : n < n0
                · have HN := Lib.hid (HST.out.trans (HTK.out hno (Or.inr (Or.inl c4))))
                  go_wp2
                  go_roundw
                  case rel => exact ⟨k + 1, l, n, by omega, by go_num, rfl, ho4', g4, HN, hl8'⟩
                  case measure => simp [intOf]; omega
                · by_cases c5 : n = n0
                  · subst c5
                    have hlen : l.length = b.length := by omega
                    by_cases c6 : rowLess l b = true
                    · have HN := Lib.hid (HST.out.trans (HTK.out hno (Or.inr (Or.inr ⟨rfl, c6⟩))))
                      have hra : Hid (Rd1 w4 (.slice al b.length cl) l) := Lib.hid (by rw [← hlen]; exact Rd.of_own ho4')
                      have hrb := Lib.hid (Rd.of_own hown4 : Rd1 w4 _ b)
                      go_wp2_with fail
                      refine (l09less_any hlen hra.out hrb.out).mono ?_
                      rintro e w5 ⟨rfl, hb5⟩
                      rw [c6]
                      have hown5 := ownS_below hown4 hb5
                      have ho5 : Hid (w5.ownsRow w.heap.size 3 1 (.slice al b.length cl) l.length (l.map intV)) := Lib.hid (by have := ownS_below ho4' hb5; rw [← hlen]; exact this)
                      have g5 := bstep g4 hb5
                      clear hown4 ho4' g4 hb5
                      go_wp2
                      go_roundw
                      case rel => exact ⟨k + 1, l, n, by omega, by go_num, rfl, ho5.out, g5, HN, hl8'⟩
                      case measure => simp [intOf]; omega
                    · have c7 : rowLess l b = false := by simpa using c6
                      have HN := Lib.hid (HST.out.trans (HKP.out hno fun hh => hh.elim (fun x => c3 x) fun hh => hh.elim (fun x => c4 x) fun x => c6 x.2))
                      have hra : Hid (Rd1 w4 (.slice al b.length cl) l) := Lib.hid (by rw [← hlen]; exact Rd.of_own ho4')
                      have hrb := Lib.hid (Rd.of_own hown4 : Rd1 w4 _ b)
                      go_wp2_with fail
                      refine (l09less_any hlen hra.out hrb.out).mono ?_
                      rintro e w5 ⟨rfl, hb5⟩
                      rw [c7]
                      have hown5 := ownS_below hown4 hb5
                      have g5 := bstep g4 hb5
                      clear hown4 ho4' g4 hb5
                      go_wp2
                      go_roundw
                      case rel => exact ⟨k + 1, b, n, by omega, by go_num, rfl, hown5, g5, HN, hb8⟩
                      case measure => simp [intOf]; omega
                  · have HN := Lib.hid (HST.out.trans (HKP.out hno fun hh => hh.elim (fun x => c3 x) fun hh => hh.elim (fun x => c4 x) fun x => c5 x.1))
                    have c8 : (n == n0) = false := by simpa using c5
                    go_wp2
                    go_roundw
                    case rel => exact ⟨k + 1, b, n0, by omega, by go_num, rfl, hown4, g4, HN, hb8⟩
                    case measure => simp [intOf]; omega
        · obtain rfl : M = k + 1 := by omega
          have HF := Lib.hid (show mostM r ll teeth = (b, true) by rw [HM.out, Nat.add_sub_cancel, HT.out])
          have hd : decide (((k + 1 : Nat) : Int) < ((k + 1 : Nat) : Int)) = false := decide_eq_false (by omega)
          go_wp2
          go_ret2
          rw [HF.out]
          exact ⟨_, rfl, hown, hbr⟩
    · have HM := Lib.hid (mostM_no (r := r) (ll := ll) (teeth := teeth) fun k => hte k.2)
      have HOK := Lib.hid hok
      clear hok
      go_enter Try.func29, Try.ntmps29
      go_wp2_with fail
      refine (l09ok_any r h).mono ?_
      rintro e w1 ⟨rfl, hb1⟩
      rw [HOK.out]
      go_wp2_with fail
      refine (in_no _ _ _ hte _).mono ?_
      rintro e w2 ⟨rfl, rfl⟩
      have hown0 : (w1.alloc (.cells #[] 3)).ownsRow w.heap.size 3 1 (.slice (some ⟨w1.heap.size, 0, none⟩) 0 0) 0 [] := World.ownsRow_made w1 #[] 0 hb1.size (by simp) rfl
      have hb0 : Below w.heap.size w (w1.alloc (.cells #[] 3)) := hb1.alloc hb1.size _
      go_wp2
      go_ret2
      rw [HM.out]
      exact ⟨_, rfl, hown0, hb0⟩
  · have HM := Lib.hid (mostM_no (r := r) (ll := ll) (teeth := teeth) fun k => hok k.1)
    have HOK := Lib.hid (show progB ll r = false by simpa using hok)
    clear hok
    go_enter Try.func29, Try.ntmps29
    go_wp2_with fail
    refine (l09ok_any r h).mono ?_
    rintro e w1 ⟨rfl, hb1⟩
    rw [HOK.out]
    have hown0 : (w1.alloc (.cells #[] 3)).ownsRow w.heap.size 3 1 (.slice (some ⟨w1.heap.size, 0, none⟩) 0 0) 0 [] := World.ownsRow_made w1 #[] 0 hb1.size (by simp) rfl
    have hb0 : Below w.heap.size w (w1.alloc (.cells #[] 3)) := hb1.alloc hb1.size _
    go_wp2
    go_ret2
    rw [HM.out]
    exact ⟨_, rfl, hown0, hb0⟩
end Go.Proofs.Ytdmjfdigaiokfaa
