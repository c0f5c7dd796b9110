/- The contract of chapter 4's model: BestMove. No condition. -/
import Derived.Test.YtkciolegfonabaaMissSpec
import Derived.Test.YtkciolegfonabaaChangeSpec2
namespace Go.Proofs.Ytkciolegfonabaa
open Go.ChangeShapes Go.WideShapes Go.ChangeAt Go.RowKit

/-- The i-th move that is tried: 1, -1, 2, -2 .. -/
def moveAt (i : Nat) : Int := if i % 2 = 0 then ((i / 2 + 1 : Nat) : Int) else -((i / 2 + 1 : Nat) : Int)
noncomputable def missAt (c : List Int) (t : List (Int × Int)) (d : Int) : Nat := (missM c (higherM d t).1).length
noncomputable def bestStep (c : List Int) (t : List (Int × Int)) (s : Int × Nat) (d : Int) : Int × Nat := if (higherM d t).2 = true ∧ missAt c t d < s.2 then (d, missAt c t d) else s
noncomputable def bestTo (c : List Int) (t : List (Int × Int)) : Nat → Int × Nat
  | 0 => (0, (missM c t).length)
  | i + 1 => bestStep c t (bestTo c t i) (moveAt i)
noncomputable def bestM (c : List Int) (t : List (Int × Int)) : Int × Int := if combB c = true ∧ tuneB t = true then ((bestTo c t 24).1, ((bestTo c t 24).2 : Int)) else (0, -1)
theorem bestTo_le (c : List Int) (t : List (Int × Int)) : ∀ i, (bestTo c t i).2 ≤ 61
  | 0 => missM_len c t
  | i + 1 => by
    show (bestStep c t (bestTo c t i) (moveAt i)).2 ≤ 61
    unfold bestStep
    split
    · exact missM_len _ _
    · exact bestTo_le c t i
theorem bestTo_bd (c : List Int) (t : List (Int × Int)) : ∀ i, i ≤ 24 → -12 ≤ (bestTo c t i).1 ∧ (bestTo c t i).1 ≤ 12
  | 0, _ => by show -12 ≤ (0 : Int) ∧ (0 : Int) ≤ 12; omega
  | i + 1, h => by
    have := bestTo_bd c t i (by omega)
    show -12 ≤ (bestStep c t (bestTo c t i) (moveAt i)).1 ∧ (bestStep c t (bestTo c t i) (moveAt i)).1 ≤ 12
    unfold bestStep
    split
    · unfold moveAt; simp only; split <;> omega
    · exact this
theorem bestTo_yes {c : List Int} {t : List (Int × Int)} {i : Nat} {d : Int} {best : Int} {least : Nat} (hd : moveAt i = d) (hs : bestTo c t i = (best, least)) (h1 : (higherM d t).2 = true) (h2 : missAt c t d < least) : bestTo c t (i + 1) = (d, missAt c t d) := by
  show bestStep c t (bestTo c t i) (moveAt i) = _
  rw [hd, hs]; unfold bestStep; rw [if_pos ⟨h1, h2⟩]
theorem bestTo_no {c : List Int} {t : List (Int × Int)} {i : Nat} {d : Int} {best : Int} {least : Nat} (hd : moveAt i = d) (hs : bestTo c t i = (best, least)) (h : ¬ ((higherM d t).2 = true ∧ missAt c t d < least)) : bestTo c t (i + 1) = (best, least) := by
  show bestStep c t (bestTo c t i) (moveAt i) = _
  rw [hd, hs]; unfold bestStep; rw [if_neg h]
theorem move_even (m : Nat) (h : 1 ≤ m) : moveAt (2 * (m - 1)) = (m : Int) := by unfold moveAt; rw [if_pos (by omega)]; omega
theorem move_odd (m : Nat) (h : 1 ≤ m) : moveAt (2 * (m - 1) + 1) = -(m : Int) := by unfold moveAt; rw [if_neg (by omega)]; omega

set_option maxHeartbeats 4000000 in
set_option maxRecDepth 100000 in
theorem best_any {w : World} {vc vt : Value} {c : List Int} {t : List (Int × Int)} (hc : Rd1 w vc c) (ht : Rd2 w vt t) :
    Calls Try.prog 43 #[vc, vt] w fun e w' => e = .returned (.tuple #[.int .i64 (bestM c t).1, .int .i64 (bestM c t).2]) ∧ Below w.heap.size w w' := by
  obtain ⟨a1, cap1, rfl⟩ := Rd.slice hc
  obtain ⟨a2, cap2, rfl⟩ := Rd.slice ht
  by_cases tc : combB c = true
  · have TC := Lib.hid tc
    by_cases tt : tuneB t = true
    · have TT := Lib.hid tt
      have HM := Lib.hid (show bestM c t = ((bestTo c t 24).1, ((bestTo c t 24).2 : Int)) by unfold bestM; rw [if_pos ⟨tc, tt⟩])
      have h40 := (tuneB_true.1 tt).1
      clear tc tt
      go_enter Try.func43, Try.ntmps43
      go_wp2_with fail
      refine (combok_yes hc TC.out).mono ?_
      rintro e w1 ⟨rfl, hb1⟩
      go_wp2_with fail
      refine (tuneok_yes (Rd.below ht hb1) TT.out).mono ?_
      rintro e w2 ⟨rfl, hb2⟩
      have g2 := bstep hb1 hb2
      clear hb1 hb2
      go_wp2_with fail
      refine (missing_any (Rd.below hc g2) (Rd.below ht g2)).mono ?_
      rintro e w3 ⟨v3, rfl, ho3, hb3⟩
      have g3 := bstep g2 hb3
      obtain ⟨a3, cap3, rfl⟩ := ownS_slice ho3
      clear ho3 hb3 g2
      have HZ := Lib.hid (show bestTo c t 0 = (0, (missM c t).length) from rfl)
      generalize (missM c t).length = ln at *
      go_wp2_with fail
      go_loopw [6, 7, 8] (fun v6 v7 v8 wr => ∃ (m : Nat) (best : Int) (least : Nat), 1 ≤ m ∧ m ≤ 13 ∧ v8 = .int .i64 m ∧ v6 = .int .i64 best ∧ v7 = .int .i64 least ∧ Hid (bestTo c t (2 * (m - 1)) = (best, least)) ∧ Below w.heap.size w wr) (fun _ _ v8 _ => 13 - (intOf v8).toNat)
      case atStart => exact ⟨1, 0, ln, by omega, by omega, rfl, rfl, rfl, HZ, g3⟩
      case round =>
        obtain ⟨m, best, least, hm1, hm, rfl, rfl, rfl, HB, hbr⟩ := hrel
        clear g3 HZ
        by_cases hm12 : m ≤ 12
        · have hd12 : decide ((m : Int) ≤ 12) = true := decide_eq_true (by omega)
          have HE := Lib.hid (move_even m hm1)
          have HO := Lib.hid (move_odd m hm1)
          go_wp2_with fail
          go_loopw [6, 7, 9] (fun v6 v7 v9 ws => ∃ (i : Nat) (s : Int) (best : Int) (least : Nat), ((i = 0 ∧ s = 1) ∨ (i = 1 ∧ s = -1) ∨ (i = 2 ∧ s = -3)) ∧ v9 = .int .i64 s ∧ v6 = .int .i64 best ∧ v7 = .int .i64 least ∧ Hid (bestTo c t (2 * (m - 1) + i) = (best, least)) ∧ Below w.heap.size w ws) (fun _ _ v9 _ => (intOf v9 + 3).toNat)
          case atStart => exact ⟨0, 1, best, least, Or.inl ⟨rfl, rfl⟩, rfl, rfl, rfl, HB, hbr⟩
          case round =>
            obtain ⟨i, s, best, least, hi2, rfl, rfl, rfl, HB, hbs⟩ := hrel
            clear hbr
            rcases hi2 with ⟨rfl, rfl⟩ | ⟨rfl, rfl⟩ | ⟨rfl, rfl⟩
            · have HD := Lib.hid (show moveAt (2 * (m - 1) + 0) = (m : Int) from HE.out)
              have HL := Lib.hid (show ∀ x, (missM c (higherM ((m : Int)) t).1).length = x → missAt c t ((m : Int)) = x from fun x h => h)
              have hlen : (higherM ((m : Int)) t).1.length ≤ 1048576 := by unfold higherM; rw [changeM_len]; omega
              go_wp2_with fail
              refine (higher_any ((m : Int)) (Rd.below ht hbs) (by omega)).mono ?_
              rintro e w4 ⟨v4, rfl, ho4, hb4⟩
              have g4 := bstep hbs hb4
              have HR := Lib.hid (Rd.of_own ho4 : Rd2 w4 v4 (higherM ((m : Int)) t).1)
              obtain ⟨a4, cap4, rfl⟩ := ownS_slice ho4
              have HY := Lib.hid (fun h1 h2 => bestTo_yes (c := c) (t := t) HD.out HB.out h1 h2)
              have HN := Lib.hid (fun h => bestTo_no (c := c) (t := t) HD.out HB.out h)
              clear ho4 hb4 hbs
              generalize (higherM ((m : Int)) t).1 = H at *
              generalize (higherM ((m : Int)) t).2 = ok at *
              cases ok with
              | false =>
                have HN2 := Lib.hid (HN.out fun h => by cases h.1)
                clear HY HN HL HR
                go_wp2
                go_roundw
                case rel => exact ⟨1, -1, best, least, Or.inr (Or.inl ⟨rfl, rfl⟩), by go_num, rfl, rfl, HN2, g4⟩
                case measure => simp [intOf]
              | true =>
                go_wp2_with fail
                refine (missing_any (Rd.below hc g4) HR.out).mono ?_
                rintro e w5 ⟨v5, rfl, ho5, hb5⟩
                have g5 := bstep g4 hb5
                have HR5 := Lib.hid (Rd.below HR.out hb5)
                obtain ⟨a5, cap5, rfl⟩ := ownS_slice ho5
                obtain ⟨ln1, hln⟩ : ∃ x, (missM c H).length = x := ⟨_, rfl⟩
                have HL2 := Lib.hid (HL.out ln1 hln)
                have HLN := Lib.hid hln
                rw [hln]
                clear ho5 hb5 g4 HR HL hln
                by_cases hlt : ln1 < least
                · have HY2 := Lib.hid (HY.out (by trivial) (by rw [HL2.out]; exact hlt))
                  go_wp2_with fail
                  refine (missing_any (Rd.below hc g5) HR5.out).mono ?_
                  rintro e w6 ⟨v6, rfl, ho6, hb6⟩
                  have g6 := bstep g5 hb6
                  obtain ⟨a6, cap6, rfl⟩ := ownS_slice ho6
                  rw [HLN.out]
                  clear ho6 hb6 g5 HR5
                  rw [HL2.out] at HY2
                  go_wp2
                  go_roundw
                  case rel => exact ⟨1, -1, (m : Int), ln1, Or.inr (Or.inl ⟨rfl, rfl⟩), by go_num, rfl, rfl, HY2, g6⟩
                  case measure => simp [intOf]
                · have HN2 := Lib.hid (HN.out fun h => hlt (by rw [← HL2.out]; exact h.2))
                  go_wp2
                  go_roundw
                  case rel => exact ⟨1, -1, best, least, Or.inr (Or.inl ⟨rfl, rfl⟩), by go_num, rfl, rfl, HN2, g5⟩
                  case measure => simp [intOf]
            · have HD := Lib.hid HO.out
              have HL := Lib.hid (show ∀ x, (missM c (higherM (-(m : Int)) t).1).length = x → missAt c t (-(m : Int)) = x from fun x h => h)
              have hlen : (higherM (-(m : Int)) t).1.length ≤ 1048576 := by unfold higherM; rw [changeM_len]; omega
              go_wp2_with fail
              refine (higher_any (-(m : Int)) (Rd.below ht hbs) (by omega)).mono ?_
              rintro e w4 ⟨v4, rfl, ho4, hb4⟩
              have g4 := bstep hbs hb4
              have HR := Lib.hid (Rd.of_own ho4 : Rd2 w4 v4 (higherM (-(m : Int)) t).1)
              obtain ⟨a4, cap4, rfl⟩ := ownS_slice ho4
              have HY := Lib.hid (fun h1 h2 => bestTo_yes (c := c) (t := t) HD.out HB.out h1 h2)
              have HN := Lib.hid (fun h => bestTo_no (c := c) (t := t) HD.out HB.out h)
              clear ho4 hb4 hbs
              generalize (higherM (-(m : Int)) t).1 = H at *
              generalize (higherM (-(m : Int)) t).2 = ok at *
              cases ok with
              | false =>
                have HN2 := Lib.hid (HN.out fun h => by cases h.1)
                clear HY HN HL HR
                go_wp2
                go_roundw
                case rel => exact ⟨2, -3, best, least, Or.inr (Or.inr ⟨rfl, rfl⟩), by go_num, rfl, rfl, HN2, g4⟩
                case measure => simp [intOf]
              | true =>
                go_wp2_with fail
                refine (missing_any (Rd.below hc g4) HR.out).mono ?_
                rintro e w5 ⟨v5, rfl, ho5, hb5⟩
                have g5 := bstep g4 hb5
                have HR5 := Lib.hid (Rd.below HR.out hb5)
                obtain ⟨a5, cap5, rfl⟩ := ownS_slice ho5
                obtain ⟨ln1, hln⟩ : ∃ x, (missM c H).length = x := ⟨_, rfl⟩
                have HL2 := Lib.hid (HL.out ln1 hln)
                have HLN := Lib.hid hln
                rw [hln]
                clear ho5 hb5 g4 HR HL hln
                by_cases hlt : ln1 < least
                · have HY2 := Lib.hid (HY.out (by trivial) (by rw [HL2.out]; exact hlt))
                  go_wp2_with fail
                  refine (missing_any (Rd.below hc g5) HR5.out).mono ?_
                  rintro e w6 ⟨v6, rfl, ho6, hb6⟩
                  have g6 := bstep g5 hb6
                  obtain ⟨a6, cap6, rfl⟩ := ownS_slice ho6
                  rw [HLN.out]
                  clear ho6 hb6 g5 HR5
                  rw [HL2.out] at HY2
                  go_wp2
                  go_roundw
                  case rel => exact ⟨2, -3, -(m : Int), ln1, Or.inr (Or.inr ⟨rfl, rfl⟩), by go_num, rfl, rfl, HY2, g6⟩
                  case measure => simp [intOf]
                · have HN2 := Lib.hid (HN.out fun h => hlt (by rw [← HL2.out]; exact h.2))
                  go_wp2
                  go_roundw
                  case rel => exact ⟨2, -3, best, least, Or.inr (Or.inr ⟨rfl, rfl⟩), by go_num, rfl, rfl, HN2, g5⟩
                  case measure => simp [intOf]
            · have HB2 : Hid (bestTo c t (2 * (m + 1 - 1)) = (best, least)) := Lib.hid (by
                have e : 2 * (m + 1 - 1) = 2 * (m - 1) + 2 := by omega
                rw [e]; exact HB.out)
              go_wp2
              go_roundw
              case rel => exact ⟨m + 1, best, least, by omega, by omega, by go_num, rfl, rfl, HB2, hbs⟩
              case measure => simp [intOf]; omega
        · obtain rfl : m = 13 := by omega
          have HB2 := Lib.hid (show bestTo c t 24 = (best, least) from HB.out)
          go_wp2
          go_ret2
          exact ⟨by rw [HM.out, HB2.out]; rfl, hbr⟩
    · have TT := Lib.hid (show tuneB t = false by simpa using tt)
      have HM := Lib.hid (show bestM c t = (0, -1) by unfold bestM; rw [if_neg fun k => tt k.2])
      clear tc tt
      go_enter Try.func43, Try.ntmps43
      go_wp2_with fail
      refine (combok_yes hc TC.out).mono ?_
      rintro e w1 ⟨rfl, hb1⟩
      go_wp2_with fail
      refine (tuneok_no (Rd.below ht hb1) TT.out).mono ?_
      rintro e w2 ⟨rfl, hb2⟩
      have g2 := bstep hb1 hb2
      go_wp2
      go_ret2
      exact ⟨by rw [HM.out]; rfl, g2⟩
  · have TC := Lib.hid (show combB c = false by simpa using tc)
    have HM := Lib.hid (show bestM c t = (0, -1) by unfold bestM; rw [if_neg fun k => tc k.1])
    clear tc
    go_enter Try.func43, Try.ntmps43
    go_wp2_with fail
    refine (combok_no hc TC.out).mono ?_
    rintro e w1 ⟨rfl, hb1⟩
    go_wp2
    go_ret2
    exact ⟨by rw [HM.out]; rfl, hb1⟩
end Go.Proofs.Ytkciolegfonabaa
