/- The contract of the program's BestMove. No condition. -/
import Derived.Test.YtkciolegfonabaaBestSpec
import Derived.Test.YtkciolegfonabaaImplMiss
import Derived.Test.YtkciolegfonabaaImplMoves
namespace Go.Proofs.Ytkciolegfonabaa
open Go.ChangeShapes Go.WideShapes Go.ChangeAt Go.RowKit

set_option maxHeartbeats 4000000 in
set_option maxRecDepth 100000 in
theorem ibest_any {w : World} {vc vt : Value} {c : List Int} {t : List (Int × Int)} (hc : Rd1 w vc c) (ht : Rd2 w vt t) :
    Calls Try.prog 30 #[vc, vt] w fun e w' => e = .returned (.tuple #[.int .i64 (bestM c t).1, .int .i64 (bestM c t).2]) ∧ Below w.heap.size w w' := by
  obtain ⟨a1, cap1, rfl⟩ := Rd.slice hc
  obtain ⟨a2, cap2, rfl⟩ := Rd.slice ht
  by_cases tc : combB c = true
  · have TC := Lib.hid tc
    by_cases tt : tuneB t = true
    · have TT := Lib.hid tt
      have HM := Lib.hid (show bestM c t = ((bestTo c t 24).1, ((bestTo c t 24).2 : Int)) by unfold bestM; rw [if_pos ⟨tc, tt⟩])
      have h40 := (tuneB_true.1 tt).1
      clear tc tt
      go_enter Try.func30, Try.ntmps30
      go_wp2_with fail
      refine (icomb_yes hc TC.out).mono ?_
      rintro e w1 ⟨rfl, hb1⟩
      go_wp2_with fail
      refine (itune_yes (Rd.below ht hb1) TT.out).mono ?_
      rintro e w2 ⟨rfl, hb2⟩
      have g2 := bstep hb1 hb2
      clear hb1 hb2
      go_wp2_with fail
      refine (imiss_any (Rd.below hc g2) (Rd.below ht g2)).mono ?_
      rintro e w3 ⟨v3, rfl, ho3, hb3⟩
      have g3 := bstep g2 hb3
      obtain ⟨a3, cap3, rfl⟩ := ownS_slice ho3
      clear ho3 hb3 g2
      have HZ := Lib.hid (show bestTo c t 0 = (0, (missM c t).length) from rfl)
      generalize (missM c t).length = ln at *
      go_wp2_with fail
      go_loopw [6, 7, 8] (fun v6 v7 v8 wr => ∃ (m : Nat) (best : Int) (least : Nat), 1 ≤ m ∧ m ≤ 13 ∧ v8 = .int .i64 m ∧ v6 = .int .i64 best ∧ v7 = .int .i64 least ∧ Hid (bestTo c t (2 * (m - 1)) = (best, least)) ∧ Below w.heap.size w wr) (fun _ _ v8 _ => 13 - (Go.RowKit.intOf v8).toNat)
      case atStart => exact ⟨1, 0, ln, by omega, by omega, rfl, rfl, rfl, HZ, g3⟩
      case round =>
        obtain ⟨m, best, least, hm1, hm, rfl, rfl, rfl, HB, hbr⟩ := hrel
        clear g3 HZ
        by_cases hm12 : m ≤ 12
        · have hd12 : decide ((m : Int) ≤ 12) = true := decide_eq_true (by omega)
          have HE := Lib.hid (move_even m hm1)
          have HO := Lib.hid (move_odd m hm1)
          have en : IntKind.i64.wrap (-(m : Int)) = -(m : Int) := IntWalk.i64_in _ (by omega)
          go_wp2_with fail
          obtain ⟨c0, c1, hbs, hlt0⟩ : (wr.alloc (.cells #[.int .i64 m, .int .i64 (-(m : Int))] 3)).cell? ⟨wr.heap.size, 0, none⟩ = some (.int .i64 m) ∧ (wr.alloc (.cells #[.int .i64 m, .int .i64 (-(m : Int))] 3)).cell? ⟨wr.heap.size, 1, none⟩ = some (.int .i64 (-(m : Int))) ∧
              Below w.heap.size w (wr.alloc (.cells #[.int .i64 m, .int .i64 (-(m : Int))] 3)) ∧ wr.heap.size < (wr.alloc (.cells #[.int .i64 m, .int .i64 (-(m : Int))] 3)).heap.size :=
            ⟨by simp, by simp, hbr.alloc hbr.size _, by simp⟩
          generalize wr.alloc (.cells #[.int .i64 m, .int .i64 (-(m : Int))] 3) = W1 at *
          clear hbr
          generalize wr.heap.size = B9 at *
          clear wr
          go_loopw [6, 7, 35] (fun v6 v7 v35 ws => ∃ (i : Nat) (best : Int) (least : Nat), (i = 0 ∨ i = 1 ∨ i = 2) ∧ v35 = .int .i64 i ∧ v6 = .int .i64 best ∧ v7 = .int .i64 least ∧ Hid (bestTo c t (2 * (m - 1) + i) = (best, least)) ∧ Below w.heap.size w ws ∧ Below W1.heap.size W1 ws) (fun _ _ v35 _ => 2 - (Go.RowKit.intOf v35).toNat)
          case atStart => exact ⟨0, best, least, Or.inl rfl, rfl, rfl, rfl, HB, hbs, Below.refl _ _⟩
          case round =>
            clear hbs HB
            obtain ⟨i, best, least, hi2, rfl, rfl, rfl, HB, hbs, hks⟩ := hrel
            have d0 := (hks.cell (p := ⟨B9, 0, none⟩) hlt0).trans c0
            have d1 := (hks.cell (p := ⟨B9, 1, none⟩) hlt0).trans c1
            rcases hi2 with rfl | rfl | rfl
            · have HD := Lib.hid (show moveAt (2 * (m - 1) + 0) = (m : Int) from HE.out)
              have HL := Lib.hid (show ∀ x, (missM c (higherM ((m : Int)) t).1).length = x → missAt c t ((m : Int)) = x from fun x h => h)
              have hlen : (higherM ((m : Int)) t).1.length ≤ 1048576 := by unfold higherM; rw [changeM_len]; omega
              go_wp2_with fail
              refine (ihigher_any ((m : Int)) (Rd.below ht hbs) (by omega)).mono ?_
              rintro e w4 ⟨v4, rfl, ho4, hb4⟩
              have g4 := bstep hbs hb4
              have k4 := bstep hks hb4
              have HR := Lib.hid (Rd.of_own ho4 : Rd2 w4 v4 (higherM ((m : Int)) t).1)
              obtain ⟨a4, cap4, rfl⟩ := ownS_slice ho4
              have HY := Lib.hid (fun h1 h2 => bestTo_yes (c := c) (t := t) HD.out HB.out h1 h2)
              have HN := Lib.hid (fun h => bestTo_no (c := c) (t := t) HD.out HB.out h)
              clear ho4 hb4 hbs hks
              generalize (higherM ((m : Int)) t).1 = H at *
              generalize (higherM ((m : Int)) t).2 = ok at *
              go_wp2_with fail
              refine (imiss_any (Rd.below hc g4) HR.out).mono ?_
              rintro e w5 ⟨v5, rfl, ho5, hb5⟩
              have g5 := bstep g4 hb5
              have k5 := bstep k4 hb5
              obtain ⟨a5, cap5, rfl⟩ := ownS_slice ho5
              obtain ⟨ln1, hln⟩ : ∃ x, (missM c H).length = x := ⟨_, rfl⟩
              have HL2 := Lib.hid (HL.out ln1 hln)
              rw [hln]
              clear ho5 hb5 g4 k4 HR HL hln
              cases ok with
              | false =>
                have HN2 := Lib.hid (HN.out fun h => by cases h.1)
                clear HY HN
                go_wp2
                go_roundw
                case rel => exact ⟨0 + 1, best, least, Or.inr (Or.inl rfl), rfl, rfl, rfl, HN2, g5, k5⟩
                case measure => simp [Go.RowKit.intOf]
              | true =>
                by_cases hlt : ln1 < least
                · have HY2 := Lib.hid (HY.out (by trivial) (by rw [HL2.out]; exact hlt))
                  rw [HL2.out] at HY2
                  go_wp2
                  go_roundw
                  case rel => exact ⟨0 + 1, (m : Int), ln1, Or.inr (Or.inl rfl), rfl, rfl, rfl, HY2, g5, k5⟩
                  case measure => simp [Go.RowKit.intOf]
                · have HN2 := Lib.hid (HN.out fun h => hlt (by rw [← HL2.out]; exact h.2))
                  go_wp2
                  go_roundw
                  case rel => exact ⟨0 + 1, best, least, Or.inr (Or.inl rfl), rfl, rfl, rfl, HN2, g5, k5⟩
                  case measure => simp [Go.RowKit.intOf]
            · have HD := Lib.hid (show moveAt (2 * (m - 1) + 1) = -(m : Int) from HO.out)
              have HL := Lib.hid (show ∀ x, (missM c (higherM (-(m : Int)) t).1).length = x → missAt c t (-(m : Int)) = x from fun x h => h)
              have hlen : (higherM (-(m : Int)) t).1.length ≤ 1048576 := by unfold higherM; rw [changeM_len]; omega
              go_wp2_with fail
              refine (ihigher_any (-(m : Int)) (Rd.below ht hbs) (by omega)).mono ?_
              rintro e w4 ⟨v4, rfl, ho4, hb4⟩
              have g4 := bstep hbs hb4
              have k4 := bstep hks hb4
              have HR := Lib.hid (Rd.of_own ho4 : Rd2 w4 v4 (higherM (-(m : Int)) t).1)
              obtain ⟨a4, cap4, rfl⟩ := ownS_slice ho4
              have HY := Lib.hid (fun h1 h2 => bestTo_yes (c := c) (t := t) HD.out HB.out h1 h2)
              have HN := Lib.hid (fun h => bestTo_no (c := c) (t := t) HD.out HB.out h)
              clear ho4 hb4 hbs hks
              generalize (higherM (-(m : Int)) t).1 = H at *
              generalize (higherM (-(m : Int)) t).2 = ok at *
              go_wp2_with fail
              refine (imiss_any (Rd.below hc g4) HR.out).mono ?_
              rintro e w5 ⟨v5, rfl, ho5, hb5⟩
              have g5 := bstep g4 hb5
              have k5 := bstep k4 hb5
              obtain ⟨a5, cap5, rfl⟩ := ownS_slice ho5
              obtain ⟨ln1, hln⟩ : ∃ x, (missM c H).length = x := ⟨_, rfl⟩
              have HL2 := Lib.hid (HL.out ln1 hln)
              rw [hln]
              clear ho5 hb5 g4 k4 HR HL hln
              cases ok with
              | false =>
                have HN2 := Lib.hid (HN.out fun h => by cases h.1)
                clear HY HN
                go_wp2
                go_roundw
                case rel => exact ⟨1 + 1, best, least, Or.inr (Or.inr rfl), rfl, rfl, rfl, HN2, g5, k5⟩
                case measure => simp [Go.RowKit.intOf]
              | true =>
                by_cases hlt : ln1 < least
                · have HY2 := Lib.hid (HY.out (by trivial) (by rw [HL2.out]; exact hlt))
                  rw [HL2.out] at HY2
                  go_wp2
                  go_roundw
                  case rel => exact ⟨1 + 1, -(m : Int), ln1, Or.inr (Or.inr rfl), rfl, rfl, rfl, HY2, g5, k5⟩
                  case measure => simp [Go.RowKit.intOf]
                · have HN2 := Lib.hid (HN.out fun h => hlt (by rw [← HL2.out]; exact h.2))
                  go_wp2
                  go_roundw
                  case rel => exact ⟨1 + 1, best, least, Or.inr (Or.inr rfl), rfl, rfl, rfl, HN2, g5, k5⟩
                  case measure => simp [Go.RowKit.intOf]
            · have HB2 := Lib.hid (show bestTo c t (2 * ((m + 1) - 1)) = (best, least) by rw [show 2 * (m + 1 - 1) = 2 * (m - 1) + 2 by omega]; exact HB.out)
              clear HB d0 d1 c0 c1
              go_wp2
              go_roundw
              case rel => exact ⟨m + 1, best, least, by omega, by omega, by go_num, rfl, rfl, HB2, hbs⟩
              case measure => simp [Go.RowKit.intOf]; omega
        · obtain rfl : m = 13 := by omega
          have HF := Lib.hid (show bestTo c t 24 = (best, least) from HB.out)
          clear HB
          go_wp2
          go_ret2
          exact ⟨by rw [HM.out, HF.out]; rfl, hbr⟩
    · have TT := Lib.hid (show tuneB t = false by simpa using tt)
      have HM := Lib.hid (show bestM c t = (0, -1) by unfold bestM; rw [if_neg fun k => tt k.2])
      clear tc tt
      go_enter Try.func30, Try.ntmps30
      go_wp2_with fail
      refine (icomb_yes hc TC.out).mono ?_
      rintro e w1 ⟨rfl, hb1⟩
      go_wp2_with fail
      refine (itune_no (Rd.below ht hb1) TT.out).mono ?_
      rintro e w2 ⟨rfl, hb2⟩
      have g2 := bstep hb1 hb2
      go_wp2
      go_ret2
      exact ⟨by rw [HM.out]; rfl, g2⟩
  · have TC := Lib.hid (show combB c = false by simpa using tc)
    have HM := Lib.hid (show bestM c t = (0, -1) by unfold bestM; rw [if_neg fun k => tc k.1])
    clear tc
    go_enter Try.func30, Try.ntmps30
    go_wp2_with fail
    refine (icomb_no hc TC.out).mono ?_
    rintro e w1 ⟨rfl, hb1⟩
    go_wp2
    go_ret2
    exact ⟨by rw [HM.out]; rfl, hb1⟩
end Go.Proofs.Ytkciolegfonabaa
