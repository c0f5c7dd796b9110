/- The contracts of chapter 15's model: ToothOk, FileTip, FileRoot, StepsTo, ClosestTone. No condition. Made by gen_filespec.py. -/
import Derived.Test.YtfkjaofepilnkaaDoorFileKit
namespace Go.Proofs.YtfkjaofepilnkaaDoor
open Go.ChangeShapes Go.WideShapes Go.ChangeAt Go.RowKit

theorem toothG_any {w : World} (t p r : Int) :
    Calls Tryd.prog 24 #[.agg #[.int .i64 t, .int .i64 p, .int .i64 r]] w fun e w' => e = .returned (.bool (tooB t p r)) ∧ Below w.heap.size w w' := by
  have hb0 : Below w.heap.size w (w.alloc (.cells #[.int .i64 t, .int .i64 p, .int .i64 r] 25)) := (Below.refl _ _).alloc (Nat.le_refl _) _
  by_cases h1 : 0 ≤ t ∧ t ≤ 6000
  · by_cases h2 : 0 ≤ p ∧ p ≤ 20
    · by_cases h3 : 0 ≤ r ∧ r ≤ 20
      · have HG : Hid (tooB t p r = true) := Lib.hid (tooB_true.2 ⟨h1, h2, h3⟩)
        go_enter Tryd.func24, Tryd.ntmps24
        go_wp2_with fail
        refine (in_yes _ _ _ h1 _).mono ?_
        rintro e w1 ⟨rfl, rfl⟩
        go_wp2_with fail
        refine (in_yes _ _ _ h2 _).mono ?_
        rintro e w1 ⟨rfl, rfl⟩
        go_wp2_with fail
        refine (in_yes _ _ _ h3 _).mono ?_
        rintro e w1 ⟨rfl, rfl⟩
        go_wp2
        go_ret
        exact ⟨by rw [HG.out]; rfl, hb0⟩
      · have HG : Hid (tooB t p r = false) := Lib.hid (tooB_false.2 fun k => h3 k.2.2)
        go_enter Tryd.func24, Tryd.ntmps24
        go_wp2_with fail
        refine (in_yes _ _ _ h1 _).mono ?_
        rintro e w1 ⟨rfl, rfl⟩
        go_wp2_with fail
        refine (in_yes _ _ _ h2 _).mono ?_
        rintro e w1 ⟨rfl, rfl⟩
        go_wp2_with fail
        refine (in_no _ _ _ h3 _).mono ?_
        rintro e w1 ⟨rfl, rfl⟩
        go_wp2
        go_ret
        exact ⟨by rw [HG.out]; rfl, hb0⟩
    · have HG : Hid (tooB t p r = false) := Lib.hid (tooB_false.2 fun k => h2 k.2.1)
      go_enter Tryd.func24, Tryd.ntmps24
      go_wp2_with fail
      refine (in_yes _ _ _ h1 _).mono ?_
      rintro e w1 ⟨rfl, rfl⟩
      go_wp2_with fail
      refine (in_no _ _ _ h2 _).mono ?_
      rintro e w1 ⟨rfl, rfl⟩
      go_wp2
      go_ret
      exact ⟨by rw [HG.out]; rfl, hb0⟩
  · have HG : Hid (tooB t p r = false) := Lib.hid (tooB_false.2 fun k => h1 k.1)
    go_enter Tryd.func24, Tryd.ntmps24
    go_wp2_with fail
    refine (in_no _ _ _ h1 _).mono ?_
    rintro e w1 ⟨rfl, rfl⟩
    go_wp2
    go_ret
    exact ⟨by rw [HG.out]; rfl, hb0⟩

set_option maxHeartbeats 4000000 in
theorem stG_any {w : World} (t p r n : Int) :
    Calls Tryd.prog 13 #[.agg #[.int .i64 t, .int .i64 p, .int .i64 r], .int .i64 n] w (StAns w (stM t p r n)) := by
  have hb0 : Below w.heap.size w (w.alloc (.cells #[.int .i64 t, .int .i64 p, .int .i64 r] 25)) := (Below.refl _ _).alloc (Nat.le_refl _) _
  have hX := b3_new w t p r 25
  by_cases hs : tooB t p r = true
  · have HG := Lib.hid hs
    have hp := tooB_true.1 hs
    clear hs
    by_cases hn : 0 ≤ n ∧ n ≤ 6000
    · have HY := Lib.hid (fun a b q => stM_is (t := t) (p := p) (r := r) (n := n) (a := a) (b := b) hp hn q)
      have HZ := Lib.hid (fun q => stM_none (t := t) (p := p) (r := r) (n := n) q)
      have HN := Lib.hid hn
      obtain ⟨⟨ht0, ht1⟩, ⟨hp0, hp1⟩, hr0, hr1⟩ := hp
      generalize stM t p r n = R at *
      clear hn
      go_enter Tryd.func13, Tryd.ntmps13
      go_wp2_with fail
      generalize (w.alloc (.cells #[.int .i64 t, .int .i64 p, .int .i64 r] 25)) = W at *
      obtain ⟨bx, hbx⟩ : ∃ b, b = w.heap.size := ⟨_, rfl⟩
      rw [← hbx] at hX
      simp only [← hbx]
      clear hbx
      refine (toothG_any t p r).mono ?_
      rintro e w1 ⟨rfl, hb1⟩
      rw [HG.out]
      replace hX := hX.below hb1
      replace hb0 := bstep hb0 hb1
      clear hb1
      go_wp2_with fail
      refine (in_yes _ _ _ HN.out _).mono ?_
      rintro e w2 ⟨rfl, rfl⟩
      go_wp2_with fail
      have epr : IntKind.i64.wrap (p + r) = p + r := IntWalk.i64_in _ (by omega)
      go_loopw [7] (fun v7 wr => ∃ N : Int, 0 ≤ N ∧ N ≤ p + r + 1 ∧ v7 = .int .i64 N ∧ Hid (∀ x y, ReachP t p r n x y → N ≤ x + y) ∧ B3 wr bx t p r ∧ Below w.heap.size w wr) (fun v7 _ => (p + r + 1 - intOf v7).toNat)
      case atStart => exact ⟨0, by omega, by omega, rfl, Lib.hid (fun x y q => by have := q.1.1; have := q.2.1.1; omega), hX, hb0⟩
      case round =>
        obtain ⟨N, hN0, hN1, rfl, HI, hB, hbr⟩ := hrel
        clear hX hb0
        obtain ⟨-, ⟨x0, x1, x2⟩, -⟩ := id hB
        by_cases hlt : N ≤ p + r
        · have ewN : IntKind.i64.wrap (N + 1) = N + 1 := IntWalk.i64_in _ (by omega)
          go_wp2_with fail
          clear x0 x1 x2
          go_loopw [8] (fun v8 wx => ∃ A : Int, 0 ≤ A ∧ A ≤ N + 1 ∧ v8 = .int .i64 A ∧ Hid (∀ x y, ReachP t p r n x y → N < x + y ∨ (x + y = N ∧ A ≤ x)) ∧ B3 wx bx t p r ∧ Below w.heap.size w wx) (fun v8 _ => (N + 1 - intOf v8).toNat)
          case atStart => exact ⟨0, by omega, by omega, rfl, Lib.hid (fun x y q => by have := HI.out x y q; have := q.1.1; omega), hB, hbr⟩
          case round =>
            obtain ⟨A, hA0, hA1, rfl, HJ, hBx, hbx⟩ := hrel
            clear hB hbr
            obtain ⟨-, ⟨x0, x1, x2⟩, -⟩ := id hBx
            by_cases hla : A ≤ N
            · have ewA : IntKind.i64.wrap (A + 1) = A + 1 := IntWalk.i64_in _ (by omega)
              have e1 : IntKind.i64.wrap (N - A) = N - A := IntWalk.i64_in _ (by omega)
              by_cases c1 : A ≤ p
              · by_cases c2 : N - A ≤ r
                · have e2 : IntKind.i64.wrap (7 * A) = 7 * A := IntWalk.i64_in _ (by omega)
                  have e3 : IntKind.i64.wrap (t + 7 * A) = t + 7 * A := IntWalk.i64_in _ (by omega)
                  have e4 : IntKind.i64.wrap (11 * (N - A)) = 11 * (N - A) := IntWalk.i64_in _ (by omega)
                  have e5 : IntKind.i64.wrap (t + 7 * A - 11 * (N - A)) = t + 7 * A - 11 * (N - A) := IntWalk.i64_in _ (by omega)
                  by_cases c3 : t + 7 * A - 11 * (N - A) = n
                  · have HR := Lib.hid (HY.out A (N - A) ⟨⟨⟨hA0, c1⟩, ⟨by omega, c2⟩, c3⟩, fun x y q => by have := HJ.out x y q; omega⟩)
                    have hq : (t + 7 * A - 11 * (N - A) == n) = true := by rw [beq_iff_eq]; exact c3
                    clear c3
                    go_wp2
                    go_ret3
                    exact ⟨by rw [HR.out]; rfl, hbx⟩
                  · have HK : Hid (∀ x y, ReachP t p r n x y → N < x + y ∨ (x + y = N ∧ A + 1 ≤ x)) := Lib.hid (fun x y q => by
                      have h6 := HJ.out x y q
                      have h7 := q.2.2
                      by_cases hx : x = A ∧ y = N - A
                      · obtain ⟨rfl, rfl⟩ := hx; exact absurd h7 c3
                      · omega)
                    have hq : (t + 7 * A - 11 * (N - A) == n) = false := by rw [beq_eq_false_iff_ne]; exact c3
                    clear c3
                    go_wp2
                    go_roundw
                    case rel => exact ⟨A + 1, by omega, by omega, by go_num, HK, hBx, hbx⟩
                    case measure => simp [intOf]; omega
                · have HK : Hid (∀ x y, ReachP t p r n x y → N < x + y ∨ (x + y = N ∧ A + 1 ≤ x)) := Lib.hid (fun x y q => by have := HJ.out x y q; have := q.2.1.2; omega)
                  go_wp2
                  go_roundw
                  case rel => exact ⟨A + 1, by omega, by omega, by go_num, HK, hBx, hbx⟩
                  case measure => simp [intOf]; omega
              · have HK : Hid (∀ x y, ReachP t p r n x y → N < x + y ∨ (x + y = N ∧ A + 1 ≤ x)) := Lib.hid (fun x y q => by have := HJ.out x y q; have := q.1.2; omega)
                go_wp2
                go_roundw
                case rel => exact ⟨A + 1, by omega, by omega, by go_num, HK, hBx, hbx⟩
                case measure => simp [intOf]; omega
            · have HK : Hid (∀ x y, ReachP t p r n x y → N + 1 ≤ x + y) := Lib.hid (fun x y q => by have := HJ.out x y q; have := q.2.1.1; omega)
              go_wp2
              go_roundw
              case rel => exact ⟨N + 1, by omega, by omega, by go_num, HK, hBx, hbx⟩
              case measure => simp [intOf]; omega
        · have HR := Lib.hid (HZ.out fun a b q => by have := HI.out a b q; have := q.1.2; have := q.2.1.2; omega)
          go_wp2
          go_ret3
          exact ⟨by rw [HR.out]; rfl, hbr⟩
    · have HR := Lib.hid (stM_no (t := t) (p := p) (r := r) (n := n) fun q => hn q.2)
      clear hp
      go_enter Tryd.func13, Tryd.ntmps13
      go_wp2_with fail
      refine (toothG_any t p r).mono ?_
      rintro e w1 ⟨rfl, hb1⟩
      rw [HG.out]
      have g1 := bstep hb0 hb1
      clear hX hb0 hb1
      go_wp2_with fail
      refine (in_no _ _ _ hn _).mono ?_
      rintro e w2 ⟨rfl, rfl⟩
      go_wp2
      go_ret3
      exact ⟨by rw [HR.out]; rfl, g1⟩
  · have HG : Hid (tooB t p r = false) := Lib.hid (by simpa using hs)
    have HR := Lib.hid (stM_no (t := t) (p := p) (r := r) (n := n) fun q => tooB_false.1 HG.out q.1)
    clear hs
    go_enter Tryd.func13, Tryd.ntmps13
    go_wp2_with fail
    refine (toothG_any t p r).mono ?_
    rintro e w1 ⟨rfl, hb1⟩
    rw [HG.out]
    have g1 := bstep hb0 hb1
    clear hX hb0 hb1
    go_wp2
    go_ret3
    exact ⟨by rw [HR.out]; rfl, g1⟩

end Go.Proofs.YtfkjaofepilnkaaDoor
