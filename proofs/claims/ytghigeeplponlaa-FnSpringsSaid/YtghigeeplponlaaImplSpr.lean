/- The contracts of the program's chapter 12: SpringOk, ForceNow, changeTurns, canChange, Wind, Unwind, TurnsWith, WorkIn. No condition. Made by gen_implspr.py. -/
import Derived.Test.YtghigeeplponlaaSprSpec
namespace Go.Proofs.Ytghigeeplponlaa
open Go.ChangeShapes Go.WideShapes Go.ChangeAt Go.RowKit

theorem springI_any {w : World} (t m f : Int) :
    Calls Try.prog 17 #[.agg #[.int .i64 t, .int .i64 m, .int .i64 f]] w fun e w' => e = .returned (.bool (sprB t m f)) ∧ Below w.heap.size w w' := by
  have hb0 : Below w.heap.size w (w.alloc (.cells #[.int .i64 t, .int .i64 m, .int .i64 f] 25)) := (Below.refl _ _).alloc (Nat.le_refl _) _
  by_cases h0 : 1 ≤ m
  case neg =>
    have HG : Hid (sprB t m f = false) := Lib.hid (by refine sprB_false.2 fun q => ?_; unfold SprP at q; omega)
    go_enter Try.func17, Try.ntmps17
    go_wp2
    go_ret
    exact ⟨by rw [HG.out]; rfl, hb0⟩
  case pos =>
    by_cases h1 : m ≤ 50
    case neg =>
      have HG : Hid (sprB t m f = false) := Lib.hid (by refine sprB_false.2 fun q => ?_; unfold SprP at q; omega)
      go_enter Try.func17, Try.ntmps17
      go_wp2
      go_ret
      exact ⟨by rw [HG.out]; rfl, hb0⟩
    case pos =>
      by_cases h2 : 0 ≤ t
      case neg =>
        have HG : Hid (sprB t m f = false) := Lib.hid (by refine sprB_false.2 fun q => ?_; unfold SprP at q; omega)
        go_enter Try.func17, Try.ntmps17
        go_wp2
        go_ret
        exact ⟨by rw [HG.out]; rfl, hb0⟩
      case pos =>
        by_cases h3 : t ≤ m
        case neg =>
          have HG : Hid (sprB t m f = false) := Lib.hid (by refine sprB_false.2 fun q => ?_; unfold SprP at q; omega)
          go_enter Try.func17, Try.ntmps17
          go_wp2
          go_ret
          exact ⟨by rw [HG.out]; rfl, hb0⟩
        case pos =>
          by_cases h4 : 1 ≤ f
          case neg =>
            have HG : Hid (sprB t m f = false) := Lib.hid (by refine sprB_false.2 fun q => ?_; unfold SprP at q; omega)
            go_enter Try.func17, Try.ntmps17
            go_wp2
            go_ret
            exact ⟨by rw [HG.out]; rfl, hb0⟩
          case pos =>
            by_cases h5 : f ≤ 10000
            case neg =>
              have HG : Hid (sprB t m f = false) := Lib.hid (by refine sprB_false.2 fun q => ?_; unfold SprP at q; omega)
              go_enter Try.func17, Try.ntmps17
              go_wp2
              go_ret
              exact ⟨by rw [HG.out]; rfl, hb0⟩
            case pos =>
              have HG : Hid (sprB t m f = true) := Lib.hid (by exact sprB_true.2 ⟨⟨by omega, by omega⟩, ⟨by omega, by omega⟩, by omega, by omega⟩)
              go_enter Try.func17, Try.ntmps17
              go_wp2
              go_ret
              exact ⟨by rw [HG.out]; rfl, hb0⟩

theorem forceI_any {w : World} (t m f : Int) :
    Calls Try.prog 15 #[.agg #[.int .i64 t, .int .i64 m, .int .i64 f]] w fun e w' => e = .returned (.int .i64 (frcM t m f)) ∧ Below w.heap.size w w' := by
  have hb0 : Below w.heap.size w (w.alloc (.cells #[.int .i64 t, .int .i64 m, .int .i64 f] 25)) := (Below.refl _ _).alloc (Nat.le_refl _) _
  have hX := b3_new w t m f 25
  by_cases hs : sprB t m f = true
  · have HG := Lib.hid hs
    have hp := sprB_true.1 hs
    obtain ⟨hp0, hp1, hq0, -, hq1⟩ := frc_bounds hp
    have HR : Hid (frcM t m f = frcQ t m f) := Lib.hid (frcM_yes hs)
    unfold frcQ at hq0 hq1 HR
    have hm1 := hp.1.1
    have hmz : (m == 0) = false := by rw [beq_eq_false_iff_ne]; omega
    have hmn : ¬ m = 0 := by omega
    obtain ⟨P, hP⟩ : ∃ P, f * t = P := ⟨_, rfl⟩
    rw [hP] at hp0 hp1 hq0 hq1 HR
    obtain ⟨ew1, ew2⟩ := wrap_as hP hp0 (by omega)
    clear hP hs hp
    have htd : P.tdiv m = P / m := Int.tdiv_eq_ediv_of_nonneg hp0
    have ewd : IntKind.i64.wrap (P / m) = P / m := IntWalk.i64_in _ (by omega)
    go_enter Try.func15, Try.ntmps15
    go_wp2_with fail
    generalize w.alloc (.cells #[.int .i64 t, .int .i64 m, .int .i64 f] 25) = W at *
    refine (springI_any t m f).mono ?_
    rintro e w1 ⟨rfl, hb1⟩
    rw [HG.out]
    obtain ⟨-, ⟨x0, x1, x2⟩, -⟩ := hX.below hb1
    have g1 := bstep hb0 hb1
    clear hX hb0 hb1
    go_wp2
    go_ret
    exact ⟨by rw [HR.out]; rfl, g1⟩
  · have HG : Hid (sprB t m f = false) := Lib.hid (by simpa using hs)
    have HR : Hid (frcM t m f = -1) := Lib.hid (frcM_no HG.out)
    clear hs
    go_enter Try.func15, Try.ntmps15
    go_wp2_with fail
    refine (springI_any t m f).mono ?_
    rintro e w1 ⟨rfl, hb1⟩
    rw [HG.out]
    have g1 := bstep hb0 hb1
    go_wp2
    go_ret
    exact ⟨by rw [HR.out]; rfl, g1⟩

def clampS (n l h : Int) : Int := if h < l then l else if n < l then l else if h < n then h else n
theorem clampS_any (n l h : Int) (w : World) :
    Calls Try.prog 33 #[.int .i64 n, .int .i64 l, .int .i64 h] w fun e w' => e = .returned (.int .i64 (clampS n l h)) ∧ w = w' := by
  by_cases h1 : h < n <;> by_cases h2 : l < n <;> by_cases h3 : l < h
  all_goals
    go_enter Try.func33, Try.ntmps33
    go_wp2
    go_ret
    refine ⟨?_, rfl⟩
    unfold clampS
    first | (rw [if_pos (by omega)]; done) | (rw [if_pos (by omega)]; rfl) | (simp; omega) | (go_goals; fail)
/-- A spring wound by n turns, or unwound where n is negative: its turns afterwards. -/
def chgM (t m n : Int) : Int := if t + n < 0 then 0 else if m < t + n then m else t + n
theorem chgM_is {t m n : Int} (h : 0 ≤ m) : clampS (t + n) 0 m = chgM t m n := by unfold clampS chgM; rw [if_neg (by omega)]
theorem chgM_in {t m n : Int} (h : 0 ≤ m) : 0 ≤ chgM t m n ∧ chgM t m n ≤ m := by unfold chgM; split <;> (try split) <;> omega

theorem chg_any {w : World} {b : Nat} {t m f : Int} (n : Int) (hB : B3 w b t m f) (ht : 0 ≤ t ∧ t ≤ m) (hm : m ≤ 50) (hn : -100 ≤ n ∧ n ≤ 100) :
    Calls Try.prog 30 #[.pointer (some ⟨b, 0, none⟩), .int .i64 n] w fun e w' => e = .returned (.int .i64 (chgM t m n - t)) ∧ w.setCell ⟨b, 0, none⟩ (.int .i64 (chgM t m n)) = w' := by
  obtain ⟨-, ⟨x0, x1, x2⟩, xf⟩ := id hB
  have xf0 := xf 0
  have hc := chgM_in (t := t) (n := n) (show 0 ≤ m by omega)
  have HC := Lib.hid (chgM_is (t := t) (n := n) (show 0 ≤ m by omega))
  generalize chgM t m n = u at *
  have hU := b3_turn hB u
  obtain ⟨-, ⟨y0, -, -⟩, -⟩ := hU
  go_enter Try.func30, Try.ntmps30
  go_wp2_with fail
  refine (clampS_any (t + n) 0 m w).mono ?_
  rintro e w1 ⟨rfl, rfl⟩
  rw [HC.out]
  go_wp2
  go_ret
  exact ⟨rfl, rfl⟩

theorem can_any {w : World} (t m f n : Int) :
    Calls Try.prog 29 #[.agg #[.int .i64 t, .int .i64 m, .int .i64 f], .int .i64 n] w fun e w' => e = .returned (.bool (sprB t m f && decide (0 ≤ n ∧ n ≤ 100))) ∧ Below w.heap.size w w' := by
  have hb0 : Below w.heap.size w (w.alloc (.cells #[.int .i64 t, .int .i64 m, .int .i64 f] 25)) := (Below.refl _ _).alloc (Nat.le_refl _) _
  by_cases hs : sprB t m f = true
  · by_cases h0 : 0 ≤ n
    · by_cases h1 : n ≤ 100
      · have HV : Hid ((sprB t m f && decide (0 ≤ n ∧ n ≤ 100)) = true) := Lib.hid (by rw [hs, decide_eq_true ⟨h0, h1⟩]; rfl)
        have HG := Lib.hid hs
        generalize (sprB t m f && decide (0 ≤ n ∧ n ≤ 100)) = V at *
        clear hs
        go_enter Try.func29, Try.ntmps29
        go_wp2_with fail
        refine (springI_any t m f).mono ?_
        rintro e w1 ⟨rfl, hb1⟩
        rw [HG.out]
        have g1 := bstep hb0 hb1
        clear hb0 hb1
        go_wp2
        go_ret
        exact ⟨by rw [HV.out]; rfl, g1⟩
      · have h1d : decide (n ≤ 100) = false := decide_eq_false h1
        have HV : Hid ((sprB t m f && decide (0 ≤ n ∧ n ≤ 100)) = false) := Lib.hid (by rw [hs, decide_eq_false fun q => h1 q.2]; rfl)
        have HG := Lib.hid hs
        generalize (sprB t m f && decide (0 ≤ n ∧ n ≤ 100)) = V at *
        clear hs
        go_enter Try.func29, Try.ntmps29
        go_wp2_with fail
        refine (springI_any t m f).mono ?_
        rintro e w1 ⟨rfl, hb1⟩
        rw [HG.out]
        have g1 := bstep hb0 hb1
        clear hb0 hb1
        go_wp2
        go_ret
        exact ⟨by rw [HV.out]; rfl, g1⟩
    · have HV : Hid ((sprB t m f && decide (0 ≤ n ∧ n ≤ 100)) = false) := Lib.hid (by rw [hs, decide_eq_false fun q => h0 q.1]; rfl)
      have HG := Lib.hid hs
      generalize (sprB t m f && decide (0 ≤ n ∧ n ≤ 100)) = V at *
      clear hs
      go_enter Try.func29, Try.ntmps29
      go_wp2_with fail
      refine (springI_any t m f).mono ?_
      rintro e w1 ⟨rfl, hb1⟩
      rw [HG.out]
      have g1 := bstep hb0 hb1
      clear hb0 hb1
      go_wp2
      go_ret
      exact ⟨by rw [HV.out]; rfl, g1⟩
  · have HG : Hid (sprB t m f = false) := Lib.hid (by simpa using hs)
    clear hs
    go_enter Try.func29, Try.ntmps29
    go_wp2_with fail
    refine (springI_any t m f).mono ?_
    rintro e w1 ⟨rfl, hb1⟩
    rw [HG.out]
    have g1 := bstep hb0 hb1
    clear hb0 hb1
    go_wp2
    go_ret
    exact ⟨by rw [HG.out]; rfl, g1⟩

set_option maxHeartbeats 2000000 in
theorem windI_any {w : World} (t m f n : Int) :
    Calls Try.prog 13 #[.agg #[.int .i64 t, .int .i64 m, .int .i64 f], .int .i64 n] w (SprAns w (windM t m f n).1 m f (windM t m f n).2) := by
  by_cases hk : sprB t m f = true ∧ (0 ≤ n ∧ n ≤ 100)
  · obtain ⟨hs, hn⟩ := hk
    obtain ⟨⟨hm0, hm1⟩, ⟨ht0, ht1⟩, hf0, hf1⟩ := sprB_true.1 hs
    have HK : Hid ((sprB t m f && decide (0 ≤ n ∧ n ≤ 100)) = true) := Lib.hid (by rw [hs, decide_eq_true hn]; rfl)
    have HR : Hid (windM t m f n = (chgM t m n, chgM t m n - t)) := Lib.hid (by
      rw [windM_yes hs hn]
      unfold chgM
      refine Prod.ext ?_ ?_
      · show t + min n (m - t) = _
        split <;> (try split) <;> omega
      · show min n (m - t) = _
        split <;> (try split) <;> omega)
    obtain ⟨hn0, hn1⟩ := hn
    have hu := chgM_in (t := t) (n := n) (show 0 ≤ m by omega)
    clear hs
    obtain ⟨hX, hZ, hb0⟩ := b3_two w t m f 25
    go_enter Try.func13, Try.ntmps13
    go_wp2_with fail
    generalize (w.alloc (.cells #[.int .i64 t, .int .i64 m, .int .i64 f] 25)).alloc (.cells #[.int .i64 0, .int .i64 0, .int .i64 0] 25) = W at *
    obtain ⟨bx, hbx⟩ : ∃ b, b = w.heap.size := ⟨_, rfl⟩
    rw [← hbx] at hX hZ
    simp only [← hbx]
    have hle : w.heap.size ≤ bx + 1 := by omega
    have hle0 : w.heap.size ≤ bx := by omega
    clear hbx
    refine (can_any t m f n).mono ?_
    rintro e w1 ⟨rfl, hb1⟩
    rw [HK.out]
    replace hX := hX.below hb1
    replace hZ := hZ.below hb1
    replace hb0 := bstep hb0 hb1
    clear hb1
    go_wp2_with fail
    refine (chg_any n hX ⟨ht0, ht1⟩ hm1 ⟨by omega, by omega⟩).mono ?_
    rintro e w2 ⟨rfl, hw2⟩
    generalize chgM t m n = u at *
    have hX2 := b3_turn hX u
    have hZ2 := b3_far hZ (show bx ≠ bx + 1 by omega) 0 (.int .i64 u)
    have hb2 := hb0.setCell hle0 (p := ⟨bx, 0, none⟩) (.int .i64 u)
    rw [hw2] at hX2 hZ2 hb2
    clear hX hZ hb0 hw2
    obtain ⟨-, ⟨x0, x1, x2⟩, -⟩ := id hX2
    obtain ⟨-, ⟨y0, y1, y2⟩, yf⟩ := id hZ2
    have yf0 := yf 0
    have yf1 := yf 1
    have yf2 := yf 2
    obtain ⟨⟨-, ⟨z0, z1, z2⟩, -⟩, q1, q2⟩ := b3_all hZ2 u m f
    have hb5 := wrS_below hb2 hle u m f
    unfold wrS at z0 z1 z2 hb5
    clear hX2 hZ2 hb2
    obtain ⟨K, hK⟩ : ∃ K, u - t = K := ⟨_, rfl⟩
    have HR2 : Hid (windM t m f n = (u, K)) := Lib.hid (by rw [HR.out, hK])
    rw [hK]
    go_wp2
    exact bodyPost_ret (v := .tuple #[.agg #[.int .i64 u, .int .i64 m, .int .i64 f], .int .i64 K]) (by simp [results, Try.results13, go_sem, z0, z1, z2]) rfl ⟨by rw [HR2.out], hb5⟩
  · have HK : Hid ((sprB t m f && decide (0 ≤ n ∧ n ≤ 100)) = false) := Lib.hid (by
      rw [Bool.and_eq_false_iff]
      by_cases hs : sprB t m f = true
      · exact Or.inr (decide_eq_false fun q => hk ⟨hs, q⟩)
      · exact Or.inl (by simpa using hs))
    have HR := Lib.hid (windM_no (t := t) (m := m) (f := f) (n := n) hk)
    clear hk
    obtain ⟨hX, hZ, hb0⟩ := b3_two w t m f 25
    go_enter Try.func13, Try.ntmps13
    go_wp2_with fail
    generalize (w.alloc (.cells #[.int .i64 t, .int .i64 m, .int .i64 f] 25)).alloc (.cells #[.int .i64 0, .int .i64 0, .int .i64 0] 25) = W at *
    obtain ⟨bx, hbx⟩ : ∃ b, b = w.heap.size := ⟨_, rfl⟩
    rw [← hbx] at hX hZ
    simp only [← hbx]
    have hle : w.heap.size ≤ bx + 1 := by omega
    have hle0 : w.heap.size ≤ bx := by omega
    clear hbx
    refine (can_any t m f n).mono ?_
    rintro e w1 ⟨rfl, hb1⟩
    rw [HK.out]
    replace hX := hX.below hb1
    replace hZ := hZ.below hb1
    replace hb0 := bstep hb0 hb1
    clear hb1
    obtain ⟨-, ⟨x0, x1, x2⟩, -⟩ := id hX
    obtain ⟨-, ⟨y0, y1, y2⟩, yf⟩ := id hZ
    have yf0 := yf 0
    have yf1 := yf 1
    have yf2 := yf 2
    obtain ⟨⟨-, ⟨z0, z1, z2⟩, -⟩, q1, q2⟩ := b3_all hZ t m f
    have hb5 := wrS_below hb0 hle t m f
    unfold wrS at z0 z1 z2 hb5
    clear hX hZ hb0
    go_wp2
    exact bodyPost_ret (v := .tuple #[.agg #[.int .i64 t, .int .i64 m, .int .i64 f], .int .i64 (-1)]) (by simp [results, Try.results13, go_sem, z0, z1, z2]) rfl ⟨by rw [HR.out], hb5⟩

set_option maxHeartbeats 2000000 in
theorem unwI_any {w : World} (t m f n : Int) :
    Calls Try.prog 14 #[.agg #[.int .i64 t, .int .i64 m, .int .i64 f], .int .i64 n] w (SprAns w (unwM t m f n).1 m f (unwM t m f n).2) := by
  by_cases hk : sprB t m f = true ∧ (0 ≤ n ∧ n ≤ 100)
  · obtain ⟨hs, hn⟩ := hk
    obtain ⟨⟨hm0, hm1⟩, ⟨ht0, ht1⟩, hf0, hf1⟩ := sprB_true.1 hs
    have HK : Hid ((sprB t m f && decide (0 ≤ n ∧ n ≤ 100)) = true) := Lib.hid (by rw [hs, decide_eq_true hn]; rfl)
    have HR : Hid (unwM t m f n = (chgM t m (-n), -(chgM t m (-n) - t))) := Lib.hid (by
      rw [unwM_yes hs hn]
      unfold chgM
      refine Prod.ext ?_ ?_
      · show t - min n t = _
        split <;> (try split) <;> omega
      · show min n t = _
        split <;> (try split) <;> omega)
    obtain ⟨hn0, hn1⟩ := hn
    have hu := chgM_in (t := t) (n := (-n)) (show 0 ≤ m by omega)
    clear hs
    obtain ⟨hX, hZ, hb0⟩ := b3_two w t m f 25
    go_enter Try.func14, Try.ntmps14
    go_wp2_with fail
    generalize (w.alloc (.cells #[.int .i64 t, .int .i64 m, .int .i64 f] 25)).alloc (.cells #[.int .i64 0, .int .i64 0, .int .i64 0] 25) = W at *
    obtain ⟨bx, hbx⟩ : ∃ b, b = w.heap.size := ⟨_, rfl⟩
    rw [← hbx] at hX hZ
    simp only [← hbx]
    have hle : w.heap.size ≤ bx + 1 := by omega
    have hle0 : w.heap.size ≤ bx := by omega
    clear hbx
    refine (can_any t m f n).mono ?_
    rintro e w1 ⟨rfl, hb1⟩
    rw [HK.out]
    replace hX := hX.below hb1
    replace hZ := hZ.below hb1
    replace hb0 := bstep hb0 hb1
    clear hb1
    have en1 : IntKind.i64.wrap (-n) = -n := IntWalk.i64_in _ (by omega)
    have en2 : wrap64 (-n) = -n := by unfold wrap64; omega
    go_wp2_with fail
    refine (chg_any (-n) hX ⟨ht0, ht1⟩ hm1 ⟨by omega, by omega⟩).mono ?_
    rintro e w2 ⟨rfl, hw2⟩
    generalize chgM t m (-n) = u at *
    have hX2 := b3_turn hX u
    have hZ2 := b3_far hZ (show bx ≠ bx + 1 by omega) 0 (.int .i64 u)
    have hb2 := hb0.setCell hle0 (p := ⟨bx, 0, none⟩) (.int .i64 u)
    rw [hw2] at hX2 hZ2 hb2
    clear hX hZ hb0 hw2
    obtain ⟨-, ⟨x0, x1, x2⟩, -⟩ := id hX2
    obtain ⟨-, ⟨y0, y1, y2⟩, yf⟩ := id hZ2
    have yf0 := yf 0
    have yf1 := yf 1
    have yf2 := yf 2
    obtain ⟨⟨-, ⟨z0, z1, z2⟩, -⟩, q1, q2⟩ := b3_all hZ2 u m f
    have hb5 := wrS_below hb2 hle u m f
    unfold wrS at z0 z1 z2 hb5
    clear hX2 hZ2 hb2
    obtain ⟨K, hK⟩ : ∃ K, -(u - t) = K := ⟨_, rfl⟩
    have eo1 : IntKind.i64.wrap (-(u - t)) = -(u - t) := IntWalk.i64_in _ (by omega)
    have eo2 : wrap64 (-(u - t)) = -(u - t) := by unfold wrap64; omega
    have HR2 : Hid (unwM t m f n = (u, K)) := Lib.hid (by rw [HR.out, hK])
    rw [hK] at eo1 eo2
    go_wp2
    exact bodyPost_ret (v := .tuple #[.agg #[.int .i64 u, .int .i64 m, .int .i64 f], .int .i64 K]) (by simp [results, Try.results14, go_sem, z0, z1, z2]) rfl ⟨by rw [HR2.out], hb5⟩
  · have HK : Hid ((sprB t m f && decide (0 ≤ n ∧ n ≤ 100)) = false) := Lib.hid (by
      rw [Bool.and_eq_false_iff]
      by_cases hs : sprB t m f = true
      · exact Or.inr (decide_eq_false fun q => hk ⟨hs, q⟩)
      · exact Or.inl (by simpa using hs))
    have HR := Lib.hid (unwM_no (t := t) (m := m) (f := f) (n := n) hk)
    clear hk
    obtain ⟨hX, hZ, hb0⟩ := b3_two w t m f 25
    go_enter Try.func14, Try.ntmps14
    go_wp2_with fail
    generalize (w.alloc (.cells #[.int .i64 t, .int .i64 m, .int .i64 f] 25)).alloc (.cells #[.int .i64 0, .int .i64 0, .int .i64 0] 25) = W at *
    obtain ⟨bx, hbx⟩ : ∃ b, b = w.heap.size := ⟨_, rfl⟩
    rw [← hbx] at hX hZ
    simp only [← hbx]
    have hle : w.heap.size ≤ bx + 1 := by omega
    have hle0 : w.heap.size ≤ bx := by omega
    clear hbx
    refine (can_any t m f n).mono ?_
    rintro e w1 ⟨rfl, hb1⟩
    rw [HK.out]
    replace hX := hX.below hb1
    replace hZ := hZ.below hb1
    replace hb0 := bstep hb0 hb1
    clear hb1
    obtain ⟨-, ⟨x0, x1, x2⟩, -⟩ := id hX
    obtain ⟨-, ⟨y0, y1, y2⟩, yf⟩ := id hZ
    have yf0 := yf 0
    have yf1 := yf 1
    have yf2 := yf 2
    obtain ⟨⟨-, ⟨z0, z1, z2⟩, -⟩, q1, q2⟩ := b3_all hZ t m f
    have hb5 := wrS_below hb0 hle t m f
    unfold wrS at z0 z1 z2 hb5
    clear hX hZ hb0
    go_wp2
    exact bodyPost_ret (v := .tuple #[.agg #[.int .i64 t, .int .i64 m, .int .i64 f], .int .i64 (-1)]) (by simp [results, Try.results14, go_sem, z0, z1, z2]) rfl ⟨by rw [HR.out], hb5⟩

set_option maxHeartbeats 2000000 in
theorem twI_any {w : World} (t m f n : Int) :
    Calls Try.prog 16 #[.agg #[.int .i64 t, .int .i64 m, .int .i64 f], .int .i64 n] w fun e w' => e = .returned (.int .i64 (twM t m f n)) ∧ Below w.heap.size w w' := by
  have hb0 : Below w.heap.size w (w.alloc (.cells #[.int .i64 t, .int .i64 m, .int .i64 f] 25)) := (Below.refl _ _).alloc (Nat.le_refl _) _
  have hX := b3_new w t m f 25
  by_cases hs : sprB t m f = true
  · have HG := Lib.hid hs
    have hp := sprB_true.1 hs
    by_cases hn : 0 ≤ n ∧ n ≤ 10000
    · obtain ⟨T, rfl⟩ := Int.eq_ofNat_of_zero_le hp.2.1.1
      have HM : Hid (twM (T : Int) m f n = (twQ m f n T : Nat)) := Lib.hid (by rw [twM_yes hs hn, Int.toNat_natCast])
      have HF : Hid (∀ u : Nat, u ≤ T → frcM (u : Int) m f = frcQ (u : Int) m f) := Lib.hid fun u hu => frcM_yes (sprB_true.2 (spr_less hp (by omega) (by omega)))
      have hT : T ≤ 50 := by have := hp.2.1.2; have := hp.1.2; omega
      have hTm : (T : Int) ≤ m := hp.2.1.2
      have hm50 : m ≤ 50 := hp.1.2
      have HN := Lib.hid hn
      clear hs hp hn
      go_enter Try.func16, Try.ntmps16
      go_wp2_with fail
      generalize (w.alloc (.cells #[.int .i64 (T : Int), .int .i64 m, .int .i64 f] 25)) = W at *
      obtain ⟨bx, hbx⟩ : ∃ b, b = w.heap.size := ⟨_, rfl⟩
      rw [← hbx] at hX
      simp only [← hbx]
      have hle : w.heap.size ≤ bx := by omega
      clear hbx
      refine (springI_any (T : Int) m f).mono ?_
      rintro e w1 ⟨rfl, hb1⟩
      rw [HG.out]
      replace hX := hX.below hb1
      replace hb0 := bstep hb0 hb1
      clear hb1
      obtain ⟨-, ⟨x0, x1, x2⟩, -⟩ := id hX
      obtain ⟨hn0, hn1⟩ := HN.out
      go_wp2_with fail
      clear x0 x1 x2
      go_loopw [] (fun wr => ∃ u k : Nat, k + u = T ∧ Hid (twQ m f n T = k + twQ m f n u) ∧ B3 wr bx (u : Int) m f ∧ Below w.heap.size w wr) (fun wr => tOf wr bx)
      case atStart => exact ⟨T, 0, by omega, Lib.hid (by omega), hX, hb0⟩
      case round =>
        obtain ⟨u, k, huk, HR, hB, hbr⟩ := hrel
        clear hX hb0
        obtain ⟨-, ⟨x0, x1, x2⟩, xf⟩ := id hB
        have xf0 := xf 0
        cases u with
        | zero =>
          have HE : Hid (twM (T : Int) m f n = (k : Int)) := Lib.hid (by rw [HM.out, HR.out]; rfl)
          have hd : (T : Int) - 0 = (k : Int) := by omega
          have hkT : T = k := by omega
          subst hkT
          go_wp2
          go_ret
          exact ⟨by rw [HE.out]; rfl, hbr⟩
        | succ u =>
          have hu0 : decide (((u + 1 : Nat) : Int) > 0) = true := decide_eq_true (by omega)
          have HQ := Lib.hid (HF.out (u + 1) (by omega))
          obtain ⟨U, hU⟩ : ∃ U : Int, U = ((u + 1 : Nat) : Int) := ⟨_, rfl⟩
          have hU1 : U - 1 = (u : Int) := by omega
          have HS : Hid (n ≤ frcQ U m f → twQ m f n T = (k + 1) + twQ m f n u) := Lib.hid fun q => by rw [HR.out, twQ_go (by rw [← hU]; exact q)]; omega
          have HZ : Hid (¬ n ≤ frcQ U m f → twM (T : Int) m f n = (k : Int)) := Lib.hid fun q => by rw [HM.out, HR.out, twQ_stop (by rw [← hU]; exact q)]; rfl
          rw [← hU] at x0 hu0 hB HQ
          have hUp : U > 0 := by omega
          clear hU
          go_wp2_with fail
          refine (forceI_any U m f).mono ?_
          rintro e w3 ⟨rfl, hb3⟩
          rw [HQ.out]
          generalize frcQ U m f = F at *
          have hB3 := hB.below hb3
          have hbr3 := bstep hbr hb3
          clear hb3 hbr x0 x1 x2 xf xf0
          obtain ⟨-, ⟨x0, x1, x2⟩, xf⟩ := id hB3
          have xf0 := xf 0
          by_cases hq : n ≤ F
          · have hqd : decide (F ≥ n) = true := decide_eq_true hq
            have HK := Lib.hid (HS.out hq)
            have hB4 := b3_turn hB3 (u : Int)
            have hb4 := hbr3.setCell hle (p := ⟨bx, 0, none⟩) (.int .i64 (u : Int))
            have HC : Hid (chgM U m (-1) = (u : Int)) := Lib.hid (by unfold chgM; rw [if_neg (by omega), if_neg (by omega)]; omega)
            have HT := Lib.hid (tOf_b3 hB)
            have HT4 := Lib.hid (tOf_b3 hB4)
            go_wp2_with fail
            refine (chg_any (-1) hB3 ⟨by omega, by omega⟩ (by omega) ⟨by omega, by omega⟩).mono ?_
            rintro e w4 ⟨rfl, hw4⟩
            rw [HC.out] at hw4 ⊢
            rw [hw4] at hB4 hb4 HT4
            clear hB hB3 hbr3 hw4
            go_wp2
            go_roundw
            case rel => exact ⟨u, k + 1, by omega, HK, hB4, hb4⟩
            case measure => rw [HT.out, HT4.out]; omega
          · have hqd : decide (F ≥ n) = false := decide_eq_false hq
            have HE := Lib.hid (HZ.out (by omega))
            have hd : (T : Int) - U = (k : Int) := by omega
            have ed1 : IntKind.i64.wrap ((T : Int) - U) = (k : Int) := by rw [hd]; exact IntWalk.i64_in _ (by omega)
            have ed2 : wrap64 ((T : Int) - U) = (k : Int) := by rw [hd]; unfold wrap64; omega
            go_wp2
            go_ret
            exact ⟨by rw [HE.out]; rfl, hbr3⟩
    · have HR := Lib.hid (twM_no (t := t) (m := m) (f := f) (need := n) fun q => hn q.2)
      clear hs hp
      go_enter Try.func16, Try.ntmps16
      go_wp2_with fail
      refine (springI_any t m f).mono ?_
      rintro e w1 ⟨rfl, hb1⟩
      rw [HG.out]
      have g1 := bstep hb0 hb1
      clear hb0 hb1
      by_cases hn0 : n < 0
      · go_wp2
        go_ret
        exact ⟨by rw [HR.out]; rfl, g1⟩
      · have hn1 : 10000 < n := by omega
        go_wp2
        go_ret
        exact ⟨by rw [HR.out]; rfl, g1⟩
  · have HG : Hid (sprB t m f = false) := Lib.hid (by simpa using hs)
    have HR := Lib.hid (twM_no (t := t) (m := m) (f := f) (need := n) fun q => hs q.1)
    clear hs
    go_enter Try.func16, Try.ntmps16
    go_wp2_with fail
    refine (springI_any t m f).mono ?_
    rintro e w1 ⟨rfl, hb1⟩
    rw [HG.out]
    have g1 := bstep hb0 hb1
    go_wp2
    go_ret
    exact ⟨by rw [HR.out]; rfl, g1⟩


set_option maxHeartbeats 2000000 in
theorem wkI_any {w : World} (t m f : Int) :
    Calls Try.prog 19 #[.agg #[.int .i64 t, .int .i64 m, .int .i64 f]] w fun e w' => e = .returned (.int .i64 (wkM t m f)) ∧ Below w.heap.size w w' := by
  have hb0 : Below w.heap.size w (w.alloc (.cells #[.int .i64 t, .int .i64 m, .int .i64 f] 25)) := (Below.refl _ _).alloc (Nat.le_refl _) _
  have hX := b3_new w t m f 25
  by_cases hs : sprB t m f = true
  · have HG := Lib.hid hs
    have hp := sprB_true.1 hs
    obtain ⟨T, rfl⟩ := Int.eq_ofNat_of_zero_le hp.2.1.1
    have HM : Hid (wkM (T : Int) m f = wkQ m f T) := Lib.hid (by rw [wkM_yes hs, Int.toNat_natCast])
    have HF : Hid (∀ u : Nat, u ≤ T → frcM (u : Int) m f = frcQ (u : Int) m f ∧ 0 ≤ frcQ (u : Int) m f ∧ frcQ (u : Int) m f ≤ 10000) := Lib.hid fun u hu => by
      have hq := spr_less hp (u := (u : Int)) (by omega) (by omega)
      exact ⟨frcM_yes (sprB_true.2 hq), (frc_bounds hq).2.2.1, (frc_bounds hq).2.2.2.2⟩
    have hT : T ≤ 50 := by have := hp.2.1.2; have := hp.1.2; omega
    have hTm : (T : Int) ≤ m := hp.2.1.2
    have hm50 : m ≤ 50 := hp.1.2
    clear hs hp
    go_enter Try.func19, Try.ntmps19
    go_wp2_with fail
    generalize (w.alloc (.cells #[.int .i64 (T : Int), .int .i64 m, .int .i64 f] 25)) = W at *
    obtain ⟨bx, hbx⟩ : ∃ b, b = w.heap.size := ⟨_, rfl⟩
    rw [← hbx] at hX
    simp only [← hbx]
    have hle : w.heap.size ≤ bx := by omega
    clear hbx
    refine (springI_any (T : Int) m f).mono ?_
    rintro e w1 ⟨rfl, hb1⟩
    rw [HG.out]
    replace hX := hX.below hb1
    replace hb0 := bstep hb0 hb1
    clear hb1
    go_wp2_with fail
    go_loopw [3] (fun v3 wr => ∃ (u : Nat) (S : Int), u ≤ T ∧ v3 = .int .i64 S ∧ (0 ≤ S ∧ S ≤ 10000 * ((T : Int) - (u : Int))) ∧ Hid (wkQ m f T = S + wkQ m f u) ∧ B3 wr bx (u : Int) m f ∧ Below w.heap.size w wr) (fun _ wr => tOf wr bx)
    case atStart => exact ⟨T, 0, Nat.le_refl _, rfl, ⟨by omega, by omega⟩, Lib.hid (by omega), hX, hb0⟩
    case round =>
      obtain ⟨u, S, hu, rfl, ⟨hS0, hS1⟩, HR, hB, hbr⟩ := hrel
      clear hX hb0
      obtain ⟨-, ⟨x0, x1, x2⟩, xf⟩ := id hB
      have xf0 := xf 0
      cases u with
      | zero =>
        have HE : Hid (wkM (T : Int) m f = S) := Lib.hid (by rw [HM.out, HR.out]; simp [wkQ])
        go_wp2
        go_ret
        exact ⟨by rw [HE.out]; rfl, hbr⟩
      | succ u =>
        have HQ := Lib.hid (HF.out (u + 1) hu).1
        obtain ⟨U, hU⟩ : ∃ U : Int, U = ((u + 1 : Nat) : Int) := ⟨_, rfl⟩
        have hU1 : U - 1 = (u : Int) := by omega
        have HS : Hid (wkQ m f T = (S + frcQ U m f) + wkQ m f u) := Lib.hid (by rw [HR.out, hU]; simp only [wkQ]; omega)
        have hF := (HF.out (u + 1) hu).2
        have HT := Lib.hid (tOf_b3 hB)
        rw [← hU] at x0 hB HQ hF hS1
        have hUp : U > 0 := by omega
        clear hU
        obtain ⟨hF0, hF1⟩ := hF
        go_wp2_with fail
        refine (forceI_any U m f).mono ?_
        rintro e w3 ⟨rfl, hb3⟩
        rw [HQ.out]
        generalize frcQ U m f = F at *
        have hB3 := hB.below hb3
        have hbr3 := bstep hbr hb3
        clear hB hb3 hbr x0 x1 x2 xf xf0
        obtain ⟨-, ⟨x0, x1, x2⟩, xf⟩ := id hB3
        have xf0 := xf 0
        have hB4 := b3_turn hB3 (u : Int)
        have hb4 := hbr3.setCell hle (p := ⟨bx, 0, none⟩) (.int .i64 (u : Int))
        have HT4 := Lib.hid (tOf_b3 hB4)
        have HC : Hid (chgM U m (-1) = (u : Int)) := Lib.hid (by unfold chgM; rw [if_neg (by omega), if_neg (by omega)]; omega)
        go_wp2_with fail
        refine (chg_any (-1) hB3 ⟨by omega, by omega⟩ (by omega) ⟨by omega, by omega⟩).mono ?_
        rintro e w4 ⟨rfl, hw4⟩
        rw [HC.out] at hw4 ⊢
        rw [hw4] at hB4 hb4 HT4
        clear hB3 hbr3 hw4
        go_wp2
        go_roundw
        case rel => exact ⟨u, S + F, by omega, by go_num, ⟨by omega, by omega⟩, HS, hB4, hb4⟩
        case measure => rw [HT.out, HT4.out]; omega
  · have HG : Hid (sprB t m f = false) := Lib.hid (by simpa using hs)
    have HR : Hid (wkM t m f = -1) := Lib.hid (wkM_no HG.out)
    clear hs
    go_enter Try.func19, Try.ntmps19
    go_wp2_with fail
    refine (springI_any t m f).mono ?_
    rintro e w1 ⟨rfl, hb1⟩
    rw [HG.out]
    have g1 := bstep hb0 hb1
    go_wp2
    go_ret
    exact ⟨by rw [HR.out]; rfl, g1⟩

end Go.Proofs.Ytghigeeplponlaa
