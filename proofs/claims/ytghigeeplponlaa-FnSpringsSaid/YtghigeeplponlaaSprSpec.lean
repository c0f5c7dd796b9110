/- The contracts of chapter 12's model: SpringOk, ForceNow, Wind, Unwind, TurnsWith, WorkIn. No condition. Made by gen_sprspec.py. -/
import Derived.Test.YtghigeeplponlaaSprKit
namespace Go.Proofs.Ytghigeeplponlaa
open Go.ChangeShapes Go.WideShapes Go.ChangeAt Go.RowKit

theorem springG_any {w : World} (t m f : Int) :
    Calls Try.prog 20 #[.agg #[.int .i64 t, .int .i64 m, .int .i64 f]] w fun e w' => e = .returned (.bool (sprB t m f)) ∧ Below w.heap.size w w' := by
  have hb0 : Below w.heap.size w (w.alloc (.cells #[.int .i64 t, .int .i64 m, .int .i64 f] 25)) := (Below.refl _ _).alloc (Nat.le_refl _) _
  by_cases h1 : 1 ≤ m ∧ m ≤ 50
  · by_cases h2 : 0 ≤ t ∧ t ≤ m
    · by_cases h3 : 1 ≤ f ∧ f ≤ 10000
      · have HG : Hid (sprB t m f = true) := Lib.hid (sprB_true.2 ⟨h1, h2, h3⟩)
        go_enter Try.func20, Try.ntmps20
        go_wp2_with fail
        refine (in_yes _ _ _ h1 _).mono ?_
        rintro e w1 ⟨rfl, rfl⟩
        go_wp2_with fail
        refine (in_yes _ _ _ h2 _).mono ?_
        rintro e w1 ⟨rfl, rfl⟩
        go_wp2_with fail
        refine (in_yes _ _ _ h3 _).mono ?_
        rintro e w1 ⟨rfl, rfl⟩
        go_wp2
        go_ret
        exact ⟨by rw [HG.out]; rfl, hb0⟩
      · have HG : Hid (sprB t m f = false) := Lib.hid (sprB_false.2 fun k => h3 k.2.2)
        go_enter Try.func20, Try.ntmps20
        go_wp2_with fail
        refine (in_yes _ _ _ h1 _).mono ?_
        rintro e w1 ⟨rfl, rfl⟩
        go_wp2_with fail
        refine (in_yes _ _ _ h2 _).mono ?_
        rintro e w1 ⟨rfl, rfl⟩
        go_wp2_with fail
        refine (in_no _ _ _ h3 _).mono ?_
        rintro e w1 ⟨rfl, rfl⟩
        go_wp2
        go_ret
        exact ⟨by rw [HG.out]; rfl, hb0⟩
    · have HG : Hid (sprB t m f = false) := Lib.hid (sprB_false.2 fun k => h2 k.2.1)
      go_enter Try.func20, Try.ntmps20
      go_wp2_with fail
      refine (in_yes _ _ _ h1 _).mono ?_
      rintro e w1 ⟨rfl, rfl⟩
      go_wp2_with fail
      refine (in_no _ _ _ h2 _).mono ?_
      rintro e w1 ⟨rfl, rfl⟩
      go_wp2
      go_ret
      exact ⟨by rw [HG.out]; rfl, hb0⟩
  · have HG : Hid (sprB t m f = false) := Lib.hid (sprB_false.2 fun k => h1 k.1)
    go_enter Try.func20, Try.ntmps20
    go_wp2_with fail
    refine (in_no _ _ _ h1 _).mono ?_
    rintro e w1 ⟨rfl, rfl⟩
    go_wp2
    go_ret
    exact ⟨by rw [HG.out]; rfl, hb0⟩

theorem forceG_any {w : World} (t m f : Int) :
    Calls Try.prog 22 #[.agg #[.int .i64 t, .int .i64 m, .int .i64 f]] w fun e w' => e = .returned (.int .i64 (frcM t m f)) ∧ Below w.heap.size w w' := by
  have hb0 : Below w.heap.size w (w.alloc (.cells #[.int .i64 t, .int .i64 m, .int .i64 f] 25)) := (Below.refl _ _).alloc (Nat.le_refl _) _
  have hX := b3_new w t m f 25
  by_cases hs : sprB t m f = true
  · have HG := Lib.hid hs
    have hp := sprB_true.1 hs
    obtain ⟨hp0, hp1, hq0, -, hq1⟩ := frc_bounds hp
    have HR : Hid (frcM t m f = frcQ t m f) := Lib.hid (frcM_yes hs)
    unfold frcQ at hq0 hq1 HR
    have hm1 := hp.1.1
    have hmz : (m == 0) = false := by rw [beq_eq_false_iff_ne]; omega
    have hmn : ¬ m = 0 := by omega
    obtain ⟨P, hP⟩ : ∃ P, f * t = P := ⟨_, rfl⟩
    rw [hP] at hp0 hp1 hq0 hq1 HR
    obtain ⟨ew1, ew2⟩ := wrap_as hP hp0 (by omega)
    clear hP hs hp
    have htd : P.tdiv m = P / m := Int.tdiv_eq_ediv_of_nonneg hp0
    have ewd : IntKind.i64.wrap (P / m) = P / m := IntWalk.i64_in _ (by omega)
    go_enter Try.func22, Try.ntmps22
    go_wp2_with fail
    generalize w.alloc (.cells #[.int .i64 t, .int .i64 m, .int .i64 f] 25) = W at *
    refine (springG_any t m f).mono ?_
    rintro e w1 ⟨rfl, hb1⟩
    rw [HG.out]
    obtain ⟨-, ⟨x0, x1, x2⟩, -⟩ := hX.below hb1
    have g1 := bstep hb0 hb1
    clear hX hb0 hb1
    go_wp2
    go_ret
    exact ⟨by rw [HR.out]; rfl, g1⟩
  · have HG : Hid (sprB t m f = false) := Lib.hid (by simpa using hs)
    have HR : Hid (frcM t m f = -1) := Lib.hid (frcM_no HG.out)
    clear hs
    go_enter Try.func22, Try.ntmps22
    go_wp2_with fail
    refine (springG_any t m f).mono ?_
    rintro e w1 ⟨rfl, hb1⟩
    rw [HG.out]
    have g1 := bstep hb0 hb1
    go_wp2
    go_ret
    exact ⟨by rw [HR.out]; rfl, g1⟩

set_option maxHeartbeats 2000000 in
theorem windG_any {w : World} (t m f n : Int) :
    Calls Try.prog 23 #[.agg #[.int .i64 t, .int .i64 m, .int .i64 f], .int .i64 n] w (SprAns w (windM t m f n).1 m f (windM t m f n).2) := by
  by_cases hs : sprB t m f = true
  · have HG := Lib.hid hs
    obtain ⟨⟨hm0, hm1⟩, ⟨ht0, ht1⟩, hf0, hf1⟩ := sprB_true.1 hs
    clear hs
    by_cases hn : 0 ≤ n ∧ n ≤ 100
    · have hn0 := hn.1
      have hn1 := hn.2
      by_cases hc : n ≤ m - t
      · have HR : Hid (windM t m f n = (t + n, n)) := Lib.hid (by rw [windM_yes HG.out hn]; exact Prod.ext (by show t + min n (m - t) = t + n; omega) (by show min n (m - t) = n; omega))
        obtain ⟨hX, hZ, hb0⟩ := b3_two w t m f 25
        go_enter Try.func23, Try.ntmps23
        go_wp2_with fail
        generalize (w.alloc (.cells #[.int .i64 t, .int .i64 m, .int .i64 f] 25)).alloc (.cells #[.int .i64 0, .int .i64 0, .int .i64 0] 25) = W at *
        obtain ⟨bx, hbx⟩ : ∃ b, b = w.heap.size := ⟨_, rfl⟩
        rw [← hbx] at hX hZ
        simp only [← hbx]
        have hle : w.heap.size ≤ bx + 1 := by omega
        have hle0 : w.heap.size ≤ bx := by omega
        clear hbx
        refine (springG_any t m f).mono ?_
        rintro e w1 ⟨rfl, hb1⟩
        rw [HG.out]
        replace hX := hX.below hb1
        replace hZ := hZ.below hb1
        replace hb0 := bstep hb0 hb1
        clear hb1
        go_wp2_with fail
        refine (in_yes _ _ _ hn _).mono ?_
        rintro e w2 ⟨rfl, rfl⟩
        obtain ⟨-, ⟨x0, x1, x2⟩, xf⟩ := id hX
        have xf0 := xf 0
        have hX2 := b3_turn hX (t + n)
        have hZ2 := b3_far hZ (show bx ≠ bx + 1 by omega) 0 (.int .i64 (t + n))
        have hb2 := hb0.setCell hle0 (p := ⟨bx, 0, none⟩) (.int .i64 (t + n))
        obtain ⟨-, ⟨v0, v1, v2⟩, -⟩ := id hX2
        obtain ⟨-, ⟨y0, y1, y2⟩, yf⟩ := id hZ2
        have yf0 := yf 0
        have yf1 := yf 1
        have yf2 := yf 2
        obtain ⟨⟨-, ⟨z0, z1, z2⟩, -⟩, q1, q2⟩ := b3_all hZ2 (t + n) m f
        have hb5 := wrS_below hb2 hle (t + n) m f
        unfold wrS at z0 z1 z2 hb5
        clear hX hZ hb0 hX2 hZ2 hb2
        go_wp2
        exact bodyPost_ret (v := .tuple #[.agg #[.int .i64 (t + n), .int .i64 m, .int .i64 f], .int .i64 (n)]) (by simp [results, Try.results23, go_sem, z0, z1, z2]) rfl ⟨by rw [HR.out], hb5⟩
      · have HR : Hid (windM t m f n = (t + (m - t), m - t)) := Lib.hid (by rw [windM_yes HG.out hn]; exact Prod.ext (by show t + min n (m - t) = t + (m - t); omega) (by show min n (m - t) = m - t; omega))
        obtain ⟨hX, hZ, hb0⟩ := b3_two w t m f 25
        go_enter Try.func23, Try.ntmps23
        go_wp2_with fail
        generalize (w.alloc (.cells #[.int .i64 t, .int .i64 m, .int .i64 f] 25)).alloc (.cells #[.int .i64 0, .int .i64 0, .int .i64 0] 25) = W at *
        obtain ⟨bx, hbx⟩ : ∃ b, b = w.heap.size := ⟨_, rfl⟩
        rw [← hbx] at hX hZ
        simp only [← hbx]
        have hle : w.heap.size ≤ bx + 1 := by omega
        have hle0 : w.heap.size ≤ bx := by omega
        clear hbx
        refine (springG_any t m f).mono ?_
        rintro e w1 ⟨rfl, hb1⟩
        rw [HG.out]
        replace hX := hX.below hb1
        replace hZ := hZ.below hb1
        replace hb0 := bstep hb0 hb1
        clear hb1
        go_wp2_with fail
        refine (in_yes _ _ _ hn _).mono ?_
        rintro e w2 ⟨rfl, rfl⟩
        obtain ⟨-, ⟨x0, x1, x2⟩, xf⟩ := id hX
        have xf0 := xf 0
        have hX2 := b3_turn hX (t + (m - t))
        have hZ2 := b3_far hZ (show bx ≠ bx + 1 by omega) 0 (.int .i64 (t + (m - t)))
        have hb2 := hb0.setCell hle0 (p := ⟨bx, 0, none⟩) (.int .i64 (t + (m - t)))
        obtain ⟨-, ⟨v0, v1, v2⟩, -⟩ := id hX2
        obtain ⟨-, ⟨y0, y1, y2⟩, yf⟩ := id hZ2
        have yf0 := yf 0
        have yf1 := yf 1
        have yf2 := yf 2
        obtain ⟨⟨-, ⟨z0, z1, z2⟩, -⟩, q1, q2⟩ := b3_all hZ2 (t + (m - t)) m f
        have hb5 := wrS_below hb2 hle (t + (m - t)) m f
        unfold wrS at z0 z1 z2 hb5
        clear hX hZ hb0 hX2 hZ2 hb2
        go_wp2
        exact bodyPost_ret (v := .tuple #[.agg #[.int .i64 (t + (m - t)), .int .i64 m, .int .i64 f], .int .i64 (m - t)]) (by simp [results, Try.results23, go_sem, z0, z1, z2]) rfl ⟨by rw [HR.out], hb5⟩
    · have HR := Lib.hid (windM_no (t := t) (m := m) (f := f) (n := n) fun q => hn q.2)
      obtain ⟨hX, hZ, hb0⟩ := b3_two w t m f 25
      go_enter Try.func23, Try.ntmps23
      go_wp2_with fail
      generalize (w.alloc (.cells #[.int .i64 t, .int .i64 m, .int .i64 f] 25)).alloc (.cells #[.int .i64 0, .int .i64 0, .int .i64 0] 25) = W at *
      obtain ⟨bx, hbx⟩ : ∃ b, b = w.heap.size := ⟨_, rfl⟩
      rw [← hbx] at hX hZ
      simp only [← hbx]
      have hle : w.heap.size ≤ bx + 1 := by omega
      clear hbx
      refine (springG_any t m f).mono ?_
      rintro e w1 ⟨rfl, hb1⟩
      rw [HG.out]
      replace hX := hX.below hb1
      replace hZ := hZ.below hb1
      replace hb0 := bstep hb0 hb1
      clear hb1
      go_wp2_with fail
      refine (in_no _ _ _ hn _).mono ?_
      rintro e w2 ⟨rfl, rfl⟩
      obtain ⟨-, ⟨x0, x1, x2⟩, -⟩ := id hX
      obtain ⟨-, ⟨y0, y1, y2⟩, yf⟩ := id hZ
      have yf0 := yf 0
      have yf1 := yf 1
      have yf2 := yf 2
      obtain ⟨⟨-, ⟨z0, z1, z2⟩, -⟩, q1, q2⟩ := b3_all hZ t m f
      have hb5 := wrS_below hb0 hle t m f
      unfold wrS at z0 z1 z2 hb5
      clear hX hZ hb0
      go_wp2
      exact bodyPost_ret (v := .tuple #[.agg #[.int .i64 t, .int .i64 m, .int .i64 f], .int .i64 (-1)]) (by simp [results, Try.results23, go_sem, z0, z1, z2]) rfl ⟨by rw [HR.out], hb5⟩
  · have HG : Hid (sprB t m f = false) := Lib.hid (by simpa using hs)
    have HR := Lib.hid (windM_no (t := t) (m := m) (f := f) (n := n) fun q => hs q.1)
    obtain ⟨hX, hZ, hb0⟩ := b3_two w t m f 25
    go_enter Try.func23, Try.ntmps23
    go_wp2_with fail
    generalize (w.alloc (.cells #[.int .i64 t, .int .i64 m, .int .i64 f] 25)).alloc (.cells #[.int .i64 0, .int .i64 0, .int .i64 0] 25) = W at *
    obtain ⟨bx, hbx⟩ : ∃ b, b = w.heap.size := ⟨_, rfl⟩
    rw [← hbx] at hX hZ
    simp only [← hbx]
    have hle : w.heap.size ≤ bx + 1 := by omega
    clear hbx
    refine (springG_any t m f).mono ?_
    rintro e w1 ⟨rfl, hb1⟩
    rw [HG.out]
    replace hX := hX.below hb1
    replace hZ := hZ.below hb1
    replace hb0 := bstep hb0 hb1
    clear hb1
    obtain ⟨-, ⟨x0, x1, x2⟩, -⟩ := id hX
    obtain ⟨-, ⟨y0, y1, y2⟩, yf⟩ := id hZ
    have yf0 := yf 0
    have yf1 := yf 1
    have yf2 := yf 2
    obtain ⟨⟨-, ⟨z0, z1, z2⟩, -⟩, q1, q2⟩ := b3_all hZ t m f
    have hb5 := wrS_below hb0 hle t m f
    unfold wrS at z0 z1 z2 hb5
    clear hX hZ hb0
    go_wp2
    exact bodyPost_ret (v := .tuple #[.agg #[.int .i64 t, .int .i64 m, .int .i64 f], .int .i64 (-1)]) (by simp [results, Try.results23, go_sem, z0, z1, z2]) rfl ⟨by rw [HR.out], hb5⟩

set_option maxHeartbeats 2000000 in
theorem unwG_any {w : World} (t m f n : Int) :
    Calls Try.prog 18 #[.agg #[.int .i64 t, .int .i64 m, .int .i64 f], .int .i64 n] w (SprAns w (unwM t m f n).1 m f (unwM t m f n).2) := by
  by_cases hs : sprB t m f = true
  · have HG := Lib.hid hs
    obtain ⟨⟨hm0, hm1⟩, ⟨ht0, ht1⟩, hf0, hf1⟩ := sprB_true.1 hs
    clear hs
    by_cases hn : 0 ≤ n ∧ n ≤ 100
    · have hn0 := hn.1
      have hn1 := hn.2
      by_cases hc : n ≤ t
      · have HR : Hid (unwM t m f n = (t - n, n)) := Lib.hid (by rw [unwM_yes HG.out hn]; exact Prod.ext (by show t - min n t = t - n; omega) (by show min n (t) = n; omega))
        obtain ⟨hX, hZ, hb0⟩ := b3_two w t m f 25
        go_enter Try.func18, Try.ntmps18
        go_wp2_with fail
        generalize (w.alloc (.cells #[.int .i64 t, .int .i64 m, .int .i64 f] 25)).alloc (.cells #[.int .i64 0, .int .i64 0, .int .i64 0] 25) = W at *
        obtain ⟨bx, hbx⟩ : ∃ b, b = w.heap.size := ⟨_, rfl⟩
        rw [← hbx] at hX hZ
        simp only [← hbx]
        have hle : w.heap.size ≤ bx + 1 := by omega
        have hle0 : w.heap.size ≤ bx := by omega
        clear hbx
        refine (springG_any t m f).mono ?_
        rintro e w1 ⟨rfl, hb1⟩
        rw [HG.out]
        replace hX := hX.below hb1
        replace hZ := hZ.below hb1
        replace hb0 := bstep hb0 hb1
        clear hb1
        go_wp2_with fail
        refine (in_yes _ _ _ hn _).mono ?_
        rintro e w2 ⟨rfl, rfl⟩
        obtain ⟨-, ⟨x0, x1, x2⟩, xf⟩ := id hX
        have xf0 := xf 0
        have hX2 := b3_turn hX (t - n)
        have hZ2 := b3_far hZ (show bx ≠ bx + 1 by omega) 0 (.int .i64 (t - n))
        have hb2 := hb0.setCell hle0 (p := ⟨bx, 0, none⟩) (.int .i64 (t - n))
        obtain ⟨-, ⟨v0, v1, v2⟩, -⟩ := id hX2
        obtain ⟨-, ⟨y0, y1, y2⟩, yf⟩ := id hZ2
        have yf0 := yf 0
        have yf1 := yf 1
        have yf2 := yf 2
        obtain ⟨⟨-, ⟨z0, z1, z2⟩, -⟩, q1, q2⟩ := b3_all hZ2 (t - n) m f
        have hb5 := wrS_below hb2 hle (t - n) m f
        unfold wrS at z0 z1 z2 hb5
        clear hX hZ hb0 hX2 hZ2 hb2
        go_wp2
        exact bodyPost_ret (v := .tuple #[.agg #[.int .i64 (t - n), .int .i64 m, .int .i64 f], .int .i64 (n)]) (by simp [results, Try.results18, go_sem, z0, z1, z2]) rfl ⟨by rw [HR.out], hb5⟩
      · have HR : Hid (unwM t m f n = (0, t)) := Lib.hid (by rw [unwM_yes HG.out hn]; exact Prod.ext (by show t - min n t = 0; omega) (by show min n (t) = t; omega))
        obtain ⟨hX, hZ, hb0⟩ := b3_two w t m f 25
        go_enter Try.func18, Try.ntmps18
        go_wp2_with fail
        generalize (w.alloc (.cells #[.int .i64 t, .int .i64 m, .int .i64 f] 25)).alloc (.cells #[.int .i64 0, .int .i64 0, .int .i64 0] 25) = W at *
        obtain ⟨bx, hbx⟩ : ∃ b, b = w.heap.size := ⟨_, rfl⟩
        rw [← hbx] at hX hZ
        simp only [← hbx]
        have hle : w.heap.size ≤ bx + 1 := by omega
        have hle0 : w.heap.size ≤ bx := by omega
        clear hbx
        refine (springG_any t m f).mono ?_
        rintro e w1 ⟨rfl, hb1⟩
        rw [HG.out]
        replace hX := hX.below hb1
        replace hZ := hZ.below hb1
        replace hb0 := bstep hb0 hb1
        clear hb1
        go_wp2_with fail
        refine (in_yes _ _ _ hn _).mono ?_
        rintro e w2 ⟨rfl, rfl⟩
        obtain ⟨-, ⟨x0, x1, x2⟩, xf⟩ := id hX
        have xf0 := xf 0
        have hX2 := b3_turn hX (0)
        have hZ2 := b3_far hZ (show bx ≠ bx + 1 by omega) 0 (.int .i64 (0))
        have hb2 := hb0.setCell hle0 (p := ⟨bx, 0, none⟩) (.int .i64 (0))
        obtain ⟨-, ⟨v0, v1, v2⟩, -⟩ := id hX2
        obtain ⟨-, ⟨y0, y1, y2⟩, yf⟩ := id hZ2
        have yf0 := yf 0
        have yf1 := yf 1
        have yf2 := yf 2
        obtain ⟨⟨-, ⟨z0, z1, z2⟩, -⟩, q1, q2⟩ := b3_all hZ2 (0) m f
        have hb5 := wrS_below hb2 hle (0) m f
        unfold wrS at z0 z1 z2 hb5
        clear hX hZ hb0 hX2 hZ2 hb2
        go_wp2
        exact bodyPost_ret (v := .tuple #[.agg #[.int .i64 (0), .int .i64 m, .int .i64 f], .int .i64 (t)]) (by simp [results, Try.results18, go_sem, z0, z1, z2]) rfl ⟨by rw [HR.out], hb5⟩
    · have HR := Lib.hid (unwM_no (t := t) (m := m) (f := f) (n := n) fun q => hn q.2)
      obtain ⟨hX, hZ, hb0⟩ := b3_two w t m f 25
      go_enter Try.func18, Try.ntmps18
      go_wp2_with fail
      generalize (w.alloc (.cells #[.int .i64 t, .int .i64 m, .int .i64 f] 25)).alloc (.cells #[.int .i64 0, .int .i64 0, .int .i64 0] 25) = W at *
      obtain ⟨bx, hbx⟩ : ∃ b, b = w.heap.size := ⟨_, rfl⟩
      rw [← hbx] at hX hZ
      simp only [← hbx]
      have hle : w.heap.size ≤ bx + 1 := by omega
      clear hbx
      refine (springG_any t m f).mono ?_
      rintro e w1 ⟨rfl, hb1⟩
      rw [HG.out]
      replace hX := hX.below hb1
      replace hZ := hZ.below hb1
      replace hb0 := bstep hb0 hb1
      clear hb1
      go_wp2_with fail
      refine (in_no _ _ _ hn _).mono ?_
      rintro e w2 ⟨rfl, rfl⟩
      obtain ⟨-, ⟨x0, x1, x2⟩, -⟩ := id hX
      obtain ⟨-, ⟨y0, y1, y2⟩, yf⟩ := id hZ
      have yf0 := yf 0
      have yf1 := yf 1
      have yf2 := yf 2
      obtain ⟨⟨-, ⟨z0, z1, z2⟩, -⟩, q1, q2⟩ := b3_all hZ t m f
      have hb5 := wrS_below hb0 hle t m f
      unfold wrS at z0 z1 z2 hb5
      clear hX hZ hb0
      go_wp2
      exact bodyPost_ret (v := .tuple #[.agg #[.int .i64 t, .int .i64 m, .int .i64 f], .int .i64 (-1)]) (by simp [results, Try.results18, go_sem, z0, z1, z2]) rfl ⟨by rw [HR.out], hb5⟩
  · have HG : Hid (sprB t m f = false) := Lib.hid (by simpa using hs)
    have HR := Lib.hid (unwM_no (t := t) (m := m) (f := f) (n := n) fun q => hs q.1)
    obtain ⟨hX, hZ, hb0⟩ := b3_two w t m f 25
    go_enter Try.func18, Try.ntmps18
    go_wp2_with fail
    generalize (w.alloc (.cells #[.int .i64 t, .int .i64 m, .int .i64 f] 25)).alloc (.cells #[.int .i64 0, .int .i64 0, .int .i64 0] 25) = W at *
    obtain ⟨bx, hbx⟩ : ∃ b, b = w.heap.size := ⟨_, rfl⟩
    rw [← hbx] at hX hZ
    simp only [← hbx]
    have hle : w.heap.size ≤ bx + 1 := by omega
    clear hbx
    refine (springG_any t m f).mono ?_
    rintro e w1 ⟨rfl, hb1⟩
    rw [HG.out]
    replace hX := hX.below hb1
    replace hZ := hZ.below hb1
    replace hb0 := bstep hb0 hb1
    clear hb1
    obtain ⟨-, ⟨x0, x1, x2⟩, -⟩ := id hX
    obtain ⟨-, ⟨y0, y1, y2⟩, yf⟩ := id hZ
    have yf0 := yf 0
    have yf1 := yf 1
    have yf2 := yf 2
    obtain ⟨⟨-, ⟨z0, z1, z2⟩, -⟩, q1, q2⟩ := b3_all hZ t m f
    have hb5 := wrS_below hb0 hle t m f
    unfold wrS at z0 z1 z2 hb5
    clear hX hZ hb0
    go_wp2
    exact bodyPost_ret (v := .tuple #[.agg #[.int .i64 t, .int .i64 m, .int .i64 f], .int .i64 (-1)]) (by simp [results, Try.results18, go_sem, z0, z1, z2]) rfl ⟨by rw [HR.out], hb5⟩


/-- The turns of the spring in box b. -/
def tOf (w : World) (b : Nat) : Nat := match w.cell? ⟨b, 0, none⟩ with | some (.int _ x) => x.toNat | _ => 0
theorem tOf_b3 {w : World} {b : Nat} {t m f : Int} (h : B3 w b t m f) : tOf w b = t.toNat := by unfold tOf; rw [h.2.1.1]

set_option maxHeartbeats 2000000 in
theorem twG_any {w : World} (t m f n : Int) :
    Calls Try.prog 25 #[.agg #[.int .i64 t, .int .i64 m, .int .i64 f], .int .i64 n] w fun e w' => e = .returned (.int .i64 (twM t m f n)) ∧ Below w.heap.size w w' := by
  have hb0 : Below w.heap.size w (w.alloc (.cells #[.int .i64 t, .int .i64 m, .int .i64 f] 25)) := (Below.refl _ _).alloc (Nat.le_refl _) _
  have hX := b3_new w t m f 25
  by_cases hs : sprB t m f = true
  · have HG := Lib.hid hs
    have hp := sprB_true.1 hs
    by_cases hn : 0 ≤ n ∧ n ≤ 10000
    · obtain ⟨T, rfl⟩ := Int.eq_ofNat_of_zero_le hp.2.1.1
      have HM : Hid (twM (T : Int) m f n = (twQ m f n T : Nat)) := Lib.hid (by rw [twM_yes hs hn, Int.toNat_natCast])
      have HF : Hid (∀ u : Nat, u ≤ T → frcM (u : Int) m f = frcQ (u : Int) m f) := Lib.hid fun u hu => frcM_yes (sprB_true.2 (spr_less hp (by omega) (by omega)))
      have hT : T ≤ 50 := by have := hp.2.1.2; have := hp.1.2; omega
      have HN := Lib.hid hn
      clear hs hp hn
      go_enter Try.func25, Try.ntmps25
      go_wp2_with fail
      generalize (w.alloc (.cells #[.int .i64 (T : Int), .int .i64 m, .int .i64 f] 25)) = W at *
      obtain ⟨bx, hbx⟩ : ∃ b, b = w.heap.size := ⟨_, rfl⟩
      rw [← hbx] at hX
      simp only [← hbx]
      have hle : w.heap.size ≤ bx := by omega
      clear hbx
      refine (springG_any (T : Int) m f).mono ?_
      rintro e w1 ⟨rfl, hb1⟩
      rw [HG.out]
      replace hX := hX.below hb1
      replace hb0 := bstep hb0 hb1
      clear hb1
      go_wp2_with fail
      refine (in_yes _ _ _ HN.out _).mono ?_
      rintro e w2 ⟨rfl, rfl⟩
      go_wp2_with fail
      go_loopw [5] (fun v5 wr => ∃ u k : Nat, k + u = T ∧ v5 = .int .i64 (k : Int) ∧ Hid (twQ m f n T = k + twQ m f n u) ∧ B3 wr bx (u : Int) m f ∧ Below w.heap.size w wr) (fun v5 _ => T - (intOf v5).toNat)
      case atStart => exact ⟨T, 0, by omega, rfl, Lib.hid (by omega), hX, hb0⟩
      case round =>
        obtain ⟨u, k, huk, rfl, HR, hB, hbr⟩ := hrel
        clear hX hb0
        obtain ⟨-, ⟨x0, x1, x2⟩, xf⟩ := id hB
        have xf0 := xf 0
        cases u with
        | zero =>
          have HE : Hid (twM (T : Int) m f n = (k : Int)) := Lib.hid (by rw [HM.out, HR.out]; rfl)
          go_wp2
          go_ret
          exact ⟨by rw [HE.out]; rfl, hbr⟩
        | succ u =>
          have hu0 : decide (((u + 1 : Nat) : Int) > 0) = true := decide_eq_true (by omega)
          have HQ := Lib.hid (HF.out (u + 1) (by omega))
          obtain ⟨U, hU⟩ : ∃ U : Int, U = ((u + 1 : Nat) : Int) := ⟨_, rfl⟩
          have hU1 : U - 1 = (u : Int) := by omega
          have HS : Hid (n ≤ frcQ U m f → twQ m f n T = (k + 1) + twQ m f n u) := Lib.hid fun q => by rw [HR.out, twQ_go (by rw [← hU]; exact q)]; omega
          have HZ : Hid (¬ n ≤ frcQ U m f → twM (T : Int) m f n = (k : Int)) := Lib.hid fun q => by rw [HM.out, HR.out, twQ_stop (by rw [← hU]; exact q)]; rfl
          rw [← hU] at x0 hu0 hB HQ
          have hUp : U > 0 := by omega
          clear hU
          go_wp2_with fail
          refine (forceG_any U m f).mono ?_
          rintro e w3 ⟨rfl, hb3⟩
          rw [HQ.out]
          generalize frcQ U m f = F at *
          have hB3 := hB.below hb3
          have hbr3 := bstep hbr hb3
          clear hB hb3 hbr x0 x1 x2 xf xf0
          obtain ⟨-, ⟨x0, x1, x2⟩, xf⟩ := id hB3
          have xf0 := xf 0
          by_cases hq : n ≤ F
          · have hqd : decide (F ≥ n) = true := decide_eq_true hq
            have HK := Lib.hid (HS.out hq)
            have hB4 := b3_turn hB3 (u : Int)
            have hb4 := hbr3.setCell hle (p := ⟨bx, 0, none⟩) (.int .i64 (u : Int))
            have ew : IntKind.i64.wrap (U - 1) = (u : Int) := by rw [hU1]; exact IntWalk.i64_in _ (by omega)
            have ewb : wrap64 (U - 1) = (u : Int) := by rw [hU1]; unfold wrap64; omega
            clear hB3 hbr3
            go_wp2
            go_roundw
            case rel => exact ⟨u, k + 1, by omega, by go_num, HK, hB4, hb4⟩
            case measure => simp [intOf]; omega
          · have hqd : decide (F ≥ n) = false := decide_eq_false hq
            have HE := Lib.hid (HZ.out (by omega))
            go_wp2
            go_ret
            exact ⟨by rw [HE.out]; rfl, hbr3⟩
    · have HR := Lib.hid (twM_no (t := t) (m := m) (f := f) (need := n) fun q => hn q.2)
      clear hs hp
      go_enter Try.func25, Try.ntmps25
      go_wp2_with fail
      refine (springG_any t m f).mono ?_
      rintro e w1 ⟨rfl, hb1⟩
      rw [HG.out]
      have g1 := bstep hb0 hb1
      clear hb0 hb1
      go_wp2_with fail
      refine (in_no _ _ _ hn _).mono ?_
      rintro e w2 ⟨rfl, rfl⟩
      go_wp2
      go_ret
      exact ⟨by rw [HR.out]; rfl, g1⟩
  · have HG : Hid (sprB t m f = false) := Lib.hid (by simpa using hs)
    have HR := Lib.hid (twM_no (t := t) (m := m) (f := f) (need := n) fun q => hs q.1)
    clear hs
    go_enter Try.func25, Try.ntmps25
    go_wp2_with fail
    refine (springG_any t m f).mono ?_
    rintro e w1 ⟨rfl, hb1⟩
    rw [HG.out]
    have g1 := bstep hb0 hb1
    go_wp2
    go_ret
    exact ⟨by rw [HR.out]; rfl, g1⟩

set_option maxHeartbeats 2000000 in
theorem wkG_any {w : World} (t m f : Int) :
    Calls Try.prog 26 #[.agg #[.int .i64 t, .int .i64 m, .int .i64 f]] w fun e w' => e = .returned (.int .i64 (wkM t m f)) ∧ Below w.heap.size w w' := by
  have hb0 : Below w.heap.size w (w.alloc (.cells #[.int .i64 t, .int .i64 m, .int .i64 f] 25)) := (Below.refl _ _).alloc (Nat.le_refl _) _
  have hX := b3_new w t m f 25
  by_cases hs : sprB t m f = true
  · have HG := Lib.hid hs
    have hp := sprB_true.1 hs
    obtain ⟨T, rfl⟩ := Int.eq_ofNat_of_zero_le hp.2.1.1
    have HM : Hid (wkM (T : Int) m f = wkQ m f T) := Lib.hid (by rw [wkM_yes hs, Int.toNat_natCast])
    have HF : Hid (∀ u : Nat, u ≤ T → frcM (u : Int) m f = frcQ (u : Int) m f ∧ 0 ≤ frcQ (u : Int) m f ∧ frcQ (u : Int) m f ≤ 10000) := Lib.hid fun u hu => by
      have hq := spr_less hp (u := (u : Int)) (by omega) (by omega)
      exact ⟨frcM_yes (sprB_true.2 hq), (frc_bounds hq).2.2.1, (frc_bounds hq).2.2.2.2⟩
    have hT : T ≤ 50 := by have := hp.2.1.2; have := hp.1.2; omega
    clear hs hp
    go_enter Try.func26, Try.ntmps26
    go_wp2_with fail
    generalize (w.alloc (.cells #[.int .i64 (T : Int), .int .i64 m, .int .i64 f] 25)) = W at *
    obtain ⟨bx, hbx⟩ : ∃ b, b = w.heap.size := ⟨_, rfl⟩
    rw [← hbx] at hX
    simp only [← hbx]
    have hle : w.heap.size ≤ bx := by omega
    clear hbx
    refine (springG_any (T : Int) m f).mono ?_
    rintro e w1 ⟨rfl, hb1⟩
    rw [HG.out]
    replace hX := hX.below hb1
    replace hb0 := bstep hb0 hb1
    clear hb1
    go_wp2_with fail
    go_loopw [3] (fun v3 wr => ∃ (u : Nat) (S : Int), u ≤ T ∧ v3 = .int .i64 S ∧ (0 ≤ S ∧ S ≤ 10000 * ((T : Int) - (u : Int))) ∧ Hid (wkQ m f T = S + wkQ m f u) ∧ B3 wr bx (u : Int) m f ∧ Below w.heap.size w wr) (fun _ wr => tOf wr bx)
    case atStart => exact ⟨T, 0, Nat.le_refl _, rfl, ⟨by omega, by omega⟩, Lib.hid (by omega), hX, hb0⟩
    case round =>
      obtain ⟨u, S, hu, rfl, ⟨hS0, hS1⟩, HR, hB, hbr⟩ := hrel
      clear hX hb0
      obtain ⟨-, ⟨x0, x1, x2⟩, xf⟩ := id hB
      have xf0 := xf 0
      cases u with
      | zero =>
        have HE : Hid (wkM (T : Int) m f = S) := Lib.hid (by rw [HM.out, HR.out]; simp [wkQ])
        go_wp2
        go_ret
        exact ⟨by rw [HE.out]; rfl, hbr⟩
      | succ u =>
        have HQ := Lib.hid (HF.out (u + 1) hu).1
        obtain ⟨U, hU⟩ : ∃ U : Int, U = ((u + 1 : Nat) : Int) := ⟨_, rfl⟩
        have hU1 : U - 1 = (u : Int) := by omega
        have HS : Hid (wkQ m f T = (S + frcQ U m f) + wkQ m f u) := Lib.hid (by rw [HR.out, hU]; simp only [wkQ]; omega)
        have hF := (HF.out (u + 1) hu).2
        have HT := Lib.hid (tOf_b3 hB)
        rw [← hU] at x0 hB HQ hF hS1
        have hUp : U > 0 := by omega
        clear hU
        obtain ⟨hF0, hF1⟩ := hF
        go_wp2_with fail
        refine (forceG_any U m f).mono ?_
        rintro e w3 ⟨rfl, hb3⟩
        rw [HQ.out]
        generalize frcQ U m f = F at *
        have hB3 := hB.below hb3
        have hbr3 := bstep hbr hb3
        clear hB hb3 hbr x0 x1 x2 xf xf0
        obtain ⟨-, ⟨x0, x1, x2⟩, xf⟩ := id hB3
        have xf0 := xf 0
        have hB4 := b3_turn hB3 (u : Int)
        have hb4 := hbr3.setCell hle (p := ⟨bx, 0, none⟩) (.int .i64 (u : Int))
        have HT4 := Lib.hid (tOf_b3 hB4)
        have ew : IntKind.i64.wrap (U - 1) = (u : Int) := by rw [hU1]; exact IntWalk.i64_in _ (by omega)
        have ewb : wrap64 (U - 1) = (u : Int) := by rw [hU1]; unfold wrap64; omega
        clear hB3 hbr3
        go_wp2
        go_roundw
        case rel => exact ⟨u, S + F, by omega, by go_num, ⟨by omega, by omega⟩, HS, hB4, hb4⟩
        case measure => rw [HT.out, HT4.out]; omega
  · have HG : Hid (sprB t m f = false) := Lib.hid (by simpa using hs)
    have HR : Hid (wkM t m f = -1) := Lib.hid (wkM_no HG.out)
    clear hs
    go_enter Try.func26, Try.ntmps26
    go_wp2_with fail
    refine (springG_any t m f).mono ?_
    rintro e w1 ⟨rfl, hb1⟩
    rw [HG.out]
    have g1 := bstep hb0 hb1
    go_wp2
    go_ret
    exact ⟨by rw [HR.out]; rfl, g1⟩

end Go.Proofs.Ytghigeeplponlaa
