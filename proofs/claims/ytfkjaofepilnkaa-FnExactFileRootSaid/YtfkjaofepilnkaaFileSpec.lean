/- The contracts of chapter 15's model: ToothOk, FileTip, FileRoot, StepsTo, ClosestTone. No condition. Made by gen_filespec.py. -/
import Derived.Test.YtfkjaofepilnkaaFileKit
namespace Go.Proofs.Ytfkjaofepilnkaa
open Go.ChangeShapes Go.WideShapes Go.ChangeAt Go.RowKit

theorem toothG_any {w : World} (t p r : Int) :
    Calls Try.prog 7 #[.agg #[.int .i64 t, .int .i64 p, .int .i64 r]] w fun e w' => e = .returned (.bool (tooB t p r)) ∧ Below w.heap.size w w' := by
  have hb0 : Below w.heap.size w (w.alloc (.cells #[.int .i64 t, .int .i64 p, .int .i64 r] 25)) := (Below.refl _ _).alloc (Nat.le_refl _) _
  by_cases h1 : 0 ≤ t ∧ t ≤ 6000
  · by_cases h2 : 0 ≤ p ∧ p ≤ 20
    · by_cases h3 : 0 ≤ r ∧ r ≤ 20
      · have HG : Hid (tooB t p r = true) := Lib.hid (tooB_true.2 ⟨h1, h2, h3⟩)
        go_enter Try.func7, Try.ntmps7
        go_wp2_with fail
        refine (in_yes _ _ _ h1 _).mono ?_
        rintro e w1 ⟨rfl, rfl⟩
        go_wp2_with fail
        refine (in_yes _ _ _ h2 _).mono ?_
        rintro e w1 ⟨rfl, rfl⟩
        go_wp2_with fail
        refine (in_yes _ _ _ h3 _).mono ?_
        rintro e w1 ⟨rfl, rfl⟩
        go_wp2
        go_ret
        exact ⟨by rw [HG.out]; rfl, hb0⟩
      · have HG : Hid (tooB t p r = false) := Lib.hid (tooB_false.2 fun k => h3 k.2.2)
        go_enter Try.func7, Try.ntmps7
        go_wp2_with fail
        refine (in_yes _ _ _ h1 _).mono ?_
        rintro e w1 ⟨rfl, rfl⟩
        go_wp2_with fail
        refine (in_yes _ _ _ h2 _).mono ?_
        rintro e w1 ⟨rfl, rfl⟩
        go_wp2_with fail
        refine (in_no _ _ _ h3 _).mono ?_
        rintro e w1 ⟨rfl, rfl⟩
        go_wp2
        go_ret
        exact ⟨by rw [HG.out]; rfl, hb0⟩
    · have HG : Hid (tooB t p r = false) := Lib.hid (tooB_false.2 fun k => h2 k.2.1)
      go_enter Try.func7, Try.ntmps7
      go_wp2_with fail
      refine (in_yes _ _ _ h1 _).mono ?_
      rintro e w1 ⟨rfl, rfl⟩
      go_wp2_with fail
      refine (in_no _ _ _ h2 _).mono ?_
      rintro e w1 ⟨rfl, rfl⟩
      go_wp2
      go_ret
      exact ⟨by rw [HG.out]; rfl, hb0⟩
  · have HG : Hid (tooB t p r = false) := Lib.hid (tooB_false.2 fun k => h1 k.1)
    go_enter Try.func7, Try.ntmps7
    go_wp2_with fail
    refine (in_no _ _ _ h1 _).mono ?_
    rintro e w1 ⟨rfl, rfl⟩
    go_wp2
    go_ret
    exact ⟨by rw [HG.out]; rfl, hb0⟩

set_option maxHeartbeats 2000000 in
theorem tipG_any {w : World} (t p r : Int) :
    Calls Try.prog 10 #[.agg #[.int .i64 t, .int .i64 p, .int .i64 r]] w (TooAns w (tipA t p r)) := by
  by_cases hs : tooB t p r = true
  · have HG := Lib.hid hs
    have hp := tooB_true.1 hs
    clear hs
    by_cases h1 : p = 0
    · have HR := Lib.hid (tipA_no (t := t) (p := p) (r := r) fun q => q.2.1 h1)
      have hq : (p == 0) = true := by rw [beq_iff_eq]; exact h1
      clear hp h1
      obtain ⟨hX, hZ, hb0⟩ := b3_two w t p r 25
      go_enter Try.func10, Try.ntmps10
      go_wp2_with fail
      generalize (w.alloc (.cells #[.int .i64 t, .int .i64 p, .int .i64 r] 25)).alloc (.cells #[.int .i64 0, .int .i64 0, .int .i64 0] 25) = W at *
      obtain ⟨bx, hbx⟩ : ∃ b, b = w.heap.size := ⟨_, rfl⟩
      rw [← hbx] at hX hZ
      simp only [← hbx]
      have hle : w.heap.size ≤ bx + 1 := by omega
      clear hbx
      refine (toothG_any t p r).mono ?_
      rintro e w1 ⟨rfl, hb1⟩
      rw [HG.out]
      replace hX := hX.below hb1
      replace hZ := hZ.below hb1
      replace hb0 := bstep hb0 hb1
      clear hb1
      obtain ⟨-, ⟨x0, x1, x2⟩, -⟩ := id hX
      obtain ⟨-, ⟨y0, y1, y2⟩, yf⟩ := id hZ
      have yf0 := yf 0
      have yf1 := yf 1
      have yf2 := yf 2
      obtain ⟨⟨-, ⟨z0, z1, z2⟩, -⟩, q1, q2⟩ := b3_all hZ (t) (p) (r)
      have hb5 := wrS_below hb0 hle (t) (p) (r)
      unfold wrS at z0 z1 z2 hb5
      clear hX hZ hb0
      go_wp2
      exact bodyPost_ret (v := .tuple #[.agg #[.int .i64 (t), .int .i64 (p), .int .i64 (r)], .bool false]) (by simp [results, Try.results10, go_sem, z0, z1, z2]) rfl ⟨by rw [HR.out], hb5⟩
    · have hq : (p == 0) = false := by rw [beq_eq_false_iff_ne]; exact h1
      obtain ⟨⟨ht0, ht1⟩, ⟨hp0, hp1⟩, hr0, hr1⟩ := id hp
      have e1 : IntKind.i64.wrap (t + 7) = t + 7 := IntWalk.i64_in _ (by omega)
      have e2 : IntKind.i64.wrap (p - 1) = p - 1 := IntWalk.i64_in _ (by omega)
      by_cases h2 : t + 7 ≤ 6000
      · have HR := Lib.hid (tipA_yes (t := t) (p := p) (r := r) ⟨hp, h1, by omega⟩)
        clear hp h1
        obtain ⟨hX, hZ, hb0⟩ := b3_two w t p r 25
        go_enter Try.func10, Try.ntmps10
        go_wp2_with fail
        generalize (w.alloc (.cells #[.int .i64 t, .int .i64 p, .int .i64 r] 25)).alloc (.cells #[.int .i64 0, .int .i64 0, .int .i64 0] 25) = W at *
        obtain ⟨bx, hbx⟩ : ∃ b, b = w.heap.size := ⟨_, rfl⟩
        rw [← hbx] at hX hZ
        simp only [← hbx]
        have hle : w.heap.size ≤ bx + 1 := by omega
        clear hbx
        refine (toothG_any t p r).mono ?_
        rintro e w1 ⟨rfl, hb1⟩
        rw [HG.out]
        replace hX := hX.below hb1
        replace hZ := hZ.below hb1
        replace hb0 := bstep hb0 hb1
        clear hb1
        obtain ⟨-, ⟨x0, x1, x2⟩, -⟩ := id hX
        obtain ⟨-, ⟨y0, y1, y2⟩, yf⟩ := id hZ
        have yf0 := yf 0
        have yf1 := yf 1
        have yf2 := yf 2
        obtain ⟨⟨-, ⟨z0, z1, z2⟩, -⟩, q1, q2⟩ := b3_all hZ (t + 7) (p - 1) (r)
        have hb5 := wrS_below hb0 hle (t + 7) (p - 1) (r)
        unfold wrS at z0 z1 z2 hb5
        clear hX hZ hb0
        go_wp2
        exact bodyPost_ret (v := .tuple #[.agg #[.int .i64 (t + 7), .int .i64 (p - 1), .int .i64 (r)], .bool true]) (by simp [results, Try.results10, go_sem, z0, z1, z2]) rfl ⟨by rw [HR.out], hb5⟩
      · have HR := Lib.hid (tipA_no (t := t) (p := p) (r := r) fun q => h2 (by have := q.2.2; omega))
        clear hp h1
        obtain ⟨hX, hZ, hb0⟩ := b3_two w t p r 25
        go_enter Try.func10, Try.ntmps10
        go_wp2_with fail
        generalize (w.alloc (.cells #[.int .i64 t, .int .i64 p, .int .i64 r] 25)).alloc (.cells #[.int .i64 0, .int .i64 0, .int .i64 0] 25) = W at *
        obtain ⟨bx, hbx⟩ : ∃ b, b = w.heap.size := ⟨_, rfl⟩
        rw [← hbx] at hX hZ
        simp only [← hbx]
        have hle : w.heap.size ≤ bx + 1 := by omega
        clear hbx
        refine (toothG_any t p r).mono ?_
        rintro e w1 ⟨rfl, hb1⟩
        rw [HG.out]
        replace hX := hX.below hb1
        replace hZ := hZ.below hb1
        replace hb0 := bstep hb0 hb1
        clear hb1
        obtain ⟨-, ⟨x0, x1, x2⟩, -⟩ := id hX
        obtain ⟨-, ⟨y0, y1, y2⟩, yf⟩ := id hZ
        have yf0 := yf 0
        have yf1 := yf 1
        have yf2 := yf 2
        obtain ⟨⟨-, ⟨z0, z1, z2⟩, -⟩, q1, q2⟩ := b3_all hZ (t) (p) (r)
        have hb5 := wrS_below hb0 hle (t) (p) (r)
        unfold wrS at z0 z1 z2 hb5
        clear hX hZ hb0
        go_wp2
        exact bodyPost_ret (v := .tuple #[.agg #[.int .i64 (t), .int .i64 (p), .int .i64 (r)], .bool false]) (by simp [results, Try.results10, go_sem, z0, z1, z2]) rfl ⟨by rw [HR.out], hb5⟩
  · have HG : Hid (tooB t p r = false) := Lib.hid (by simpa using hs)
    have HR := Lib.hid (tipA_no (t := t) (p := p) (r := r) fun q => tooB_false.1 HG.out q.1)
    clear hs
    obtain ⟨hX, hZ, hb0⟩ := b3_two w t p r 25
    go_enter Try.func10, Try.ntmps10
    go_wp2_with fail
    generalize (w.alloc (.cells #[.int .i64 t, .int .i64 p, .int .i64 r] 25)).alloc (.cells #[.int .i64 0, .int .i64 0, .int .i64 0] 25) = W at *
    obtain ⟨bx, hbx⟩ : ∃ b, b = w.heap.size := ⟨_, rfl⟩
    rw [← hbx] at hX hZ
    simp only [← hbx]
    have hle : w.heap.size ≤ bx + 1 := by omega
    clear hbx
    refine (toothG_any t p r).mono ?_
    rintro e w1 ⟨rfl, hb1⟩
    rw [HG.out]
    replace hX := hX.below hb1
    replace hZ := hZ.below hb1
    replace hb0 := bstep hb0 hb1
    clear hb1
    obtain ⟨-, ⟨x0, x1, x2⟩, -⟩ := id hX
    obtain ⟨-, ⟨y0, y1, y2⟩, yf⟩ := id hZ
    have yf0 := yf 0
    have yf1 := yf 1
    have yf2 := yf 2
    obtain ⟨⟨-, ⟨z0, z1, z2⟩, -⟩, q1, q2⟩ := b3_all hZ (t) (p) (r)
    have hb5 := wrS_below hb0 hle (t) (p) (r)
    unfold wrS at z0 z1 z2 hb5
    clear hX hZ hb0
    go_wp2
    exact bodyPost_ret (v := .tuple #[.agg #[.int .i64 (t), .int .i64 (p), .int .i64 (r)], .bool false]) (by simp [results, Try.results10, go_sem, z0, z1, z2]) rfl ⟨by rw [HR.out], hb5⟩

set_option maxHeartbeats 2000000 in
theorem rootG_any {w : World} (t p r : Int) :
    Calls Try.prog 13 #[.agg #[.int .i64 t, .int .i64 p, .int .i64 r]] w (TooAns w (rootA t p r)) := by
  by_cases hs : tooB t p r = true
  · have HG := Lib.hid hs
    have hp := tooB_true.1 hs
    clear hs
    by_cases h1 : r = 0
    · have HR := Lib.hid (rootA_no (t := t) (p := p) (r := r) fun q => q.2.1 h1)
      have hq : (r == 0) = true := by rw [beq_iff_eq]; exact h1
      clear hp h1
      obtain ⟨hX, hZ, hb0⟩ := b3_two w t p r 25
      go_enter Try.func13, Try.ntmps13
      go_wp2_with fail
      generalize (w.alloc (.cells #[.int .i64 t, .int .i64 p, .int .i64 r] 25)).alloc (.cells #[.int .i64 0, .int .i64 0, .int .i64 0] 25) = W at *
      obtain ⟨bx, hbx⟩ : ∃ b, b = w.heap.size := ⟨_, rfl⟩
      rw [← hbx] at hX hZ
      simp only [← hbx]
      have hle : w.heap.size ≤ bx + 1 := by omega
      clear hbx
      refine (toothG_any t p r).mono ?_
      rintro e w1 ⟨rfl, hb1⟩
      rw [HG.out]
      replace hX := hX.below hb1
      replace hZ := hZ.below hb1
      replace hb0 := bstep hb0 hb1
      clear hb1
      obtain ⟨-, ⟨x0, x1, x2⟩, -⟩ := id hX
      obtain ⟨-, ⟨y0, y1, y2⟩, yf⟩ := id hZ
      have yf0 := yf 0
      have yf1 := yf 1
      have yf2 := yf 2
      obtain ⟨⟨-, ⟨z0, z1, z2⟩, -⟩, q1, q2⟩ := b3_all hZ (t) (p) (r)
      have hb5 := wrS_below hb0 hle (t) (p) (r)
      unfold wrS at z0 z1 z2 hb5
      clear hX hZ hb0
      go_wp2
      exact bodyPost_ret (v := .tuple #[.agg #[.int .i64 (t), .int .i64 (p), .int .i64 (r)], .bool false]) (by simp [results, Try.results13, go_sem, z0, z1, z2]) rfl ⟨by rw [HR.out], hb5⟩
    · have hq : (r == 0) = false := by rw [beq_eq_false_iff_ne]; exact h1
      obtain ⟨⟨ht0, ht1⟩, ⟨hp0, hp1⟩, hr0, hr1⟩ := id hp
      have e1 : IntKind.i64.wrap (t - 11) = t - 11 := IntWalk.i64_in _ (by omega)
      have e2 : IntKind.i64.wrap (r - 1) = r - 1 := IntWalk.i64_in _ (by omega)
      by_cases h2 : 11 ≤ t
      · have HR := Lib.hid (rootA_yes (t := t) (p := p) (r := r) ⟨hp, h1, by omega⟩)
        clear hp h1
        obtain ⟨hX, hZ, hb0⟩ := b3_two w t p r 25
        go_enter Try.func13, Try.ntmps13
        go_wp2_with fail
        generalize (w.alloc (.cells #[.int .i64 t, .int .i64 p, .int .i64 r] 25)).alloc (.cells #[.int .i64 0, .int .i64 0, .int .i64 0] 25) = W at *
        obtain ⟨bx, hbx⟩ : ∃ b, b = w.heap.size := ⟨_, rfl⟩
        rw [← hbx] at hX hZ
        simp only [← hbx]
        have hle : w.heap.size ≤ bx + 1 := by omega
        clear hbx
        refine (toothG_any t p r).mono ?_
        rintro e w1 ⟨rfl, hb1⟩
        rw [HG.out]
        replace hX := hX.below hb1
        replace hZ := hZ.below hb1
        replace hb0 := bstep hb0 hb1
        clear hb1
        obtain ⟨-, ⟨x0, x1, x2⟩, -⟩ := id hX
        obtain ⟨-, ⟨y0, y1, y2⟩, yf⟩ := id hZ
        have yf0 := yf 0
        have yf1 := yf 1
        have yf2 := yf 2
        obtain ⟨⟨-, ⟨z0, z1, z2⟩, -⟩, q1, q2⟩ := b3_all hZ (t - 11) (p) (r - 1)
        have hb5 := wrS_below hb0 hle (t - 11) (p) (r - 1)
        unfold wrS at z0 z1 z2 hb5
        clear hX hZ hb0
        go_wp2
        exact bodyPost_ret (v := .tuple #[.agg #[.int .i64 (t - 11), .int .i64 (p), .int .i64 (r - 1)], .bool true]) (by simp [results, Try.results13, go_sem, z0, z1, z2]) rfl ⟨by rw [HR.out], hb5⟩
      · have HR := Lib.hid (rootA_no (t := t) (p := p) (r := r) fun q => h2 (by have := q.2.2; omega))
        clear hp h1
        obtain ⟨hX, hZ, hb0⟩ := b3_two w t p r 25
        go_enter Try.func13, Try.ntmps13
        go_wp2_with fail
        generalize (w.alloc (.cells #[.int .i64 t, .int .i64 p, .int .i64 r] 25)).alloc (.cells #[.int .i64 0, .int .i64 0, .int .i64 0] 25) = W at *
        obtain ⟨bx, hbx⟩ : ∃ b, b = w.heap.size := ⟨_, rfl⟩
        rw [← hbx] at hX hZ
        simp only [← hbx]
        have hle : w.heap.size ≤ bx + 1 := by omega
        clear hbx
        refine (toothG_any t p r).mono ?_
        rintro e w1 ⟨rfl, hb1⟩
        rw [HG.out]
        replace hX := hX.below hb1
        replace hZ := hZ.below hb1
        replace hb0 := bstep hb0 hb1
        clear hb1
        obtain ⟨-, ⟨x0, x1, x2⟩, -⟩ := id hX
        obtain ⟨-, ⟨y0, y1, y2⟩, yf⟩ := id hZ
        have yf0 := yf 0
        have yf1 := yf 1
        have yf2 := yf 2
        obtain ⟨⟨-, ⟨z0, z1, z2⟩, -⟩, q1, q2⟩ := b3_all hZ (t) (p) (r)
        have hb5 := wrS_below hb0 hle (t) (p) (r)
        unfold wrS at z0 z1 z2 hb5
        clear hX hZ hb0
        go_wp2
        exact bodyPost_ret (v := .tuple #[.agg #[.int .i64 (t), .int .i64 (p), .int .i64 (r)], .bool false]) (by simp [results, Try.results13, go_sem, z0, z1, z2]) rfl ⟨by rw [HR.out], hb5⟩
  · have HG : Hid (tooB t p r = false) := Lib.hid (by simpa using hs)
    have HR := Lib.hid (rootA_no (t := t) (p := p) (r := r) fun q => tooB_false.1 HG.out q.1)
    clear hs
    obtain ⟨hX, hZ, hb0⟩ := b3_two w t p r 25
    go_enter Try.func13, Try.ntmps13
    go_wp2_with fail
    generalize (w.alloc (.cells #[.int .i64 t, .int .i64 p, .int .i64 r] 25)).alloc (.cells #[.int .i64 0, .int .i64 0, .int .i64 0] 25) = W at *
    obtain ⟨bx, hbx⟩ : ∃ b, b = w.heap.size := ⟨_, rfl⟩
    rw [← hbx] at hX hZ
    simp only [← hbx]
    have hle : w.heap.size ≤ bx + 1 := by omega
    clear hbx
    refine (toothG_any t p r).mono ?_
    rintro e w1 ⟨rfl, hb1⟩
    rw [HG.out]
    replace hX := hX.below hb1
    replace hZ := hZ.below hb1
    replace hb0 := bstep hb0 hb1
    clear hb1
    obtain ⟨-, ⟨x0, x1, x2⟩, -⟩ := id hX
    obtain ⟨-, ⟨y0, y1, y2⟩, yf⟩ := id hZ
    have yf0 := yf 0
    have yf1 := yf 1
    have yf2 := yf 2
    obtain ⟨⟨-, ⟨z0, z1, z2⟩, -⟩, q1, q2⟩ := b3_all hZ (t) (p) (r)
    have hb5 := wrS_below hb0 hle (t) (p) (r)
    unfold wrS at z0 z1 z2 hb5
    clear hX hZ hb0
    go_wp2
    exact bodyPost_ret (v := .tuple #[.agg #[.int .i64 (t), .int .i64 (p), .int .i64 (r)], .bool false]) (by simp [results, Try.results13, go_sem, z0, z1, z2]) rfl ⟨by rw [HR.out], hb5⟩

set_option maxHeartbeats 4000000 in
theorem clG_any {w : World} (t p r n : Int) :
    Calls Try.prog 15 #[.agg #[.int .i64 t, .int .i64 p, .int .i64 r], .int .i64 n] w fun e w' => e = .returned (.int .i64 (clM t p r n)) ∧ Below w.heap.size w w' := by
  have hb0 : Below w.heap.size w (w.alloc (.cells #[.int .i64 t, .int .i64 p, .int .i64 r] 25)) := (Below.refl _ _).alloc (Nat.le_refl _) _
  have hX := b3_new w t p r 25
  by_cases hs : tooB t p r = true
  · have HG := Lib.hid hs
    have hp := tooB_true.1 hs
    clear hs
    by_cases hn : 0 ≤ n ∧ n ≤ 6000
    · have HY := Lib.hid (fun c q => clM_is (t := t) (p := p) (r := r) (n := n) (c := c) hp hn q)
      have HN := Lib.hid hn
      have HS := Lib.hid (best_start (n := n) hp)
      obtain ⟨⟨ht0, ht1⟩, ⟨hp0, hp1⟩, hr0, hr1⟩ := hp
      obtain ⟨hn0, hn1⟩ := hn
      generalize clM t p r n = R at *
      go_enter Try.func15, Try.ntmps15
      go_wp2_with fail
      generalize (w.alloc (.cells #[.int .i64 t, .int .i64 p, .int .i64 r] 25)) = W at *
      obtain ⟨bx, hbx⟩ : ∃ b, b = w.heap.size := ⟨_, rfl⟩
      rw [← hbx] at hX
      simp only [← hbx]
      clear hbx
      refine (toothG_any t p r).mono ?_
      rintro e w1 ⟨rfl, hb1⟩
      rw [HG.out]
      replace hX := hX.below hb1
      replace hb0 := bstep hb0 hb1
      clear hb1
      go_wp2_with fail
      refine (in_yes _ _ _ HN.out _).mono ?_
      rintro e w2 ⟨rfl, rfl⟩
      obtain ⟨-, ⟨x0, x1, x2⟩, -⟩ := id hX
      go_wp2_with fail
      clear x0 x1 x2
      go_loopw [5, 6] (fun v5 v6 wr => ∃ A best : Int, 0 ≤ A ∧ A ≤ p + 1 ∧ (0 ≤ best ∧ best ≤ 6000) ∧ v5 = .int .i64 best ∧ v6 = .int .i64 A ∧ Hid (BestP t p r n A 0 best) ∧ B3 wr bx t p r ∧ Below w.heap.size w wr) (fun _ v6 _ => (p + 1 - intOf v6).toNat)
      case atStart => exact ⟨0, t, by omega, by omega, ⟨ht0, ht1⟩, rfl, rfl, HS, hX, hb0⟩
      case round =>
        obtain ⟨A, best, hA0, hA1, hbest, rfl, rfl, HI, hB, hbr⟩ := hrel
        clear hX hb0
        obtain ⟨-, ⟨x0, x1, x2⟩, -⟩ := id hB
        by_cases hlt : A ≤ p
        · have ewA : IntKind.i64.wrap (A + 1) = A + 1 := IntWalk.i64_in _ (by omega)
          have e2 : IntKind.i64.wrap (7 * A) = 7 * A := IntWalk.i64_in _ (by omega)
          have e3 : IntKind.i64.wrap (t + 7 * A) = t + 7 * A := IntWalk.i64_in _ (by omega)
          go_wp2_with fail
          clear x0 x1 x2
          go_loopw [5, 7] (fun v5 v7 wx => ∃ B best : Int, 0 ≤ B ∧ B ≤ r + 1 ∧ (0 ≤ best ∧ best ≤ 6000) ∧ v5 = .int .i64 best ∧ v7 = .int .i64 B ∧ Hid (BestP t p r n A B best) ∧ B3 wx bx t p r ∧ Below w.heap.size w wx) (fun _ v7 _ => (r + 1 - intOf v7).toNat)
          case atStart => exact ⟨0, best, by omega, by omega, hbest, rfl, rfl, HI, hB, hbr⟩
          case round =>
            clear hbest HI hB hbr
            obtain ⟨B, best, hB0, hB1, ⟨hb0, hb1⟩, rfl, rfl, HJ, hBx, hbx⟩ := hrel
            obtain ⟨-, ⟨x0, x1, x2⟩, -⟩ := id hBx
            by_cases hla : B ≤ r
            · have ewB : IntKind.i64.wrap (B + 1) = B + 1 := IntWalk.i64_in _ (by omega)
              have e4 : IntKind.i64.wrap (11 * B) = 11 * B := IntWalk.i64_in _ (by omega)
              have e5 : IntKind.i64.wrap (t + 7 * A - 11 * B) = t + 7 * A - 11 * B := IntWalk.i64_in _ (by omega)
              obtain ⟨c, hc⟩ : ∃ c, t + 7 * A - 11 * B = c := ⟨_, rfl⟩
              have HC := Lib.hid hc
              rw [hc] at e5
              have hc0 : -6000 ≤ c ∧ c ≤ 7000 := by omega
              have hcw : IntKind.i64.wrap c = c := e5
              have d1 : IntKind.i64.wrap (c - n) = c - n := IntWalk.i64_in _ (by omega)
              have d2 : IntKind.i64.wrap (n - c) = n - c := IntWalk.i64_in _ (by omega)
              have d3 : IntKind.i64.wrap (best - n) = best - n := IntWalk.i64_in _ (by omega)
              have d4 : IntKind.i64.wrap (n - best) = n - best := IntWalk.i64_in _ (by omega)
              have m1 := at_max (c := c) (n := n)
              have m2 := at_max (c := best) (n := n)
              have HT := Lib.hid (fun h1 h2 => best_take (t := t) (p := p) (r := r) (n := n) HJ.out ⟨hA0, hlt⟩ ⟨hB0, hla⟩ HC.out h1 h2)
              have HM := Lib.hid (fun h1 => best_not (t := t) (p := p) (r := r) (n := n) HJ.out HC.out h1)
              have HO := Lib.hid (fun h1 => best_out (t := t) (p := p) (r := r) (n := n) HJ.out HC.out h1)
              generalize farA c n = D at *
              generalize farA best n = E at *
              clear e5
              go_wp2_with fail
              by_cases hi : 0 ≤ c ∧ c ≤ 6000
              · obtain ⟨hi0, hi1⟩ := hi
                refine (in_yes _ _ _ ⟨hi0, hi1⟩ _).mono ?_
                rintro e w2 ⟨rfl, rfl⟩
                by_cases k1 : D < E
                · have HX := Lib.hid (HT.out ⟨hi0, hi1⟩ (Or.inl k1))
                  clear HT HM HO
                  go_wp2
                  go_roundw
                  case rel => exact ⟨B + 1, c, by omega, by omega, ⟨hi0, hi1⟩, by go_num, by go_num, HX, hBx, hbx⟩
                  case measure => simp [intOf]; omega
                · by_cases k2 : D = E
                  · have k2q : (D == E) = true := by rw [beq_iff_eq]; exact k2
                    by_cases k3 : c < best
                    · have HX := Lib.hid (HT.out ⟨hi0, hi1⟩ (Or.inr ⟨k2, k3⟩))
                      clear HT HM HO k2
                      go_wp2
                      go_roundw
                      case rel => exact ⟨B + 1, c, by omega, by omega, ⟨hi0, hi1⟩, by go_num, by go_num, HX, hBx, hbx⟩
                      case measure => simp [intOf]; omega
                    · have HX := Lib.hid (HM.out (by omega))
                      clear HT HM HO k2
                      go_wp2
                      go_roundw
                      case rel => exact ⟨B + 1, best, by omega, by omega, ⟨hb0, hb1⟩, by go_num, by go_num, HX, hBx, hbx⟩
                      case measure => simp [intOf]; omega
                  · have k2q : (D == E) = false := by rw [beq_eq_false_iff_ne]; exact k2
                    have HX := Lib.hid (HM.out (by omega))
                    clear HT HM HO k2
                    go_wp2
                    go_roundw
                    case rel => exact ⟨B + 1, best, by omega, by omega, ⟨hb0, hb1⟩, by go_num, by go_num, HX, hBx, hbx⟩
                    case measure => simp [intOf]; omega
              · refine (in_no _ _ _ hi _).mono ?_
                rintro e w2 ⟨rfl, rfl⟩
                have HX := Lib.hid (HO.out hi)
                clear HT HM HO hi
                go_wp2
                go_roundw
                case rel => exact ⟨B + 1, best, by omega, by omega, ⟨hb0, hb1⟩, by go_num, by go_num, HX, hBx, hbx⟩
                case measure => simp [intOf]; omega
            · have HX : Hid (BestP t p r n (A + 1) 0 best) := Lib.hid (best_row (by rw [show r + 1 = B by omega]; exact HJ.out))
              go_wp2
              go_roundw
              case rel => exact ⟨A + 1, best, by omega, by omega, ⟨hb0, hb1⟩, by go_num, by go_num, HX, hBx, hbx⟩
              case measure => simp [intOf]; omega
        · have HR := Lib.hid (HY.out best (best_end (by rw [show p + 1 = A by omega]; exact HI.out)))
          go_wp2
          go_ret
          exact ⟨by rw [HR.out]; rfl, hbr⟩
    · have HR := Lib.hid (clM_no (t := t) (p := p) (r := r) (n := n) fun q => hn q.2)
      clear hp
      go_enter Try.func15, Try.ntmps15
      go_wp2_with fail
      refine (toothG_any t p r).mono ?_
      rintro e w1 ⟨rfl, hb1⟩
      rw [HG.out]
      have g1 := bstep hb0 hb1
      clear hX hb0 hb1
      go_wp2_with fail
      refine (in_no _ _ _ hn _).mono ?_
      rintro e w2 ⟨rfl, rfl⟩
      go_wp2
      go_ret
      exact ⟨by rw [HR.out]; rfl, g1⟩
  · have HG : Hid (tooB t p r = false) := Lib.hid (by simpa using hs)
    have HR := Lib.hid (clM_no (t := t) (p := p) (r := r) (n := n) fun q => tooB_false.1 HG.out q.1)
    clear hs
    go_enter Try.func15, Try.ntmps15
    go_wp2_with fail
    refine (toothG_any t p r).mono ?_
    rintro e w1 ⟨rfl, hb1⟩
    rw [HG.out]
    have g1 := bstep hb0 hb1
    clear hX hb0 hb1
    go_wp2
    go_ret
    exact ⟨by rw [HR.out]; rfl, g1⟩

end Go.Proofs.Ytfkjaofepilnkaa
