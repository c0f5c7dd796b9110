/- The contracts of the program's chapter 15, but for StepsTo: toneOk, filesOk, ToothOk, filed, tryFiling, FileTip, FileRoot, isCloserTone, ClosestTone. No condition. Made by gen_fileimpl.py. -/
import Derived.Test.YtfkjaofepilnkaaDoorFileKit
namespace Go.Proofs.YtfkjaofepilnkaaDoor
open Go.ChangeShapes Go.WideShapes Go.ChangeAt Go.RowKit

theorem tone_yes {w : World} (n : Int) (h : 0 ≤ n ∧ n ≤ 6000) : Calls Tryd.prog 18 #[.int .i64 n] w fun e w' => e = .returned (.bool true) ∧ w = w' := by
  obtain ⟨h0, h1⟩ := h
  go_enter Tryd.func18, Tryd.ntmps18
  go_wp2
  go_ret
  exact ⟨rfl, rfl⟩
theorem tone_no {w : World} (n : Int) (h : ¬ (0 ≤ n ∧ n ≤ 6000)) : Calls Tryd.prog 18 #[.int .i64 n] w fun e w' => e = .returned (.bool false) ∧ w = w' := by
  by_cases h0 : 0 ≤ n
  · have h1 : ¬ n ≤ 6000 := by omega
    go_enter Tryd.func18, Tryd.ntmps18
    go_wp2
    go_ret
    exact ⟨rfl, rfl⟩
  · go_enter Tryd.func18, Tryd.ntmps18
    go_wp2
    go_ret
    exact ⟨rfl, rfl⟩

theorem files_yes {w : World} (n : Int) (h : 0 ≤ n ∧ n ≤ 20) : Calls Tryd.prog 23 #[.int .i64 n] w fun e w' => e = .returned (.bool true) ∧ w = w' := by
  obtain ⟨h0, h1⟩ := h
  go_enter Tryd.func23, Tryd.ntmps23
  go_wp2
  go_ret
  exact ⟨rfl, rfl⟩
theorem files_no {w : World} (n : Int) (h : ¬ (0 ≤ n ∧ n ≤ 20)) : Calls Tryd.prog 23 #[.int .i64 n] w fun e w' => e = .returned (.bool false) ∧ w = w' := by
  by_cases h0 : 0 ≤ n
  · have h1 : ¬ n ≤ 20 := by omega
    go_enter Tryd.func23, Tryd.ntmps23
    go_wp2
    go_ret
    exact ⟨rfl, rfl⟩
  · go_enter Tryd.func23, Tryd.ntmps23
    go_wp2
    go_ret
    exact ⟨rfl, rfl⟩

theorem toothI_any {w : World} (t p r : Int) :
    Calls Tryd.prog 12 #[.agg #[.int .i64 t, .int .i64 p, .int .i64 r]] w fun e w' => e = .returned (.bool (tooB t p r)) ∧ Below w.heap.size w w' := by
  have hb0 : Below w.heap.size w (w.alloc (.cells #[.int .i64 t, .int .i64 p, .int .i64 r] 25)) := (Below.refl _ _).alloc (Nat.le_refl _) _
  by_cases h1 : 0 ≤ t ∧ t ≤ 6000
  · by_cases h2 : 0 ≤ p ∧ p ≤ 20
    · by_cases h3 : 0 ≤ r ∧ r ≤ 20
      · have HG : Hid (tooB t p r = true) := Lib.hid (tooB_true.2 ⟨h1, h2, h3⟩)
        go_enter Tryd.func12, Tryd.ntmps12
        go_wp2_with fail
        refine (tone_yes t h1).mono ?_
        rintro e w1 ⟨rfl, rfl⟩
        go_wp2_with fail
        refine (files_yes p h2).mono ?_
        rintro e w1 ⟨rfl, rfl⟩
        go_wp2_with fail
        refine (files_yes r h3).mono ?_
        rintro e w1 ⟨rfl, rfl⟩
        go_wp2
        go_ret
        exact ⟨by rw [HG.out]; rfl, hb0⟩
      · have HG : Hid (tooB t p r = false) := Lib.hid (tooB_false.2 fun k => h3 k.2.2)
        go_enter Tryd.func12, Tryd.ntmps12
        go_wp2_with fail
        refine (tone_yes t h1).mono ?_
        rintro e w1 ⟨rfl, rfl⟩
        go_wp2_with fail
        refine (files_yes p h2).mono ?_
        rintro e w1 ⟨rfl, rfl⟩
        go_wp2_with fail
        refine (files_no r h3).mono ?_
        rintro e w1 ⟨rfl, rfl⟩
        go_wp2
        go_ret
        exact ⟨by rw [HG.out]; rfl, hb0⟩
    · have HG : Hid (tooB t p r = false) := Lib.hid (tooB_false.2 fun k => h2 k.2.1)
      go_enter Tryd.func12, Tryd.ntmps12
      go_wp2_with fail
      refine (tone_yes t h1).mono ?_
      rintro e w1 ⟨rfl, rfl⟩
      go_wp2_with fail
      refine (files_no p h2).mono ?_
      rintro e w1 ⟨rfl, rfl⟩
      go_wp2
      go_ret
      exact ⟨by rw [HG.out]; rfl, hb0⟩
  · have HG : Hid (tooB t p r = false) := Lib.hid (tooB_false.2 fun k => h1 k.1)
    go_enter Tryd.func12, Tryd.ntmps12
    go_wp2_with fail
    refine (tone_no t h1).mono ?_
    rintro e w1 ⟨rfl, rfl⟩
    go_wp2
    go_ret
    exact ⟨by rw [HG.out]; rfl, hb0⟩

def filT (t a b : Int) : Int := wrap64 (wrap64 (t + wrap64 (a * 7)) - wrap64 (b * 11))
def filN (p a : Int) : Int := wrap64 (p - a)
theorem filT_is {t a b : Int} (ht : -100000 ≤ t ∧ t ≤ 100000) (ha : 0 ≤ a ∧ a ≤ 100) (hb : 0 ≤ b ∧ b ≤ 100) : filT t a b = t + 7 * a - 11 * b := by
  unfold filT wrap64; omega
theorem filN_is {p a : Int} (hp : -1000 ≤ p ∧ p ≤ 1000) (ha : 0 ≤ a ∧ a ≤ 100) : filN p a = p - a := by
  unfold filN wrap64; omega
set_option maxHeartbeats 1000000 in
theorem filed_any {w : World} (t p r a b : Int) :
    Calls Tryd.prog 21 #[.agg #[.int .i64 t, .int .i64 p, .int .i64 r], .int .i64 a, .int .i64 b] w fun e w' => e = .returned (.agg #[.int .i64 (filT t a b), .int .i64 (filN p a), .int .i64 (filN r b)]) ∧ Below w.heap.size w w' := by
  have hb0 : Below w.heap.size w (w.alloc (.cells #[.int .i64 t, .int .i64 p, .int .i64 r] 25)) := (Below.refl _ _).alloc (Nat.le_refl _) _
  go_enter Tryd.func21, Tryd.ntmps21
  go_wp2
  exact bodyPost_ret (v := .agg #[.int .i64 (filT t a b), .int .i64 (filN p a), .int .i64 (filN r b)]) (by simp [results, Tryd.results21, go_sem, filT, filN]) rfl ⟨rfl, hb0.alloc hb0.size _⟩

/-- The answer of tryFiling. -/
def tryA (t p r a b : Int) : Int × Int × Int × Bool := if ToothP t p r ∧ ToothP (t + 7 * a - 11 * b) (p - a) (r - b) then (t + 7 * a - 11 * b, p - a, r - b, true) else (t, p, r, false)
theorem tryA_tip {t p r : Int} : tryA t p r 1 0 = tipA t p r := by
  unfold tryA tipA
  by_cases h : ToothP t p r
  · by_cases k : TipP t p r
    · rw [if_pos k, if_pos ⟨h, by have := (tip_iff h).1 k; simpa using this⟩]
      simp
    · rw [if_neg k, if_neg fun q => k ((tip_iff h).2 (by have := q.2; simpa using this))]
  · rw [if_neg fun q => h q.1, if_neg fun q => h q.1]
theorem tryA_root {t p r : Int} : tryA t p r 0 1 = rootA t p r := by
  unfold tryA rootA
  by_cases h : ToothP t p r
  · by_cases k : RootP t p r
    · rw [if_pos k, if_pos ⟨h, by have := (root_iff h).1 k; simpa using this⟩]
      simp
    · rw [if_neg k, if_neg fun q => k ((root_iff h).2 (by have := q.2; simpa using this))]
  · rw [if_neg fun q => h q.1, if_neg fun q => h q.1]
set_option maxHeartbeats 2000000 in
theorem try_any {w : World} (t p r a b : Int) (ha : 0 ≤ a ∧ a ≤ 100) (hb : 0 ≤ b ∧ b ≤ 100) :
    Calls Tryd.prog 17 #[.agg #[.int .i64 t, .int .i64 p, .int .i64 r], .int .i64 a, .int .i64 b] w (TooAns w (tryA t p r a b)) := by
  by_cases hs : tooB t p r = true
  · have HG := Lib.hid hs
    have hp := tooB_true.1 hs
    obtain ⟨⟨ht0, ht1⟩, ⟨hp0, hp1⟩, hr0, hr1⟩ := id hp
    have f1 := filT_is (t := t) (a := a) (b := b) (by omega) ha hb
    have f2 := filN_is (p := p) (a := a) (by omega) ha
    have f3 := filN_is (p := r) (a := b) (by omega) hb
    by_cases hk : ToothP (t + 7 * a - 11 * b) (p - a) (r - b)
    · have HR : Hid (tryA t p r a b = (filT t a b, filN p a, filN r b, true)) := Lib.hid (by rw [f1, f2, f3]; exact if_pos ⟨hp, hk⟩)
      have HK : Hid (tooB (filT t a b) (filN p a) (filN r b) = true) := Lib.hid (by rw [f1, f2, f3]; exact tooB_true.2 hk)
      clear hs hp hk f1 f2 f3
      obtain ⟨hX, hZ, hb0⟩ := b3_two w t p r 25
      go_enter Tryd.func17, Tryd.ntmps17
      go_wp2_with fail
      generalize (w.alloc (.cells #[.int .i64 t, .int .i64 p, .int .i64 r] 25)).alloc (.cells #[.int .i64 0, .int .i64 0, .int .i64 0] 25) = W at *
      obtain ⟨bx, hbx⟩ : ∃ b, b = w.heap.size := ⟨_, rfl⟩
      rw [← hbx] at hX hZ
      simp only [← hbx]
      have hle : w.heap.size ≤ bx + 1 := by omega
      clear hbx
      refine (filed_any t p r a b).mono ?_
      rintro e w1 ⟨rfl, hb1⟩
      replace hX := hX.below hb1
      replace hZ := hZ.below hb1
      replace hb0 := bstep hb0 hb1
      clear hb1
      have kA : Below w1.heap.size w1 (w1.alloc (.cells #[.int .i64 (filT t a b), .int .i64 (filN p a), .int .i64 (filN r b)] 25)) := (Below.refl _ _).alloc (Nat.le_refl _) _
      have hC := b3_new w1 (filT t a b) (filN p a) (filN r b) 25
      replace hX := hX.below kA
      replace hZ := hZ.below kA
      replace hb0 := bstep hb0 kA
      clear kA
      obtain ⟨-, ⟨x0, x1, x2⟩, -⟩ := id hX
      go_wp2_with fail
      clear x0 x1 x2
      generalize (w1.alloc (.cells #[.int .i64 (filT t a b), .int .i64 (filN p a), .int .i64 (filN r b)] 25)) = W2 at *
      generalize w1.heap.size = bc at *
      refine (toothI_any t p r).mono ?_
      rintro e w2 ⟨rfl, hb1⟩
      rw [HG.out]
      replace hX := hX.below hb1
      replace hZ := hZ.below hb1
      replace hC := hC.below hb1
      replace hb0 := bstep hb0 hb1
      clear hb1
      generalize filT t a b = u at *
      generalize filN p a = v at *
      generalize filN r b = x at *
      obtain ⟨-, ⟨c0, c1, c2⟩, -⟩ := id hC
      go_wp2_with fail
      refine (toothI_any _ _ _).mono ?_
      rintro e w3 ⟨rfl, hb1⟩
      rw [HK.out]
      replace hX := hX.below hb1
      replace hZ := hZ.below hb1
      replace hC := hC.below hb1
      replace hb0 := bstep hb0 hb1
      clear hb1 c0 c1 c2
      obtain ⟨-, ⟨x0, x1, x2⟩, -⟩ := id hX
      obtain ⟨-, ⟨c0, c1, c2⟩, -⟩ := id hC
      obtain ⟨-, ⟨y0, y1, y2⟩, yf⟩ := id hZ
      have yf0 := yf 0
      have yf1 := yf 1
      have yf2 := yf 2
      obtain ⟨⟨-, ⟨z0, z1, z2⟩, -⟩, q1, q2⟩ := b3_all hZ (u) (v) (x)
      have hb5 := wrS_below hb0 hle (u) (v) (x)
      unfold wrS at z0 z1 z2 hb5
      clear hX hZ hC hb0
      go_wp2
      exact bodyPost_ret (v := .tuple #[.agg #[.int .i64 (u), .int .i64 (v), .int .i64 (x)], .bool true]) (by simp [results, Tryd.results17, go_sem, z0, z1, z2]) rfl ⟨by rw [HR.out], hb5⟩
    · have HR : Hid (tryA t p r a b = (t, p, r, false)) := Lib.hid (if_neg fun q => hk q.2)
      have HK : Hid (tooB (filT t a b) (filN p a) (filN r b) = false) := Lib.hid (by rw [f1, f2, f3]; exact tooB_false.2 hk)
      clear hs hp hk f1 f2 f3
      obtain ⟨hX, hZ, hb0⟩ := b3_two w t p r 25
      go_enter Tryd.func17, Tryd.ntmps17
      go_wp2_with fail
      generalize (w.alloc (.cells #[.int .i64 t, .int .i64 p, .int .i64 r] 25)).alloc (.cells #[.int .i64 0, .int .i64 0, .int .i64 0] 25) = W at *
      obtain ⟨bx, hbx⟩ : ∃ b, b = w.heap.size := ⟨_, rfl⟩
      rw [← hbx] at hX hZ
      simp only [← hbx]
      have hle : w.heap.size ≤ bx + 1 := by omega
      clear hbx
      refine (filed_any t p r a b).mono ?_
      rintro e w1 ⟨rfl, hb1⟩
      replace hX := hX.below hb1
      replace hZ := hZ.below hb1
      replace hb0 := bstep hb0 hb1
      clear hb1
      have kA : Below w1.heap.size w1 (w1.alloc (.cells #[.int .i64 (filT t a b), .int .i64 (filN p a), .int .i64 (filN r b)] 25)) := (Below.refl _ _).alloc (Nat.le_refl _) _
      have hC := b3_new w1 (filT t a b) (filN p a) (filN r b) 25
      replace hX := hX.below kA
      replace hZ := hZ.below kA
      replace hb0 := bstep hb0 kA
      clear kA
      obtain ⟨-, ⟨x0, x1, x2⟩, -⟩ := id hX
      go_wp2_with fail
      clear x0 x1 x2
      generalize (w1.alloc (.cells #[.int .i64 (filT t a b), .int .i64 (filN p a), .int .i64 (filN r b)] 25)) = W2 at *
      generalize w1.heap.size = bc at *
      refine (toothI_any t p r).mono ?_
      rintro e w2 ⟨rfl, hb1⟩
      rw [HG.out]
      replace hX := hX.below hb1
      replace hZ := hZ.below hb1
      replace hC := hC.below hb1
      replace hb0 := bstep hb0 hb1
      clear hb1
      generalize filT t a b = u at *
      generalize filN p a = v at *
      generalize filN r b = x at *
      obtain ⟨-, ⟨c0, c1, c2⟩, -⟩ := id hC
      go_wp2_with fail
      refine (toothI_any _ _ _).mono ?_
      rintro e w3 ⟨rfl, hb1⟩
      rw [HK.out]
      replace hX := hX.below hb1
      replace hZ := hZ.below hb1
      replace hC := hC.below hb1
      replace hb0 := bstep hb0 hb1
      clear hb1 c0 c1 c2
      obtain ⟨-, ⟨x0, x1, x2⟩, -⟩ := id hX
      obtain ⟨-, ⟨c0, c1, c2⟩, -⟩ := id hC
      obtain ⟨-, ⟨y0, y1, y2⟩, yf⟩ := id hZ
      have yf0 := yf 0
      have yf1 := yf 1
      have yf2 := yf 2
      obtain ⟨⟨-, ⟨z0, z1, z2⟩, -⟩, q1, q2⟩ := b3_all hZ (t) (p) (r)
      have hb5 := wrS_below hb0 hle (t) (p) (r)
      unfold wrS at z0 z1 z2 hb5
      clear hX hZ hC hb0
      go_wp2
      exact bodyPost_ret (v := .tuple #[.agg #[.int .i64 (t), .int .i64 (p), .int .i64 (r)], .bool false]) (by simp [results, Tryd.results17, go_sem, z0, z1, z2]) rfl ⟨by rw [HR.out], hb5⟩
  · have HG : Hid (tooB t p r = false) := Lib.hid (by simpa using hs)
    have HR : Hid (tryA t p r a b = (t, p, r, false)) := Lib.hid (if_neg fun q => tooB_false.1 HG.out q.1)
    clear hs
    obtain ⟨hX, hZ, hb0⟩ := b3_two w t p r 25
    go_enter Tryd.func17, Tryd.ntmps17
    go_wp2_with fail
    generalize (w.alloc (.cells #[.int .i64 t, .int .i64 p, .int .i64 r] 25)).alloc (.cells #[.int .i64 0, .int .i64 0, .int .i64 0] 25) = W at *
    obtain ⟨bx, hbx⟩ : ∃ b, b = w.heap.size := ⟨_, rfl⟩
    rw [← hbx] at hX hZ
    simp only [← hbx]
    have hle : w.heap.size ≤ bx + 1 := by omega
    clear hbx
    refine (filed_any t p r a b).mono ?_
    rintro e w1 ⟨rfl, hb1⟩
    replace hX := hX.below hb1
    replace hZ := hZ.below hb1
    replace hb0 := bstep hb0 hb1
    clear hb1
    have kA : Below w1.heap.size w1 (w1.alloc (.cells #[.int .i64 (filT t a b), .int .i64 (filN p a), .int .i64 (filN r b)] 25)) := (Below.refl _ _).alloc (Nat.le_refl _) _
    have hC := b3_new w1 (filT t a b) (filN p a) (filN r b) 25
    replace hX := hX.below kA
    replace hZ := hZ.below kA
    replace hb0 := bstep hb0 kA
    clear kA
    obtain ⟨-, ⟨x0, x1, x2⟩, -⟩ := id hX
    go_wp2_with fail
    clear x0 x1 x2
    generalize (w1.alloc (.cells #[.int .i64 (filT t a b), .int .i64 (filN p a), .int .i64 (filN r b)] 25)) = W2 at *
    generalize w1.heap.size = bc at *
    refine (toothI_any t p r).mono ?_
    rintro e w2 ⟨rfl, hb1⟩
    rw [HG.out]
    replace hX := hX.below hb1
    replace hZ := hZ.below hb1
    replace hC := hC.below hb1
    replace hb0 := bstep hb0 hb1
    clear hb1
    obtain ⟨-, ⟨x0, x1, x2⟩, -⟩ := id hX
    obtain ⟨-, ⟨c0, c1, c2⟩, -⟩ := id hC
    obtain ⟨-, ⟨y0, y1, y2⟩, yf⟩ := id hZ
    have yf0 := yf 0
    have yf1 := yf 1
    have yf2 := yf 2
    obtain ⟨⟨-, ⟨z0, z1, z2⟩, -⟩, q1, q2⟩ := b3_all hZ (t) (p) (r)
    have hb5 := wrS_below hb0 hle (t) (p) (r)
    unfold wrS at z0 z1 z2 hb5
    clear hX hZ hC hb0
    go_wp2
    exact bodyPost_ret (v := .tuple #[.agg #[.int .i64 (t), .int .i64 (p), .int .i64 (r)], .bool false]) (by simp [results, Tryd.results17, go_sem, z0, z1, z2]) rfl ⟨by rw [HR.out], hb5⟩

set_option maxHeartbeats 1000000 in
theorem tipI_any {w : World} (t p r : Int) :
    Calls Tryd.prog 7 #[.agg #[.int .i64 t, .int .i64 p, .int .i64 r]] w (TooAns w (tipA t p r)) := by
  have HT := Lib.hid (fun W : World => try_any (w := W) t p r 1 0 (by omega) (by omega))
  rw [tryA_tip] at HT
  generalize tipA t p r = R at *
  obtain ⟨hX, hZ, hb0⟩ := b3_two w t p r 25
  go_enter Tryd.func7, Tryd.ntmps7
  go_wp2_with fail
  generalize (w.alloc (.cells #[.int .i64 t, .int .i64 p, .int .i64 r] 25)).alloc (.cells #[.int .i64 0, .int .i64 0, .int .i64 0] 25) = W at *
  obtain ⟨bx, hbx⟩ : ∃ b, b = w.heap.size := ⟨_, rfl⟩
  rw [← hbx] at hX hZ
  simp only [← hbx]
  have hle : w.heap.size ≤ bx + 1 := by omega
  clear hbx
  refine (HT.out _).mono ?_
  rintro e w1 ⟨rfl, hb1⟩
  replace hZ := hZ.below hb1
  replace hb0 := bstep hb0 hb1
  clear hX hb1
  obtain ⟨u, v, x, b⟩ := R
  obtain ⟨-, ⟨y0, y1, y2⟩, yf⟩ := id hZ
  have yf0 := yf 0
  have yf1 := yf 1
  have yf2 := yf 2
  obtain ⟨⟨-, ⟨z0, z1, z2⟩, -⟩, q1, q2⟩ := b3_all hZ u v x
  have hb5 := wrS_below hb0 hle u v x
  unfold wrS at z0 z1 z2 hb5
  clear hZ hb0
  go_wp2
  exact bodyPost_ret (v := .tuple #[.agg #[.int .i64 u, .int .i64 v, .int .i64 x], .bool b]) (by simp [results, Tryd.results7, go_sem, z0, z1, z2]) rfl ⟨rfl, hb5⟩

set_option maxHeartbeats 1000000 in
theorem rootI_any {w : World} (t p r : Int) :
    Calls Tryd.prog 8 #[.agg #[.int .i64 t, .int .i64 p, .int .i64 r]] w (TooAns w (rootA t p r)) := by
  have HT := Lib.hid (fun W : World => try_any (w := W) t p r 0 1 (by omega) (by omega))
  rw [tryA_root] at HT
  generalize rootA t p r = R at *
  obtain ⟨hX, hZ, hb0⟩ := b3_two w t p r 25
  go_enter Tryd.func8, Tryd.ntmps8
  go_wp2_with fail
  generalize (w.alloc (.cells #[.int .i64 t, .int .i64 p, .int .i64 r] 25)).alloc (.cells #[.int .i64 0, .int .i64 0, .int .i64 0] 25) = W at *
  obtain ⟨bx, hbx⟩ : ∃ b, b = w.heap.size := ⟨_, rfl⟩
  rw [← hbx] at hX hZ
  simp only [← hbx]
  have hle : w.heap.size ≤ bx + 1 := by omega
  clear hbx
  refine (HT.out _).mono ?_
  rintro e w1 ⟨rfl, hb1⟩
  replace hZ := hZ.below hb1
  replace hb0 := bstep hb0 hb1
  clear hX hb1
  obtain ⟨u, v, x, b⟩ := R
  obtain ⟨-, ⟨y0, y1, y2⟩, yf⟩ := id hZ
  have yf0 := yf 0
  have yf1 := yf 1
  have yf2 := yf 2
  obtain ⟨⟨-, ⟨z0, z1, z2⟩, -⟩, q1, q2⟩ := b3_all hZ u v x
  have hb5 := wrS_below hb0 hle u v x
  unfold wrS at z0 z1 z2 hb5
  clear hZ hb0
  go_wp2
  exact bodyPost_ret (v := .tuple #[.agg #[.int .i64 u, .int .i64 v, .int .i64 x], .bool b]) (by simp [results, Tryd.results8, go_sem, z0, z1, z2]) rfl ⟨rfl, hb5⟩

def clB (a b n : Int) : Bool := decide (farA a n < farA b n ∨ (farA a n = farA b n ∧ a < b))
set_option maxHeartbeats 1000000 in
theorem closer_any {w : World} (a b n : Int) (ha : -100000 ≤ a ∧ a ≤ 100000) (hb : -100000 ≤ b ∧ b ≤ 100000) (hn : -100000 ≤ n ∧ n ≤ 100000) :
    Calls Tryd.prog 22 #[.int .i64 a, .int .i64 b, .int .i64 n] w fun e w' => e = .returned (.bool (clB a b n)) ∧ w = w' := by
  have d1 : IntKind.i64.wrap (a - n) = a - n := IntWalk.i64_in _ (by omega)
  have d2 : IntKind.i64.wrap (n - a) = n - a := IntWalk.i64_in _ (by omega)
  have d3 : IntKind.i64.wrap (b - n) = b - n := IntWalk.i64_in _ (by omega)
  have d4 : IntKind.i64.wrap (n - b) = n - b := IntWalk.i64_in _ (by omega)
  have HV : Hid (clB a b n = decide (farA a n < farA b n ∨ (farA a n = farA b n ∧ a < b))) := Lib.hid rfl
  generalize clB a b n = V at *
  by_cases s1 : a - n < n - a
  · have x1 : farA a n = n - a := by unfold farA; omega
    by_cases s2 : b - n < n - b
    · have x2 : farA b n = n - b := by unfold farA; omega
      rw [x1, x2] at HV
      clear x1 x2
      by_cases k1 : n - a < n - b
      · have HW : Hid (V = true) := Lib.hid (by rw [HV.out]; exact decide_eq_true (Or.inl k1))
        go_enter Tryd.func22, Tryd.ntmps22
        go_wp2
        go_ret
        exact ⟨by rw [HW.out]; rfl, rfl⟩
      · by_cases k2 : n - a = n - b
        · have k2q : (n - a == n - b) = true := by rw [beq_iff_eq]; exact k2
          by_cases k3 : a < b
          · have HW : Hid (V = true) := Lib.hid (by rw [HV.out]; exact decide_eq_true (Or.inr ⟨k2, k3⟩))
            clear k2
            go_enter Tryd.func22, Tryd.ntmps22
            go_wp2
            go_ret
            exact ⟨by rw [HW.out]; rfl, rfl⟩
          · have HW : Hid (V = false) := Lib.hid (by rw [HV.out]; exact decide_eq_false (by omega))
            clear k2
            go_enter Tryd.func22, Tryd.ntmps22
            go_wp2
            go_ret
            exact ⟨by rw [HW.out]; rfl, rfl⟩
        · have k2q : (n - a == n - b) = false := by rw [beq_eq_false_iff_ne]; exact k2
          have HW : Hid (V = false) := Lib.hid (by rw [HV.out]; exact decide_eq_false (by omega))
          clear k2
          go_enter Tryd.func22, Tryd.ntmps22
          go_wp2
          go_ret
          exact ⟨by rw [HW.out]; rfl, rfl⟩
    · have x2 : farA b n = b - n := by unfold farA; omega
      rw [x1, x2] at HV
      clear x1 x2
      by_cases k1 : n - a < b - n
      · have HW : Hid (V = true) := Lib.hid (by rw [HV.out]; exact decide_eq_true (Or.inl k1))
        go_enter Tryd.func22, Tryd.ntmps22
        go_wp2
        go_ret
        exact ⟨by rw [HW.out]; rfl, rfl⟩
      · by_cases k2 : n - a = b - n
        · have k2q : (n - a == b - n) = true := by rw [beq_iff_eq]; exact k2
          by_cases k3 : a < b
          · have HW : Hid (V = true) := Lib.hid (by rw [HV.out]; exact decide_eq_true (Or.inr ⟨k2, k3⟩))
            clear k2
            go_enter Tryd.func22, Tryd.ntmps22
            go_wp2
            go_ret
            exact ⟨by rw [HW.out]; rfl, rfl⟩
          · have HW : Hid (V = false) := Lib.hid (by rw [HV.out]; exact decide_eq_false (by omega))
            clear k2
            go_enter Tryd.func22, Tryd.ntmps22
            go_wp2
            go_ret
            exact ⟨by rw [HW.out]; rfl, rfl⟩
        · have k2q : (n - a == b - n) = false := by rw [beq_eq_false_iff_ne]; exact k2
          have HW : Hid (V = false) := Lib.hid (by rw [HV.out]; exact decide_eq_false (by omega))
          clear k2
          go_enter Tryd.func22, Tryd.ntmps22
          go_wp2
          go_ret
          exact ⟨by rw [HW.out]; rfl, rfl⟩
  · have x1 : farA a n = a - n := by unfold farA; omega
    by_cases s2 : b - n < n - b
    · have x2 : farA b n = n - b := by unfold farA; omega
      rw [x1, x2] at HV
      clear x1 x2
      by_cases k1 : a - n < n - b
      · have HW : Hid (V = true) := Lib.hid (by rw [HV.out]; exact decide_eq_true (Or.inl k1))
        go_enter Tryd.func22, Tryd.ntmps22
        go_wp2
        go_ret
        exact ⟨by rw [HW.out]; rfl, rfl⟩
      · by_cases k2 : a - n = n - b
        · have k2q : (a - n == n - b) = true := by rw [beq_iff_eq]; exact k2
          by_cases k3 : a < b
          · have HW : Hid (V = true) := Lib.hid (by rw [HV.out]; exact decide_eq_true (Or.inr ⟨k2, k3⟩))
            clear k2
            go_enter Tryd.func22, Tryd.ntmps22
            go_wp2
            go_ret
            exact ⟨by rw [HW.out]; rfl, rfl⟩
          · have HW : Hid (V = false) := Lib.hid (by rw [HV.out]; exact decide_eq_false (by omega))
            clear k2
            go_enter Tryd.func22, Tryd.ntmps22
            go_wp2
            go_ret
            exact ⟨by rw [HW.out]; rfl, rfl⟩
        · have k2q : (a - n == n - b) = false := by rw [beq_eq_false_iff_ne]; exact k2
          have HW : Hid (V = false) := Lib.hid (by rw [HV.out]; exact decide_eq_false (by omega))
          clear k2
          go_enter Tryd.func22, Tryd.ntmps22
          go_wp2
          go_ret
          exact ⟨by rw [HW.out]; rfl, rfl⟩
    · have x2 : farA b n = b - n := by unfold farA; omega
      rw [x1, x2] at HV
      clear x1 x2
      by_cases k1 : a - n < b - n
      · have HW : Hid (V = true) := Lib.hid (by rw [HV.out]; exact decide_eq_true (Or.inl k1))
        go_enter Tryd.func22, Tryd.ntmps22
        go_wp2
        go_ret
        exact ⟨by rw [HW.out]; rfl, rfl⟩
      · by_cases k2 : a - n = b - n
        · have k2q : (a - n == b - n) = true := by rw [beq_iff_eq]; exact k2
          by_cases k3 : a < b
          · have HW : Hid (V = true) := Lib.hid (by rw [HV.out]; exact decide_eq_true (Or.inr ⟨k2, k3⟩))
            clear k2
            go_enter Tryd.func22, Tryd.ntmps22
            go_wp2
            go_ret
            exact ⟨by rw [HW.out]; rfl, rfl⟩
          · have HW : Hid (V = false) := Lib.hid (by rw [HV.out]; exact decide_eq_false (by omega))
            clear k2
            go_enter Tryd.func22, Tryd.ntmps22
            go_wp2
            go_ret
            exact ⟨by rw [HW.out]; rfl, rfl⟩
        · have k2q : (a - n == b - n) = false := by rw [beq_eq_false_iff_ne]; exact k2
          have HW : Hid (V = false) := Lib.hid (by rw [HV.out]; exact decide_eq_false (by omega))
          clear k2
          go_enter Tryd.func22, Tryd.ntmps22
          go_wp2
          go_ret
          exact ⟨by rw [HW.out]; rfl, rfl⟩
/-- A field of a tooth that is no variable. -/
theorem field0 (x y z : Int) (w : World) : (Instr.field 25 (.agg #[.int .i64 x, .int .i64 y, .int .i64 z]) 0).run Tryd.prog w = .ok (.int .i64 x) w := by kernel_rfl

set_option maxHeartbeats 4000000 in
theorem clI_any {w : World} (t p r n : Int) :
    Calls Tryd.prog 11 #[.agg #[.int .i64 t, .int .i64 p, .int .i64 r], .int .i64 n] w fun e w' => e = .returned (.int .i64 (clM t p r n)) ∧ Below w.heap.size w w' := by
  have hb0 : Below w.heap.size w (w.alloc (.cells #[.int .i64 t, .int .i64 p, .int .i64 r] 25)) := (Below.refl _ _).alloc (Nat.le_refl _) _
  have hX := b3_new w t p r 25
  by_cases hs : tooB t p r = true
  · have HG := Lib.hid hs
    have hp := tooB_true.1 hs
    clear hs
    by_cases hn : 0 ≤ n ∧ n ≤ 6000
    · have HY := Lib.hid (fun c q => clM_is (t := t) (p := p) (r := r) (n := n) (c := c) hp hn q)
      have HN := Lib.hid hn
      have HS := Lib.hid (best_start (n := n) hp)
      obtain ⟨⟨ht0, ht1⟩, ⟨hp0, hp1⟩, hr0, hr1⟩ := hp
      obtain ⟨hn0, hn1⟩ := hn
      generalize clM t p r n = R at *
      have ewp : IntKind.i64.wrap (p + 1) = p + 1 := IntWalk.i64_in _ (by omega)
      have ewr : IntKind.i64.wrap (r + 1) = r + 1 := IntWalk.i64_in _ (by omega)
      go_enter Tryd.func11, Tryd.ntmps11
      go_wp2_with fail
      generalize (w.alloc (.cells #[.int .i64 t, .int .i64 p, .int .i64 r] 25)) = W at *
      obtain ⟨bx, hbx⟩ : ∃ b, b = w.heap.size := ⟨_, rfl⟩
      rw [← hbx] at hX
      simp only [← hbx]
      clear hbx
      refine (toothI_any t p r).mono ?_
      rintro e w1 ⟨rfl, hb1⟩
      rw [HG.out]
      replace hX := hX.below hb1
      replace hb0 := bstep hb0 hb1
      clear hb1
      go_wp2_with fail
      refine (tone_yes n HN.out).mono ?_
      rintro e w2 ⟨rfl, rfl⟩
      obtain ⟨-, ⟨x0, x1, x2⟩, -⟩ := id hX
      go_wp2_with fail
      clear x0 x1 x2
      go_loopw [5, 22] (fun v5 v22 wr => ∃ A best : Int, 0 ≤ A ∧ A ≤ p + 1 ∧ (0 ≤ best ∧ best ≤ 6000) ∧ v5 = .int .i64 best ∧ v22 = .int .i64 A ∧ Hid (BestP t p r n A 0 best) ∧ B3 wr bx t p r ∧ Below w.heap.size w wr) (fun _ v22 _ => (p + 1 - intOf v22).toNat)
      case atStart => exact ⟨0, t, by omega, by omega, ⟨ht0, ht1⟩, rfl, rfl, HS, hX, hb0⟩
      case round =>
        obtain ⟨A, best, hA0, hA1, hbest, rfl, rfl, HI, hB, hbr⟩ := hrel
        clear hX hb0
        obtain ⟨-, ⟨x0, x1, x2⟩, -⟩ := id hB
        by_cases hlt : A < p + 1
        · have ewA : IntKind.i64.wrap (A + 1) = A + 1 := IntWalk.i64_in _ (by omega)
          go_wp2_with fail
          clear x0 x1 x2
          go_loopw [5, 28] (fun v5 v28 wx => ∃ B best : Int, 0 ≤ B ∧ B ≤ r + 1 ∧ (0 ≤ best ∧ best ≤ 6000) ∧ v5 = .int .i64 best ∧ v28 = .int .i64 B ∧ Hid (BestP t p r n A B best) ∧ B3 wx bx t p r ∧ Below w.heap.size w wx) (fun _ v28 _ => (r + 1 - intOf v28).toNat)
          case atStart => exact ⟨0, best, by omega, by omega, hbest, rfl, rfl, HI, hB, hbr⟩
          case round =>
            clear hbest HI hB hbr
            obtain ⟨B, best, hB0, hB1, ⟨hb0, hb1⟩, rfl, rfl, HJ, hBx, hbx⟩ := hrel
            obtain ⟨-, ⟨x0, x1, x2⟩, -⟩ := id hBx
            by_cases hla : B < r + 1
            · have ewB : IntKind.i64.wrap (B + 1) = B + 1 := IntWalk.i64_in _ (by omega)
              have hc := filT_is (t := t) (a := A) (b := B) (by omega) ⟨hA0, by omega⟩ ⟨hB0, by omega⟩
              have HC := Lib.hid hc.symm
              go_wp2_with fail
              refine (filed_any t p r A B).mono ?_
              rintro e w2 ⟨rfl, hb2⟩
              have hb3 := bstep hbx hb2
              have hB3 := hBx.below hb2
              clear hBx hbx hb2 x0 x1 x2
              have hfd := field0
              generalize filT t A B = c at *
              generalize filN p A = y at *
              generalize filN r B = z at *
              have hcr : -6000 ≤ c ∧ c ≤ 7000 := by omega
              clear hc
              have HT := Lib.hid (fun h1 h2 => best_take (t := t) (p := p) (r := r) (n := n) HJ.out ⟨hA0, by omega⟩ ⟨hB0, by omega⟩ HC.out h1 h2)
              have HM := Lib.hid (fun h1 => best_not (t := t) (p := p) (r := r) (n := n) HJ.out HC.out h1)
              have HO := Lib.hid (fun h1 => best_out (t := t) (p := p) (r := r) (n := n) HJ.out HC.out h1)
              go_wp2_with fail
              clear hfd
              by_cases hi : 0 ≤ c ∧ c ≤ 6000
              · refine (tone_yes c hi).mono ?_
                rintro e w3 ⟨rfl, rfl⟩
                go_wp2_with fail
                refine (closer_any c best n (by omega) (by omega) (by omega)).mono ?_
                rintro e w3 ⟨rfl, rfl⟩
                by_cases hk : farA c n < farA best n ∨ (farA c n = farA best n ∧ c < best)
                · have HX := Lib.hid (HT.out hi hk)
                  rw [show clB c best n = true from decide_eq_true hk]
                  clear HT HM HO hk
                  go_wp2
                  go_roundw
                  case rel => exact ⟨B + 1, c, by omega, by omega, hi, by go_num, by go_num, HX, hB3, hb3⟩
                  case measure => simp [intOf]; omega
                · have HX := Lib.hid (HM.out hk)
                  rw [show clB c best n = false from decide_eq_false hk]
                  clear HT HM HO hk
                  go_wp2
                  go_roundw
                  case rel => exact ⟨B + 1, best, by omega, by omega, ⟨hb0, hb1⟩, by go_num, by go_num, HX, hB3, hb3⟩
                  case measure => simp [intOf]; omega
              · refine (tone_no c hi).mono ?_
                rintro e w3 ⟨rfl, rfl⟩
                have HX := Lib.hid (HO.out hi)
                clear HT HM HO hi
                go_wp2
                go_roundw
                case rel => exact ⟨B + 1, best, by omega, by omega, ⟨hb0, hb1⟩, by go_num, by go_num, HX, hB3, hb3⟩
                case measure => simp [intOf]; omega
            · have HX : Hid (BestP t p r n (A + 1) 0 best) := Lib.hid (best_row (by rw [show r + 1 = B by omega]; exact HJ.out))
              go_wp2
              go_roundw
              case rel => exact ⟨A + 1, best, by omega, by omega, ⟨hb0, hb1⟩, by go_num, by go_num, HX, hBx, hbx⟩
              case measure => simp [intOf]; omega
        · have HR := Lib.hid (HY.out best (best_end (by rw [show p + 1 = A by omega]; exact HI.out)))
          go_wp2
          go_ret
          exact ⟨by rw [HR.out]; rfl, hbr⟩
    · have HR := Lib.hid (clM_no (t := t) (p := p) (r := r) (n := n) fun q => hn q.2)
      clear hp
      go_enter Tryd.func11, Tryd.ntmps11
      go_wp2_with fail
      refine (toothI_any t p r).mono ?_
      rintro e w1 ⟨rfl, hb1⟩
      rw [HG.out]
      have g1 := bstep hb0 hb1
      clear hX hb0 hb1
      go_wp2_with fail
      refine (tone_no n hn).mono ?_
      rintro e w2 ⟨rfl, rfl⟩
      go_wp2
      go_ret
      exact ⟨by rw [HR.out]; rfl, g1⟩
  · have HG : Hid (tooB t p r = false) := Lib.hid (by simpa using hs)
    have HR := Lib.hid (clM_no (t := t) (p := p) (r := r) (n := n) fun q => tooB_false.1 HG.out q.1)
    clear hs
    go_enter Tryd.func11, Tryd.ntmps11
    go_wp2_with fail
    refine (toothI_any t p r).mono ?_
    rintro e w1 ⟨rfl, hb1⟩
    rw [HG.out]
    have g1 := bstep hb0 hb1
    clear hX hb0 hb1
    go_wp2
    go_ret
    exact ⟨by rw [HR.out]; rfl, g1⟩

end Go.Proofs.YtfkjaofepilnkaaDoor
