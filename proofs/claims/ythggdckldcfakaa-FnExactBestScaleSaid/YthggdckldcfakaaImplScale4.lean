/- The contracts of chapter 17's program: slices.MinFunc at scales with BestScale's comparison, BestScale. No condition. Made by gen_scale.py. -/
import Derived.Test.YthggdckldcfakaaImplScale3
namespace Go.Proofs.Ythggdckldcfakaa
open Go.ChangeShapes Go.WideShapes Go.ChangeAt Go.RowKit

set_option maxHeartbeats 4000000 in
theorem minI_any {w : World} {bt : Nat} {vq v : Value} {lq : List (Nat × Nat)} {l : List (Int × Int)} (hQ : RdQ w vq lq) (hb : w.cell? ⟨bt, 0, none⟩ = some v) (h : Rd2 w v l) (ht : tuneB l = true) :
    Calls Try.prog 43 #[vq, .func (.func 44) #[] #[.pointer (some ⟨bt, 0, none⟩)]] w fun e w' => ∃ q, e = .returned (.agg #[.int .i64 ((bestN l 12 : Nat) : Int), hasV q]) ∧ Below w.heap.size w w' := by
  have hsf := run_store_funcF
  obtain ⟨a3, c3, hv⟩ := Rd.slice hQ.2.1
  rw [hQ.1] at hv
  subst hv
  obtain ⟨b1, o1, c1, q0, hv1, x1, y1, hsq0⟩ := hQ.cells (k := 0) (by omega)
  simp only [Value.slice.injEq, true_and] at hv1
  obtain ⟨rfl, rfl⟩ := hv1
  have HT := Lib.hid ht
  have HB := Lib.hid hb
  have HRD := Lib.hid h
  have HQ := Lib.hid hQ
  have HS0 := Lib.hid hsq0
  have hX4 := boxF_new w (.int .i64 0) .nilFunc 55
  have hb0 : Below w.heap.size w (w.alloc (.cells #[.int .i64 0, .nilFunc] 55)) := (Below.refl _ _).alloc (Nat.le_refl _) _
  have hw4 : (w.alloc (.cells #[.int .i64 0, .nilFunc] 55)).heap.size = w.heap.size + 1 := size_alloc _ _
  have x2 := kept_b hb0 x1
  have y2 := kept_b hb0 y1
  simp only [Nat.zero_mul, Nat.add_zero] at x2 y2
  clear ht hb h hQ hsq0 x1 y1
  unfold hasV at *
  go_enter Try.func43, Try.ntmps43
  go_upto_region 1 with fail
  generalize w.alloc (.cells #[.int .i64 0, .nilFunc] 55) = W at *
  obtain ⟨b4, hb4⟩ : ∃ b, b = w.heap.size := ⟨_, rfl⟩
  rw [← hb4] at hX4 hw4
  simp only [← hb4]
  have hle4 : w.heap.size ≤ b4 := by omega
  clear hb4
  replace hw4 := Lib.hid hw4
  go_upto_region 4 with fail
  have hX5 := boxF_new W (.int .i64 ((bestN l 1 : Nat) : Int)) (.func (.func 58) #[] #[.pointer (some ⟨q0, 0, none⟩)]) 55
  have hbA := (Below.refl W.heap.size W).alloc (Nat.le_refl _) (.cells #[.int .i64 ((bestN l 1 : Nat) : Int), .func (.func 58) #[] #[.pointer (some ⟨q0, 0, none⟩)]] 55)
  have e0 : ((bestN l 1 : Nat) : Int) = 0 := by rw [bestN_one]; rfl
  rw [e0] at hX5 hbA
  have hX4A := hX4.below hbA
  have hb0A := hb0.alloc hb0.size (.cells #[.int .i64 0, .func (.func 58) #[] #[.pointer (some ⟨q0, 0, none⟩)]] 55)
  generalize W.alloc (.cells #[.int .i64 0, .func (.func 58) #[] #[.pointer (some ⟨q0, 0, none⟩)]] 55) = W5 at *
  obtain ⟨b5, hb5⟩ : ∃ b, b = W.heap.size := ⟨_, rfl⟩
  rw [← hb5] at hX5
  simp only [← hb5]
  have hle5 : w.heap.size ≤ b5 := by rw [hb5, hw4.out]; omega
  have hne45 : b5 ≠ b4 := by have := hX4.1; omega
  clear hb5 hw4 hX4 hb0 hbA x2 y2
  rw [← e0] at hX5
  have hS1 : ScAt w q0 (bestN l 1) := by rw [bestN_one]; exact HS0.out
  replace hS1 := Lib.hid hS1
  clear e0
  go_wp2_with fail
  go_loopw [6] (fun v6 wr => ∃ (n q : Nat), n ≤ 12 ∧ 1 ≤ n ∧ v6 = .int .i64 (n : Int) ∧ BoxF wr b5 (.int .i64 ((bestN l n : Nat) : Int)) (.func (.func 58) #[] #[.pointer (some ⟨q, 0, none⟩)]) ∧ Hid (ScAt w q (bestN l n)) ∧ BoxF wr b4 (.int .i64 0) .nilFunc ∧ Below w.heap.size w wr) (fun v6 _ => 12 - (intOf v6).toNat)
  case atStart => exact ⟨1, q0, by omega, Nat.le_refl _, rfl, hX5, hS1, hX4A, hb0A⟩
  case round =>
    obtain ⟨n, q, hn, hn1, rfl, hB5, HSC, hB4, hbr⟩ := hrel
    clear hX5 hS1 hX4A hb0A
    by_cases hlt : n < 12
    · obtain ⟨b2, o2, c2, q2, hv2, x1, y1, hsq2⟩ := HQ.out.cells hlt
      simp only [Value.slice.injEq, true_and, Option.some.injEq, Addr.mk.injEq, and_true] at hv2
      obtain ⟨⟨rfl, rfl⟩, rfl⟩ := hv2
      have HS2 := Lib.hid hsq2
      unfold hasV at y1
      have x2 := kept_b hbr x1
      have y2 := kept_b hbr y1
      have HX := Lib.hid x1
      have HY2 := Lib.hid y1
      obtain ⟨-, ⟨x5, y5⟩, -⟩ := id hB5
      have z1 := fun n os => cell_grown (World.block_lt_of_cell? _ _ x2) x2 n os
      have z2 := fun n os => cell_grown (World.block_lt_of_cell? _ _ y2) y2 n os
      have z3 := fun n os => cell_grown (World.block_lt_of_cell? _ _ x5) x5 n os
      have z4 := fun n os => cell_grown (World.block_lt_of_cell? _ _ y5) y5 n os
      clear hsq2 x1 y1 x5 y5 x2 y2
      have HC := Lib.hid (fun (k : Nat) (os : Array Obj) => (fun (g : Gr wr (Sort.grow (wr.drewN k) os)) => cmpB_any (bt := bt) (kept_b (bstep hbr g.below) HB.out) (Rd.below HRD.out (bstep hbr g.below)) HT.out (HS2.out.below (bstep hbr g.below)) (HSC.out.below (bstep hbr g.below))) ⟨k, os, rfl⟩)
      unfold hasV at HC
      have hw1 := wrong_le l (majN n)
      have hw2 := wrong_le l (majN (bestN l n))
      have h40 := (tuneB_true.1 HT.out).1
      have HYE := Lib.hid (bestN_yes (l := l) (n := n))
      have HNO := Lib.hid (bestN_no (l := l) (n := n))
      generalize hB2 : bestN l (n + 1) = B2 at *
      replace hB2 := Lib.hid hB2
      generalize bestN l n = B1 at *
      generalize wrongN l (majN n) = x at *
      generalize wrongN l (majN B1) = y at *
      by_cases hxy : x < y
      · have HE := Lib.hid (HYE.out hxy)
        have hlz : (x : Int) - (y : Int) < 0 := by omega
        have hdz : decide ((x : Int) - (y : Int) < 0) = true := decide_eq_true hlz
        clear HYE HNO hxy hlz
        go_wp2_with fail
        refine wp_region_quiet_grown (by kernel_rfl) (by kernel_rfl) ?_
        repeat (go_big_quiet_step ((first | (go_at_call 44; exact grown_gr (HC.out _ _)))))
        refine wpQuiet_nil ?_
        intro _ hw'
        obtain ⟨⟨nq, osq⟩, hw''⟩ := hw'
        subst hw''
        have hge : Gr wr (Sort.grow (wr.drewN nq) osq) := ⟨nq, osq, rfl⟩
        have hbe := hge.below
        generalize Sort.grow (wr.drewN nq) osq = W9 at *
        clear z1 z2 z3 z4
        have hb9 := bstep hbr hbe
        have hB5' := hB5.below hbe
        have hB4' := hB4.below hbe
        clear hB5 hB4 hge hbr
        have x2 := kept_b hb9 HX.out
        have y2 := kept_b hb9 HY2.out
        obtain ⟨-, ⟨x5, y5⟩, xf⟩ := id hB5'
        have xf0 := xf 0
        have xf1 := xf 1
        have hB5n := wrF_same hB5' (.int .i64 (n : Int)) (.func (.func 58) #[] #[.pointer (some ⟨q2, 0, none⟩)])
        have hB4n := wrF_other hB4' hne45 (.int .i64 (n : Int)) (.func (.func 58) #[] #[.pointer (some ⟨q2, 0, none⟩)])
        have hbn := wrF_below hb9 hle5 (.int .i64 (n : Int)) (.func (.func 58) #[] #[.pointer (some ⟨q2, 0, none⟩)])
        have q3 : (W9.setCell ⟨b5, 0, none⟩ (.int .i64 (n : Int))).cell? ⟨b5, 1, none⟩ = some (.func (.func 58) #[] #[.pointer (some ⟨q, 0, none⟩)]) := by rw [World.cell?_setCell_other (h := by simp)]; exact y5
        have HSN : Hid (ScAt w q2 B2) := Lib.hid (by rw [HE.out]; exact HS2.out)
        have hB5m : BoxF (wrF W9 b5 (.int .i64 (n : Int)) (.func (.func 58) #[] #[.pointer (some ⟨q2, 0, none⟩)])) b5 (.int .i64 ((B2 : Nat) : Int)) (.func (.func 58) #[] #[.pointer (some ⟨q2, 0, none⟩)]) := by rw [HE.out]; exact hB5n
        clear hB5n hB5' hB4'
        unfold wrF at hB5m hB4n hbn
        go_wp2
        go_roundw
        case rel => exact ⟨n + 1, q2, by omega, by omega, by go_num, by rw [hB2.out]; exact hB5m, by rw [hB2.out]; exact HSN, hB4n, hbn⟩
        case measure => simp [intOf]; omega
      · have HE := Lib.hid (HNO.out hxy)
        have hlz : ¬ (x : Int) - (y : Int) < 0 := by omega
        have hdz : decide ((x : Int) - (y : Int) < 0) = false := decide_eq_false hlz
        clear HYE HNO hxy hlz
        go_wp2_with fail
        refine wp_region_quiet_grown (by kernel_rfl) (by kernel_rfl) ?_
        repeat (go_big_quiet_step ((first | (go_at_call 44; exact grown_gr (HC.out _ _)))))
        refine wpQuiet_nil ?_
        intro _ hw'
        obtain ⟨⟨nq, osq⟩, hw''⟩ := hw'
        subst hw''
        have hge : Gr wr (Sort.grow (wr.drewN nq) osq) := ⟨nq, osq, rfl⟩
        have hbe := hge.below
        generalize Sort.grow (wr.drewN nq) osq = W9 at *
        clear z1 z2 z3 z4
        have hb9 := bstep hbr hbe
        have hB5' := hB5.below hbe
        have hB4' := hB4.below hbe
        clear hB5 hB4 hge hbr
        go_wp2
        go_roundw
        case rel => exact ⟨n + 1, q, by omega, by omega, by go_num, by rw [hB2.out, HE.out]; exact hB5', by rw [hB2.out, HE.out]; exact HSC, hB4', hb9⟩
        case measure => simp [intOf]; omega
    · obtain rfl : n = 12 := by omega
      generalize hBB : bestN l 12 = B at *
      replace hBB := Lib.hid hBB
      obtain ⟨-, ⟨x5, y5⟩, -⟩ := id hB5
      obtain ⟨-, ⟨x4, y4⟩, xf⟩ := id hB4
      have xf0 := xf 0
      have xf1 := xf 1
      obtain ⟨-, ⟨z0, z1⟩, -⟩ := wrF_same hB4 (.int .i64 (B : Int)) (.func (.func 58) #[] #[.pointer (some ⟨q, 0, none⟩)])
      have hbn := wrF_below hbr hle4 (.int .i64 (B : Int)) (.func (.func 58) #[] #[.pointer (some ⟨q, 0, none⟩)])
      have q3 : (wr.setCell ⟨b4, 0, none⟩ (.int .i64 (B : Int))).cell? ⟨b4, 1, none⟩ = some .nilFunc := by rw [World.cell?_setCell_other (h := by simp)]; exact y4
      unfold wrF at z0 z1 hbn
      clear hB5 hB4 hbr
      go_wp2
      exact bodyPost_ret (v := .agg #[.int .i64 (B : Int), .func (.func 58) #[] #[.pointer (some ⟨q, 0, none⟩)]]) (by simp [results, Try.results43, go_sem, z0, z1]) rfl ⟨q, by rw [hBB.out]; (try rfl), hbn⟩

set_option maxHeartbeats 2000000 in
theorem bestP17_any {w : World} {v : Value} {l : List (Int × Int)} (h : Rd2 w v l) :
    Calls Try.prog 15 #[v] w fun e w' => e = .returned (.int .i64 (bestI l)) ∧ Below w.heap.size w w' := by
  have hmf : ∀ (fn : Fn) (first cap : Array Value) (w : World), (Instr.makeFunc fn first cap).run Try.prog w = .ok (.func fn first cap) w := fun _ _ _ _ => rfl
  have hsf := run_store_funcF
  obtain ⟨a1, cap1, rfl⟩ := Rd.slice h
  have hb0 : Below w.heap.size w (w.alloc (.cells #[.slice a1 l.length cap1] 24)) := (Below.refl _ _).alloc (Nat.le_refl _) _
  have hc0 := cellF1 w (.slice a1 l.length cap1) 24
  have hR0 := Rd.below h hb0
  clear h
  by_cases ht : tuneB l = true
  · have HT := Lib.hid ht
    have HR := Lib.hid (bestI_yes ht)
    clear ht
    go_enter Try.func15, Try.ntmps15
    go_upto_region 1 with fail
    generalize w.alloc (.cells #[.slice a1 l.length cap1] 24) = W at *
    obtain ⟨bt, hbt⟩ : ∃ b, b = w.heap.size := ⟨_, rfl⟩
    rw [← hbt] at hc0
    simp only [← hbt]
    clear hbt
    go_wp2_with fail
    refine (itune_yes hR0 HT.out).mono ?_
    rintro e w1 ⟨rfl, hb1⟩
    have hc1 := kept_b hb1 hc0
    have hR1 := Rd.below hR0 hb1
    have hb2 := bstep hb0 hb1
    clear hc0 hR0 hb0 hb1
    go_wp2_with fail
    refine (scales_any _).mono ?_
    rintro e w2 ⟨vq, lq, rfl, hQ, hb3⟩
    have hc2 := kept_b hb3 hc1
    have hR2 := Rd.below hR1 hb3
    have hb4 := bstep hb2 hb3
    clear hc1 hR1 hb2 hb3
    have HQ := Lib.hid hQ
    clear hQ
    go_wp2_with fail
    refine (minI_any HQ.out hc2 hR2 HT.out).mono ?_
    rintro e w3 ⟨q, rfl, hb5⟩
    have hb6 := bstep hb4 hb5
    clear hc2 hR2 hb4 hb5
    generalize bestN l 12 = B at *
    unfold hasV
    go_upto_region 4 with fail
    have hb7 := hb6.alloc hb6.size (.cells #[.int .i64 (B : Int), .func (.func 58) #[] #[.pointer (some ⟨q, 0, none⟩)]] 55)
    have hX := boxF_new w3 (.int .i64 (B : Int)) (.func (.func 58) #[] #[.pointer (some ⟨q, 0, none⟩)]) 55
    generalize w3.alloc (.cells #[.int .i64 (B : Int), .func (.func 58) #[] #[.pointer (some ⟨q, 0, none⟩)]] 55) = W4 at *
    obtain ⟨bx, hbx⟩ : ∃ b, b = w3.heap.size := ⟨_, rfl⟩
    rw [← hbx] at hX
    simp only [← hbx]
    clear hbx
    obtain ⟨-, ⟨x5, y5⟩, -⟩ := id hX
    go_wp2
    go_ret
    exact ⟨by rw [HR.out]; (try rfl), hb7⟩
  · have HT : Hid (tuneB l = false) := Lib.hid (by simpa using ht)
    have HR := Lib.hid (bestI_no HT.out)
    clear ht
    go_enter Try.func15, Try.ntmps15
    go_upto_region 1 with fail
    generalize w.alloc (.cells #[.slice a1 l.length cap1] 24) = W at *
    obtain ⟨bt, hbt⟩ : ∃ b, b = w.heap.size := ⟨_, rfl⟩
    rw [← hbt] at hc0
    simp only [← hbt]
    clear hbt
    go_wp2_with fail
    refine (itune_no hR0 HT.out).mono ?_
    rintro e w1 ⟨rfl, hb1⟩
    have hb2 := bstep hb0 hb1
    go_wp2
    go_ret
    exact ⟨by rw [HR.out]; (try rfl), hb2⟩
end Go.Proofs.Ythggdckldcfakaa
