/- The contracts of chapter 11's model, further: ErrorParts, FractionOf, NearestGear. No condition. -/
import Derived.Test.YtjikpkigncomfaaNearSpec
import Derived.Deep.CutRange
namespace Go.Proofs.Ytjikpkigncomfaa
open Go.ChangeShapes Go.WideShapes Go.ChangeAt Go.RowKit

theorem farS_any' {w : World} (t u a b : Int) (ht : ok11 t) (hu : ok11 u) (ha : ok11 a) (hb : ok11 b) :
    Calls Try.prog 41 #[.int .i64 t, .int .i64 u, .int .i64 a, .int .i64 b] w fun e w' => e = .returned (.int .i64 (farM t u a b)) ∧ w' = w := (farS_any t u a b ht hu ha hb).mono fun _ _ ⟨he, hw⟩ => ⟨he, hw.symm⟩
theorem ok_gear {p : Int × Int} (h : GearP p) : ok11 p.1 ∧ ok11 p.2 := ⟨⟨by have := h.1; omega, by have := h.1; omega⟩, ⟨by have := h.2; omega, by have := h.2; omega⟩⟩

set_option maxHeartbeats 2000000 in
theorem errS_any {w : World} (t u : Int) (p : Int × Int) :
    Calls Try.prog 29 #[.int .i64 t, .int .i64 u, .agg #[.int .i64 p.1, .int .i64 p.2]] w fun e w' => e = .returned (.int .i64 (errM t u p)) ∧ Below w.heap.size w w' := by
  have hb0 : Below w.heap.size w (w.alloc (.cells #[.int .i64 p.1, .int .i64 p.2] 31)) := (Below.refl _ _).alloc (Nat.le_refl _) _
  have hX := box2_new w (.int .i64 p.1) (.int .i64 p.2) 31
  by_cases h1 : ok11 t
  · by_cases h2 : ok11 u
    · by_cases h3 : gearB p = true
      · have hg := gearB_true.1 h3
        have HG := Lib.hid h3
        have HR := Lib.hid (errM_yes ⟨⟨h1, h2⟩, hg⟩)
        obtain ⟨o1, o2⟩ := ok_gear hg
        have HF := Lib.hid (fun W : World => farS_any' (w := W) t u p.1 p.2 h1 h2 o1 o2)
        have n0 := farM_nonneg t u p.1 p.2
        have n1 := far_le h1 h2 o1 o2
        have m1 := mul11 h1 o2
        generalize farM t u p.1 p.2 = F at *
        obtain ⟨P, hP⟩ : ∃ P, F * 1000000 = P := ⟨_, rfl⟩
        obtain ⟨Q, hQ⟩ : ∃ Q, t * p.2 = Q := ⟨_, rfl⟩
        rw [hP, hQ] at HR
        rw [hQ] at m1
        obtain ⟨e1, e2⟩ := wrap_in hP (by omega) (by omega)
        obtain ⟨e3, e4⟩ := wrap_in hQ (by omega) (by omega)
        have hP0 : 0 ≤ P := by omega
        have hP1 : P ≤ 1000000000000 := by omega
        clear hP hQ h3 n0 n1
        have htd : P.tdiv Q = P / Q := Int.tdiv_eq_ediv_of_nonneg hP0
        have hd0 : 0 ≤ P / Q := Int.ediv_nonneg hP0 (by omega)
        have hd1 : P / Q ≤ P := Int.ediv_le_self _ hP0
        have ewd : IntKind.i64.wrap (P / Q) = P / Q := IntWalk.i64_in _ (by omega)
        have hqz : (Q == 0) = false := by rw [beq_eq_false_iff_ne]; omega
        have hqn : ¬ Q = 0 := by omega
        go_enter Try.func29, Try.ntmps29
        go_wp2_with fail
        generalize w.alloc (.cells #[.int .i64 p.1, .int .i64 p.2] 31) = W at *
        obtain ⟨bx, hbx⟩ : ∃ b, b = w.heap.size := ⟨_, rfl⟩
        rw [← hbx] at hX
        simp only [← hbx]
        clear hbx
        refine (ok11_yes t h1).mono ?_
        rintro e w1 ⟨rfl, rfl⟩
        go_wp2_with fail
        refine (ok11_yes u h2).mono ?_
        rintro e w1 ⟨rfl, rfl⟩
        obtain ⟨-, ⟨x0, x1⟩, -⟩ := id hX
        go_wp2_with fail
        refine (gearG_any p).mono ?_
        rintro e w1 ⟨rfl, hb1⟩
        rw [HG.out]
        have hb2 := bstep hb0 hb1
        clear x0 x1
        obtain ⟨-, ⟨x0, x1⟩, -⟩ := hX.below hb1
        clear hX hb0 hb1
        go_wp2_with fail
        go_quiet ((go_at_call 41; exact Calls.quiet_of_same (HF.out _)))
        go_wp2
        go_ret
        exact ⟨by rw [HR.out]; rfl, below_drewN hb2 _⟩
      · have HG : Hid (gearB p = false) := Lib.hid (by simpa using h3)
        have HR := Lib.hid (errM_no (top := t) (bottom := u) (p := p) fun q => h3 (gearB_true.2 q.2))
        obtain ⟨-, ⟨x0, x1⟩, -⟩ := id hX
        clear h3
        go_enter Try.func29, Try.ntmps29
        go_wp2_with fail
        refine (ok11_yes t h1).mono ?_
        rintro e w1 ⟨rfl, rfl⟩
        go_wp2_with fail
        refine (ok11_yes u h2).mono ?_
        rintro e w1 ⟨rfl, rfl⟩
        go_wp2_with fail
        refine (gearG_any p).mono ?_
        rintro e w1 ⟨rfl, hb1⟩
        rw [HG.out]
        have hb2 := bstep hb0 hb1
        clear x0 x1 hX hb0 hb1
        go_wp2
        go_ret
        exact ⟨by rw [HR.out]; rfl, hb2⟩
    · have HR := Lib.hid (errM_no (top := t) (bottom := u) (p := p) fun q => h2 q.1.2)
      clear hX
      go_enter Try.func29, Try.ntmps29
      go_wp2_with fail
      refine (ok11_yes t h1).mono ?_
      rintro e w1 ⟨rfl, rfl⟩
      go_wp2_with fail
      refine (ok11_no u h2).mono ?_
      rintro e w1 ⟨rfl, rfl⟩
      go_wp2
      go_ret
      exact ⟨by rw [HR.out]; rfl, hb0⟩
  · have HR := Lib.hid (errM_no (top := t) (bottom := u) (p := p) fun q => h1 q.1.1)
    clear hX
    go_enter Try.func29, Try.ntmps29
    go_wp2_with fail
    refine (ok11_no t h1).mono ?_
    rintro e w1 ⟨rfl, rfl⟩
    go_wp2
    go_ret
    exact ⟨by rw [HR.out]; rfl, hb0⟩

open Classical in
noncomputable def nearA (t u : Int) : (Int × Int) × Bool := if ok11 t ∧ ok11 u then (nearM t u, true) else ((0, 0), false)
theorem nearA_yes {t u : Int} (h : ok11 t ∧ ok11 u) : nearA t u = (nearM t u, true) := if_pos h
theorem nearA_no {t u : Int} (h : ¬ (ok11 t ∧ ok11 u)) : nearA t u = ((0, 0), false) := if_neg h
theorem nearTo_gear (t u : Int) : ∀ k, k ≤ 13225 → GearP (nearTo t u k)
  | 0, _ => by show GearP (6, 6); exact ⟨⟨by decide, by decide⟩, ⟨by decide, by decide⟩⟩
  | k + 1, h => by
    have ih := nearTo_gear t u k (by omega)
    by_cases q : Near t u (pairK k) (nearTo t u k)
    · rw [nearTo_take q]; exact pairK_in (by omega)
    · rw [nearTo_keep q]; exact ih
theorem pair_at {i j : Nat} (hj : j < 115) : pairK (i * 115 + j) = (6 + (i : Int), 6 + (j : Int)) := by
  have e1 : (i * 115 + j) / 115 = i := by omega
  have e2 : (i * 115 + j) % 115 = j := by omega
  unfold pairK; rw [e1, e2]

set_option maxHeartbeats 4000000 in
set_option maxRecDepth 100000 in
theorem nearS_any {w : World} (t u : Int) :
    Calls Try.prog 27 #[.int .i64 t, .int .i64 u] w (GearAns w (nearA t u).1 (nearA t u).2) := by
  have hb0 : Below w.heap.size w (w.alloc (.cells #[.int .i64 0, .int .i64 0] 31)) := (Below.refl _ _).alloc (Nat.le_refl _) _
  have hX := box2_new w (.int .i64 0) (.int .i64 0) 31
  by_cases h1 : ok11 t
  · by_cases h2 : ok11 u
    · have HR := Lib.hid (nearA_yes ⟨h1, h2⟩)
      go_enter Try.func27, Try.ntmps27
      go_wp2_with fail
      refine (ok11_yes t h1).mono ?_
      rintro e w1 ⟨rfl, rfl⟩
      go_wp2_with fail
      refine (ok11_yes u h2).mono ?_
      rintro e w1 ⟨rfl, rfl⟩
      have HO := Lib.hid (And.intro h1 h2)
      clear h1 h2
      go_upto_region 3 with fail
      generalize w.alloc (.cells #[.int .i64 0, .int .i64 0] 31) = W at *
      obtain ⟨bR, hbR⟩ : ∃ b, b = w.heap.size := ⟨_, rfl⟩
      rw [← hbR] at hX
      simp only [← hbR]
      have hleR : w.heap.size ≤ bR := by omega
      clear hbR
      have hbA := hb0.alloc hb0.size (.cells #[.int .i64 6, .int .i64 6] 31)
      have hXA := hX.below ((Below.refl W.heap.size W).alloc (Nat.le_refl _) (.cells #[.int .i64 6, .int .i64 6] 31))
      have hY := box2_new W (.int .i64 6) (.int .i64 6) 31
      have hRlt := hX.1
      have hleW := hb0.size
      clear hb0 hX
      go_wp2_with fail
      generalize W.alloc (.cells #[.int .i64 6, .int .i64 6] 31) = W2 at *
      obtain ⟨bB, hbB⟩ : ∃ b, b = W.heap.size := ⟨_, rfl⟩
      rw [← hbB] at hY
      simp only [← hbB]
      have hleB : w.heap.size ≤ bB := by omega
      have hBR : bB ≠ bR := by omega
      clear hbB hRlt hleW
      go_loopw [7] (fun v7 wr => ∃ i : Nat, i ≤ 115 ∧ v7 = .int .i64 (6 + (i : Int)) ∧ Box2 wr bB (.int .i64 (nearTo t u (i * 115)).1) (.int .i64 (nearTo t u (i * 115)).2) ∧ Box2 wr bR (.int .i64 0) (.int .i64 0) ∧ Below w.heap.size w wr) (fun v7 _ => (121 - intOf v7).toNat)
      case atStart => exact ⟨0, by omega, rfl, hY, hXA, hbA⟩
      case round =>
        obtain ⟨i, hi, rfl, hB, hRb, hbr⟩ := hrel
        clear hY hXA hbA
        by_cases hlt : i < 115
        · have hi1 : ¬ (120 : Int) < 6 + (i : Int) := by omega
          have hi2 : 6 + (i : Int) ≤ 120 := by omega
          have ewi : IntKind.i64.wrap (6 + (i : Int) + 1) = 6 + (i : Int) + 1 := IntWalk.i64_in _ (by omega)
          go_wp2_with fail
          go_loopw [8] (fun v8 wx => ∃ j : Nat, j ≤ 115 ∧ v8 = .int .i64 (6 + (j : Int)) ∧ Box2 wx bB (.int .i64 (nearTo t u (i * 115 + j)).1) (.int .i64 (nearTo t u (i * 115 + j)).2) ∧ Box2 wx bR (.int .i64 0) (.int .i64 0) ∧ Below w.heap.size w wx) (fun v8 _ => (121 - intOf v8).toNat)
          case atStart => exact ⟨0, by omega, rfl, hB, hRb, hbr⟩
          case round =>
            obtain ⟨j, hj, rfl, hBx, hRx, hbx⟩ := hrel
            clear hB hRb hbr
            by_cases hltj : j < 115
            · have hj1 : ¬ (120 : Int) < 6 + (j : Int) := by omega
              have hj2 : 6 + (j : Int) ≤ 120 := by omega
              have ewj : IntKind.i64.wrap (6 + (j : Int) + 1) = 6 + (j : Int) + 1 := IntWalk.i64_in _ (by omega)
              have hp := pair_at (i := i) hltj
              have hgear := nearTo_gear t u (i * 115 + j) (by omega)
              have HTK := Lib.hid (fun q => nearTo_take (top := t) (bottom := u) (k := i * 115 + j) q)
              have HKP := Lib.hid (fun q => nearTo_keep (top := t) (bottom := u) (k := i * 115 + j) q)
              have hk1 : i * 115 + (j + 1) = i * 115 + j + 1 := by omega
              rw [hp] at HTK HKP
              obtain ⟨o1, o2⟩ := ok_gear hgear
              have o3 : ok11 (6 + (i : Int)) := ⟨by omega, by omega⟩
              have o4 : ok11 (6 + (j : Int)) := ⟨by omega, by omega⟩
              generalize nearTo t u (i * 115 + j) = p at *
              obtain ⟨-, ⟨x0, x1⟩, xf⟩ := id hBx
              have xf0 := xf 0
              have xf1 := xf 1
              have HC := Lib.hid (fun W : World => closS_any (w := W) t u (6 + (i : Int)) (6 + (j : Int)) p.1 p.2)
              have hall : ok11 t ∧ ok11 u ∧ ok11 (6 + (i : Int)) ∧ ok11 (6 + (j : Int)) ∧ ok11 p.1 ∧ ok11 p.2 := ⟨HO.out.1, HO.out.2, o3, o4, o1, o2⟩
              by_cases hn : Near t u (6 + (i : Int), 6 + (j : Int)) p
              · have HN := Lib.hid (HTK.out hn)
                have HV := Lib.hid (clos_less hall hn)
                clear HTK HKP hall hgear hn o1 o2 o3 o4
                go_wp2_with fail
                refine (HC.out _).mono ?_
                rintro e w2 ⟨rfl, rfl⟩
                rw [HV.out]
                have hw1 := wr2_same hBx (.int .i64 (6 + (i : Int))) (.int .i64 (6 + (j : Int)))
                have hw2 := wr2_other hRx hBR (.int .i64 (6 + (i : Int))) (.int .i64 (6 + (j : Int)))
                have hw3 := wr2_below hbx hleB (.int .i64 (6 + (i : Int))) (.int .i64 (6 + (j : Int)))
                obtain ⟨q0, q1⟩ := read2 hBx (.int .i64 (6 + (i : Int))) (.int .i64 (6 + (j : Int)))
                unfold wr2 at hw1 hw2 hw3
                clear hBx hRx hbx
                go_wp2
                go_roundw
                case rel => exact ⟨j + 1, by omega, by go_num, by rw [hk1, HN.out]; exact hw1, hw2, hw3⟩
                case measure => simp [intOf]; omega
              · have HN := Lib.hid (HKP.out hn)
                have HV : Hid (¬ closM6 t u (6 + (i : Int)) (6 + (j : Int)) p.1 p.2 < 0) := Lib.hid (by
                  unfold Near at hn
                  simp only at hn
                  by_cases q : farM t u p.1 p.2 * (6 + (j : Int)) < farM t u (6 + (i : Int)) (6 + (j : Int)) * p.2
                  · rw [clos_more hall q]; omega
                  · rw [clos_same hall (by omega)]; omega)
                clear HTK HKP hall hgear hn o1 o2 o3 o4
                have hv := HV.out
                go_wp2_with fail
                refine (HC.out _).mono ?_
                rintro e w2 ⟨rfl, rfl⟩
                generalize closM6 t u (6 + (i : Int)) (6 + (j : Int)) p.1 p.2 = R at *
                go_wp2
                go_roundw
                case rel => exact ⟨j + 1, by omega, by go_num, by rw [hk1, HN.out]; exact hBx, hRx, hbx⟩
                case measure => simp [intOf]; omega
            · obtain rfl : j = 115 := by omega
              have hk1 : (i + 1) * 115 = i * 115 + 115 := by omega
              go_wp2
              go_roundw
              case rel => exact ⟨i + 1, by omega, by go_num, by rw [hk1]; exact hBx, hRx, hbx⟩
              case measure => simp [intOf]; omega
        · obtain rfl : i = 115 := by omega
          have HE : Hid ((nearTo t u (115 * 115)) = nearM t u) := Lib.hid rfl
          rw [HE.out] at hB
          generalize nearM t u = p at *
          obtain ⟨-, ⟨x0, x1⟩, -⟩ := id hB
          obtain ⟨-, ⟨y0, y1⟩, yf⟩ := id hRb
          have yf0 := yf 0
          have yf1 := yf 1
          obtain ⟨-, ⟨z0, z1⟩, zf⟩ := wr2_same hRb (.int .i64 p.1) (.int .i64 p.2)
          have hb5 := wr2_below hbr hleR (.int .i64 p.1) (.int .i64 p.2)
          have q2 : (wr.setCell ⟨bR, 0, none⟩ (.int .i64 p.1)).cell? ⟨bR, 1, none⟩ = some (.int .i64 0) := by rw [World.cell?_setCell_other (h := by simp)]; exact y1
          unfold wr2 at z0 z1 hb5
          clear hB hRb hbr
          go_wp2
          exact bodyPost_ret (v := .tuple #[.agg #[.int .i64 p.1, .int .i64 p.2], .bool true]) (by simp [results, Try.results27, go_sem, z0, z1]) rfl ⟨by rw [HR.out], hb5⟩
    · have HR := Lib.hid (nearA_no (t := t) (u := u) fun q => h2 q.2)
      go_enter Try.func27, Try.ntmps27
      go_wp2_with fail
      refine (ok11_yes t h1).mono ?_
      rintro e w1 ⟨rfl, rfl⟩
      go_wp2_with fail
      refine (ok11_no u h2).mono ?_
      rintro e w1 ⟨rfl, rfl⟩
      obtain ⟨-, ⟨x0, x1⟩, xf⟩ := id hX
      have xf0 := xf 0
      have xf1 := xf 1
      obtain ⟨-, ⟨z0, z1⟩, zf⟩ := wr2_same hX (.int .i64 0) (.int .i64 0)
      have hb5 := wr2_below hb0 (Nat.le_refl _) (.int .i64 0) (.int .i64 0)
      have q2 : ((w.alloc (.cells #[.int .i64 0, .int .i64 0] 31)).setCell ⟨w.heap.size, 0, none⟩ (.int .i64 0)).cell? ⟨w.heap.size, 1, none⟩ = some (.int .i64 0) := by rw [World.cell?_setCell_other (h := by simp)]; exact x1
      unfold wr2 at z0 z1 hb5
      clear hX hb0
      generalize w.alloc (.cells #[.int .i64 0, .int .i64 0] 31) = W at *
      go_wp2
      exact bodyPost_ret (v := .tuple #[.agg #[.int .i64 0, .int .i64 0], .bool false]) (by simp [results, Try.results27, go_sem, z0, z1]) rfl ⟨by rw [HR.out], hb5⟩
  · have HR := Lib.hid (nearA_no (t := t) (u := u) fun q => h1 q.1)
    go_enter Try.func27, Try.ntmps27
    go_wp2_with fail
    refine (ok11_no t h1).mono ?_
    rintro e w1 ⟨rfl, rfl⟩
    obtain ⟨-, ⟨x0, x1⟩, xf⟩ := id hX
    have xf0 := xf 0
    have xf1 := xf 1
    obtain ⟨-, ⟨z0, z1⟩, zf⟩ := wr2_same hX (.int .i64 0) (.int .i64 0)
    have hb5 := wr2_below hb0 (Nat.le_refl _) (.int .i64 0) (.int .i64 0)
    have q2 : ((w.alloc (.cells #[.int .i64 0, .int .i64 0] 31)).setCell ⟨w.heap.size, 0, none⟩ (.int .i64 0)).cell? ⟨w.heap.size, 1, none⟩ = some (.int .i64 0) := by rw [World.cell?_setCell_other (h := by simp)]; exact x1
    unfold wr2 at z0 z1 hb5
    clear hX hb0
    generalize w.alloc (.cells #[.int .i64 0, .int .i64 0] 31) = W at *
    go_wp2
    exact bodyPost_ret (v := .tuple #[.agg #[.int .i64 0, .int .i64 0], .bool false]) (by simp [results, Try.results27, go_sem, z0, z1]) rfl ⟨by rw [HR.out], hb5⟩
end Go.Proofs.Ytjikpkigncomfaa
