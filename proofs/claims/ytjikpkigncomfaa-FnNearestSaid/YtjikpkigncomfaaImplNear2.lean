/- The program's own NearestGear: all wheels from 0 to 120, both ranges over integers. No condition. -/
import Derived.Test.YtjikpkigncomfaaImplNear
namespace Go.Proofs.Ytjikpkigncomfaa
open Go.ChangeShapes Go.WideShapes Go.ChangeAt Go.RowKit

/-- How many valid gears lie ahead of the pair i, j. -/
def upG (i j : Nat) : Nat := if i < 6 then 0 else (i - 6) * 115 + (j - 6)
theorem upG_start (i : Nat) : upG i 0 = (i - 6) * 115 := by unfold upG; split <;> omega
theorem upG_end (i : Nat) : upG i 121 = (i + 1 - 6) * 115 := by unfold upG; split <;> omega
theorem upG_step {i j : Nat} (hi : 6 ≤ i) (hj : 6 ≤ j) : upG i (j + 1) = upG i j + 1 := by unfold upG; rw [if_neg (by omega), if_neg (by omega)]; omega
theorem upG_keep {i j : Nat} (h : ¬ (6 ≤ i ∧ 6 ≤ j)) : upG i (j + 1) = upG i j := by unfold upG; split <;> omega
theorem upG_le {i j : Nat} (hi : i ≤ 120) (hj : j ≤ 120) : upG i j ≤ 13224 := by unfold upG; split <;> omega
theorem upG_pair {i j : Nat} (hi : 6 ≤ i) (hj : 6 ≤ j) (hj2 : j ≤ 120) : pairK (upG i j) = ((i : Int), (j : Int)) := by
  unfold upG
  rw [if_neg (by omega), pair_at (by omega)]
  exact Prod.ext (by show 6 + ((i - 6 : Nat) : Int) = (i : Int); omega) (by show 6 + ((j - 6 : Nat) : Int) = (j : Int); omega)

set_option maxHeartbeats 4000000 in
set_option maxRecDepth 100000 in
theorem inear_any {w : World} (t u : Int) :
    Calls Try.prog 13 #[.int .i64 t, .int .i64 u] w (GearAns w (nearA t u).1 (nearA t u).2) := by
  have hb0 : Below w.heap.size w (w.alloc (.cells #[.int .i64 0, .int .i64 0] 31)) := (Below.refl _ _).alloc (Nat.le_refl _) _
  have hX := box2_new w (.int .i64 0) (.int .i64 0) 31
  have hleb : w.heap.size ≤ (w.alloc (.cells #[.int .i64 0, .int .i64 0] 31)).heap.size := hb0.size
  obtain ⟨W, hW⟩ : ∃ W, W = w.alloc (.cells #[.int .i64 0, .int .i64 0] 31) := ⟨_, rfl⟩
  rw [← hW] at hX hb0 hleb
  have hsz : W.heap.size = w.heap.size + 1 := by rw [hW, size_alloc]
  have hL := rd1_lit W [t, u] 3 (by unfold maxLen; simp)
  have hbL : Below W.heap.size W (W.alloc (.cells ([t, u].map intV).toArray 3)) := (Below.refl _ _).alloc (Nat.le_refl _) _
  simp only [List.map_cons, List.map_nil, intV, List.length_cons, List.length_nil, Nat.reduceAdd] at hL hbL
  have hN0 := nearok_any hL (by simp)
  have hb1 := bstep hb0 hbL
  have hX1 := hX.below hbL
  clear hb0 hX hbL hL
  obtain ⟨bR, hbR⟩ : ∃ b, b = w.heap.size := ⟨_, rfl⟩
  rw [← hbR] at hX1 hsz
  rw [hsz] at hN0
  have HN := Lib.hid hN0
  clear hN0 hsz
  have hleR : w.heap.size ≤ bR := by omega
  by_cases h12 : ok11 t ∧ ok11 u
  · have HBB := Lib.hid (bad2_ok h12)
    have HR := Lib.hid (nearA_yes h12)
    have HO := Lib.hid h12
    clear h12
    go_enter Try.func13, Try.ntmps13
    go_wp2_with fail
    simp only [← hW, ← hbR]
    clear hbR hleb
    refine HN.out.mono ?_
    rintro e w1 ⟨rfl, hb2⟩
    rw [HBB.out]
    have hb3 := bstep hb1 hb2
    have hX2 := hX1.below hb2
    clear HN hb1 hX1 hb2 hW
    have hbA := hb3.alloc hb3.size (.cells #[.int .i64 6, .int .i64 6] 31)
    have hXA := hX2.below ((Below.refl w1.heap.size w1).alloc (Nat.le_refl _) (.cells #[.int .i64 6, .int .i64 6] 31))
    have hY := box2_new w1 (.int .i64 6) (.int .i64 6) 31
    have hRlt := hX2.1
    have hlew := hb3.size
    clear hb3 hX2
    go_wp2_with fail
    generalize w1.alloc (.cells #[.int .i64 6, .int .i64 6] 31) = W2 at *
    obtain ⟨bB, hbB⟩ : ∃ b, b = w1.heap.size := ⟨_, rfl⟩
    rw [← hbB] at hY
    simp only [← hbB]
    have hleB : w.heap.size ≤ bB := by omega
    have hBR : bB ≠ bR := by omega
    clear hbB hRlt hlew
    go_loopw [17] (fun v17 wr => ∃ i : Nat, i ≤ 121 ∧ v17 = .int .i64 (i : Int) ∧ Box2 wr bB (.int .i64 (nearTo t u ((i - 6) * 115)).1) (.int .i64 (nearTo t u ((i - 6) * 115)).2) ∧ Box2 wr bR (.int .i64 0) (.int .i64 0) ∧ Below w.heap.size w wr) (fun v17 _ => (121 - intOf v17).toNat)
    case atStart => exact ⟨0, by omega, rfl, hY, hXA, hbA⟩
    case round =>
      obtain ⟨i, hi, rfl, hB, hRb, hbr⟩ := hrel
      clear hY hXA hbA
      by_cases hlt : i < 121
      · have hdi : decide ((i : Int) < 121) = true := decide_eq_true (by omega)
        have ewi : IntKind.i64.wrap ((i : Int) + 1) = (i : Int) + 1 := IntWalk.i64_in _ (by omega)
        go_wp2_with fail
        go_loopw [20] (fun v20 wx => ∃ j : Nat, j ≤ 121 ∧ v20 = .int .i64 (j : Int) ∧ Box2 wx bB (.int .i64 (nearTo t u (upG i j)).1) (.int .i64 (nearTo t u (upG i j)).2) ∧ Box2 wx bR (.int .i64 0) (.int .i64 0) ∧ Below w.heap.size w wx) (fun v20 _ => (121 - intOf v20).toNat)
        case atStart => exact ⟨0, by omega, rfl, by rw [upG_start]; exact hB, hRb, hbr⟩
        case round =>
          obtain ⟨j, hj, rfl, hBx, hRx, hbx⟩ := hrel
          clear hB hRb hbr
          by_cases hltj : j < 121
          · have hdj : decide ((j : Int) < 121) = true := decide_eq_true (by omega)
            have ewj : IntKind.i64.wrap ((j : Int) + 1) = (j : Int) + 1 := IntWalk.i64_in _ (by omega)
            have hgn : Below wr.heap.size wr (wr.alloc (.cells #[.int .i64 (i : Int), .int .i64 (j : Int)] 31)) := (Below.refl _ _).alloc (Nat.le_refl _) _
            have hG := box2_new wr (.int .i64 (i : Int)) (.int .i64 (j : Int)) 31
            have hb4 := bstep hbx hgn
            have hB4 := hBx.below hgn
            have hR4 := hRx.below hgn
            clear hgn hBx hRx hbx
            go_wp2_with fail
            generalize wr.alloc (.cells #[.int .i64 (i : Int), .int .i64 (j : Int)] 31) = W4 at *
            generalize wr.heap.size = bg at *
            obtain ⟨-, ⟨g0, g1⟩, -⟩ := id hG
            refine (igear_any ((i : Int), (j : Int)) _).mono ?_
            rintro e w5 ⟨rfl, hb5⟩
            have hb6 := bstep hb4 hb5
            have hB6 := hB4.below hb5
            have hR6 := hR4.below hb5
            have hG6 := hG.below hb5
            clear g0 g1 hb4 hB4 hR4 hG hb5
            by_cases hv : 6 ≤ i ∧ 6 ≤ j
            · have HGB : Hid (gearB ((i : Int), (j : Int)) = true) := Lib.hid (gearB_true.2 ⟨by show 6 ≤ (i : Int) ∧ (i : Int) ≤ 120; omega, by show 6 ≤ (j : Int) ∧ (j : Int) ≤ 120; omega⟩)
              have hp := upG_pair hv.1 hv.2 (show j ≤ 120 by omega)
              have hle := upG_le (show i ≤ 120 by omega) (show j ≤ 120 by omega)
              have hgear := nearTo_gear t u (upG i j) (by omega)
              have HTK := Lib.hid (fun q => nearTo_take (top := t) (bottom := u) (k := upG i j) q)
              have HKP := Lib.hid (fun q => nearTo_keep (top := t) (bottom := u) (k := upG i j) q)
              have HK1 := Lib.hid (upG_step hv.1 hv.2)
              rw [hp] at HTK HKP
              obtain ⟨o1, o2⟩ := ok_gear hgear
              have o3 : ok11 (i : Int) := ⟨by omega, by omega⟩
              have o4 : ok11 (j : Int) := ⟨by omega, by omega⟩
              rw [HGB.out]
              clear hv hp hle
              generalize nearTo t u (upG i j) = p at *
              obtain ⟨-, ⟨x0, x1⟩, xf⟩ := id hB6
              obtain ⟨-, ⟨g0, g1⟩, -⟩ := id hG6
              have HC := Lib.hid (fun W : World => iclos_any (w := W) t u (i : Int) (j : Int) p.1 p.2)
              have hall : ok11 t ∧ ok11 u ∧ ok11 (i : Int) ∧ ok11 (j : Int) ∧ ok11 p.1 ∧ ok11 p.2 := ⟨HO.out.1, HO.out.2, o3, o4, o1, o2⟩
              by_cases hn : Near t u ((i : Int), (j : Int)) p
              · have HN := Lib.hid (HTK.out hn)
                have HV := Lib.hid (clos_less hall hn)
                clear HTK HKP hall hgear hn o1 o2 o3 o4
                go_wp2_with fail
                refine (HC.out _).mono ?_
                rintro e w6 ⟨rfl, hb7⟩
                rw [HV.out]
                have hb8 := bstep hb6 hb7
                have hB8 := hB6.below hb7
                have hR8 := hR6.below hb7
                have hG8 := hG6.below hb7
                clear x0 x1 xf g0 g1 hb6 hB6 hR6 hG6 hb7 HC
                obtain ⟨-, ⟨g0, g1⟩, -⟩ := hG8
                obtain ⟨-, ⟨x0, x1⟩, xf⟩ := id hB8
                have xf0 := xf 0
                have xf1 := xf 1
                have hw1 := wr2_same hB8 (.int .i64 (i : Int)) (.int .i64 (j : Int))
                have hw2 := wr2_other hR8 hBR (.int .i64 (i : Int)) (.int .i64 (j : Int))
                have hw3 := wr2_below hb8 hleB (.int .i64 (i : Int)) (.int .i64 (j : Int))
                obtain ⟨q0, q1⟩ := read2 hB8 (.int .i64 (i : Int)) (.int .i64 (j : Int))
                unfold wr2 at hw1 hw2 hw3
                clear hB8 hR8 hb8
                go_wp2
                go_roundw
                case rel => exact ⟨j + 1, by omega, by go_num, by rw [HK1.out, HN.out]; exact hw1, hw2, hw3⟩
                case measure => simp [intOf]; omega
              · have HN := Lib.hid (HKP.out hn)
                have HV : Hid (¬ closM6 t u (i : Int) (j : Int) p.1 p.2 < 0) := Lib.hid (by
                  unfold Near at hn
                  simp only at hn
                  by_cases q : farM t u p.1 p.2 * (j : Int) < farM t u (i : Int) (j : Int) * p.2
                  · rw [clos_more hall q]; omega
                  · rw [clos_same hall (by omega)]; omega)
                clear HTK HKP hall hgear hn o1 o2 o3 o4
                have hv := HV.out
                go_wp2_with fail
                refine (HC.out _).mono ?_
                rintro e w6 ⟨rfl, hb7⟩
                have hb8 := bstep hb6 hb7
                have hB8 := hB6.below hb7
                have hR8 := hR6.below hb7
                clear x0 x1 xf g0 g1 hb6 hB6 hR6 hG6 hb7 HC
                generalize closM6 t u (i : Int) (j : Int) p.1 p.2 = R at *
                go_wp2
                go_roundw
                case rel => exact ⟨j + 1, by omega, by go_num, by rw [HK1.out, HN.out]; exact hB8, hR8, hb8⟩
                case measure => simp [intOf]; omega
            · have HGB : Hid (gearB ((i : Int), (j : Int)) = false) := Lib.hid (gearB_false.2 fun q => hv ⟨by have := q.1.1; simp only at this; omega, by have := q.2.1; simp only at this; omega⟩)
              have HK1 := Lib.hid (upG_keep hv)
              rw [HGB.out]
              clear hv
              go_wp2
              go_roundw
              case rel => exact ⟨j + 1, by omega, by go_num, by rw [HK1.out]; exact hB6, hR6, hb6⟩
              case measure => simp [intOf]; omega
          · obtain rfl : j = 121 := by omega
            rw [upG_end] at hBx
            go_wp2
            go_roundw
            case rel => exact ⟨i + 1, by omega, by go_num, hBx, hRx, hbx⟩
            case measure => simp [intOf]; omega
      · obtain rfl : i = 121 := by omega
        have HE : Hid ((nearTo t u ((121 - 6) * 115)) = nearM t u) := Lib.hid rfl
        rw [HE.out] at hB
        generalize nearM t u = p at *
        obtain ⟨-, ⟨x0, x1⟩, -⟩ := id hB
        obtain ⟨-, ⟨y0, y1⟩, yf⟩ := id hRb
        have yf0 := yf 0
        have yf1 := yf 1
        obtain ⟨-, ⟨z0, z1⟩, zf⟩ := wr2_same hRb (.int .i64 p.1) (.int .i64 p.2)
        have hb5 := wr2_below hbr hleR (.int .i64 p.1) (.int .i64 p.2)
        have q2 : (wr.setCell ⟨bR, 0, none⟩ (.int .i64 p.1)).cell? ⟨bR, 1, none⟩ = some (.int .i64 0) := by rw [World.cell?_setCell_other (h := by simp)]; exact y1
        unfold wr2 at z0 z1 hb5
        clear hB hRb hbr
        go_wp2
        exact bodyPost_ret (v := .tuple #[.agg #[.int .i64 p.1, .int .i64 p.2], .bool true]) (by simp [results, Try.results13, go_sem, z0, z1]) rfl ⟨by rw [HR.out], hb5⟩
  · have HBB := Lib.hid (bad2_no h12)
    have HR := Lib.hid (nearA_no h12)
    clear h12
    go_enter Try.func13, Try.ntmps13
    go_wp2_with fail
    simp only [← hW, ← hbR]
    clear hbR hleb
    refine HN.out.mono ?_
    rintro e w1 ⟨rfl, hb2⟩
    rw [HBB.out]
    have hb3 := bstep hb1 hb2
    have hX2 := hX1.below hb2
    clear HN hb1 hX1 hb2 hW
    obtain ⟨-, ⟨x0, x1⟩, xf⟩ := id hX2
    have xf0 := xf 0
    have xf1 := xf 1
    obtain ⟨-, ⟨z0, z1⟩, zf⟩ := wr2_same hX2 (.int .i64 0) (.int .i64 0)
    have hb5 := wr2_below hb3 hleR (.int .i64 0) (.int .i64 0)
    have q2 : (w1.setCell ⟨bR, 0, none⟩ (.int .i64 0)).cell? ⟨bR, 1, none⟩ = some (.int .i64 0) := by rw [World.cell?_setCell_other (h := by simp)]; exact x1
    unfold wr2 at z0 z1 hb5
    clear hX2 hb3
    go_wp2
    exact bodyPost_ret (v := .tuple #[.agg #[.int .i64 0, .int .i64 0], .bool false]) (by simp [results, Try.results13, go_sem, z0, z1]) rfl ⟨by rw [HR.out], hb5⟩
end Go.Proofs.Ytjikpkigncomfaa
