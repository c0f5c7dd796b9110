/- The contracts of chapter 17's program, the rest: ScalesFor, WrongNotes, slices.MinFunc, BestScale. No condition. Made by gen_scale.py. -/
import Derived.Test.YthggdckldcfakaaImplScale2
namespace Go.Proofs.Ythggdckldcfakaa
open Go.ChangeShapes Go.WideShapes Go.ChangeAt Go.RowKit

set_option maxHeartbeats 2000000 in
theorem scP_any {w : World} {v : Value} {l : List (Int × Int)} (h : Rd2 w v l) :
    Calls Try.prog 14 #[v] w (NewInts w (scalesM l)) := by
  obtain ⟨i0, hi0, hz0, hz1, hz2⟩ := info_parts infoInt
  obtain ⟨a1, cap1, rfl⟩ := Rd.slice h
  have hsf := run_store_funcF
  by_cases ht : tuneB l = true
  · have HT := Lib.hid ht
    have HR := Lib.hid (scalesM_yes ht)
    clear ht
    go_enter Try.func14, Try.ntmps14
    go_wp2_with fail
    refine (itune_yes h HT.out).mono ?_
    rintro e w1 ⟨rfl, hb1⟩
    go_wp2_with fail
    refine (scales_any _).mono ?_
    rintro e w2 ⟨vq, lq, rfl, hQ, hb2⟩
    obtain ⟨a3, c3, hv⟩ := Rd.slice hQ.2.1
    rw [hQ.1] at hv
    subst hv
    have hB2 := Lib.hid (bstep hb1 hb2)
    have hR2 := Rd.below h hB2.out
    clear hb1 hb2
    go_wp2_with fail
    go_loopw [3, 11] (fun v3 v11 wr => ∃ n : Nat, n ≤ 12 ∧ v11 = .int .i64 (n : Int) ∧ wr.ownsRow w2.heap.size 3 1 v3 (scL l n).length ((scL l n).map intV) ∧ Below w2.heap.size w2 wr) (fun _ v11 _ => 12 - (intOf v11).toNat)
    case atStart => exact ⟨0, by omega, rfl, World.ownsRow_nil _ _ _ _, Below.refl _ _⟩
    case round =>
      obtain ⟨n, hn, rfl, hown, hbr⟩ := hrel
      by_cases hlt : n < 12
      · have hlen := scL_len l n
        have HY := Lib.hid (scL_yes (l := l) (n := n))
        have HN := Lib.hid (scL_no (l := l) (n := n))
        obtain ⟨b1, o1, c1, q, hv1, x1, y1, hsq⟩ := (hQ.below hbr).cells hlt
        simp only [Value.slice.injEq, true_and] at hv1
        obtain ⟨rfl, rfl⟩ := hv1
        have hbsw : w2.heap.size ≤ wr.heap.size := by have := hbr.size; omega
        have hbA := (Below.refl wr.heap.size wr).alloc (Nat.le_refl _) (.cells #[.int .i64 (n : Int), hasV q] 55)
        have hb3 := hbr.alloc hbsw (.cells #[.int .i64 (n : Int), hasV q] 55)
        have ho3 := hown.alloc (.cells #[.int .i64 (n : Int), hasV q] 55)
        have HSQ := Lib.hid (hsq.below hbA)
        have hX := boxF_new wr (.int .i64 (n : Int)) (hasV q) 55
        clear hsq hown
        unfold hasV at *
        go_upto_region 7 with fail
        generalize wr.alloc (.cells #[.int .i64 (n : Int), .func (.func 58) #[] #[.pointer (some ⟨q, 0, none⟩)]] 55) = W3 at *
        obtain ⟨bx, hbx⟩ : ∃ b, b = wr.heap.size := ⟨_, rfl⟩
        rw [← hbx] at hX
        simp only [← hbx]
        clear hbx x1 y1
        obtain ⟨-, ⟨x1, y1⟩, -⟩ := id hX
        have hR3 := Rd.below hR2 hb3
        go_wp2_with fail
        refine (wrongIn_any HSQ.out hR3 HT.out).mono ?_
        rintro e w5 ⟨rfl, hg5⟩
        have hb5 : Below w2.heap.size w2 w5 := hb3.trans (hg5.below.mono (by have := hb3.size; omega))
        have ho5 := ownS_below ho3 hg5.below
        have hx5 := (hX.below hg5.below).2.1.1
        have hb5s : w2.heap.size ≤ w5.heap.size := by have := hb5.size; omega
        clear hX x1 y1 hbA hb3 ho3 hR3 hg5
        generalize wrongN l (majN n) = y at *
        by_cases hy : y = 0
        · have HA := Lib.hid (HY.out hy)
          have hz : ((y : Int) == 0) = true := by rw [beq_iff_eq]; omega
          clear HY HN hy
          go_wp2_with (at_builtin; refine wpList_append_own _ rfl _ _ 27 rfl w2.heap.size 3 i0 (.int .i64 0) 1 8 Try.underlying27 hi0 hz0 hz1 hz2 rfl (by decide) _ (scL l n).length _ rfl (ho5.alloc _) ⟨w5.heap.size, 0, none⟩ 1 1 [.int .i64 (n : Int)] rfl rfl ?c1 ?c2 ?c3 ?c4 ?c5 ?_)
          try (case c1 => first | exact World.news_of_block (heap_alloc_new w5 _) | exact fun _ _ h => h)
          case c2 => simp [Value.oneCell']
          case c3 => unfold maxLen; omega
          case c4 => omega
          case c5 => simp; omega
          intro v' w6 hown2 hgrow _
          have hb7 := (hb5.alloc hb5s _).grown hgrow (by simp; omega) (fun q hq => (ho5.lt q hq).1)
          have hown3 : w6.ownsRow w2.heap.size 3 1 v' (scL l (n + 1)).length ((scL l (n + 1)).map intV) := by
            rw [HA.out, List.map_append, List.length_append]; exact hown2
          clear ho5 hown2 hgrow hbr hb5 hx5
          go_wp2
          go_roundw
          case rel => exact ⟨n + 1, by omega, by go_num, hown3, hb7⟩
          case measure => simp [intOf]; omega
        · have HA := Lib.hid (HN.out hy)
          have hz : ((y : Int) == 0) = false := by rw [beq_eq_false_iff_ne]; omega
          have hown3 : w5.ownsRow w2.heap.size 3 1 u3 (scL l (n + 1)).length ((scL l (n + 1)).map intV) := by
            rw [HA.out]; exact ho5
          clear HY HN hy ho5 hbr
          go_wp2
          go_roundw
          case rel => exact ⟨n + 1, by omega, by go_num, hown3, hb5⟩
          case measure => simp [intOf]; omega
      · obtain rfl : n = 12 := by omega
        go_wp2
        go_ret
        exact ⟨_, rfl, by rw [HR.out]; exact ownS_mono hown hB2.out.size, hB2.out.trans (hbr.mono hB2.out.size)⟩
  · have HT : Hid (tuneB l = false) := Lib.hid (by simpa using ht)
    have HR := Lib.hid (scalesM_no HT.out)
    clear ht
    go_enter Try.func14, Try.ntmps14
    go_wp2_with fail
    refine (itune_no h HT.out).mono ?_
    rintro e w1 ⟨rfl, hb1⟩
    go_wp2
    go_ret
    exact ⟨_, rfl, by rw [HR.out]; exact World.ownsRow_nil _ _ _ _, hb1⟩

set_option maxHeartbeats 1000000 in
theorem wrongP_any {w : World} {v : Value} {l : List (Int × Int)} (r : Int) (h : Rd2 w v l) :
    Calls Try.prog 16 #[v, .int .i64 r] w fun e w' => e = .returned (.int .i64 (wrongI l r)) ∧ Below w.heap.size w w' := by
  obtain ⟨a1, cap1, rfl⟩ := Rd.slice h
  by_cases ht : tuneB l = true
  · have HT := Lib.hid ht
    by_cases h2 : 0 ≤ r ∧ r ≤ 11
    · obtain ⟨r, rfl⟩ := Int.eq_ofNat_of_zero_le h2.1
      have hr12 : r < 12 := by omega
      have HR := Lib.hid (wrongI_yes ht hr12)
      have h2' := Lib.hid h2
      clear ht h2
      go_enter Try.func16, Try.ntmps16
      go_wp2_with fail
      refine (itune_yes h HT.out).mono ?_
      rintro e w1 ⟨rfl, hb1⟩
      go_wp2_with fail
      refine (stOk_is (inB_true h2'.out) _).mono ?_
      rintro e w2 ⟨rfl, rfl⟩
      go_wp2_with fail
      refine (majOf_any hr12).mono ?_
      rintro e w3 ⟨q, rfl, hsq, -, hb3⟩
      have hb4 := bstep hb1 hb3
      have HSQ := Lib.hid hsq
      clear hsq hb1 hb3
      unfold hasV
      go_wp2_with fail
      refine (wrongIn_any HSQ.out (Rd.below h hb4) HT.out).mono ?_
      rintro e w5 ⟨rfl, hg5⟩
      have hb5 := bstep hb4 hg5.below
      clear hg5 hb4
      go_wp2
      go_ret
      exact ⟨by rw [HR.out]; (try rfl), hb5⟩
    · have HR := Lib.hid (wrongI_no (l := l) (r := r) fun k => h2 k.2)
      have h2' := Lib.hid h2
      clear ht h2
      go_enter Try.func16, Try.ntmps16
      go_wp2_with fail
      refine (itune_yes h HT.out).mono ?_
      rintro e w1 ⟨rfl, hb1⟩
      go_wp2_with fail
      refine (stOk_is (inB_false h2'.out) _).mono ?_
      rintro e w2 ⟨rfl, rfl⟩
      go_wp2
      go_ret
      exact ⟨by rw [HR.out]; (try rfl), hb1⟩
  · have HT : Hid (tuneB l = false) := Lib.hid (by simpa using ht)
    have HR := Lib.hid (wrongI_no (l := l) (r := r) fun k => ht k.1)
    clear ht
    go_enter Try.func16, Try.ntmps16
    go_wp2_with fail
    refine (itune_no h HT.out).mono ?_
    rintro e w1 ⟨rfl, hb1⟩
    go_wp2
    go_ret
    exact ⟨by rw [HR.out]; (try rfl), hb1⟩

set_option maxHeartbeats 2000000 in
theorem cmpB_any {W : World} {bt q1 q2 r1 r2 : Nat} {v : Value} {l : List (Int × Int)} (hb : W.cell? ⟨bt, 0, none⟩ = some v) (h : Rd2 W v l) (ht : tuneB l = true) (h1 : ScAt W q1 r1) (h2 : ScAt W q2 r2) :
    Calls Try.prog 44 (#[.agg #[.int .i64 (r1 : Int), hasV q1], .agg #[.int .i64 (r2 : Int), hasV q2]] ++ #[.pointer (some ⟨bt, 0, none⟩)]) W fun e w' => e = .returned (.int .i64 (((wrongN l (majN r1) : Nat) : Int) - ((wrongN l (majN r2) : Nat) : Int))) ∧ Gr W w' := by
  show Calls Try.prog 44 #[.agg #[.int .i64 (r1 : Int), hasV q1], .agg #[.int .i64 (r2 : Int), hasV q2], .pointer (some ⟨bt, 0, none⟩)] W _
  obtain ⟨a1, cap1, rfl⟩ := Rd.slice h
  have h40 := (tuneB_true.1 ht).1
  have hX1 := boxF_new W (.int .i64 (r1 : Int)) (hasV q1) 55
  have hX2 := boxF_new (W.alloc (.cells #[.int .i64 (r1 : Int), hasV q1] 55)) (.int .i64 (r2 : Int)) (hasV q2) 55
  have hgA := gr_trans17 (gr_alloc17 W (.cells #[.int .i64 (r1 : Int), hasV q1] 55)) (gr_alloc17 _ (.cells #[.int .i64 (r2 : Int), hasV q2] 55))
  replace hX1 := hX1.below (gr_alloc17 _ (.cells #[.int .i64 (r2 : Int), hasV q2] 55)).below
  have hs1 : (W.alloc (.cells #[.int .i64 (r1 : Int), hasV q1] 55)).heap.size = W.heap.size + 1 := size_alloc _ _
  rw [hs1] at hX2
  have hw1 := wrong_le l (majN r1)
  have hw2 := wrong_le l (majN r2)
  have hbB := kept_b hgA.below hb
  have hRB := Rd.below h hgA.below
  have h1B := h1.below hgA.below
  have h2B := h2.below hgA.below
  clear h hb h1 h2 hs1
  have HW1 := fun (n : Nat) (os : Array Obj) => (fun (g : Gr ((W.alloc (.cells #[.int .i64 (r1 : Int), hasV q1] 55)).alloc (.cells #[.int .i64 (r2 : Int), hasV q2] 55)) (Sort.grow (((W.alloc (.cells #[.int .i64 (r1 : Int), hasV q1] 55)).alloc (.cells #[.int .i64 (r2 : Int), hasV q2] 55)).drewN n) os)) => wrongIn_any (h1B.below g.below) (Rd.below hRB g.below) ht) ⟨n, os, rfl⟩
  have HW2 := fun (n : Nat) (os : Array Obj) => (fun (g : Gr ((W.alloc (.cells #[.int .i64 (r1 : Int), hasV q1] 55)).alloc (.cells #[.int .i64 (r2 : Int), hasV q2] 55)) (Sort.grow (((W.alloc (.cells #[.int .i64 (r1 : Int), hasV q1] 55)).alloc (.cells #[.int .i64 (r2 : Int), hasV q2] 55)).drewN n) os)) => wrongIn_any (h2B.below g.below) (Rd.below hRB g.below) ht) ⟨n, os, rfl⟩
  replace HW1 := Lib.hid HW1
  replace HW2 := Lib.hid HW2
  clear h1B h2B hRB ht
  generalize wrongN l (majN r1) = x at *
  generalize wrongN l (majN r2) = y at *
  have ew : IntKind.i64.wrap ((x : Int) - (y : Int)) = (x : Int) - (y : Int) := IntWalk.i64_in _ (by omega)
  unfold hasV at *
  go_enter Try.func44, Try.ntmps44
  go_upto_region 1 with fail
  generalize (W.alloc (.cells #[.int .i64 (r1 : Int), .func (.func 58) #[] #[.pointer (some ⟨q1, 0, none⟩)]] 55)).alloc (.cells #[.int .i64 (r2 : Int), .func (.func 58) #[] #[.pointer (some ⟨q2, 0, none⟩)]] 55) = W2 at *
  generalize hm2 : W.heap.size + 1 = m2 at *
  obtain ⟨m1, hm1⟩ : ∃ b, b = W.heap.size := ⟨_, rfl⟩
  rw [← hm1] at hX1
  simp only [← hm1]
  clear hm1 hm2
  obtain ⟨-, ⟨x1, y1⟩, -⟩ := hX1
  obtain ⟨-, ⟨x2, y2⟩, -⟩ := hX2
  have z1 := fun n os => cell_grown (World.block_lt_of_cell? _ _ x1) x1 n os
  have z2 := fun n os => cell_grown (World.block_lt_of_cell? _ _ y1) y1 n os
  have z3 := fun n os => cell_grown (World.block_lt_of_cell? _ _ x2) x2 n os
  have z4 := fun n os => cell_grown (World.block_lt_of_cell? _ _ y2) y2 n os
  have z5 := fun n os => cell_grown (World.block_lt_of_cell? _ _ hbB) hbB n os
  clear x1 y1 x2 y2 hbB
  go_wp2_with fail
  refine wp_region_quiet_grown (by kernel_rfl) (by kernel_rfl) ?_
  repeat (go_big_quiet_step ((first | (go_at_call 42; with_reducible exact grown_gr (HW1.out _ _)) | (go_at_call 42; with_reducible exact grown_gr (HW2.out _ _)))))
  refine wpQuiet_nil ?_
  intro _ hw'
  obtain ⟨⟨nq, osq⟩, hw''⟩ := hw'
  subst hw''
  have hge : Gr W2 (Sort.grow (W2.drewN nq) osq) := ⟨nq, osq, rfl⟩
  have hbe := hge.below
  generalize Sort.grow (W2.drewN nq) osq = W9 at *
  clear z1 z2 z3 z4 z5
  go_wp2
  go_ret
  exact ⟨by (try rfl), gr_trans17 hgA hge⟩
end Go.Proofs.Ythggdckldcfakaa
