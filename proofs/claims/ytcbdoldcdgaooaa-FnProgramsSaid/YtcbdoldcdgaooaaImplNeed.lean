/- The contract of the program's TeethNeeded. No condition. -/
import Derived.Test.YtcbdoldcdgaooaaImplResting
import Derived.Test.YtcbdoldcdgaooaaRdCap
namespace Go.Proofs.Ytcbdoldcdgaooaa
open Go.ChangeShapes Go.WideShapes Go.ChangeAt Go.RowKit

set_option maxHeartbeats 4000000 in
set_option maxRecDepth 100000 in
theorem ineeded_any {w : World} {v : Value} {t : List (Int × Int)} (r : Int) (hc2 : Rc2 w v t) :
    Calls Try.prog 119 #[v, .int .i64 r] w (NewInts w (needM r t)) := by
  obtain ⟨i0, hi, hz0, hz1, hz2⟩ := info_parts infoInt
  obtain ⟨h, hcap⟩ := hc2
  obtain ⟨a1, cap1, rfl⟩ := Rd.slice h
  have hcp := hcap.le
  clear hcap
  by_cases tt : tuneB t = true
  · have TT := Lib.hid tt
    have h40 := (tuneB_true.1 tt).1
    by_cases hr : 1 ≤ r ∧ r ≤ 100
    · have HL := Lib.hid (show needM r t = needL r t t.length from if_pos ⟨tt, decide_eq_true hr⟩)
      have HR : Hid (∀ (k : Nat) (q : Int × Int), t[k]? = some q → (0 ≤ q.1 ∧ q.1 ≤ 1000) ∧ (0 ≤ q.2 ∧ q.2 ≤ 60)) := Lib.hid fun k q hq => ⟨((tuneB_true.1 tt).2 k q hq).1, ((tuneB_true.1 tt).2 k q hq).2.1⟩
      have hr1 := hr.1
      have hr2 := hr.2
      clear tt
      go_enter Try.func119, Try.ntmps119
      go_wp2_with fail
      refine (itune_yes h TT.out).mono ?_
      rintro e w1 ⟨rfl, hb1⟩
      go_wp2_with fail
      refine (irest_yes hr _).mono ?_
      rintro e w2 ⟨rfl, rfl⟩
      clear hr
      obtain ⟨w3, hrun, hown, hgrow⟩ := run_make_full (P := Try.prog) (w := w1) w.heap.size 33 3 i0 (.int .i64 0) 1 Try.underlying33 hi hz0 hz1 .i64 .i64 61 (by rw [hz2]; omega) (by unfold maxLen; omega) hb1.size
      have hb3 : Below w.heap.size w w3 := hb1.grown hgrow hb1.size (fun k hk => by cases hk)
      have hown3 : w3.ownsRow w.heap.size 3 1 (.slice (some ⟨w1.heap.size, 0, none⟩) 61 61) 61 ((needL r t 0).map intV) := by
        have e : (madeCells (Value.int .i64 0).cells (61 * 1)).toList = (List.replicate 61 (0 : Int)).map intV := by kernel_rfl
        rw [needL_zero, ← e]; exact hown
      rw [show ((61 : Nat) : Int) = 61 from rfl] at hrun
      have hge : w.heap.size ≤ w1.heap.size := hb1.size
      clear hown hgrow hb1
      generalize w1.heap.size = g at *
      go_wp2_with fail
      go_loopw [19] (fun v19 wr => ∃ k : Nat, k ≤ t.length ∧ v19 = .int .i64 (k : Int) ∧ wr.ownsRow w.heap.size 3 1 (.slice (some ⟨g, 0, none⟩) 61 61) 61 ((needL r t k).map intV) ∧ Below w.heap.size w wr) (fun v19 _ => t.length - (intOf v19).toNat)
      case atStart => exact ⟨0, Nat.zero_le _, rfl, hown3, hb3⟩
      case round =>
        obtain ⟨k, hk, rfl, hown, hbr⟩ := hrel
        clear hown3 hb3 hrun
        by_cases hlt : k < t.length
        · obtain ⟨⟨q1, q2⟩, hq⟩ : ∃ q, t[k]? = some q := ⟨_, List.getElem?_eq_getElem hlt⟩
          obtain ⟨⟨hq1, hq2⟩, hq3, hq4⟩ := HR.out k _ hq
          simp only at hq1 hq2 hq3 hq4
          obtain ⟨p, rfl⟩ := Int.eq_ofNat_of_zero_le hq3
          have HQ := Lib.hid hq
          obtain ⟨b1, o1, c1, hv1, x1, y1⟩ := Rd2.cells (Rd.below h hbr) hq
          simp only [Value.slice.injEq, true_and] at hv1
          obtain ⟨rfl, rfl⟩ := hv1
          simp only at x1 y1
          have HW : Hid (winC (t.take (k + 1)) (t.take (k + 1)).length (q1, (p : Int)) r = winC t (k + 1) (q1, (p : Int)) r) := Lib.hid (by
            unfold winC; rw [List.take_take, List.length_take]
            congr 3
            omega)
          have HPQ : Hid ((t.take (k + 1))[(t.take (k + 1)).length - 1]? = some (q1, (p : Int))) := Lib.hid (by
            have e : (t.take (k + 1)).length - 1 = k := by rw [List.length_take]; omega
            rw [e, List.getElem?_take, if_pos (by omega)]; exact hq)
          have HPB : Hid (∀ (j : Nat) (u : Int × Int), (t.take (k + 1))[j]? = some u → 0 ≤ u.1 ∧ u.1 ≤ 1000) := Lib.hid fun j u hu => by
            rw [List.getElem?_take] at hu
            split at hu
            · exact (HR.out j u hu).1
            · cases hu
          have HP := Lib.hid (needL_succ (r := r) hq rfl (by omega))
          have hmx : Hid ((needL r t k)[p]? = some ((needTo r t k (p : Int) : Nat) : Int)) := Lib.hid (needL_at _ _ _ (by omega))
          have hc0 : wr.cell? ⟨g, p, none⟩ = some (.int .i64 ((needTo r t k (p : Int) : Nat) : Int)) := by
            rw [hown.cellAt _ (by omega), List.getElem?_map, hmx.out]; rfl
          have hf0 := hown.frozenAt p
          have hnl := needTo_le r t k (p : Int)
          have hwl := winC_le t (k + 1) (q1, (p : Int)) r
          have hp61 : p < 61 := by omega
          have hp61i : (p : Int) < 61 := by omega
          have hp0i : (0 : Int) ≤ (p : Int) := by omega
          have hkc : (k : Int) + 1 ≤ (cap1 : Int) := by omega
          have hkw : IntKind.i64.wrap ((k : Int) + 1) = (k : Int) + 1 := IntWalk.i64_in _ (by omega)
          have hk0 : (0 : Int) ≤ (k : Int) + 1 := by omega
          have hkn : ((k : Int) + 1).toNat = k + 1 := by omega
          clear hq hmx
          have HRS : Hid (∀ W, Rd2 W (.slice (some ⟨b1, o1, none⟩) (k + 1) cap1) (t.take (k + 1)) → Calls Try.prog 142 #[.slice (some ⟨b1, o1, none⟩) (k + 1) cap1, .int .i64 r] W fun e w' => e = .returned (.int .i64 ((winC t (k + 1) (q1, (p : Int)) r : Nat) : Int)) ∧ Below W.heap.size W w') := Lib.hid fun W hW => by
            rw [← HW.out]; exact resting_any r hW HPQ.out HPB.out
          clear HW HPQ HPB
          generalize needTo r t k (p : Int) = na at *
          generalize winC t (k + 1) (q1, (p : Int)) r = nb at *
          have emx : (if na < nb then (nb : Int) else (na : Int)) = ((max na nb : Nat) : Int) := by split <;> omega
          go_wp2_with fail
          obtain ⟨z1, zc, zf, hbs, hownA, hRA, hlt1, hgB⟩ : (wr.alloc (.cells #[.int .i64 q1, .int .i64 (p : Int)] 41)).cell? ⟨wr.heap.size, 1, none⟩ = some (.int .i64 (p : Int)) ∧
              (wr.alloc (.cells #[.int .i64 q1, .int .i64 (p : Int)] 41)).cell? ⟨g, p, none⟩ = some (.int .i64 (na : Int)) ∧
              (wr.alloc (.cells #[.int .i64 q1, .int .i64 (p : Int)] 41)).frozen? ⟨g, p, none⟩ = false ∧
              Below w.heap.size w (wr.alloc (.cells #[.int .i64 q1, .int .i64 (p : Int)] 41)) ∧
              (wr.alloc (.cells #[.int .i64 q1, .int .i64 (p : Int)] 41)).ownsRow w.heap.size 3 1 (.slice (some ⟨g, 0, none⟩) 61 61) 61 ((needL r t k).map intV) ∧
              Rd2 (wr.alloc (.cells #[.int .i64 q1, .int .i64 (p : Int)] 41)).drew (.slice (some ⟨b1, o1, none⟩) (k + 1) cap1) (t.take (k + 1)) ∧
              wr.heap.size < (wr.alloc (.cells #[.int .i64 q1, .int .i64 (p : Int)] 41)).heap.size ∧ g ≠ wr.heap.size :=
            ⟨cell0 _ _ _ _, Lib.cell?_alloc_some _ hc0, (hown.alloc _).frozenAt p, hbr.alloc hbr.size _, hown.alloc _, rd2_pre (Rd.below h (hbr.alloc hbr.size _)) (by omega), by simp, by have := World.block_lt_of_cell? _ _ hc0; simp only at this; omega⟩
          generalize wr.alloc (.cells #[.int .i64 q1, .int .i64 (p : Int)] 41) = W1 at *
          generalize wr.heap.size = B1 at *
          clear hc0 hf0 hown hbr x1 y1
          go_region_with
            ((go_at_call 142; (with_reducible refine (HRS.out _ hRA).mono ?_); rintro e w4 ⟨rfl, hb4⟩; have x1 := kept_cell hb4 z1; have x2 := kept_cell hb4 zc; have x3 := (((below_undrew hb4).frozen (p := ⟨g, p, none⟩) (World.block_lt_of_cell? _ _ zc)).trans zf)))
          all_goals
            have hbr2 := bstep hbs (below_undrew hb4)
            have hown2 := ownS_below hownA (below_undrew hb4)
            have hst := hown2.stored p (.int .i64 ((max na nb : Nat) : Int))
            have HST : Hid ((w4.setCell ⟨g, p, none⟩ (.int .i64 ((max na nb : Nat) : Int))).ownsRow w.heap.size 3 1 (.slice (some ⟨g, 0, none⟩) 61 61) 61 ((needL r t (k + 1)).map intV)) := Lib.hid (by rw [HP.out, List.map_set]; exact hst.1)
            have hb5 : Below w.heap.size w (w4.setCell ⟨g, p, none⟩ (.int .i64 ((max na nb : Nat) : Int))) := hbr2.setCell hge _
            clear hst hown2 hbr2 hb4 hRA hownA hbs x1 x2 x3 zc zf z1
            go_wp2
            go_roundw
            case rel => exact ⟨k + 1, by omega, by go_num, HST.out, hb5⟩
            case measure => simp [intOf]; omega
        · obtain rfl : k = t.length := by omega
          go_wp2
          go_ret
          exact ⟨_, rfl, by rw [HL.out, needL_len]; exact hown, hbr⟩
    · have HL := Lib.hid (show needM r t = [] from if_neg fun k => hr (of_decide_eq_true k.2))
      clear tt
      go_enter Try.func119, Try.ntmps119
      go_wp2_with fail
      refine (itune_yes h TT.out).mono ?_
      rintro e w1 ⟨rfl, hb1⟩
      go_wp2_with fail
      refine (irest_no hr _).mono ?_
      rintro e w2 ⟨rfl, rfl⟩
      go_wp2
      go_ret
      exact ⟨_, rfl, by rw [HL.out]; exact World.ownsRow_nil _ _ _ _, hb1⟩
  · have TT := Lib.hid (show tuneB t = false by simpa using tt)
    have HL := Lib.hid (show needM r t = [] from if_neg fun k => tt k.1)
    clear tt
    go_enter Try.func119, Try.ntmps119
    go_wp2_with fail
    refine (itune_no h TT.out).mono ?_
    rintro e w1 ⟨rfl, hb1⟩
    go_wp2
    go_ret
    exact ⟨_, rfl, by rw [HL.out]; exact World.ownsRow_nil _ _ _ _, hb1⟩
end Go.Proofs.Ytcbdoldcdgaooaa
