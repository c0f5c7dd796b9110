/- The contract of chapter 5's model: TeethNeeded. No condition. -/
import Derived.Test.YtcbdoldcdgaooaaSortSpec
import Derived.Test.YtcbdoldcdgaooaaInts
import Derived.StillTailTactics
namespace Go.Proofs.Ytcbdoldcdgaooaa
open Go.ChangeShapes Go.WideShapes Go.ChangeAt Go.RowKit

/-- Of the first j notes: those of p's pitch less than r ahead of it. -/
def winC (t : List (Int × Int)) (j : Nat) (p : Int × Int) (r : Int) : Nat := ((t.take j).filter fun q => decide (q.2 = p.2 ∧ p.1 - q.1 < r)).length
theorem winC_succ {t : List (Int × Int)} {j : Nat} {q : Int × Int} (p : Int × Int) (r : Int) (h : t[j]? = some q) : winC t (j + 1) p r = winC t j p r + (if q.2 = p.2 ∧ p.1 - q.1 < r then 1 else 0) := by
  unfold winC; rw [List.take_add_one, h, List.filter_append, List.length_append]
  by_cases hq : q.2 = p.2 ∧ p.1 - q.1 < r <;> simp [hq]
theorem winC_le (t : List (Int × Int)) (j : Nat) (p : Int × Int) (r : Int) : winC t j p r ≤ j := by
  unfold winC; exact Nat.le_trans (List.length_filter_le _ _) (List.length_take_le _ _)
def needTo (r : Int) (t : List (Int × Int)) : Nat → Int → Nat
  | 0, _ => 0
  | k + 1, x => match t[k]? with
    | some q => if q.2 = x then max (needTo r t k x) (winC t (k + 1) q r) else needTo r t k x
    | none => needTo r t k x
theorem needTo_succ {r : Int} {t : List (Int × Int)} {k : Nat} {q : Int × Int} (h : t[k]? = some q) (x : Int) : needTo r t (k + 1) x = if q.2 = x then max (needTo r t k x) (winC t (k + 1) q r) else needTo r t k x := by
  show (match t[k]? with
    | some q => if q.2 = x then max (needTo r t k x) (winC t (k + 1) q r) else needTo r t k x
    | none => needTo r t k x) = _
  rw [h]
theorem needTo_le (r : Int) (t : List (Int × Int)) : ∀ (k : Nat) (x : Int), needTo r t k x ≤ k
  | 0, _ => Nat.le_refl _
  | k + 1, x => by
    have ih := needTo_le r t k x
    unfold needTo
    split
    · split
      · have := winC_le t (k + 1) (by assumption) r; omega
      · omega
    · omega
def needL (r : Int) (t : List (Int × Int)) (k : Nat) : List Int := (List.range 61).map fun (p : Nat) => ((needTo r t k (p : Int) : Nat) : Int)
theorem needL_len (r : Int) (t : List (Int × Int)) (k : Nat) : (needL r t k).length = 61 := by unfold needL; simp
theorem needL_at (r : Int) (t : List (Int × Int)) (k : Nat) {p : Nat} (hp : p < 61) : (needL r t k)[p]? = some ((needTo r t k (p : Int) : Nat) : Int) := by unfold needL; simp [hp]
theorem needL_zero (r : Int) (t : List (Int × Int)) : needL r t 0 = List.replicate 61 0 := by
  refine List.ext_getElem? fun i => ?_
  by_cases hi : i < 61
  · rw [needL_at _ _ _ hi, List.getElem?_replicate, if_pos hi]; rfl
  · rw [List.getElem?_eq_none (by rw [needL_len]; omega), List.getElem?_eq_none (by simp; omega)]
theorem needL_succ {r : Int} {t : List (Int × Int)} {k : Nat} {q : Int × Int} (h : t[k]? = some q) {p : Nat} (hp : q.2 = (p : Int)) (hp61 : p < 61) :
    needL r t (k + 1) = (needL r t k).set p ((max (needTo r t k (p : Int)) (winC t (k + 1) q r) : Nat) : Int) := by
  refine List.ext_getElem? fun i => ?_
  by_cases hi : i < 61
  · rw [needL_at _ _ _ hi, needTo_succ h]
    by_cases hip : i = p
    · subst hip
      rw [List.getElem?_set_self (by rw [needL_len]; exact hi), if_pos hp]
    · rw [List.getElem?_set_ne (by omega), needL_at _ _ _ hi, if_neg (by omega)]
  · rw [List.getElem?_eq_none (by rw [needL_len]; omega), List.getElem?_eq_none (by rw [List.length_set, needL_len]; omega)]
noncomputable def needM (r : Int) (t : List (Int × Int)) : List Int := if tuneB t = true ∧ inB r 1 100 = true then needL r t t.length else []
theorem needM_len (r : Int) (t : List (Int × Int)) : (needM r t).length ≤ 61 := by
  unfold needM; split
  · rw [needL_len]; exact Nat.le_refl _
  · simp

set_option maxHeartbeats 4000000 in
set_option maxRecDepth 100000 in
theorem needed_any {w : World} {v : Value} {t : List (Int × Int)} (r : Int) (h : Rd2 w v t) :
    Calls Try.prog 125 #[v, .int .i64 r] w (NewInts w (needM r t)) := by
  obtain ⟨i0, hi, hz0, hz1, hz2⟩ := info_parts infoInt
  obtain ⟨a1, cap1, rfl⟩ := Rd.slice h
  by_cases tt : tuneB t = true
  · have TT := Lib.hid tt
    have h40 := (tuneB_true.1 tt).1
    by_cases hr : 1 ≤ r ∧ r ≤ 100
    · have HL := Lib.hid (show needM r t = needL r t t.length from if_pos ⟨tt, decide_eq_true hr⟩)
      have HR : Hid (∀ (k : Nat) (q : Int × Int), t[k]? = some q → (0 ≤ q.1 ∧ q.1 ≤ 1000) ∧ (0 ≤ q.2 ∧ q.2 ≤ 60)) := Lib.hid fun k q hq => ⟨((tuneB_true.1 tt).2 k q hq).1, ((tuneB_true.1 tt).2 k q hq).2.1⟩
      have hr1 := hr.1
      have hr2 := hr.2
      clear tt
      go_enter Try.func125, Try.ntmps125
      go_wp2_with fail
      refine (tuneok_yes h TT.out).mono ?_
      rintro e w1 ⟨rfl, hb1⟩
      go_wp2_with fail
      refine (in_yes _ _ _ hr _).mono ?_
      rintro e w2 ⟨rfl, rfl⟩
      clear hr
      obtain ⟨w3, hrun, hown, hgrow⟩ := run_make_full (P := Try.prog) (w := w1) w.heap.size 33 3 i0 (.int .i64 0) 1 Try.underlying33 hi hz0 hz1 .i64 .i64 61 (by rw [hz2]; omega) (by unfold maxLen; omega) hb1.size
      have hb3 : Below w.heap.size w w3 := hb1.grown hgrow hb1.size (fun k hk => by cases hk)
      have hown3 : w3.ownsRow w.heap.size 3 1 (.slice (some ⟨w1.heap.size, 0, none⟩) 61 61) 61 ((needL r t 0).map intV) := by
        have e : (madeCells (Value.int .i64 0).cells (61 * 1)).toList = (List.replicate 61 (0 : Int)).map intV := by kernel_rfl
        rw [needL_zero, ← e]; exact hown
      rw [show ((61 : Nat) : Int) = 61 from rfl] at hrun
      have hge : w.heap.size ≤ w1.heap.size := hb1.size
      clear hown hgrow hb1
      generalize w1.heap.size = g at *
      go_wp2_with fail
      go_loopw [6] (fun v6 wr => ∃ k : Nat, k ≤ t.length ∧ v6 = .int .i64 (k : Int) ∧ wr.ownsRow w.heap.size 3 1 (.slice (some ⟨g, 0, none⟩) 61 61) 61 ((needL r t k).map intV) ∧ Below w.heap.size w wr) (fun v6 _ => t.length - (intOf v6).toNat)
      case atStart => exact ⟨0, Nat.zero_le _, rfl, hown3, hb3⟩
      case round =>
        obtain ⟨k, hk, rfl, hown, hbr⟩ := hrel
        clear hown3 hb3 hrun
        by_cases hlt : k < t.length
        · obtain ⟨q, hq⟩ : ∃ q, t[k]? = some q := ⟨_, List.getElem?_eq_getElem hlt⟩
          have HQ := Lib.hid hq
          obtain ⟨⟨hq1, hq2⟩, hq3, hq4⟩ := HR.out k q hq
          clear hq
          have hdk : decide ((k : Int) < (t.length : Int)) = true := decide_eq_true (by omega)
          go_wp2_with fail
          go_loopw [7, 8] (fun v7 v8 wx => ∃ j : Nat, j ≤ k + 1 ∧ v8 = .int .i64 (j : Int) ∧ v7 = .int .i64 ((winC t j q r : Nat) : Int) ∧ wx.ownsRow w.heap.size 3 1 (.slice (some ⟨g, 0, none⟩) 61 61) 61 ((needL r t k).map intV) ∧ Below w.heap.size w wx) (fun _ v8 _ => k + 1 - (intOf v8).toNat)
          case atStart => exact ⟨0, Nat.zero_le _, rfl, by simp [winC], hown, hbr⟩
          case round =>
            obtain ⟨j, hj, rfl, rfl, hown, hbr⟩ := hrel
            obtain ⟨b1, o1, c1, hv1, x1, y1⟩ := Rd2.cells (Rd.below h hbr) HQ.out
            simp only [Value.slice.injEq, true_and] at hv1
            obtain ⟨rfl, rfl⟩ := hv1
            by_cases hjk : j ≤ k
            · obtain ⟨u, hu⟩ : ∃ u, t[j]? = some u := ⟨_, List.getElem?_eq_getElem (by omega)⟩
              obtain ⟨⟨hu1, hu2⟩, hu3, hu4⟩ := HR.out j u hu
              obtain ⟨b2, o2, c2, hv2, x2, y2⟩ := Rd2.cells (Rd.below h hbr) hu
              simp only [Value.slice.injEq, true_and, Option.some.injEq, Addr.mk.injEq, and_true] at hv2
              obtain ⟨⟨rfl, rfl⟩, rfl⟩ := hv2
              have HS := Lib.hid (winC_succ q r hu)
              have hwl := winC_le t j q r
              clear hu
              generalize winC t j q r = wc at *
              by_cases hp : u.2 = q.2
              · by_cases hd : q.1 - u.1 < r
                · have HS2 := Lib.hid (HS.out.trans (by rw [if_pos ⟨hp, hd⟩]))
                  have hpb : (u.2 == q.2) = true := by simpa using hp
                  go_wp2_with fail
                  go_quiet (fail)
                  go_wp2
                  go_roundw
                  case rel => exact ⟨j + 1, by omega, by go_num, by rw [HS2.out]; go_num, ownS_below hown (below_drewN (Below.refl _ _) _), below_drewN hbr _⟩
                  case measure => simp [intOf]; omega
                · have HS2 := Lib.hid (HS.out.trans (by rw [if_neg (fun hh => hd hh.2), Nat.add_zero]))
                  have hpb : (u.2 == q.2) = true := by simpa using hp
                  go_wp2_with fail
                  go_quiet (fail)
                  go_wp2
                  go_roundw
                  case rel => exact ⟨j + 1, by omega, by go_num, by rw [HS2.out], ownS_below hown (below_drewN (Below.refl _ _) _), below_drewN hbr _⟩
                  case measure => simp [intOf]; omega
              · have HS2 := Lib.hid (HS.out.trans (by rw [if_neg (fun hh => hp hh.1), Nat.add_zero]))
                have hpb : (u.2 == q.2) = false := by simpa using hp
                go_wp2_with fail
                go_quiet (fail)
                go_wp2
                go_roundw
                case rel => exact ⟨j + 1, by omega, by go_num, by rw [HS2.out], ownS_below hown (below_drewN (Below.refl _ _) _), below_drewN hbr _⟩
                case measure => simp [intOf]; omega
            · obtain rfl : j = k + 1 := by omega
              obtain ⟨p, hp⟩ := Int.eq_ofNat_of_zero_le hq3
              have HP := Lib.hid (needL_succ (r := r) HQ.out hp (by omega))
              have hmx : Hid ((needL r t k)[p]? = some ((needTo r t k (p : Int) : Nat) : Int)) := Lib.hid (needL_at _ _ _ (by omega))
              have hc0 : wr.cell? ⟨g, p, none⟩ = some (.int .i64 ((needTo r t k (p : Int) : Nat) : Int)) := by
                rw [hown.cellAt _ (by omega), List.getElem?_map, hmx.out]; rfl
              have hf0 := hown.frozenAt p
              rw [hp] at y1
              have hnl := needTo_le r t k (p : Int)
              have hwl := winC_le t (k + 1) q r
              have hp61 : p < 61 := by omega
              have hp61i : (p : Int) < 61 := by omega
              have hp0i : (0 : Int) ≤ (p : Int) := by omega
              go_wp2_with fail
              have y1d : ({ heap := wr.heap, tape := wr.tape, drawn := wr.drawn + 1, os := wr.os, output := wr.output } : World).cell? ⟨b1, o1 + k * 2 + 1, none⟩ = some (.int .i64 (p : Int)) := y1
              have hc0d : ({ heap := wr.heap, tape := wr.tape, drawn := wr.drawn + 1, os := wr.os, output := wr.output } : World).cell? ⟨g, p, none⟩ = some (.int .i64 ((needTo r t k (p : Int) : Nat) : Int)) := hc0
              go_still_tail 17, (by kernel_rfl)
              change wpList _ _ _ _ _ wr.drew
              have hown2 := hown.drew
              have hbr2 := hbr.drew
              have hc02 : wr.drew.cell? ⟨g, p, none⟩ = some (.int .i64 ((needTo r t k (p : Int) : Nat) : Int)) := hc0
              have hf02 : wr.drew.frozen? ⟨g, p, none⟩ = false := hf0
              clear y1d hc0d hc0 hf0 hown hbr y1 x1
              generalize wr.drew = W2 at *
              have hst := hown2.stored p (.int .i64 ((max (needTo r t k (p : Int)) (winC t (k + 1) q r) : Nat) : Int))
              have HST : Hid ((W2.setCell ⟨g, p, none⟩ (.int .i64 ((max (needTo r t k (p : Int)) (winC t (k + 1) q r) : Nat) : Int))).ownsRow w.heap.size 3 1 (.slice (some ⟨g, 0, none⟩) 61 61) 61 ((needL r t (k + 1)).map intV)) := Lib.hid (by rw [HP.out, List.map_set]; exact hst.1)
              have hb4 : Below w.heap.size w (W2.setCell ⟨g, p, none⟩ (.int .i64 ((max (needTo r t k (p : Int)) (winC t (k + 1) q r) : Nat) : Int))) := hbr2.setCell hge _
              clear hst hown2 hbr2
              generalize needTo r t k (p : Int) = na at *
              generalize winC t (k + 1) q r = nb at *
              have emx : (if na < nb then (nb : Int) else (na : Int)) = ((max na nb : Nat) : Int) := by split <;> omega
              go_wp2
              exact ⟨⟨k + 1, by omega, by go_num, HST.out, hb4⟩, by simp [intOf]; omega⟩
        · obtain rfl : k = t.length := by omega
          go_wp2
          go_ret
          exact ⟨_, rfl, by rw [HL.out, needL_len]; exact hown, hbr⟩
    · have HL := Lib.hid (show needM r t = [] from if_neg fun k => hr (of_decide_eq_true k.2))
      clear tt
      go_enter Try.func125, Try.ntmps125
      go_wp2_with fail
      refine (tuneok_yes h TT.out).mono ?_
      rintro e w1 ⟨rfl, hb1⟩
      have ho3 : (w1.alloc (.cells #[] 3)).ownsRow w.heap.size 3 1 (.slice (some ⟨w1.heap.size, 0, none⟩) 0 0) 0 [] := World.ownsRow_made w1 #[] 0 hb1.size (by simp) rfl
      have g3 : Below w.heap.size w (w1.alloc (.cells #[] 3)) := hb1.alloc hb1.size _
      go_wp2_with fail
      refine (in_no _ _ _ hr _).mono ?_
      rintro e w2 ⟨rfl, rfl⟩
      go_wp2
      go_ret
      exact ⟨_, rfl, by rw [HL.out]; exact ho3, g3⟩
  · have TT := Lib.hid (show tuneB t = false by simpa using tt)
    have HL := Lib.hid (show needM r t = [] from if_neg fun k => tt k.1)
    clear tt
    go_enter Try.func125, Try.ntmps125
    go_wp2_with fail
    refine (tuneok_no h TT.out).mono ?_
    rintro e w1 ⟨rfl, hb1⟩
    have ho3 : (w1.alloc (.cells #[] 3)).ownsRow w.heap.size 3 1 (.slice (some ⟨w1.heap.size, 0, none⟩) 0 0) 0 [] := World.ownsRow_made w1 #[] 0 hb1.size (by simp) rfl
    have g3 : Below w.heap.size w (w1.alloc (.cells #[] 3)) := hb1.alloc hb1.size _
    go_wp2
    go_ret
    exact ⟨_, rfl, by rw [HL.out]; exact ho3, g3⟩
end Go.Proofs.Ytcbdoldcdgaooaa
