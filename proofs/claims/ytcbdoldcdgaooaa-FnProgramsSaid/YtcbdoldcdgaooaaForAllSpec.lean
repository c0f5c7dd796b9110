/- The contracts of chapter 9's model: TeethForAll, CombForAll. No condition. -/
import Derived.Test.YtcbdoldcdgaooaaChooseSet
import Derived.Test.YtcbdoldcdgaooaaRestSpec
namespace Go.Proofs.Ytcbdoldcdgaooaa
open Go.ChangeShapes Go.WideShapes Go.ChangeAt Go.RowKit

/-- The set of the tunes chosen, if all is in order. -/
noncomputable def allO (r : Int) (ll : List (List (Int × Int))) (c : List Int) : Option Nat := if progB ll r = true then setTo ((ll.length : Int) - 1) c c.length else none
noncomputable def allS (r : Int) (ll : List (List (Int × Int))) (S : Nat) : Int := (needSL r ll S ll.length).sum
noncomputable def allI (r : Int) (ll : List (List (Int × Int))) (c : List Int) : Int := match allO r ll c with | some S => allS r ll S | none => -1
theorem allO_bad {r : Int} {ll : List (List (Int × Int))} {c : List Int} (h : progB ll r = false) : allO r ll c = none := by unfold allO; rw [if_neg (by rw [h]; decide)]
theorem allO_ok {r : Int} {ll : List (List (Int × Int))} {c : List Int} (h : progB ll r = true) : allO r ll c = setTo ((ll.length : Int) - 1) c c.length := if_pos h
theorem allO_some {r : Int} {ll : List (List (Int × Int))} {c : List Int} {S : Nat} (h : allO r ll c = some S) : progB ll r = true ∧ setTo ((ll.length : Int) - 1) c c.length = some S := by
  unfold allO at h; split at h
  · exact ⟨by assumption, h⟩
  · cases h
theorem allI_some {r : Int} {ll : List (List (Int × Int))} {c : List Int} {S : Nat} (h : allO r ll c = some S) : allI r ll c = allS r ll S := by unfold allI; rw [h]
theorem allI_none {r : Int} {ll : List (List (Int × Int))} {c : List Int} (h : allO r ll c = none) : allI r ll c = -1 := by unfold allI; rw [h]
theorem needSL_le {r : Int} {ll : List (List (Int × Int))} {S : Nat} (hok : progB ll r = true) : ∀ x ∈ needSL r ll S ll.length, 0 ≤ x ∧ x ≤ 40 := by
  intro x hx
  unfold needSL at hx
  obtain ⟨p, -, rfl⟩ := List.mem_map.1 hx
  have := needSet_le (r := r) (S := S) (fun t ht => (tuneB_true.1 ((progB_true.1 hok).1 t ht)).1) ll.length (p : Int)
  omega
theorem allS_nonneg {r : Int} {ll : List (List (Int × Int))} {S : Nat} (hok : progB ll r = true) : 0 ≤ allS r ll S ∧ allS r ll S ≤ 2440 := by
  have := sum_le40 _ (needSL_le (S := S) hok)
  rw [needSL_len] at this
  unfold allS; omega

set_option maxHeartbeats 2000000 in
theorem forall_any {w : World} {v vc : Value} {us : List Value} {ll : List (List (Int × Int))} {c : List Int} (r : Int) (h : RdN w v us ll) (hc : Rd1 w vc c) :
    Calls Try.prog 91 #[v, vc, .int .i64 r] w fun e w' => e = .returned (.int .i64 (allI r ll c)) ∧ Below w.heap.size w w' := by
  obtain ⟨a1, cap1, rfl⟩ := h.slice
  have hm := h.len
  unfold maxLen at hm
  by_cases hok : progB ll r = true
  · have HOK := Lib.hid hok
    have hl8 := (progB_true.1 hok).2.1
    have HO := Lib.hid (allO_ok (c := c) hok)
    clear hok
    go_enter Try.func91, Try.ntmps91
    go_wp2_with fail
    refine (l09ok_any r h).mono ?_
    rintro e w1 ⟨rfl, hb1⟩
    rw [HOK.out]
    have ew : IntKind.i64.wrap ((ll.length : Int) - 1) = (ll.length : Int) - 1 := IntWalk.i64_in _ (by omega)
    go_wp2_with fail
    refine (l09set_any ((ll.length : Int) - 1) (by omega) (Rd.below hc hb1)).mono ?_
    rintro e w2 ⟨rfl, hb2⟩
    have g2 := bstep hb1 hb2
    clear hb1 hb2
    cases hs : setTo ((ll.length : Int) - 1) c c.length with
    | none =>
      have HB := Lib.hid (allI_none (HO.out.trans hs))
      rw [setI_none hs]
      clear hs
      go_wp2
      go_ret
      exact ⟨by rw [HB.out]; rfl, g2⟩
    | some S =>
      have HB := Lib.hid (allI_some (HO.out.trans hs))
      have hS := setTo_lt (by omega) hs
      rw [setI_some hs]
      clear hs
      have hS0 : decide ((S : Int) < 0) = false := decide_eq_false (by omega)
      go_wp2_with fail
      refine (l09needs_any r S hS HOK.out (h.below g2)).mono ?_
      rintro e w3 ⟨v3, rfl, ho3, hb3⟩
      have g3 := bstep g2 hb3
      clear hb3 g2
      go_wp2_with fail
      refine (l09sum_any (Rd.of_own ho3) (by rw [needSL_len]; omega) (needSL_le HOK.out)).mono ?_
      rintro e w4 ⟨rfl, rfl⟩
      go_wp2
      go_ret
      exact ⟨by rw [HB.out]; rfl, g3⟩
  · have hbad : progB ll r = false := by simpa using hok
    have HB := Lib.hid (allI_none (allO_bad (c := c) hbad))
    have HF := Lib.hid hbad
    clear hok hbad
    go_enter Try.func91, Try.ntmps91
    go_wp2_with fail
    refine (l09ok_any r h).mono ?_
    rintro e w1 ⟨rfl, hb1⟩
    rw [HF.out]
    go_wp2
    go_ret
    exact ⟨by rw [HB.out]; rfl, hb1⟩

open Classical in
noncomputable def combAll (r : Int) (ll : List (List (Int × Int))) (c : List Int) : List Int × Bool :=
  if 1 ≤ allI r ll c ∧ allI r ll c ≤ 24 then (match allO r ll c with | some S => (combTo 61 (needSL r ll S ll.length), true) | none => ([], false)) else ([], false)
theorem combAll_no {r : Int} {ll : List (List (Int × Int))} {c : List Int} (h : ¬ (1 ≤ allI r ll c ∧ allI r ll c ≤ 24)) : combAll r ll c = ([], false) := if_neg h
theorem combAll_yes {r : Int} {ll : List (List (Int × Int))} {c : List Int} {S : Nat} (h : 1 ≤ allI r ll c ∧ allI r ll c ≤ 24) (hS : allO r ll c = some S) : combAll r ll c = (combTo 61 (needSL r ll S ll.length), true) := by
  unfold combAll; rw [if_pos h, hS]
theorem allO_of {r : Int} {ll : List (List (Int × Int))} {c : List Int} (h : 1 ≤ allI r ll c) : ∃ S, allO r ll c = some S := by
  cases hs : allO r ll c with
  | none => rw [allI_none hs] at h; omega
  | some S => exact ⟨S, rfl⟩
theorem allO_none_of {r : Int} {ll : List (List (Int × Int))} {c : List Int} {S : Nat} (h : allO r ll c = some S) : S < 256 :=
  setTo_lt (by have := (progB_true.1 (allO_some h).1).2.1; omega) (allO_some h).2

end Go.Proofs.Ytcbdoldcdgaooaa
