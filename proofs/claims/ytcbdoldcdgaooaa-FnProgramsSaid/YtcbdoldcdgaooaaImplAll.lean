/- The contracts of the program's TeethForAll and CombForAll. No condition. -/
import Derived.Test.YtcbdoldcdgaooaaImplNeeds
import Derived.Test.YtcbdoldcdgaooaaCombWith
import Derived.Test.YtcbdoldcdgaooaaTeethMath2
namespace Go.Proofs.Ytcbdoldcdgaooaa
open Go.ChangeShapes Go.WideShapes Go.ChangeAt Go.RowKit

theorem allI_yes {r : Int} {ll : List (List (Int × Int))} {c : List Int} (h : progB ll r = true) (hc : okC ll.length c = true) : allO r ll c = some (unionL c) ∧ allI r ll c = allS r ll (unionL c) := by
  have e : allO r ll c = some (unionL c) := (allO_ok h).trans (okC_true hc).1
  exact ⟨e, allI_some e⟩
theorem allI_bad {r : Int} {ll : List (List (Int × Int))} {c : List Int} (h : progB ll r = false) : allO r ll c = none ∧ allI r ll c = -1 := ⟨allO_bad h, allI_none (allO_bad h)⟩
theorem allI_wrong {r : Int} {ll : List (List (Int × Int))} {c : List Int} (h : progB ll r = true) (hc : okC ll.length c = false) : allO r ll c = none ∧ allI r ll c = -1 := by
  have e : allO r ll c = none := (allO_ok h).trans (okC_false hc)
  exact ⟨e, allI_none e⟩

set_option maxHeartbeats 2000000 in
set_option maxRecDepth 100000 in
theorem iforall_any {w : World} {v vc : Value} {us : List Value} {ll : List (List (Int × Int))} {c : List Int} (r : Int) (h : RcN w v us ll) (hc : Rd1 w vc c) :
    Calls Try.prog 35 #[v, vc, .int .i64 r] w fun e w' => e = .returned (.int .i64 (allI r ll c)) ∧ Below w.heap.size w w' := by
  by_cases hok : progB ll r = true
  · by_cases hcc : okC ll.length c = true
    · have HI := Lib.hid (allI_yes hok hcc)
      have HC := Lib.hid (okC_true hcc)
      have HOK := Lib.hid hok
      have HCC := Lib.hid hcc
      clear hok hcc
      go_enter Try.func35, Try.ntmps35
      go_wp2_with fail
      refine (needsof_any r h).mono ?_
      rintro e w1 ⟨v1, us1, rfl, hR, hb1⟩
      rw [HOK.out]
      have hR1 := hR HOK.out
      have hc1 := Rd.below hc hb1
      clear hR
      go_wp2_with fail
      refine (chosen_any hR1 hc1).mono ?_
      rintro e w2 ⟨rfl, rfl⟩
      rw [List.length_map, HCC.out]
      go_wp2_with fail
      refine (nteeth_any r HOK.out HC.out.2 hR1 hc1).mono ?_
      rintro e w2 ⟨rfl, hb2⟩
      have g2 := bstep hb1 hb2
      go_wp2
      go_ret
      exact ⟨by rw [HI.out.2]; rfl, g2⟩
    · have hcf : okC ll.length c = false := by simpa using hcc
      have HI := Lib.hid (allI_wrong hok hcf)
      have HOK := Lib.hid hok
      have HCC := Lib.hid hcf
      clear hok hcc hcf
      go_enter Try.func35, Try.ntmps35
      go_wp2_with fail
      refine (needsof_any r h).mono ?_
      rintro e w1 ⟨v1, us1, rfl, hR, hb1⟩
      rw [HOK.out]
      have hR1 := hR HOK.out
      have hc1 := Rd.below hc hb1
      clear hR
      go_wp2_with fail
      refine (chosen_any hR1 hc1).mono ?_
      rintro e w2 ⟨rfl, rfl⟩
      rw [List.length_map, HCC.out]
      go_wp2
      go_ret
      exact ⟨by rw [HI.out.2]; rfl, hb1⟩
  · have hof : progB ll r = false := by simpa using hok
    have HI := Lib.hid (allI_bad (c := c) hof)
    have HOK := Lib.hid hof
    clear hok hof
    go_enter Try.func35, Try.ntmps35
    go_wp2_with fail
    refine (needsof_any r h).mono ?_
    rintro e w1 ⟨v1, us1, rfl, -, hb1⟩
    rw [HOK.out]
    go_wp2
    go_ret
    exact ⟨by rw [HI.out.2]; rfl, hb1⟩

/-! ### the comb -/
theorem combTo_sum {n : List Int} (h : ∀ x ∈ n, 0 ≤ x) : ∀ k, k ≤ n.length → ((combTo k n).length : Int) = (n.take k).sum
  | 0, _ => by simp [combTo]
  | k + 1, hk => by
    have ih := combTo_sum h k (by omega)
    have hx : n[k]? = some n[k] := List.getElem?_eq_getElem (by omega)
    have h0 := h _ (List.getElem_mem (by omega : k < n.length))
    have hg : n.getD k 0 = n[k] := by rw [List.getD_eq_getElem?_getD, hx]; rfl
    rw [combTo_succ, List.length_append, List.length_replicate, sum_take hx, hg]
    omega
theorem leastL_sum {n : List Int} (h : ∀ x ∈ n, 0 ≤ x) : ((leastL n).length : Int) = n.sum := by
  have := combTo_sum h n.length (Nat.le_refl _)
  rwa [List.take_length] at this
open Classical in
theorem with_all {n : List Int} (h : ∀ x ∈ n, 0 ≤ x ∧ x ≤ 40) (hl : n.length = 61) : withL n = if 1 ≤ n.sum ∧ n.sum ≤ 24 then (combTo 61 n, true) else ([], false) := by
  have hs := leastL_sum fun x hx => (h x hx).1
  have e : leastL n = combTo 61 n := by unfold leastL; rw [hl]
  by_cases hb : 1 ≤ n.sum ∧ n.sum ≤ 24
  · rw [if_pos hb, ← e]
    refine withL_yes (combB_true.2 ⟨⟨by omega, by omega⟩, fun k p hk => ⟨?_, fun i q hi hq => ?_⟩⟩)
    · rw [e] at hk
      have := combTo_mem 61 (List.mem_of_getElem? hk)
      omega
    · have hu := combTo_up n 61
      rw [List.pairwise_iff_getElem] at hu
      rw [e] at hk hq
      obtain ⟨h1, e1⟩ := List.getElem?_eq_some_iff.1 hk
      obtain ⟨h2, e2⟩ := List.getElem?_eq_some_iff.1 hq
      have := hu i k h2 h1 (by omega)
      rw [e1, e2] at this; exact this
  · rw [if_neg hb]
    exact withL_no fun k => hb (by have := (combB_true.1 k).1; omega)
theorem combAll_with {r : Int} {ll : List (List (Int × Int))} {c : List Int} (h : progB ll r = true) (hc : okC ll.length c = true) : combAll r ll c = withL (needSL r ll (unionL c) ll.length) := by
  obtain ⟨e1, e2⟩ := allI_yes h hc
  rw [with_all (needSL_le h) (needSL_len _ _ _ _)]
  have e3 : allI r ll c = (needSL r ll (unionL c) ll.length).sum := e2
  unfold combAll
  rw [e1, e3]
theorem combAll_none {r : Int} {ll : List (List (Int × Int))} {c : List Int} (h : allI r ll c = -1) : combAll r ll c = ([], false) := combAll_no (by omega)

set_option maxHeartbeats 2000000 in
set_option maxRecDepth 100000 in
theorem icomball_any {w : World} {v vc : Value} {us : List Value} {ll : List (List (Int × Int))} {c : List Int} (r : Int) (h : RcN w v us ll) (hc : Rd1 w vc c) :
    Calls Try.prog 37 #[v, vc, .int .i64 r] w (NewIntsB w (combAll r ll c).1 (combAll r ll c).2) := by
  by_cases hok : progB ll r = true
  · by_cases hcc : okC ll.length c = true
    · have HI := Lib.hid (combAll_with hok hcc)
      have HC := Lib.hid (okC_true hcc)
      have HOK := Lib.hid hok
      have HCC := Lib.hid hcc
      clear hok hcc
      go_enter Try.func37, Try.ntmps37
      go_wp2_with fail
      refine (needsof_any r h).mono ?_
      rintro e w1 ⟨v1, us1, rfl, hR, hb1⟩
      rw [HOK.out]
      have hR1 := hR HOK.out
      have hc1 := Rd.below hc hb1
      clear hR
      go_wp2_with fail
      refine (chosen_any hR1 hc1).mono ?_
      rintro e w2 ⟨rfl, rfl⟩
      rw [List.length_map, HCC.out]
      go_wp2_with fail
      refine (together_any r HOK.out HC.out.2 hR1 hc1).mono ?_
      rintro e w2 ⟨v2, rfl, ho2, hb2⟩
      have g2 := bstep hb1 hb2
      go_wp2_with fail
      refine (combwith_any (needSL_le HOK.out) (by rw [needSL_len]; omega) (Rd.of_own ho2)).mono ?_
      rintro e w3 ⟨v3, rfl, ho3, hb3⟩
      have g3 := bstep g2 hb3
      have ho4 := ownS_mono ho3 g2.size
      rw [← HI.out] at ho4
      have hM2 : (withL (needSL r ll (unionL c) ll.length)).2 = (combAll r ll c).2 := by rw [HI.out]
      rw [hM2]
      go_wp2
      go_ret2
      exact ⟨_, rfl, ho4, g3⟩
    · have hcf : okC ll.length c = false := by simpa using hcc
      have HI := Lib.hid (combAll_none (allI_wrong hok hcf).2)
      have HOK := Lib.hid hok
      have HCC := Lib.hid hcf
      clear hok hcc hcf
      go_enter Try.func37, Try.ntmps37
      go_wp2_with fail
      refine (needsof_any r h).mono ?_
      rintro e w1 ⟨v1, us1, rfl, hR, hb1⟩
      rw [HOK.out]
      have hR1 := hR HOK.out
      have hc1 := Rd.below hc hb1
      clear hR
      go_wp2_with fail
      refine (chosen_any hR1 hc1).mono ?_
      rintro e w2 ⟨rfl, rfl⟩
      rw [List.length_map, HCC.out]
      go_wp2
      go_ret2
      rw [HI.out]
      exact ⟨_, rfl, World.ownsRow_nil _ _ _ _, hb1⟩
  · have hof : progB ll r = false := by simpa using hok
    have HI := Lib.hid (combAll_none (allI_bad (c := c) hof).2)
    have HOK := Lib.hid hof
    clear hok hof
    go_enter Try.func37, Try.ntmps37
    go_wp2_with fail
    refine (needsof_any r h).mono ?_
    rintro e w1 ⟨v1, us1, rfl, -, hb1⟩
    rw [HOK.out]
    go_wp2
    go_ret2
    rw [HI.out]
    exact ⟨_, rfl, World.ownsRow_nil _ _ _ _, hb1⟩
end Go.Proofs.Ytcbdoldcdgaooaa
