/- The contract of the program's ExtraTeeth. No condition. -/
import Derived.Test.YtcbdoldcdgaooaaImplAll
import Derived.Test.YtcbdoldcdgaooaaIntRows
import Derived.Test.YtcbdoldcdgaooaaExtraSpec
namespace Go.Proofs.Ytcbdoldcdgaooaa
open Go.ChangeShapes Go.WideShapes Go.ChangeAt Go.RowKit

theorem setTo_ge {n : Int} {c : List Int} : ∀ {k S : Nat}, setTo n c k = some S → ∀ (i : Nat) (x : Int), i < k → c[i]? = some x → (i : Int) ≤ x
  | 0, _, _, i, _, hi, _ => by omega
  | k + 1, S, h, i, x, hi, hx => by
    unfold setTo at h
    cases hy : c[k]? with
    | none => rw [hy] at h; cases h
    | some y =>
      cases hS : setTo n c k with
      | none => rw [hy, hS] at h; cases h
      | some T =>
        have ih := setTo_ge hS
        rw [hy, hS] at h
        simp only at h
        split at h
        · rename_i q
          by_cases he : i = k
          · subst he
            rw [hx] at hy
            obtain rfl := Option.some.inj hy
            by_cases h0 : i = 0
            · have := q.1.1; omega
            · obtain ⟨z, hz⟩ : ∃ z, c[i - 1]? = some z := ⟨_, List.getElem?_eq_getElem (by have := (List.getElem?_eq_some_iff.1 hx).1; omega)⟩
              have h1 := ih (i - 1) z (by omega) hz
              have h2 := q.2 z h0 hz
              omega
          · exact ih i x (by omega) hx
        · cases h
theorem okC_len {n : Nat} {c : List Int} (h : okC n c = true) : c.length ≤ n := by
  by_cases h0 : c.length = 0
  · omega
  · obtain ⟨x, hx⟩ : ∃ x, c[c.length - 1]? = some x := ⟨_, List.getElem?_eq_getElem (by omega)⟩
    have h1 := setTo_ge (okC_true h).1 (c.length - 1) x (by omega) hx
    have h2 := (okC_true h).2 x (List.mem_of_getElem? hx)
    omega
theorem okC_one {n : Nat} {k : Int} (h : 0 ≤ k ∧ k < (n : Int)) : okC n [k] = true :=
  okC_yes (S := 0 ||| 2 ^ k.toNat) (setTo_step (c := [k]) (k := 0) (x := k) rfl rfl (by omega) fun y h0 _ => absurd rfl h0)
theorem okC_two {n : Nat} {k : Int} (h : ¬ (0 ≤ k ∧ k < (n : Int))) : okC n [k] = false :=
  okC_no (setTo_bad (c := [k]) (k := 0) (x := k) (S := 0) rfl rfl fun q => h (by omega))
/-- A row of one int, new. -/
theorem one_row (a : World) (x : Int) : Rd1 (a.alloc (.cells #[.int .i64 x] 3)) (.slice (some ⟨a.heap.size, 0, none⟩) 1 1) [x] := by
  have h : (a.alloc (.cells #[.int .i64 x] 3)).ownsRow a.heap.size 3 1 (.slice (some ⟨a.heap.size, 0, none⟩) 1 1) 1 ([x].map intV) :=
    ⟨rfl, .inr ⟨a.heap.size, 1, _, rfl, Nat.le_refl _, heap_alloc_new a _, Nat.le_refl _, by unfold maxLen; omega, rfl, rfl⟩⟩
  exact Rd.of_own h

set_option maxHeartbeats 4000000 in
set_option maxRecDepth 100000 in
theorem iextra_any {w : World} {v vc : Value} {us : List Value} {ll : List (List (Int × Int))} {c : List Int} (k r : Int) (h : RcN w v us ll) (hc : Rd1 w vc c) :
    Calls Try.prog 36 #[v, vc, .int .i64 k, .int .i64 r] w fun e w' => e = .returned (.int .i64 (extraI r ll c k)) ∧ Below w.heap.size w w' := by
  by_cases hok : progB ll r = true
  · by_cases hcc : okC ll.length c = true
    · have HA := Lib.hid (allI_yes hok hcc)
      have HC := Lib.hid (okC_true hcc)
      have HOK := Lib.hid hok
      have HCC := Lib.hid hcc
      have hl8 := (progB_true.1 hok).2.1
      have hcl := okC_len hcc
      clear hok hcc
      by_cases hk : 0 ≤ k ∧ k < (ll.length : Int)
      · have HE := Lib.hid (extraI_yes (k := k) HA.out.1 (by omega))
        have HK := Lib.hid (okC_one hk)
        have HCK : Hid (∀ x ∈ c ++ [k], 0 ≤ x ∧ x < (ll.length : Int)) := Lib.hid fun x hx => by
          rcases List.mem_append.1 hx with q | q
          · exact HC.out.2 x q
          · rw [List.mem_singleton] at q; subst q; exact hk
        have HU := Lib.hid (unionL_push c k)
        have hA1 := allS_nonneg (S := unionL c) HOK.out
        have hA2 := allS_nonneg (S := unionL (c ++ [k])) HOK.out
        rw [← HU.out] at HE
        clear hk
        go_enter Try.func36, Try.ntmps36
        go_wp2_with fail
        refine (needsof_any r h).mono ?_
        rintro e w1 ⟨v1, us1, rfl, hR, hb1⟩
        rw [HOK.out]
        have hR1 := hR HOK.out
        have hc1 := Rd.below hc hb1
        clear hR
        obtain ⟨a2, cap2, rfl⟩ := Rd.slice hc
        go_wp2_with fail
        refine (chosen_any hR1 hc1).mono ?_
        rintro e w2 ⟨rfl, rfl⟩
        rw [List.length_map, HCC.out]
        go_wp2_with fail
        have hbA : Below w1.heap.size w1 (w1.alloc (.cells #[.int .i64 k] 3)) := (Below.refl _ _).alloc (Nat.le_refl _) _
        refine (chosen_any (hR1.below hbA) (one_row w1 k)).mono ?_
        rintro e w2 ⟨rfl, rfl⟩
        rw [List.length_map, HK.out]
        have hR2 := hR1.below hbA
        have hc2 := Rd.below hc1 hbA
        have hb2 := bstep hb1 hbA
        clear hb1 hR1 hc1 hbA
        generalize w1.alloc (.cells #[.int .i64 k] 3) = w2 at *
        have hone := one_row w2 k
        have hbB : Below w2.heap.size w2 (w2.alloc (.cells #[.int .i64 k] 3)) := (Below.refl _ _).alloc (Nat.le_refl _) _
        have hR3 := hR2.below hbB
        have hc3 := Rd.below hc2 hbB
        have hb3 := bstep hb2 hbB
        clear hb2 hR2 hc2 hbB
        go_wp2_with fail
        have hsz : (w2.alloc (.cells #[.int .i64 k] 3)).heap.size = w2.heap.size + 1 := size_alloc _ _
        generalize w2.heap.size = g2 at *
        generalize w2.alloc (.cells #[.int .i64 k] 3) = w3 at *
        have hbC : Below w3.heap.size w3 (w3.alloc (.cells #[.slice a2 c.length cap2, .slice (some ⟨g2, 0, none⟩) 1 1] 33)) := (Below.refl _ _).alloc (Nat.le_refl _) _
        have c0 : (w3.alloc (.cells #[.slice a2 c.length cap2, .slice (some ⟨g2, 0, none⟩) 1 1] 33)).cell? ⟨w3.heap.size, 0, none⟩ = some (.slice a2 c.length cap2) := cell0 w3 _ _ 0
        have c1 : (w3.alloc (.cells #[.slice a2 c.length cap2, .slice (some ⟨g2, 0, none⟩) 1 1] 33)).cell? ⟨w3.heap.size, 1, none⟩ = some (.slice (some ⟨g2, 0, none⟩) 1 1) := cell0 w3 _ _ 1
        rw [hsz] at c0 c1
        have hR4 := hR3.below hbC
        have hc4 := Rd.below hc3 hbC
        have hone4 := Rd.below hone hbC
        have hb4 := bstep hb3 hbC
        refine (concatI_any c0 c1 hc4 hone4 (by omega) (by simp)).mono ?_
        rintro e w5 ⟨v5, rfl, ho5, hb5⟩
        have hR5 := hR4.below hb5
        have hc5 := Rd.below hc4 hb5
        have g5 := bstep hb4 hb5
        clear hR3 hc3 hb3 hbC c0 c1 hR4 hc4 hone4 hone hb4 hb5
        go_wp2_with fail
        refine (nteeth_any r HOK.out HCK.out hR5 (Rd.of_own ho5)).mono ?_
        rintro e w6 ⟨rfl, hb6⟩
        have hR6 := hR5.below hb6
        have hc6 := Rd.below hc5 hb6
        have g6 := bstep g5 hb6
        clear hR5 hc5 ho5 hb6 g5
        go_wp2_with fail
        refine (nteeth_any r HOK.out HC.out.2 hR6 hc6).mono ?_
        rintro e w7 ⟨rfl, hb7⟩
        have g7 := bstep g6 hb7
        clear hb7 g6 hR6 hc6
        generalize allS r ll (unionL (c ++ [k])) = A2 at *
        generalize allS r ll (unionL c) = A1 at *
        have ew : IntKind.i64.wrap (A2 - A1) = A2 - A1 := IntWalk.i64_in _ (by omega)
        go_wp2
        go_ret
        exact ⟨by rw [HE.out]; first | rfl | (rw [← ew]; rfl), g7⟩
      · have HE := Lib.hid (extraI_no (k := k) HA.out.1 (by omega))
        have HK := Lib.hid (okC_two hk)
        clear hk
        go_enter Try.func36, Try.ntmps36
        go_wp2_with fail
        refine (needsof_any r h).mono ?_
        rintro e w1 ⟨v1, us1, rfl, hR, hb1⟩
        rw [HOK.out]
        have hR1 := hR HOK.out
        have hc1 := Rd.below hc hb1
        clear hR
        go_wp2_with fail
        refine (chosen_any hR1 hc1).mono ?_
        rintro e w2 ⟨rfl, rfl⟩
        rw [List.length_map, HCC.out]
        go_wp2_with fail
        have hbA : Below w1.heap.size w1 (w1.alloc (.cells #[.int .i64 k] 3)) := (Below.refl _ _).alloc (Nat.le_refl _) _
        refine (chosen_any (hR1.below hbA) (one_row w1 k)).mono ?_
        rintro e w2 ⟨rfl, rfl⟩
        rw [List.length_map, HK.out]
        have hb2 := bstep hb1 hbA
        go_wp2
        go_ret
        exact ⟨by rw [HE.out]; rfl, hb2⟩
    · have hcf : okC ll.length c = false := by simpa using hcc
      have HI := Lib.hid (extraI_none k (allI_wrong hok hcf).1)
      have HOK := Lib.hid hok
      have HCC := Lib.hid hcf
      clear hok hcc hcf
      go_enter Try.func36, Try.ntmps36
      go_wp2_with fail
      refine (needsof_any r h).mono ?_
      rintro e w1 ⟨v1, us1, rfl, hR, hb1⟩
      rw [HOK.out]
      have hR1 := hR HOK.out
      have hc1 := Rd.below hc hb1
      clear hR
      go_wp2_with fail
      refine (chosen_any hR1 hc1).mono ?_
      rintro e w2 ⟨rfl, rfl⟩
      rw [List.length_map, HCC.out]
      go_wp2
      go_ret
      exact ⟨by rw [HI.out]; rfl, hb1⟩
  · have hof : progB ll r = false := by simpa using hok
    have HI := Lib.hid (extraI_none (c := c) k (allI_bad hof).1)
    have HOK := Lib.hid hof
    clear hok hof
    go_enter Try.func36, Try.ntmps36
    go_wp2_with fail
    refine (needsof_any r h).mono ?_
    rintro e w1 ⟨v1, us1, rfl, -, hb1⟩
    rw [HOK.out]
    go_wp2
    go_ret
    exact ⟨by rw [HI.out]; rfl, hb1⟩
end Go.Proofs.Ytcbdoldcdgaooaa
