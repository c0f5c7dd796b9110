/- The contracts of chapter 9's model, further: l09Set, l09Bits, l09Less. No condition. -/
import Derived.Test.YtcbdoldcdgaooaaChooseSpec
namespace Go.Proofs.Ytcbdoldcdgaooaa
open Go.ChangeShapes Go.WideShapes Go.ChangeAt Go.RowKit

noncomputable def setI (n : Int) (c : List Int) : Int := match setTo n c c.length with | some S => (S : Int) | none => -1
theorem setI_some {n : Int} {c : List Int} {S : Nat} (h : setTo n c c.length = some S) : setI n c = (S : Int) := by unfold setI; rw [h]
theorem setI_none {n : Int} {c : List Int} (h : setTo n c c.length = none) : setI n c = -1 := by unfold setI; rw [h]

theorem orb_all : ∀ S : Fin 256, ∀ k : Fin 8, bits .or .i64 (S.1 : Int) (wrap64 (2 ^ k.1)) = ((S.1 ||| 2 ^ k.1 : Nat) : Int) := by decide +kernel
theorem orb_eq {S k : Nat} (hS : S < 256) (hk : k < 8) : bits .or .i64 (S : Int) (wrap64 (2 ^ k)) = ((S ||| 2 ^ k : Nat) : Int) := orb_all ⟨S, hS⟩ ⟨k, hk⟩

set_option maxHeartbeats 2000000 in
theorem l09set_any {w : World} {v : Value} {c : List Int} (n : Int) (hn : -1 ≤ n ∧ n ≤ 7) (h : Rd1 w v c) :
    Calls Try.prog 94 #[v, .int .i64 n] w fun e w' => e = .returned (.int .i64 (setI n c)) ∧ Below w.heap.size w w' := by
  obtain ⟨a1, cap1, rfl⟩ := Rd.slice h
  have hm := h.2.1
  unfold maxLen at hm
  go_enter Try.func94, Try.ntmps94
  go_wp2
  go_loopw [5, 6] (fun v5 v6 wr => ∃ j S : Nat, j ≤ c.length ∧ v6 = .int .i64 (j : Int) ∧ v5 = .int .i64 (S : Int) ∧ Below w.heap.size w wr ∧ Hid (setTo n c j = some S)) (fun _ v6 _ => c.length - (intOf v6).toNat)
  case atStart => exact ⟨0, 0, Nat.zero_le _, rfl, rfl, Below.refl _ _, Lib.hid rfl⟩
  case round =>
    obtain ⟨j, S, hj, rfl, rfl, hbr, HA⟩ := hrel
    by_cases hlt : j < c.length
    · obtain ⟨p, hp⟩ : ∃ p, c[j]? = some p := ⟨_, List.getElem?_eq_getElem hlt⟩
      have HP := Lib.hid hp
      obtain ⟨b1, o1, c1, hv1, x1⟩ := Rd1.cell (Rd.below h hbr) hp
      simp only [Value.slice.injEq, true_and] at hv1
      obtain ⟨rfl, rfl⟩ := hv1
      clear hp
      have hS := setTo_lt hn.2 HA.out
      by_cases r1 : 0 ≤ p ∧ p ≤ n
      · have hp0 := r1.1
        have hp7 : p ≤ 7 := by omega
        obtain ⟨q', rfl⟩ := Int.eq_ofNat_of_zero_le hp0
        by_cases hj0 : 0 < j
        · obtain ⟨q, hq⟩ : ∃ q, c[j - 1]? = some q := ⟨_, List.getElem?_eq_getElem (by omega)⟩
          have HQ := Lib.hid hq
          obtain ⟨b2, o2, c2, hv2, x2⟩ := Rd1.cell (Rd.below h hbr) hq
          simp only [Value.slice.injEq, true_and, Option.some.injEq, Addr.mk.injEq, and_true] at hv2
          obtain ⟨⟨rfl, rfl⟩, rfl⟩ := hv2
          clear hq
          have hj1 : (0 : Int) ≤ (j : Int) - 1 := by omega
          have hj2 : (1 : Int) ≤ (j : Int) := by omega
          have hj3 : (j : Int) - 1 < (c.length : Int) := by omega
          have hj4 : 1 ≤ j := by omega
          have ej1 : IntKind.i64.wrap ((j : Int) - 1) = (j : Int) - 1 := IntWalk.i64_in _ (by omega)
          have ej2 : ((j : Int) - 1).toNat = j - 1 := by omega
          by_cases hls : (q' : Int) ≤ q
          · have HB := Lib.hid (setI_none (setTo_end (setTo_bad HP.out HA.out fun k => by have := k.2 q (by omega) HQ.out; omega) (show j + 1 ≤ c.length by omega)))
            go_wp2_with fail
            go_quiet ((first | (go_at_call 90; exact Calls.quiet_of_same (in_yes' _ _ _ (by assumption) _)) | (go_at_call 90; exact Calls.quiet_of_same (in_no' _ _ _ (by assumption) _))))
            go_wp2
            go_ret
            exact ⟨by rw [HB.out]; rfl, below_drewN hbr _⟩
          · have HN := Lib.hid (setTo_step HP.out HA.out r1 fun y _ hy => by
              rw [HQ.out] at hy
              obtain rfl := Option.some.inj hy
              omega)
            go_wp2_with fail
            go_quiet ((first | (go_at_call 90; exact Calls.quiet_of_same (in_yes' _ _ _ (by assumption) _)) | (go_at_call 90; exact Calls.quiet_of_same (in_no' _ _ _ (by assumption) _))))
            go_wp2
            exact ⟨⟨j + 1, S ||| 2 ^ q', by omega, by go_num, by rw [orb_eq hS (by omega)], below_drewN hbr _, HN⟩, by simp [intOf]; omega⟩
        · have hj1 : decide (0 < j) = false := decide_eq_false hj0
          have HN := Lib.hid (setTo_step HP.out HA.out r1 fun y h0 _ => by omega)
          go_wp2_with fail
          go_quiet ((first | (go_at_call 90; exact Calls.quiet_of_same (in_yes' _ _ _ (by assumption) _)) | (go_at_call 90; exact Calls.quiet_of_same (in_no' _ _ _ (by assumption) _))))
          go_wp2
          exact ⟨⟨j + 1, S ||| 2 ^ q', by omega, by go_num, by rw [orb_eq hS (by omega)], below_drewN hbr _, HN⟩, by simp [intOf]; omega⟩
      · have HB := Lib.hid (setI_none (setTo_end (setTo_bad HP.out HA.out fun k => r1 k.1) (show j + 1 ≤ c.length by omega)))
        go_wp2_with fail
        go_quiet ((first | (go_at_call 90; exact Calls.quiet_of_same (in_yes' _ _ _ (by assumption) _)) | (go_at_call 90; exact Calls.quiet_of_same (in_no' _ _ _ (by assumption) _))))
        go_wp2
        go_ret
        exact ⟨by rw [HB.out]; rfl, below_drewN hbr _⟩
    · obtain rfl : j = c.length := by omega
      have HB := Lib.hid (setI_some HA.out)
      go_wp2
      go_ret
      exact ⟨by rw [HB.out]; rfl, hbr⟩

/-- The tunes below k in a set. -/
def bitsTo (S k : Nat) : List Int := ((List.range k).filter fun i => S.testBit i).map Int.ofNat
theorem bitsTo_yes {S k : Nat} (h : S.testBit k = true) : bitsTo S (k + 1) = bitsTo S k ++ [(k : Int)] := by
  unfold bitsTo; rw [List.range_succ, List.filter_append, List.map_append]; simp [h]
theorem bitsTo_no {S k : Nat} (h : S.testBit k = false) : bitsTo S (k + 1) = bitsTo S k := by
  unfold bitsTo; rw [List.range_succ, List.filter_append, List.map_append]; simp [h]
theorem bitsTo_len (S k : Nat) : (bitsTo S k).length ≤ k := by
  unfold bitsTo; rw [List.length_map]; exact Nat.le_trans (List.length_filter_le _ _) (by simp)

/-- The order of rows of one length. -/
def rowLess : List Int → List Int → Bool
  | x :: a, y :: b => if x = y then rowLess a b else decide (x < y)
  | _, _ => false
theorem rowLess_same {a b : List Int} {j : Nat} {x : Int} (h1 : a[j]? = some x) (h2 : b[j]? = some x) : rowLess (a.drop j) (b.drop j) = rowLess (a.drop (j + 1)) (b.drop (j + 1)) := by
  obtain ⟨l1, e1⟩ := List.getElem?_eq_some_iff.1 h1
  obtain ⟨l2, e2⟩ := List.getElem?_eq_some_iff.1 h2
  rw [List.drop_eq_getElem_cons l1, List.drop_eq_getElem_cons l2, e1, e2]
  conv => lhs; unfold rowLess
  exact if_pos rfl
theorem rowLess_diff {a b : List Int} {j : Nat} {x y : Int} (h1 : a[j]? = some x) (h2 : b[j]? = some y) (h : ¬ x = y) : rowLess (a.drop j) (b.drop j) = decide (x < y) := by
  obtain ⟨l1, e1⟩ := List.getElem?_eq_some_iff.1 h1
  obtain ⟨l2, e2⟩ := List.getElem?_eq_some_iff.1 h2
  rw [List.drop_eq_getElem_cons l1, List.drop_eq_getElem_cons l2, e1, e2]
  conv => lhs; unfold rowLess
  exact if_neg h

end Go.Proofs.Ytcbdoldcdgaooaa
