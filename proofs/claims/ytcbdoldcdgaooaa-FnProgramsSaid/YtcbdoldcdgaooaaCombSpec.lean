/- The contracts of chapter 4's model: CombOk, TeethOf, MissingPitches, CanPlay. No condition. -/
import Derived.Test.YtcbdoldcdgaooaaSortSpec
import Derived.Test.YtcbdoldcdgaooaaInts
namespace Go.Proofs.Ytcbdoldcdgaooaa
open Go.ChangeShapes Go.WideShapes Go.ChangeAt Go.RowKit

/-- A pitch that stands well at place k of a comb. -/
def ToothOk (l : List Int) (k : Nat) (p : Int) : Prop := (0 ≤ p ∧ p ≤ 60) ∧ ∀ i q, k = i + 1 → l[i]? = some q → q ≤ p
def CombP (l : List Int) : Prop := (1 ≤ l.length ∧ l.length ≤ 24) ∧ ∀ k p, l[k]? = some p → ToothOk l k p
open Classical in
noncomputable def combB (l : List Int) : Bool := decide (CombP l)
theorem combB_true {l : List Int} : combB l = true ↔ CombP l := by unfold combB; simp
theorem combB_false {l : List Int} : combB l = false ↔ ¬ CombP l := by unfold combB; simp

set_option maxHeartbeats 2000000 in
theorem combok_any {w : World} {v : Value} {l : List Int} (h : Rd1 w v l) :
    Calls Try.prog 89 #[v] w fun e w' => e = .returned (.bool (combB l)) ∧ Below w.heap.size w w' := by
  obtain ⟨a1, cap1, rfl⟩ := Rd.slice h
  have hm := h.2.1
  unfold maxLen at hm
  go_enter Try.func89, Try.ntmps89
  go_wp2
  go_loopw [3] (fun v3 wr => ∃ j : Nat, j ≤ l.length ∧ v3 = .int .i64 j ∧ Below w.heap.size w wr ∧ Hid (∀ k p, k < j → l[k]? = some p → ToothOk l k p)) (fun v3 _ => l.length - (intOf v3).toNat)
  case atStart => exact ⟨0, Nat.zero_le _, rfl, Below.refl _ _, Lib.hid fun k p hk => by omega⟩
  case round =>
    obtain ⟨j, hj, rfl, hbr, HA⟩ := hrel
    by_cases hlt : j < l.length
    · obtain ⟨p, hp⟩ : ∃ p, l[j]? = some p := ⟨_, List.getElem?_eq_getElem hlt⟩
      have HP := Lib.hid hp
      obtain ⟨b1, o1, c1, hv1, x1⟩ := Rd1.cell (Rd.below h hbr) hp
      simp only [Value.slice.injEq, true_and] at hv1
      obtain ⟨rfl, rfl⟩ := hv1
      clear hp
      by_cases r1 : 0 ≤ p ∧ p ≤ 60
      · by_cases hj0 : 0 < j
        · obtain ⟨q, hq⟩ : ∃ q, l[j - 1]? = some q := ⟨_, List.getElem?_eq_getElem (by omega)⟩
          have HQ := Lib.hid hq
          obtain ⟨b2, o2, c2, hv2, x2⟩ := Rd1.cell (Rd.below h hbr) hq
          simp only [Value.slice.injEq, true_and, Option.some.injEq, Addr.mk.injEq, and_true] at hv2
          obtain ⟨⟨rfl, rfl⟩, rfl⟩ := hv2
          clear hq
          have hj1 : (0 : Int) ≤ (j : Int) - 1 := by omega
          have hj2 : (1 : Int) ≤ (j : Int) := by omega
          have hj3 : (j : Int) - 1 < (l.length : Int) := by omega
          have hj4 : 1 ≤ j := by omega
          have ej1 : IntKind.i64.wrap ((j : Int) - 1) = (j : Int) - 1 := IntWalk.i64_in _ (by omega)
          have ej2 : ((j : Int) - 1).toNat = j - 1 := by omega
          by_cases hls : p < q
          · have HB := Lib.hid (combB_false.2 fun hc : CombP l => by have := (hc.2 _ _ HP.out).2 (j - 1) q (by omega) HQ.out; omega)
            go_wp2_with fail
            go_quiet ((first | (go_at_call 90; exact Calls.quiet_of_same (in_yes' _ _ _ (by assumption) _)) | (go_at_call 90; exact Calls.quiet_of_same (in_no' _ _ _ (by assumption) _))))
            go_wp2
            go_ret
            exact ⟨by rw [HB.out]; rfl, below_drewN hbr _⟩
          · have HN : Hid (∀ k p, k < j + 1 → l[k]? = some p → ToothOk l k p) := Lib.hid fun k r hk hr => by
              by_cases hkj : k < j
              · exact HA.out k r hkj hr
              · obtain rfl : k = j := by omega
                have := HP.out; rw [this] at hr
                obtain rfl := Option.some.inj hr
                exact ⟨r1, fun i t hi ht => by
                  obtain rfl : i = k - 1 := by omega
                  have := HQ.out; rw [this] at ht
                  obtain rfl := Option.some.inj ht
                  omega⟩
            go_wp2_with fail
            go_quiet ((first | (go_at_call 90; exact Calls.quiet_of_same (in_yes' _ _ _ (by assumption) _)) | (go_at_call 90; exact Calls.quiet_of_same (in_no' _ _ _ (by assumption) _))))
            go_wp2
            go_roundw
            case rel => exact ⟨j + 1, by omega, by go_num, below_drewN hbr _, HN⟩
            case measure => simp [intOf]; omega
        · have HN : Hid (∀ k p, k < j + 1 → l[k]? = some p → ToothOk l k p) := Lib.hid fun k q hk hq => by
            obtain rfl : k = j := by omega
            have := HP.out; rw [this] at hq
            obtain rfl := Option.some.inj hq
            exact ⟨r1, fun i q h => by omega⟩
          have hj1 : decide (0 < j) = false := decide_eq_false hj0
          go_wp2_with fail
          go_quiet ((first | (go_at_call 90; exact Calls.quiet_of_same (in_yes' _ _ _ (by assumption) _)) | (go_at_call 90; exact Calls.quiet_of_same (in_no' _ _ _ (by assumption) _))))
          go_wp2
          go_roundw
          case rel => exact ⟨j + 1, by omega, by go_num, below_drewN hbr _, HN⟩
          case measure => simp [intOf]; omega
      · have HB := Lib.hid (combB_false.2 fun hc : CombP l => r1 (hc.2 _ _ HP.out).1)
        go_wp2_with fail
        go_quiet ((first | (go_at_call 90; exact Calls.quiet_of_same (in_yes' _ _ _ (by assumption) _)) | (go_at_call 90; exact Calls.quiet_of_same (in_no' _ _ _ (by assumption) _))))
        go_wp2
        go_ret
        exact ⟨by rw [HB.out]; rfl, below_drewN hbr _⟩
    · obtain rfl : j = l.length := by omega
      have hall : ∀ k p, l[k]? = some p → ToothOk l k p := fun k p hk => HA.out k p (List.getElem?_eq_some_iff.1 hk).1 hk
      by_cases hc : CombP l
      · have HT := Lib.hid (combB_true.2 hc)
        have h1 : (1 : Int) ≤ (l.length : Int) ∧ (l.length : Int) ≤ 24 := by have := hc.1; omega
        clear hall hc
        go_wp2_with fail
        refine (in_yes _ _ _ h1 _).mono ?_
        rintro e w1 ⟨rfl, rfl⟩
        go_wp2
        go_ret
        exact ⟨by rw [HT.out]; rfl, hbr⟩
      · have HT := Lib.hid (combB_false.2 hc)
        have h1 : ¬ ((1 : Int) ≤ (l.length : Int) ∧ (l.length : Int) ≤ 24) := fun k => hc ⟨by omega, hall⟩
        clear hall hc
        go_wp2_with fail
        refine (in_no _ _ _ h1 _).mono ?_
        rintro e w1 ⟨rfl, rfl⟩
        go_wp2
        go_ret
        exact ⟨by rw [HT.out]; rfl, hbr⟩
theorem combok_yes {w : World} {v : Value} {l : List Int} (h : Rd1 w v l) (hc : combB l = true) :
    Calls Try.prog 89 #[v] w fun e w' => e = .returned (.bool true) ∧ Below w.heap.size w w' :=
  (combok_any h).mono fun _ _ ⟨he, hb⟩ => ⟨by rw [he, hc], hb⟩
theorem combok_no {w : World} {v : Value} {l : List Int} (h : Rd1 w v l) (hc : combB l = false) :
    Calls Try.prog 89 #[v] w fun e w' => e = .returned (.bool false) ∧ Below w.heap.size w w' :=
  (combok_any h).mono fun _ _ ⟨he, hb⟩ => ⟨by rw [he, hc], hb⟩

/-- The places below k with a pitch. -/
def teethTo (k : Nat) (l : List Int) (x : Int) : List Int := ((List.range k).filter fun i => decide (l[i]? = some x)).map Int.ofNat
noncomputable def teethM (l : List Int) (x : Int) : List Int := if combB l = true then teethTo l.length l x else []
theorem teethTo_yes {l : List Int} {k : Nat} {x : Int} (h : l[k]? = some x) : teethTo (k + 1) l x = teethTo k l x ++ [(k : Int)] := by
  unfold teethTo; rw [List.range_succ, List.filter_append, List.map_append]; simp [h]
theorem teethTo_no {l : List Int} {k : Nat} {x p : Int} (h : l[k]? = some p) (hp : ¬ p = x) : teethTo (k + 1) l x = teethTo k l x := by
  unfold teethTo; rw [List.range_succ, List.filter_append, List.map_append]; simp [h, hp]
theorem teethTo_len (k : Nat) (l : List Int) (x : Int) : (teethTo k l x).length ≤ k := by
  unfold teethTo; rw [List.length_map]; exact Nat.le_trans (List.length_filter_le _ _) (by simp)
theorem teethTo_nil {l : List Int} {x : Int} : (teethTo l.length l x).length = 0 ↔ x ∉ l := by
  unfold teethTo
  rw [List.length_map, List.length_eq_zero_iff, List.filter_eq_nil_iff]
  constructor
  · intro h hx
    obtain ⟨k, hk⟩ := List.mem_iff_getElem?.1 hx
    exact h k (List.mem_range.2 (List.getElem?_eq_some_iff.1 hk).1) (decide_eq_true hk)
  · intro h k _ hd
    exact h (List.mem_iff_getElem?.2 ⟨k, of_decide_eq_true hd⟩)

/-- The pitches from 0 to k - 1 in a comb, counted. -/
def tsum (k : Nat) (c : List Int) : Nat := (c.filter fun x => decide (0 ≤ x ∧ x < (k : Int))).length
theorem teethTo_count (c : List Int) (x : Int) : ∀ k, k ≤ c.length → (teethTo k c x).length = ((c.take k).filter fun y => decide (y = x)).length
  | 0, _ => rfl
  | k + 1, h => by
    have ih := teethTo_count c x k (by omega)
    have hk : c[k]? = some c[k] := List.getElem?_eq_getElem (by omega)
    rw [List.take_add_one, hk, List.filter_append, List.length_append, ← ih]
    by_cases hx : c[k] = x
    · rw [teethTo_yes (by rw [hk, hx]), List.length_append]; simp [hx]
    · rw [teethTo_no hk hx]; simp [hx]
theorem tsum_filter (k : Nat) : ∀ c : List Int, tsum (k + 1) c = tsum k c + (c.filter fun y => decide (y = (k : Int))).length
  | [] => rfl
  | x :: r => by
    have ih := tsum_filter k r
    unfold tsum at ih ⊢
    simp only [List.filter_cons]
    by_cases h1 : 0 ≤ x ∧ x < (k : Int)
    · have h2 : 0 ≤ x ∧ x < ((k + 1 : Nat) : Int) := by omega
      have h3 : ¬ x = (k : Int) := by omega
      simp only [h1, h2, h3, decide_true, decide_false, if_true, and_self, Bool.false_eq_true, if_false, List.length_cons]; omega
    · by_cases h3 : x = (k : Int)
      · have h2 : 0 ≤ x ∧ x < ((k + 1 : Nat) : Int) := by omega
        rw [if_pos (decide_eq_true h2), if_neg (by simpa using h1), if_pos (decide_eq_true h3), List.length_cons, List.length_cons]; omega
      · have h2 : ¬ (0 ≤ x ∧ x < ((k + 1 : Nat) : Int)) := by omega
        simp only [h1, h2, h3, decide_false, Bool.false_eq_true, if_false]; exact ih
end Go.Proofs.Ytcbdoldcdgaooaa
