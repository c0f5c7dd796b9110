/- The program's own FractionOf: quotientsOk, slices.Backward at ints (an iterator over a slice, read from its end), a range over a function whose body returns. No condition. -/
import Derived.RangeFuncNested
import Derived.RangeFuncBound
import Derived.RangeFuncCalls
import Derived.RangeFuncLeaves
import Derived.Shelf.Abstract
import Derived.Shelf.RegionOpen
import Derived.WalkKit
import Derived.OwnWalkIn
import Derived.TacticsInMore
import Derived.LoopNIn
import Derived.LoopIn
import Derived.Test.YtjikpkigncomfaaNearWalks
namespace Go.Proofs.Ytjikpkigncomfaa
open Go.RowKit Go.Shelf

/-! ### the fraction from the end -/
/-- top and bottom behind the quotients l, beginning with 1 / 0. -/
def bkS : List Int → Int × Int
  | [] => (1, 0)
  | x :: l => (x * (bkS l).1 + (bkS l).2, (bkS l).1)
/-- So far no number was too great. -/
def GoodS (l : List Int) : Prop := (l = [] ∨ fracR l = some (bkS l)) ∧ (0 ≤ (bkS l).1 ∧ (bkS l).1 ≤ 1000000) ∧ (0 ≤ (bkS l).2 ∧ (bkS l).2 ≤ 1000000)
theorem good_nil : GoodS [] := ⟨Or.inl rfl, ⟨by decide, by decide⟩, ⟨by decide, by decide⟩⟩
theorem good_cons {x : Int} {l : List Int} (h : GoodS l) (hx : 0 ≤ x ∧ x ≤ 1000) (ht : ¬ 1000000 < x * (bkS l).1 + (bkS l).2) : GoodS (x :: l) := by
  obtain ⟨h1, h2, h3⟩ := h
  have hm : 0 ≤ x * (bkS l).1 := Int.mul_nonneg hx.1 h2.1
  refine ⟨Or.inr ?_, ⟨by show 0 ≤ x * (bkS l).1 + (bkS l).2; omega, by show x * (bkS l).1 + (bkS l).2 ≤ 1000000; omega⟩, h2⟩
  rcases h1 with rfl | h1
  · show some (x, 1) = some (x * 1 + 0, 1)
    rw [Int.mul_one, Int.add_zero]
  · rw [fracR_cons (a := (bkS l).1) (b := (bkS l).2) h1, if_neg (by omega)]; rfl
theorem dead_cons {x : Int} {l : List Int} (h : GoodS l) (hx : 0 ≤ x ∧ x ≤ 1000) (ht : 1000000 < x * (bkS l).1 + (bkS l).2) : fracR (x :: l) = none := by
  rcases h.1 with rfl | h1
  · have : x * 1 + 0 ≤ 1000 := by omega
    exact absurd ht (by show ¬ 1000000 < x * 1 + 0; omega)
  · rw [fracR_cons (a := (bkS l).1) (b := (bkS l).2) h1, if_pos (Or.inl ht)]
theorem dead_app : ∀ (t : List Int) {l : List Int}, l ≠ [] → fracR l = none → fracR (t ++ l) = none
  | [], _, _, h => h
  | x :: t, l, hl, h => fracR_dead (x := x) (l := t ++ l) (by simp [hl]) (dead_app t hl h)

/-! ### quotientsOk -/
def leastI (k : Nat) : Int := if k = 0 then 0 else 1
open Classical in
noncomputable def fracB (q : List Int) : Bool := if FracP q then true else false
theorem fracB_yes {q : List Int} (h : FracP q) : fracB q = true := if_pos h
theorem fracB_no {q : List Int} (h : ¬ FracP q) : fracB q = false := if_neg h

open Go.ChangeShapes Go.WideShapes Go.ChangeAt in
set_option maxHeartbeats 2000000 in
theorem quot_any {w : World} {v : Value} {q : List Int} (h : Rd1 w v q) :
    Calls Try.prog 33 #[v] w fun e w' => e = .returned (.bool (fracB q)) ∧ w' = w := by
  obtain ⟨a1, cap1, rfl⟩ := Rd.slice h
  have hm := h.2.1
  unfold maxLen at hm
  by_cases h0 : q.length = 0
  · have HB : Hid (fracB q = false) := Lib.hid (fracB_no fun p => by have := p.1; omega)
    have hz : ((q.length : Int) == 0) = true := by rw [beq_iff_eq]; omega
    go_enter Try.func33, Try.ntmps33
    go_wp2
    go_ret
    exact ⟨by rw [HB.out]; rfl, rfl⟩
  · have hz : ((q.length : Int) == 0) = false := by rw [beq_eq_false_iff_ne]; omega
    by_cases h12 : q.length ≤ 12
    · have hd : decide ((12 : Int) < (q.length : Int)) = false := decide_eq_false (by omega)
      go_enter Try.func33, Try.ntmps33
      go_wp2
      go_loopw [3, 16] (fun v3 v16 wr => ∃ k : Nat, k ≤ q.length ∧ v16 = .int .i64 (k : Int) ∧ v3 = .int .i64 (leastI k) ∧ wr = w ∧ Hid (∀ (j : Nat) (x : Int), j < k → q[j]? = some x → leastI j ≤ x ∧ x ≤ 1000)) (fun _ v16 _ => q.length - (intOf v16).toNat)
      case atStart => exact ⟨0, Nat.zero_le _, rfl, rfl, rfl, Lib.hid fun j x hj => by omega⟩
      case round =>
        obtain ⟨k, hk, rfl, rfl, rfl, HA⟩ := hrel
        by_cases hlt : k < q.length
        · obtain ⟨x, hx⟩ : ∃ x, q[k]? = some x := ⟨_, List.getElem?_eq_getElem hlt⟩
          have HX := Lib.hid hx
          obtain ⟨b1, o1, c1, hv1, x1⟩ := Rd1.cell h hx
          simp only [Value.slice.injEq, true_and] at hv1
          obtain ⟨rfl, rfl⟩ := hv1
          clear hx
          have hbad : ¬ (leastI k ≤ x ∧ x ≤ 1000) → Hid (fracB q = false) := fun hn => Lib.hid (by
            refine fracB_no fun p => hn ?_
            by_cases e : k = 0
            · subst e; exact p.2.1 x HX.out
            · unfold leastI; rw [if_neg e]; exact p.2.2 k x (by omega) HX.out)
          by_cases h1 : x < leastI k
          · have HB := hbad (by omega)
            have hd1 : decide (x < leastI k) = true := decide_eq_true h1
            go_wp2
            go_ret
            exact ⟨by rw [HB.out]; rfl, rfl⟩
          · have hd1 : decide (x < leastI k) = false := decide_eq_false h1
            by_cases h2 : 1000 < x
            · have HB := hbad (by omega)
              have hd2 : decide (1000 < x) = true := decide_eq_true h2
              go_wp2
              go_ret
              exact ⟨by rw [HB.out]; rfl, rfl⟩
            · have hd2 : decide (1000 < x) = false := decide_eq_false h2
              have HA2 : Hid (∀ (j : Nat) (y : Int), j < k + 1 → q[j]? = some y → leastI j ≤ y ∧ y ≤ 1000) := Lib.hid fun j y hj hy => by
                by_cases e : j = k
                · subst e
                  rw [HX.out] at hy
                  obtain rfl := Option.some.inj hy
                  omega
                · exact HA.out j y (by omega) hy
              clear hbad
              go_wp2
              go_roundw
              case rel => exact ⟨k + 1, by omega, by go_num, by first | rfl | trivial, by first | rfl | trivial, HA2⟩
              case measure => simp [intOf]; omega
        · obtain rfl : k = q.length := by omega
          have HB : Hid (fracB q = true) := Lib.hid (by
            refine fracB_yes ⟨by omega, fun x hx => HA.out 0 x (by omega) hx, fun j x hj hx => ?_⟩
            have := HA.out j x (List.getElem?_eq_some_iff.1 hx).1 hx
            unfold leastI at this
            rw [if_neg (by omega)] at this
            exact this)
          go_wp2
          go_ret
          exact ⟨by rw [HB.out]; rfl, rfl⟩
    · have HB : Hid (fracB q = false) := Lib.hid (fracB_no fun p => h12 p.1.2)
      have hd : decide ((12 : Int) < (q.length : Int)) = true := decide_eq_true (by omega)
      go_enter Try.func33, Try.ntmps33
      go_wp2
      go_ret
      exact ⟨by rw [HB.out]; rfl, rfl⟩
end Go.Proofs.Ytjikpkigncomfaa
