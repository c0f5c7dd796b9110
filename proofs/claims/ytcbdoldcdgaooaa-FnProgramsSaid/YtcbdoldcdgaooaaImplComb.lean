/- The contracts of the program's CombOk and TeethOf. No condition. -/
import Derived.Test.YtcbdoldcdgaooaaCombSpec
import Derived.Test.YtcbdoldcdgaooaaAscShelf
namespace Go.Proofs.Ytcbdoldcdgaooaa
open Go.ChangeShapes Go.WideShapes Go.ChangeAt Go.RowKit

def ascB (l : List Int) : Bool := Lib.downOK (fun x y => decide (x < y)) l.toArray (l.length - 1)
theorem ascB_true {l : List Int} : ascB l = true ↔ ∀ (i : Nat) (q p : Int), l[i]? = some q → l[i + 1]? = some p → q ≤ p := by
  unfold ascB
  rw [Lib.downOK_iff]
  constructor
  · intro h i q p hq hp
    have hlt : i + 1 < l.length := (List.getElem?_eq_some_iff.1 hp).1
    have := h i (by omega)
    simp only [decide_eq_false_iff_not, Int.not_lt] at this
    have e1 : l.toArray[i]! = q := by simp [hq]
    have e2 : l.toArray[i + 1]! = p := by simp [hp]
    rw [e1, e2] at this
    exact this
  · intro h i hi
    have e1 : l[i]? = some l[i]! := by simp [List.getElem!_eq_getElem?_getD, List.getElem?_eq_getElem (show i < l.length by omega)]
    have e2 : l[i + 1]? = some l[i + 1]! := by simp [List.getElem!_eq_getElem?_getD, List.getElem?_eq_getElem (show i + 1 < l.length by omega)]
    have := h i _ _ e1 e2
    simp only [decide_eq_false_iff_not, Int.not_lt]
    simpa using this
theorem asc_le {l : List Int} (h : ascB l = true) : ∀ (d i : Nat) (q p : Int), l[i]? = some q → l[i + d]? = some p → q ≤ p
  | 0, i, q, p, hq, hp => by rw [Nat.add_zero, hq] at hp; cases hp; exact Int.le_refl _
  | d + 1, i, q, p, hq, hp => by
    have hlt : i + (d + 1) < l.length := (List.getElem?_eq_some_iff.1 hp).1
    obtain ⟨r, hr⟩ : ∃ r, l[i + d]? = some r := ⟨_, List.getElem?_eq_getElem (by omega)⟩
    have h1 := asc_le h d i q r hq hr
    have h2 := ascB_true.1 h (i + d) r p hr hp
    omega
theorem comb_of {l : List Int} {f z : Int} (h : ascB l = true) (h1 : 1 ≤ l.length) (h2 : l.length ≤ 24) (hf : l[0]? = some f) (hz : l[l.length - 1]? = some z) : combB l = (decide (0 ≤ f) && decide (z ≤ 60)) := by
  by_cases hp : 0 ≤ f ∧ z ≤ 60
  · rw [combB_true.2 ⟨⟨h1, h2⟩, fun k p hk => ?_⟩]
    · simp [hp]
    · have hlt : k < l.length := (List.getElem?_eq_some_iff.1 hk).1
      have a1 := asc_le h k 0 f p hf (by rw [Nat.zero_add]; exact hk)
      have a2 := asc_le h (l.length - 1 - k) k p z hk (by rw [show k + (l.length - 1 - k) = l.length - 1 by omega]; exact hz)
      exact ⟨⟨by omega, by omega⟩, fun i q hi hq => by subst hi; exact ascB_true.1 h i q p hq hk⟩
  · rw [combB_false.2 fun hc : CombP l => hp ⟨(hc.2 _ _ hf).1.1, (hc.2 _ _ hz).1.2⟩]
    symm
    rw [Bool.and_eq_false_iff]
    by_cases h0 : 0 ≤ f
    · exact Or.inr (decide_eq_false fun k => hp ⟨h0, k⟩)
    · exact Or.inl (decide_eq_false h0)
theorem comb_asc {l : List Int} (h : combB l = true) : ascB l = true := ascB_true.2 fun i q p hq hp => ((combB_true.1 h).2 _ _ hp).2 i q rfl hq

theorem asc_any {w : World} {v : Value} {l : List Int} (h : Rd1 w v l) (hl : l.length ≤ 24) :
    Calls Try.prog 144 #[v] w fun e w' => e = .returned (.bool (ascB l)) ∧ ∃ q, w' = w.drewN q := by
  by_cases h0 : l.length = 0
  · obtain rfl : l = [] := List.length_eq_zero_iff.1 h0
    obtain ⟨a1, cap1, rfl⟩ := Rd.slice h
    exact (AnyO.slices_IsSorted_int_none Try.ascS a1 cap1 w).mono fun e w' ⟨he, hw⟩ => ⟨he, 0, by rw [hw]; rfl⟩
  · obtain ⟨b, off, cap, rfl, hc⟩ := Rd.pos h (by omega)
    exact AnyO.slices_IsSorted_int Try.ascS b off cap l.toArray w (fun i hi => by
      have hi' : i < l.length := by simpa using hi
      rw [hc i (by omega), List.getElem?_map, List.getElem?_eq_getElem hi']
      simp [intV, hi']) (by simp; omega)

set_option maxHeartbeats 2000000 in
theorem icomb_any {w : World} {v : Value} {l : List Int} (h : Rd1 w v l) :
    Calls Try.prog 123 #[v] w fun e w' => e = .returned (.bool (combB l)) ∧ Below w.heap.size w w' := by
  obtain ⟨a1, cap1, rfl⟩ := Rd.slice h
  have hm := h.2.1
  unfold maxLen at hm
  by_cases h0 : l.length = 0
  · have HB := Lib.hid (combB_false.2 fun hc : CombP l => by have := hc.1.1; omega)
    have he : ((l.length : Int) == 0) = true := by simp [h0]
    go_enter Try.func123, Try.ntmps123
    go_wp2
    go_ret
    exact ⟨by rw [HB.out]; rfl, Below.refl _ _⟩
  · have he : ((l.length : Int) == 0) = false := by rw [beq_eq_false_iff_ne]; omega
    by_cases h24 : 24 < l.length
    · have HB := Lib.hid (combB_false.2 fun hc : CombP l => by have := hc.1.2; omega)
      have hd : decide ((24 : Int) < (l.length : Int)) = true := decide_eq_true (by omega)
      go_enter Try.func123, Try.ntmps123
      go_wp2
      go_ret
      exact ⟨by rw [HB.out]; rfl, Below.refl _ _⟩
    · have hd : decide ((24 : Int) < (l.length : Int)) = false := decide_eq_false (by omega)
      by_cases ha : ascB l = true
      · obtain ⟨f, hf⟩ : ∃ f, l[0]? = some f := ⟨_, List.getElem?_eq_getElem (by omega)⟩
        obtain ⟨z, hz⟩ : ∃ z, l[l.length - 1]? = some z := ⟨_, List.getElem?_eq_getElem (by omega)⟩
        have HB := Lib.hid (comb_of ha (by omega) (by omega) hf hz)
        have HA := Lib.hid ha
        have HF := Lib.hid hf
        have HZ := Lib.hid hz
        clear ha hf hz
        go_enter Try.func123, Try.ntmps123
        go_wp2_with fail
        refine (asc_any h (by omega)).mono ?_
        rintro e w1 ⟨rfl, hq⟩
        rw [HA.out]
        obtain ⟨b1, hb1⟩ : ∃ b, b = Below w.heap.size w w1 := ⟨_, rfl⟩
        have g1 : Below w.heap.size w w1 := by obtain ⟨q, rfl⟩ := hq; exact below_drewN (Below.refl _ _) q
        clear hq hb1 b1
        obtain ⟨b1, o1, c1, hv1, x1⟩ := Rd1.cell (Rd.below h g1) HF.out
        simp only [Value.slice.injEq, true_and] at hv1
        obtain ⟨rfl, rfl⟩ := hv1
        rw [Nat.add_zero] at x1
        obtain ⟨b2, o2, c2, hv2, x2⟩ := Rd1.cell (Rd.below h g1) HZ.out
        simp only [Value.slice.injEq, true_and, Option.some.injEq, Addr.mk.injEq, and_true] at hv2
        obtain ⟨⟨rfl, rfl⟩, rfl⟩ := hv2
        have hj1 : (0 : Int) ≤ (l.length : Int) - 1 := by omega
        have hj3 : (l.length : Int) - 1 < (l.length : Int) := by omega
        have hj4 : 1 ≤ l.length := by omega
        have hj5 : (0 : Int) < (l.length : Int) := by omega
        have ej1 : IntKind.i64.wrap ((l.length : Int) - 1) = (l.length : Int) - 1 := IntWalk.i64_in _ (by omega)
        have ej2 : ((l.length : Int) - 1).toNat = l.length - 1 := by omega
        by_cases hf0 : 0 ≤ f
        · have hdf : decide (0 ≤ f) = true := decide_eq_true hf0
          go_wp2
          go_ret
          exact ⟨by rw [HB.out, hdf]; rfl, g1⟩
        · have hdf : decide (0 ≤ f) = false := decide_eq_false hf0
          go_wp2
          go_ret
          exact ⟨by rw [HB.out, hdf]; rfl, g1⟩
      · have HB := Lib.hid (show combB l = false by rw [← Bool.not_eq_true]; exact fun k => ha (comb_asc k))
        have HA := Lib.hid (show ascB l = false by simpa using ha)
        clear ha
        go_enter Try.func123, Try.ntmps123
        go_wp2_with fail
        refine (asc_any h (by omega)).mono ?_
        rintro e w1 ⟨rfl, hq⟩
        rw [HA.out]
        have g1 : Below w.heap.size w w1 := by obtain ⟨q, rfl⟩ := hq; exact below_drewN (Below.refl _ _) q
        clear hq
        go_wp2
        go_ret
        exact ⟨by rw [HB.out]; rfl, g1⟩
theorem icomb_yes {w : World} {v : Value} {l : List Int} (h : Rd1 w v l) (hc : combB l = true) :
    Calls Try.prog 123 #[v] w fun e w' => e = .returned (.bool true) ∧ Below w.heap.size w w' :=
  (icomb_any h).mono fun _ _ ⟨he, hb⟩ => ⟨by rw [he, hc], hb⟩
theorem icomb_no {w : World} {v : Value} {l : List Int} (h : Rd1 w v l) (hc : combB l = false) :
    Calls Try.prog 123 #[v] w fun e w' => e = .returned (.bool false) ∧ Below w.heap.size w w' :=
  (icomb_any h).mono fun _ _ ⟨he, hb⟩ => ⟨by rw [he, hc], hb⟩

end Go.Proofs.Ytcbdoldcdgaooaa
