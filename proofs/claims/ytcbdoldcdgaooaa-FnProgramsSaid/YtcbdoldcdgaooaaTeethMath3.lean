/- Mathematics of the program's chapter 5: from when on a tooth is rested. No condition. -/
import Derived.Test.YtcbdoldcdgaooaaAssignSpec
import Derived.Test.YtcbdoldcdgaooaaTeethSpec
import Derived.Test.YtcbdoldcdgaooaaIsSpec
namespace Go.Proofs.Ytcbdoldcdgaooaa
open Go.ChangeShapes Go.WideShapes Go.ChangeAt Go.RowKit

/-- The time from which on a tooth is rested that was played at x; -1000: never. -/
def restAt (r x : Int) : Int := if x = -1000 then 0 else x + r
def restL (r : Int) (last : List Int) : List Int := last.map (restAt r)
def LastOk (last : List Int) : Prop := ∀ x ∈ last, x = -1000 ∨ (0 ≤ x ∧ x ≤ 1000)
theorem restL_len (r : Int) (last : List Int) : (restL r last).length = last.length := by unfold restL; simp
theorem restL_start (r : Int) (n : Nat) : restL r (List.replicate n (-1000)) = List.replicate n 0 := by unfold restL; simp [restAt]
theorem restL_set {r : Int} {last : List Int} {j : Nat} {x : Int} (h : 0 ≤ x) : restL r (last.set j x) = (restL r last).set j (x + r) := by
  unfold restL; rw [List.map_set]; congr 1; unfold restAt; rw [if_neg (by omega)]
theorem LastOk.set {last : List Int} (h : LastOk last) {j : Nat} {x : Int} (hx : 0 ≤ x ∧ x ≤ 1000) : LastOk (last.set j x) := fun y hy => by
  rcases List.mem_or_eq_of_mem_set hy with h1 | h1
  · exact h y h1
  · subst h1; exact Or.inr hx
theorem lastOk_start (n : Nat) : LastOk (List.replicate n (-1000)) := fun x hx => Or.inl (List.mem_replicate.1 hx).2
theorem restAt_le {r x T : Int} (h : x = -1000 ∨ (0 ≤ x ∧ x ≤ 1000)) (hT : 0 ≤ T) (hr : r ≤ 100) : restAt r x ≤ T ↔ r ≤ T - x := by
  unfold restAt
  rcases h with rfl | h
  · rw [if_pos rfl]; omega
  · rw [if_neg (by omega)]; omega
theorem restAt_bd {r x : Int} (h : x = -1000 ∨ (0 ≤ x ∧ x ≤ 1000)) (hr : 1 ≤ r ∧ r ≤ 100) : 0 ≤ restAt r x ∧ restAt r x ≤ 1100 := by
  unfold restAt; split <;> omega
theorem restL_at {r : Int} {last : List Int} {i : Nat} {x : Int} (h : last[i]? = some x) : (restL r last)[i]? = some (restAt r x) := by
  unfold restL; rw [List.getElem?_map, h]; rfl
/-- One step of the search for a tooth, as the program does it. -/
theorem freeTo_hit {i : Nat} {c last : List Int} {q : Int × Int} {r p x : Int} (h : freeTo i c last q r = none) (hc : c[i]? = some p) (hl : last[i]? = some x) (hx : x = -1000 ∨ (0 ≤ x ∧ x ≤ 1000)) (hq : 0 ≤ q.1) (hr : r ≤ 100) (hp : p = q.2) (hf : restAt r x ≤ q.1) (hi : i < c.length) : freeTo c.length c last q r = some i := by
  refine freeTo_mono (n := i + 1) ?_ (by omega)
  have hgd : last.getD i 0 = x := by rw [List.getD_eq_getElem?_getD, hl]; rfl
  rw [freeTo_succ, h, hc, hgd, if_pos ⟨by rw [hp], (restAt_le hx hq hr).1 hf⟩]; rfl
theorem freeTo_miss {i : Nat} {c last : List Int} {q : Int × Int} {r p x : Int} (h : freeTo i c last q r = none) (hc : c[i]? = some p) (hl : last[i]? = some x) (hx : x = -1000 ∨ (0 ≤ x ∧ x ≤ 1000)) (hq : 0 ≤ q.1) (hr : r ≤ 100) (hf : ¬ (p = q.2 ∧ restAt r x ≤ q.1)) : freeTo (i + 1) c last q r = none := by
  have hgd : last.getD i 0 = x := by rw [List.getD_eq_getElem?_getD, hl]; rfl
  rw [freeTo_succ, h, hc, hgd, if_neg (fun hh => hf ⟨Option.some.inj hh.1, (restAt_le hx hq hr).2 hh.2⟩)]; rfl

/-- rl holds of every tooth from when on it is rested, as the first k notes were assigned. -/
def RestIs (c : List Int) (t : List (Int × Int)) (r : Int) (a rl : List Int) (k : Nat) : Prop :=
  rl.length = c.length ∧ ∀ (j : Nat) (z : Int), rl[j]? = some z → (0 ≤ z ∧ z ≤ 1100) ∧ ∀ T : Int, 0 ≤ T → (z ≤ T ↔ ∀ i y s, i < k → a[i]? = some y → t[i]? = some s → y = (j : Int) → s.1 + r ≤ T)
theorem restIs_start (c : List Int) (t : List (Int × Int)) (r : Int) (a : List Int) : RestIs c t r a (List.replicate c.length 0) 0 :=
  ⟨by simp, fun j z hz => by
    have := List.mem_replicate.1 (List.mem_of_getElem? hz)
    obtain rfl := this.2
    exact ⟨by omega, fun T hT => ⟨fun _ i y s hi => by omega, fun _ => hT⟩⟩⟩
theorem tune_times {t : List (Int × Int)} (h : tuneB t = true) {i k : Nat} {s q : Int × Int} (hik : i ≤ k) (hs : t[i]? = some s) (hq : t[k]? = some q) : s.1 ≤ q.1 := by
  induction k generalizing q with
  | zero => obtain rfl : i = 0 := by omega
            rw [hs] at hq; obtain rfl := Option.some.inj hq; exact Int.le_refl _
  | succ k ih =>
    by_cases hk : i = k + 1
    · subst hk; rw [hs] at hq; obtain rfl := Option.some.inj hq; exact Int.le_refl _
    · have hlt : k + 1 < t.length := (List.getElem?_eq_some_iff.1 hq).1
      obtain ⟨u, hu⟩ : ∃ u, t[k]? = some u := ⟨_, List.getElem?_eq_getElem (by omega)⟩
      have h1 := ih (by omega) hu
      have h2 := ((tuneB_true.1 h).2 (k + 1) q hq).2.2 k u rfl hu
      unfold lessB at h2
      simp only [decide_eq_true_eq] at h2
      omega
theorem RestIs.next {c : List Int} {t : List (Int × Int)} {r : Int} {a rl : List Int} {k : Nat} (h : RestIs c t r a rl k) (ht : tuneB t = true) (hr : 1 ≤ r ∧ r ≤ 100) {x : Nat} {q : Int × Int} (hx : a[k]? = some (x : Int)) (hq : t[k]? = some q) : RestIs c t r a (rl.set x (q.1 + r)) (k + 1) := by
  refine ⟨by rw [List.length_set]; exact h.1, fun j z hz => ?_⟩
  have hqb := ((tuneB_true.1 ht).2 k q hq).1
  by_cases hj : x = j
  · subst hj
    have hlt : x < (rl.set x (q.1 + r)).length := (List.getElem?_eq_some_iff.1 hz).1
    rw [List.length_set] at hlt
    rw [List.getElem?_set_self hlt] at hz
    obtain rfl := Option.some.inj hz
    refine ⟨by omega, fun T hT => ⟨fun hle i y s hi hy hs _ => ?_, fun hall => hall k _ q (by omega) hx hq rfl⟩⟩
    have := tune_times ht (show i ≤ k by omega) hs hq
    omega
  · rw [List.getElem?_set_ne hj] at hz
    obtain ⟨hb, hh⟩ := h.2 j z hz
    refine ⟨hb, fun T hT => (hh T hT).trans ⟨fun hall i y s hi hy hs hyj => ?_, fun hall i y s hi hy hs hyj => hall i y s (by omega) hy hs hyj⟩⟩
    by_cases hik : i = k
    · subst hik; rw [hx] at hy; obtain rfl := Option.some.inj hy; omega
    · exact hall i y s (by omega) hy hs hyj
theorem RestIs.ok {c : List Int} {t : List (Int × Int)} {r : Int} {a rl : List Int} {k : Nat} (h : RestIs c t r a rl k) {x : Nat} {q : Int × Int} {p z : Int} (hx : a[k]? = some (x : Int)) (hq : t[k]? = some q) (hq0 : 0 ≤ q.1) (hp : c[x]? = some p) (hz : rl[x]? = some z) (hpq : p = q.2) (hzq : z ≤ q.1) : ToothAt c t r a k := by
  intro x' q' hx' hq'
  rw [hx] at hx'; obtain rfl := Option.some.inj hx'
  rw [hq] at hq'; obtain rfl := Option.some.inj hq'
  have hlt : x < c.length := (List.getElem?_eq_some_iff.1 hp).1
  refine ⟨⟨by omega, by omega⟩, by rw [Int.toNat_natCast, hp, hpq], fun i y s hi hy hs hh => ?_⟩
  have := ((h.2 x z hz).2 q.1 hq0).1 hzq i y s hi hy hs hh.1
  omega
theorem RestIs.bad {c : List Int} {t : List (Int × Int)} {r : Int} {a rl : List Int} {k : Nat} (h : RestIs c t r a rl k) {x : Nat} {q : Int × Int} {p z : Int} (hx : a[k]? = some (x : Int)) (hq : t[k]? = some q) (hq0 : 0 ≤ q.1) (hp : c[x]? = some p) (hz : rl[x]? = some z) (hb : p ≠ q.2 ∨ q.1 < z) : ¬ ToothAt c t r a k := fun hh => by
  obtain ⟨_, h2, h3⟩ := hh _ _ hx hq
  rw [Int.toNat_natCast, hp] at h2
  rcases hb with hb | hb
  · exact hb (Option.some.inj h2)
  · have h4 := ((h.2 x z hz).2 q.1 hq0).2 fun i y s hi hy hs hy2 => by
      have := h3 i y s hi hy hs
      rw [hy2] at this
      by_cases hw : q.1 - s.1 < r
      · exact absurd ⟨rfl, hw⟩ this
      · omega
    omega
theorem out_bad {c : List Int} {t : List (Int × Int)} {r : Int} {a : List Int} {k : Nat} {x : Int} {q : Int × Int} (hx : a[k]? = some x) (hq : t[k]? = some q) (hb : x < 0 ∨ (c.length : Int) ≤ x) : ¬ ToothAt c t r a k := fun hh => by
  have := (hh _ _ hx hq).1
  omega
end Go.Proofs.Ytcbdoldcdgaooaa
