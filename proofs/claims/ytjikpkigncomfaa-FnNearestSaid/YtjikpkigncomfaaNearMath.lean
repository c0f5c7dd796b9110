/- Words for chapter 11's answers: quotients and their fraction, the closer of two fractions, the nearest gear, the error; what FnNearest asks. Pure. No condition. -/
import Derived.Test.YtjikpkigncomfaaGearMath
namespace Go.Proofs.Ytjikpkigncomfaa
open Go.ChangeShapes Go.WideShapes Go.ChangeAt Go.RowKit

/-! ### quotients -/
def contL (a b : Nat) : List Nat := if h : b = 0 then [] else a / b :: contL b (a % b)
termination_by b
decreasing_by exact Nat.mod_lt _ (Nat.pos_of_ne_zero h)
theorem contL_zero (a : Nat) : contL a 0 = [] := by rw [contL]; simp
theorem contL_step {a b : Nat} (h : b ≠ 0) : contL a b = a / b :: contL b (a % b) := by rw [contL]; simp [h]
theorem contL_len (a : Nat) : ∀ b, (contL a b).length ≤ b := by
  intro b
  induction b using Nat.strongRecOn generalizing a with
  | _ b ih =>
    by_cases h : b = 0
    · subst h; rw [contL_zero]; exact Nat.le_refl _
    · have hm := Nat.mod_lt a (Nat.pos_of_ne_zero h)
      rw [contL_step h, List.length_cons]
      have := ih (a % b) hm b
      omega
theorem contL_pos {a b : Nat} (h : b ≤ a) : ∀ x ∈ contL a b, 1 ≤ x ∧ x ≤ a := by
  induction b using Nat.strongRecOn generalizing a with
  | _ b ih =>
    intro x hx
    by_cases h0 : b = 0
    · subst h0; rw [contL_zero] at hx; cases hx
    · have hm := Nat.mod_lt a (Nat.pos_of_ne_zero h0)
      rw [contL_step h0, List.mem_cons] at hx
      rcases hx with rfl | hx
      · exact ⟨Nat.div_pos h (Nat.pos_of_ne_zero h0), Nat.div_le_self _ _⟩
      · have := ih (a % b) hm (Nat.le_of_lt hm) x hx
        omega
def contM (top bottom : Int) : List Int := if (0 ≤ top ∧ top ≤ 1000000) ∧ (1 ≤ bottom ∧ bottom ≤ 1000000) then (contL top.toNat bottom.toNat).map Int.ofNat else []
theorem contM_yes {a b : Nat} (ha : a ≤ 1000000) (hb : 1 ≤ b ∧ b ≤ 1000000) : contM (a : Int) (b : Int) = (contL a b).map Int.ofNat := by
  unfold contM; rw [if_pos (by omega)]; rfl
theorem contM_no {top bottom : Int} (h : ¬ ((0 ≤ top ∧ top ≤ 1000000) ∧ (1 ≤ bottom ∧ bottom ≤ 1000000))) : contM top bottom = [] := if_neg h
theorem contM_len (top bottom : Int) : (contM top bottom).length ≤ 1000000 := by
  unfold contM; split
  · rw [List.length_map]
    have := contL_len top.toNat bottom.toNat
    omega
  · simp

/-! ### the fraction of quotients -/
def FracP (q : List Int) : Prop := (1 ≤ q.length ∧ q.length ≤ 12) ∧ (∀ x, q[0]? = some x → 0 ≤ x ∧ x ≤ 1000) ∧ ∀ (k : Nat) (x : Int), 1 ≤ k → q[k]? = some x → 1 ≤ x ∧ x ≤ 1000
/-- The fraction of a row, from its end; none where a number grows too great. -/
def fracR : List Int → Option (Int × Int)
  | [] => none
  | [x] => some (x, 1)
  | x :: y :: l => match fracR (y :: l) with
    | none => none
    | some (a, b) => if x * a + b > 1000000 ∨ a > 1000000 then none else some (x * a + b, a)
open Classical in
noncomputable def fracM (q : List Int) : (Int × Int) × Bool := if FracP q then (match fracR q with | some p => (p, true) | none => ((0, 0), false)) else ((0, 0), false)
theorem fracM_no {q : List Int} (h : ¬ FracP q) : fracM q = ((0, 0), false) := if_neg h
theorem fracM_none {q : List Int} (h : fracR q = none) : fracM q = ((0, 0), false) := by unfold fracM; rw [h]; split <;> rfl
theorem fracM_some {q : List Int} {p : Int × Int} (h : FracP q) (hp : fracR q = some p) : fracM q = (p, true) := by unfold fracM; rw [if_pos h, hp]
theorem fracR_one (x : Int) : fracR [x] = some (x, 1) := rfl
theorem fracR_cons {x : Int} {l : List Int} {a b : Int} (h : fracR l = some (a, b)) : fracR (x :: l) = if x * a + b > 1000000 ∨ a > 1000000 then none else some (x * a + b, a) := by
  cases l with
  | nil => cases h
  | cons y l => conv => lhs; unfold fracR
                rw [h]
theorem fracR_dead {x : Int} {l : List Int} (hl : l ≠ []) (h : fracR l = none) : fracR (x :: l) = none := by
  cases l with
  | nil => exact absurd rfl hl
  | cons y l => conv => lhs; unfold fracR
                rw [h]
/-- The fraction of the quotients of a over b. -/
theorem frac_cont : ∀ (b a : Nat), 1 ≤ b → a ≤ 1000 → b ≤ 1000 → ∃ p : Int × Int, fracR ((contL a b).map Int.ofNat) = some p ∧ p.1 * ((Nat.gcd a b : Nat) : Int) = (a : Int) ∧ p.2 * ((Nat.gcd a b : Nat) : Int) = (b : Int) := by
  intro b
  induction b using Nat.strongRecOn with
  | _ b ih =>
    intro a hb ha hb9
    have hm := Nat.mod_lt a hb
    have hq : a / b ≤ 1000 := Nat.le_trans (Nat.div_le_self _ _) ha
    have hdm : (b : Int) * ((a / b : Nat) : Int) + ((a % b : Nat) : Int) = (a : Int) := by rw [← Int.natCast_mul, ← Int.natCast_add, Nat.div_add_mod]
    rw [contL_step (by omega), List.map_cons]
    by_cases h0 : a % b = 0
    · have hg : Nat.gcd a b = b := by rw [Nat.gcd_comm, Nat.gcd_rec, h0, Nat.gcd_zero_left]
      rw [h0, contL_zero, hg]
      refine ⟨(((a / b : Nat) : Int), 1), fracR_one _, ?_, by rw [Int.one_mul]⟩
      rw [h0] at hdm
      rw [Int.mul_comm]
      simpa using hdm
    · obtain ⟨⟨c, d⟩, hp, h1, h2⟩ := ih (a % b) hm b (by omega) hb9 (by omega)
      have hg : Nat.gcd b (a % b) = Nat.gcd a b := by rw [Nat.gcd_comm b, ← Nat.gcd_rec, Nat.gcd_comm]
      rw [hg] at h1 h2
      simp only at h1 h2
      have hgp : (1 : Int) ≤ ((Nat.gcd a b : Nat) : Int) := by have := Nat.gcd_pos_of_pos_right a hb; omega
      generalize ((Nat.gcd a b : Nat) : Int) = g at *
      have hc : c ≤ 1000 := by
        have : c * 1 ≤ c * g ∨ c < 0 := by
          by_cases hc : 0 ≤ c
          · exact Or.inl (Int.mul_le_mul_of_nonneg_left hgp hc)
          · exact Or.inr (by omega)
        rcases this with h | h
        · rw [h1] at h; omega
        · omega
      have htop : (((a / b : Nat) : Int) * c + d) * g = (a : Int) := by
        rw [Int.add_mul, Int.mul_assoc, h1, h2, Int.mul_comm]; exact hdm
      have ht : ((a / b : Nat) : Int) * c + d ≤ 1000 := by
        generalize ((a / b : Nat) : Int) * c + d = t at htop ⊢
        by_cases ht0 : 0 ≤ t
        · have : t * 1 ≤ t * g := Int.mul_le_mul_of_nonneg_left hgp ht0
          rw [htop] at this; omega
        · omega
      refine ⟨(((a / b : Nat) : Int) * c + d, c), ?_, htop, h1⟩
      rw [fracR_cons hp]
      exact if_neg (by show ¬ (((a / b : Nat) : Int) * c + d > 1000000 ∨ c > 1000000); omega)
theorem frac_cross {a b g : Int} {p : Int × Int} (h1 : p.1 * g = a) (h2 : p.2 * g = b) : p.1 * b = a * p.2 := by
  rw [← h1, ← h2, Int.mul_comm p.2 g, Int.mul_assoc]
theorem cont_frac {a b : Nat} (hb : 1 ≤ b) (ha : a ≤ 1000) (hb9 : b ≤ 1000) (hl : (contL a b).length ≤ 12) : FracP ((contL a b).map Int.ofNat) := by
  have hs := contL_step (a := a) (b := b) (by omega)
  refine ⟨⟨by rw [hs]; simp, by simpa using hl⟩, fun x hx => ?_, fun k x hk hx => ?_⟩
  · rw [hs] at hx
    obtain rfl := Option.some.inj hx
    have : a / b ≤ a := Nat.div_le_self _ _
    show (0 : Int) ≤ ((a / b : Nat) : Int) ∧ ((a / b : Nat) : Int) ≤ 1000
    generalize a / b = z at *
    omega
  · rw [hs, List.map_cons] at hx
    obtain ⟨k', rfl⟩ : ∃ k', k = k' + 1 := ⟨k - 1, by omega⟩
    rw [List.getElem?_cons_succ] at hx
    obtain ⟨y, hy, rfl⟩ := List.mem_map.1 (List.mem_of_getElem? hx)
    have hm := Nat.mod_lt a (show 0 < b by omega)
    have := contL_pos (Nat.le_of_lt hm) y hy
    show (1 : Int) ≤ (y : Int) ∧ (y : Int) ≤ 1000
    omega

/-! ### the closer of two fractions -/
def farM (top bottom a b : Int) : Int := max (a * bottom - top * b) (-(a * bottom - top * b))
theorem farM_nonneg (top bottom a b : Int) : 0 ≤ farM top bottom a b := by unfold farM; omega
def ok11 (n : Int) : Prop := 1 ≤ n ∧ n ≤ 1000
open Classical in
noncomputable def closM6 (top bottom a b c d : Int) : Int :=
  if ok11 top ∧ ok11 bottom ∧ ok11 a ∧ ok11 b ∧ ok11 c ∧ ok11 d then
    (if farM top bottom a b * d < farM top bottom c d * b then -1 else if farM top bottom c d * b < farM top bottom a b * d then 1 else 0) else 0
theorem clos_no {top bottom a b c d : Int} (h : ¬ (ok11 top ∧ ok11 bottom ∧ ok11 a ∧ ok11 b ∧ ok11 c ∧ ok11 d)) : closM6 top bottom a b c d = 0 := if_neg h
theorem clos_less {top bottom a b c d : Int} (h : ok11 top ∧ ok11 bottom ∧ ok11 a ∧ ok11 b ∧ ok11 c ∧ ok11 d) (hl : farM top bottom a b * d < farM top bottom c d * b) : closM6 top bottom a b c d = -1 := by unfold closM6; rw [if_pos h, if_pos hl]
theorem clos_more {top bottom a b c d : Int} (h : ok11 top ∧ ok11 bottom ∧ ok11 a ∧ ok11 b ∧ ok11 c ∧ ok11 d) (hl : farM top bottom c d * b < farM top bottom a b * d) : closM6 top bottom a b c d = 1 := by unfold closM6; rw [if_pos h, if_neg (by omega), if_pos hl]
theorem clos_same {top bottom a b c d : Int} (h : ok11 top ∧ ok11 bottom ∧ ok11 a ∧ ok11 b ∧ ok11 c ∧ ok11 d) (hl : farM top bottom a b * d = farM top bottom c d * b) : closM6 top bottom a b c d = 0 := by unfold closM6; rw [if_pos h, if_neg (by omega), if_neg (by omega)]
theorem clos_back (top bottom a b c d : Int) : closM6 top bottom a b c d = - closM6 top bottom c d a b := by
  by_cases h : ok11 top ∧ ok11 bottom ∧ ok11 a ∧ ok11 b ∧ ok11 c ∧ ok11 d
  · have h' : ok11 top ∧ ok11 bottom ∧ ok11 c ∧ ok11 d ∧ ok11 a ∧ ok11 b := ⟨h.1, h.2.1, h.2.2.2.2.1, h.2.2.2.2.2, h.2.2.1, h.2.2.2.1⟩
    rcases Int.lt_trichotomy (farM top bottom a b * d) (farM top bottom c d * b) with q | q | q
    · rw [clos_less h q, clos_more h' q]
    · rw [clos_same h q, clos_same h' q.symm]; rfl
    · rw [clos_more h q, clos_less h' q]; rfl
  · rw [clos_no h, clos_no fun q => h ⟨q.1, q.2.1, q.2.2.2.2.1, q.2.2.2.2.2, q.2.2.1, q.2.2.2.1⟩]; rfl

/-! ### the nearest gear -/
/-- p is closer to top / bottom than q. -/
def Near (top bottom : Int) (p q : Int × Int) : Prop := farM top bottom p.1 p.2 * q.2 < farM top bottom q.1 q.2 * p.2
theorem near_trans {top bottom : Int} {p q r : Int × Int} (hp : 0 < p.2) (hq : 0 < q.2) (hr : 0 < r.2) (h1 : ¬ Near top bottom q p) (h2 : ¬ Near top bottom r q) : ¬ Near top bottom r p := by
  unfold Near at *
  have e1 := Int.not_lt.1 h1
  have e2 := Int.not_lt.1 h2
  refine Int.not_lt.2 ?_
  generalize farM top bottom p.1 p.2 = x at *
  generalize farM top bottom q.1 q.2 = y at *
  generalize farM top bottom r.1 r.2 = z at *
  have f1 : x * q.2 * r.2 ≤ y * p.2 * r.2 := Int.mul_le_mul_of_nonneg_right e1 (by omega)
  have f2 : y * r.2 * p.2 ≤ z * q.2 * p.2 := Int.mul_le_mul_of_nonneg_right e2 (by omega)
  have f3 : x * r.2 * q.2 ≤ z * p.2 * q.2 := by
    have g1 : x * r.2 * q.2 = x * q.2 * r.2 := by rw [Int.mul_assoc, Int.mul_comm r.2, ← Int.mul_assoc]
    have g2 : y * p.2 * r.2 = y * r.2 * p.2 := by rw [Int.mul_assoc, Int.mul_comm p.2, ← Int.mul_assoc]
    have g3 : z * p.2 * q.2 = z * q.2 * p.2 := by rw [Int.mul_assoc, Int.mul_comm p.2, ← Int.mul_assoc]
    omega
  exact Int.le_of_mul_le_mul_right f3 hq
def pairK (k : Nat) : Int × Int := (6 + ((k / 115 : Nat) : Int), 6 + ((k % 115 : Nat) : Int))
theorem pairK_in {k : Nat} (h : k < 13225) : GearP (pairK k) := by
  have h1 : k / 115 < 115 := by omega
  have h2 := Nat.mod_lt k (show 0 < 115 by omega)
  exact ⟨by show 6 ≤ 6 + ((k / 115 : Nat) : Int) ∧ 6 + ((k / 115 : Nat) : Int) ≤ 120; omega, by show 6 ≤ 6 + ((k % 115 : Nat) : Int) ∧ 6 + ((k % 115 : Nat) : Int) ≤ 120; omega⟩
open Classical in
/-- The first nearest one of the first k pairs. -/
noncomputable def nearTo (top bottom : Int) : Nat → Int × Int
  | 0 => (6, 6)
  | k + 1 => if Near top bottom (pairK k) (nearTo top bottom k) then pairK k else nearTo top bottom k
theorem nearTo_take {top bottom : Int} {k : Nat} (h : Near top bottom (pairK k) (nearTo top bottom k)) : nearTo top bottom (k + 1) = pairK k := if_pos h
theorem nearTo_keep {top bottom : Int} {k : Nat} (h : ¬ Near top bottom (pairK k) (nearTo top bottom k)) : nearTo top bottom (k + 1) = nearTo top bottom k := if_neg h
theorem near_self (top bottom : Int) (p : Int × Int) : ¬ Near top bottom p p := by unfold Near; omega
/-- It is one of them, none is nearer, and it is nearer than all ahead of it. -/
theorem nearTo_good (top bottom : Int) : ∀ k, 1 ≤ k → k ≤ 13225 → ∃ i, i < k ∧ nearTo top bottom k = pairK i ∧ (∀ j, j < k → ¬ Near top bottom (pairK j) (pairK i)) ∧ ∀ j, j < i → Near top bottom (pairK i) (pairK j)
  | 0, h, _ => by omega
  | k + 1, _, hk => by
    by_cases h0 : k = 0
    · subst h0
      have e0 : nearTo top bottom 0 = pairK 0 := rfl
      have : ¬ Near top bottom (pairK 0) (nearTo top bottom 0) := by rw [e0]; exact near_self _ _ _
      refine ⟨0, by omega, by rw [nearTo_keep this, e0], fun j hj => ?_, fun j hj => by omega⟩
      obtain rfl : j = 0 := by omega
      exact near_self _ _ _
    · obtain ⟨i, hi, he, hA, hB⟩ := nearTo_good top bottom k (by omega) (by omega)
      have hpos : ∀ j, 0 < (pairK j).2 := fun j => by show (0 : Int) < 6 + ((j % 115 : Nat) : Int); omega
      by_cases hn : Near top bottom (pairK k) (nearTo top bottom k)
      · rw [nearTo_take hn]
        rw [he] at hn
        have hk2 : ∀ j, j < k → Near top bottom (pairK k) (pairK j) := fun j hj => Classical.byContradiction fun q => near_trans (hpos i) (hpos j) (hpos k) (hA j hj) q hn
        refine ⟨k, by omega, rfl, fun j hj => ?_, hk2⟩
        by_cases hjk : j = k
        · rw [hjk]; exact near_self _ _ _
        · have := hk2 j (by omega)
          unfold Near at *
          omega
      · rw [nearTo_keep hn]
        rw [he] at hn
        refine ⟨i, by omega, he, fun j hj => ?_, hB⟩
        by_cases hjk : j = k
        · rw [hjk]; exact hn
        · exact hA j (by omega)
noncomputable def nearM (top bottom : Int) : Int × Int := nearTo top bottom 13225
theorem pair_of {p : Int × Int} (h : GearP p) : ∃ j, j < 13225 ∧ p = pairK j := by
  obtain ⟨⟨h1, h2⟩, h3, h4⟩ := h
  obtain ⟨x, hx⟩ := Int.eq_ofNat_of_zero_le (show 0 ≤ p.1 - 6 by omega)
  obtain ⟨y, hy⟩ := Int.eq_ofNat_of_zero_le (show 0 ≤ p.2 - 6 by omega)
  refine ⟨x * 115 + y, by omega, ?_⟩
  have e1 : (x * 115 + y) / 115 = x := by omega
  have e2 : (x * 115 + y) % 115 = y := by omega
  unfold pairK
  rw [e1, e2]
  exact Prod.ext (by show p.1 = 6 + (x : Int); omega) (by show p.2 = 6 + (y : Int); omega)
theorem near_gear (top bottom : Int) : GearP (nearM top bottom) := by
  obtain ⟨i, hi, he, -, -⟩ := nearTo_good top bottom 13225 (by omega) (by omega)
  unfold nearM; rw [he]; exact pairK_in hi
theorem near_best {top bottom : Int} {p : Int × Int} (hp : GearP p) : ¬ Near top bottom p (nearM top bottom) := by
  obtain ⟨i, hi, he, hA, -⟩ := nearTo_good top bottom 13225 (by omega) (by omega)
  obtain ⟨j, hj, rfl⟩ := pair_of hp
  unfold nearM; rw [he]; exact hA j hj
theorem far_zero {top bottom a b : Int} : farM top bottom a b = 0 ↔ a * bottom = top * b := by unfold farM; omega
theorem near_zero {top bottom : Int} {p : Int × Int} (hp : GearP p) (h : farM top bottom p.1 p.2 = 0) : farM top bottom (nearM top bottom).1 (nearM top bottom).2 = 0 := by
  have h1 := near_best (top := top) (bottom := bottom) hp
  have h2 := near_gear top bottom
  have h3 := farM_nonneg top bottom (nearM top bottom).1 (nearM top bottom).2
  unfold Near at h1
  rw [h, Int.zero_mul] at h1
  have h4 := Int.not_lt.1 h1
  by_cases h5 : farM top bottom (nearM top bottom).1 (nearM top bottom).2 = 0
  · exact h5
  · have : 0 < farM top bottom (nearM top bottom).1 (nearM top bottom).2 * p.2 := Int.mul_pos (by omega) (by have := hp.2.1; omega)
    omega
theorem good_of {top bottom a b : Int} (ht : 1 ≤ top) (h : a * bottom = top * b) (hb : 6 ≤ b ∧ b ≤ 120) : GoodA top bottom a ∧ a * bottom / top = b := by
  have e : a * bottom / top = b := by rw [h]; exact Int.mul_ediv_cancel_left _ (by omega)
  exact ⟨⟨by rw [h]; exact Int.mul_emod_right _ _, by rw [e]; exact hb.1, by rw [e]; exact hb.2⟩, e⟩
/-- Where a gear has the very ratio, the nearest one is the one with the least Drives. -/
theorem near_exact {top bottom : Int} {h : Int × Int} (ht : 1 ≤ top ∧ top ≤ 1000) (hb : 1 ≤ bottom ∧ bottom ≤ 1000) (hg : gearsM top bottom = (h, true)) : farM top bottom (nearM top bottom).1 (nearM top bottom).2 = 0 ∧ nearM top bottom = h := by
  have hr : (1 ≤ top ∧ top ≤ 10000) ∧ (1 ≤ bottom ∧ bottom ≤ 10000) := by omega
  cases hf : firstA top bottom 6 115 with
  | none => rw [gearsM_none hr hf] at hg; cases (Prod.mk.inj hg).2
  | some a =>
    rw [gearsM_some hr hf] at hg
    obtain ⟨⟨g1, g2, g3⟩, g4, g5, g6⟩ := firstA_some hf
    have hh : h = (a, a * bottom / top) := (Prod.mk.inj hg).1.symm
    have hz : farM top bottom h.1 h.2 = 0 := by
      rw [far_zero, hh]
      show a * bottom = top * (a * bottom / top)
      have := Int.mul_ediv_add_emod (a * bottom) top
      rw [g1, Int.add_zero] at this
      exact this.symm
    have hgp : GearP h := by rw [hh]; exact ⟨⟨g4, by show a ≤ 120; omega⟩, g2, g3⟩
    have hn := near_zero hgp hz
    refine ⟨hn, ?_⟩
    obtain ⟨i, hi, he, hA, hB⟩ := nearTo_good top bottom 13225 (by omega) (by omega)
    obtain ⟨j, hj, hjh⟩ := pair_of hgp
    have hnm : nearM top bottom = pairK i := he
    rw [hnm] at hn ⊢
    have hpi := pairK_in hi
    obtain ⟨hgood, hq⟩ := good_of ht.1 (far_zero.1 hn) hpi.2
    have hle : a ≤ (pairK i).1 := Int.not_lt.1 fun hlt => g6 _ hpi.1.1 hlt hgood
    have hij : ¬ j < i := fun hlt => by
      have h1 := hB j hlt
      unfold Near at h1
      rw [hn, ← hjh, hz] at h1
      omega
    have ha : h.1 = a := by rw [hh]
    have hja : (pairK j).1 = a := by rw [← hjh]; exact ha
    have hdi : (pairK i).1 = 6 + ((i / 115 : Nat) : Int) := rfl
    have hdj : (pairK j).1 = 6 + ((j / 115 : Nat) : Int) := rfl
    have hdd : i / 115 ≤ j / 115 := Nat.div_le_div_right (by omega)
    have hia : (pairK i).1 = a := by omega
    rw [hh]
    refine Prod.ext hia ?_
    rw [← hq, hia]

/-! ### the error -/
open Classical in
noncomputable def errM (top bottom : Int) (p : Int × Int) : Int := if (ok11 top ∧ ok11 bottom) ∧ GearP p then farM top bottom p.1 p.2 * 1000000 / (top * p.2) else -1
theorem errM_yes {top bottom : Int} {p : Int × Int} (h : (ok11 top ∧ ok11 bottom) ∧ GearP p) : errM top bottom p = farM top bottom p.1 p.2 * 1000000 / (top * p.2) := if_pos h
theorem errM_no {top bottom : Int} {p : Int × Int} (h : ¬ ((ok11 top ∧ ok11 bottom) ∧ GearP p)) : errM top bottom p = -1 := if_neg h
theorem err_least {top bottom : Int} {p : Int × Int} (h : ok11 top ∧ ok11 bottom) (hp : GearP p) : 0 ≤ errM top bottom (nearM top bottom) ∧ errM top bottom (nearM top bottom) ≤ errM top bottom p := by
  have hg := near_gear top bottom
  have hb := near_best (top := top) (bottom := bottom) hp
  rw [errM_yes ⟨h, hg⟩, errM_yes ⟨h, hp⟩]
  unfold Near at hb
  have hb := Int.not_lt.1 hb
  have f1 := farM_nonneg top bottom (nearM top bottom).1 (nearM top bottom).2
  have t1 := h.1.1
  have q1 := hg.2.1
  have q2 := hp.2.1
  generalize farM top bottom (nearM top bottom).1 (nearM top bottom).2 = x at *
  generalize farM top bottom p.1 p.2 = z at *
  generalize (nearM top bottom).2 = d at *
  generalize p.2 = y at *
  have d1 : 0 < top * d := Int.mul_pos (by omega) (by omega)
  have d2 : 0 < top * y := Int.mul_pos (by omega) (by omega)
  refine ⟨Int.ediv_nonneg (by omega) (by omega), ?_⟩
  refine Int.le_ediv_of_mul_le d2 ?_
  have e1 : x * 1000000 / (top * d) * (top * d) ≤ x * 1000000 := Int.ediv_mul_le _ (by omega)
  generalize x * 1000000 / (top * d) = k at *
  have e2 : k * (top * d) * y ≤ x * 1000000 * y := Int.mul_le_mul_of_nonneg_right e1 (by omega)
  have e3 : x * 1000000 * y ≤ z * 1000000 * d := by
    have g1 : x * 1000000 * y = 1000000 * (x * y) := by rw [Int.mul_assoc, Int.mul_comm 1000000 y, ← Int.mul_assoc, Int.mul_comm]
    have g2 : z * 1000000 * d = 1000000 * (z * d) := by rw [Int.mul_assoc, Int.mul_comm 1000000 d, ← Int.mul_assoc, Int.mul_comm]
    omega
  have e4 : k * (top * y) * d ≤ z * 1000000 * d := by
    have g1 : k * (top * y) * d = k * (top * d) * y := by rw [Int.mul_assoc, Int.mul_assoc top, Int.mul_comm y, ← Int.mul_assoc top, ← Int.mul_assoc]
    omega
  exact Int.le_of_mul_le_mul_right e4 (by omega)
theorem err_zero {top bottom : Int} {p : Int × Int} (h : ok11 top ∧ ok11 bottom) (hp : GearP p) (hz : farM top bottom p.1 p.2 = 0) : errM top bottom p = 0 := by
  rw [errM_yes ⟨h, hp⟩, hz, Int.zero_mul, Int.zero_ediv]
theorem cont_355 : contM 355 113 = [3, 7, 16] := by
  have e : contL 355 113 = [3, 7, 16] := by
    rw [contL_step (by decide), contL_step (by decide), contL_step (by decide), contL_zero]
  have := contM_yes (a := 355) (b := 113) (by decide) (by decide)
  rw [e] at this
  exact this
end Go.Proofs.Ytjikpkigncomfaa
