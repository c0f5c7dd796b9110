/- Words for chapter 10's answers: trains of gears, their ratio, turns, gears for a ratio; what FnGears asks. Pure. No condition. -/
import Derived.Test.YtcbdoldcdgaooaaInts
namespace Go.Proofs.Ytcbdoldcdgaooaa
open Go.ChangeShapes Go.WideShapes Go.ChangeAt Go.RowKit

/-! ### products -/
def mulL : List Int → Int
  | [] => 1
  | x :: l => x * mulL l
theorem mulL_one (l : List Int) (x : Int) : mulL (l ++ [x]) = mulL l * x := by
  induction l with
  | nil => simp [mulL]
  | cons y l ih => rw [List.cons_append]; simp only [mulL, ih, Int.mul_assoc]
theorem mulL_take {l : List Int} {k : Nat} {x : Int} (h : l[k]? = some x) : mulL (l.take (k + 1)) = mulL (l.take k) * x := by
  rw [List.take_add_one, h, Option.toList_some, mulL_one]
theorem mulL_rev (l : List Int) : mulL l.reverse = mulL l := by
  induction l with
  | nil => rfl
  | cons x l ih => rw [List.reverse_cons, mulL_one, ih]; simp only [mulL, Int.mul_comm]
theorem mulL_pos : ∀ {l : List Int}, (∀ x ∈ l, 1 ≤ x ∧ x ≤ 120) → 1 ≤ mulL l ∧ mulL l ≤ 120 ^ l.length
  | [], _ => by simp [mulL]
  | x :: l, h => by
    have hx := h x (by simp)
    obtain ⟨h1, h2⟩ := mulL_pos fun y hy => h y (List.mem_cons_of_mem x hy)
    simp only [mulL, List.length_cons, Int.pow_succ]
    constructor
    · have : 1 * 1 ≤ x * mulL l := Int.mul_le_mul hx.1 h1 (by omega) (by omega)
      omega
    · rw [Int.mul_comm]
      exact Int.mul_le_mul h2 hx.2 (by omega) (by omega)
theorem pow4 {k : Nat} (h : k ≤ 4) : (120 : Int) ^ k ≤ 207360000 := by
  have : k = 0 ∨ k = 1 ∨ k = 2 ∨ k = 3 ∨ k = 4 := by omega
  rcases this with rfl | rfl | rfl | rfl | rfl <;> decide

/-! ### trains -/
def GearP (p : Int × Int) : Prop := (6 ≤ p.1 ∧ p.1 ≤ 120) ∧ (6 ≤ p.2 ∧ p.2 ≤ 120)
open Classical in
noncomputable def gearB (p : Int × Int) : Bool := decide (GearP p)
theorem gearB_true {p : Int × Int} : gearB p = true ↔ GearP p := by unfold gearB; simp
theorem gearB_false {p : Int × Int} : gearB p = false ↔ ¬ GearP p := by unfold gearB; simp
def TrainP (l : List (Int × Int)) : Prop := l.length ≤ 4 ∧ ∀ p ∈ l, GearP p
open Classical in
noncomputable def trainB (l : List (Int × Int)) : Bool := decide (TrainP l)
theorem trainB_true {l : List (Int × Int)} : trainB l = true ↔ TrainP l := by unfold trainB; simp
theorem trainB_false {l : List (Int × Int)} : trainB l = false ↔ ¬ TrainP l := by unfold trainB; simp
def topL (l : List (Int × Int)) : Int := mulL (l.map Prod.fst)
def botL (l : List (Int × Int)) : Int := mulL (l.map Prod.snd)
theorem topL_take {l : List (Int × Int)} {k : Nat} {p : Int × Int} (h : l[k]? = some p) : topL (l.take (k + 1)) = topL (l.take k) * p.1 := by
  unfold topL; rw [List.map_take, List.map_take]; exact mulL_take (by rw [List.getElem?_map, h]; rfl)
theorem botL_take {l : List (Int × Int)} {k : Nat} {p : Int × Int} (h : l[k]? = some p) : botL (l.take (k + 1)) = botL (l.take k) * p.2 := by
  unfold botL; rw [List.map_take, List.map_take]; exact mulL_take (by rw [List.getElem?_map, h]; rfl)
theorem topL_pos {l : List (Int × Int)} (h : ∀ p ∈ l, GearP p) (hl : l.length ≤ 4) : 1 ≤ topL l ∧ topL l ≤ 207360000 := by
  have := mulL_pos (l := l.map Prod.fst) fun x hx => by
    obtain ⟨p, hp, rfl⟩ := List.mem_map.1 hx
    have := (h p hp).1
    omega
  have h4 := pow4 hl
  rw [List.length_map] at this
  unfold topL; omega
theorem botL_pos {l : List (Int × Int)} (h : ∀ p ∈ l, GearP p) (hl : l.length ≤ 4) : 1 ≤ botL l ∧ botL l ≤ 207360000 := by
  have := mulL_pos (l := l.map Prod.snd) fun x hx => by
    obtain ⟨p, hp, rfl⟩ := List.mem_map.1 hx
    have := (h p hp).2
    omega
  have h4 := pow4 hl
  rw [List.length_map] at this
  unfold botL; omega
/-- The gears up to k are all valid. -/
theorem gears_next {l : List (Int × Int)} {k : Nat} {p : Int × Int} (h : ∀ q ∈ l.take k, GearP q) (hp : l[k]? = some p) (hg : GearP p) : ∀ q ∈ l.take (k + 1), GearP q := by
  intro q hq
  rw [List.take_add_one, hp, Option.toList_some, List.mem_append] at hq
  rcases hq with hq | hq
  · exact h q hq
  · rw [List.mem_singleton] at hq; subst hq; exact hg
noncomputable def ratM (l : List (Int × Int)) : Int × Int := if trainB l = true then (topL l / (Int.gcd (topL l) (botL l) : Nat), botL l / (Int.gcd (topL l) (botL l) : Nat)) else (0, 0)
theorem ratM_yes {l : List (Int × Int)} (h : trainB l = true) : ratM l = (topL l / (Int.gcd (topL l) (botL l) : Nat), botL l / (Int.gcd (topL l) (botL l) : Nat)) := if_pos h
theorem ratM_no {l : List (Int × Int)} (h : trainB l = false) : ratM l = (0, 0) := if_neg (by rw [h]; decide)
/-- The ratio, as numbers without a common divisor. -/
theorem ratM_parts {l : List (Int × Int)} (h : trainB l = true) : ∃ a b : Nat, ratM l = ((a : Int), (b : Int)) ∧ 1 ≤ a ∧ 1 ≤ b ∧ a ≤ 207360000 ∧ b ≤ 207360000 ∧ Nat.gcd a b = 1 := by
  have hp := trainB_true.1 h
  have ht := topL_pos hp.2 hp.1
  have hb := botL_pos hp.2 hp.1
  rw [ratM_yes h]
  generalize topL l = t at *
  generalize botL l = u at *
  obtain ⟨x, rfl⟩ := Int.eq_ofNat_of_zero_le (show 0 ≤ t by omega)
  obtain ⟨y, rfl⟩ := Int.eq_ofNat_of_zero_le (show 0 ≤ u by omega)
  have hg : Int.gcd (x : Int) (y : Int) = Nat.gcd x y := rfl
  rw [hg]
  have hgp : 0 < Nat.gcd x y := Nat.gcd_pos_of_pos_left _ (by omega)
  refine ⟨x / Nat.gcd x y, y / Nat.gcd x y, by rw [Int.natCast_ediv, Int.natCast_ediv], ?_, ?_, ?_, ?_, Nat.coprime_div_gcd_div_gcd hgp⟩
  · exact Nat.div_pos (Nat.gcd_le_left _ (by omega)) hgp
  · exact Nat.div_pos (Nat.gcd_le_right _ (by omega)) hgp
  · exact Nat.le_trans (Nat.div_le_self _ _) (by omega)
  · exact Nat.le_trans (Nat.div_le_self _ _) (by omega)

/-! ### turns -/
open Classical in
noncomputable def gturnsM (l : List (Int × Int)) (n : Int) : Int × Bool :=
  if trainB l = true ∧ (0 ≤ n ∧ n ≤ 1000000) ∧ n * (ratM l).1 % (ratM l).2 = 0 then (n * (ratM l).1 / (ratM l).2, true) else (0, false)
theorem gturnsM_yes {l : List (Int × Int)} {n : Int} (h : trainB l = true) (hn : 0 ≤ n ∧ n ≤ 1000000) (h0 : n * (ratM l).1 % (ratM l).2 = 0) : gturnsM l n = (n * (ratM l).1 / (ratM l).2, true) := if_pos ⟨h, hn, h0⟩
theorem gturnsM_no {l : List (Int × Int)} {n : Int} (h : ¬ (trainB l = true ∧ (0 ≤ n ∧ n ≤ 1000000) ∧ n * (ratM l).1 % (ratM l).2 = 0)) : gturnsM l n = (0, false) := if_neg h
def swapG (p : Int × Int) : Int × Int := (p.2, p.1)
noncomputable def gbackM (l : List (Int × Int)) : List (Int × Int) := if trainB l = true then l.reverse.map swapG else []
theorem gbackM_yes {l : List (Int × Int)} (h : trainB l = true) : gbackM l = l.reverse.map swapG := if_pos h
theorem gbackM_no {l : List (Int × Int)} (h : trainB l = false) : gbackM l = [] := if_neg (by rw [h]; decide)
theorem gbackM_len (l : List (Int × Int)) : (gbackM l).length ≤ l.length := by unfold gbackM; split <;> simp
theorem back_train {l : List (Int × Int)} (h : trainB l = true) : trainB (l.reverse.map swapG) = true := by
  obtain ⟨h1, h2⟩ := trainB_true.1 h
  refine trainB_true.2 ⟨by simpa using h1, fun p hp => ?_⟩
  obtain ⟨q, hq, rfl⟩ := List.mem_map.1 hp
  have := h2 q (List.mem_reverse.1 hq)
  exact ⟨this.2, this.1⟩
theorem back_top (l : List (Int × Int)) : topL (l.reverse.map swapG) = botL l := by
  unfold topL botL
  rw [List.map_map, show (Prod.fst ∘ swapG) = Prod.snd from rfl, List.map_reverse, mulL_rev]
theorem back_bot (l : List (Int × Int)) : botL (l.reverse.map swapG) = topL l := by
  unfold topL botL
  rw [List.map_map, show (Prod.snd ∘ swapG) = Prod.fst from rfl, List.map_reverse, mulL_rev]
theorem back_rat {l : List (Int × Int)} (h : trainB l = true) : ratM (l.reverse.map swapG) = ((ratM l).2, (ratM l).1) := by
  rw [ratM_yes (back_train h), ratM_yes h, back_top, back_bot, Int.gcd_comm]

/-! ### the gear for a ratio -/
def GoodA (top bottom : Int) (a : Int) : Prop := a * bottom % top = 0 ∧ 6 ≤ a * bottom / top ∧ a * bottom / top ≤ 120
open Classical in
/-- The first of the numbers from a on, n of them, that will do. -/
noncomputable def firstA (top bottom : Int) (a : Int) : Nat → Option Int
  | 0 => none
  | n + 1 => if GoodA top bottom a then some a else firstA top bottom (a + 1) n
theorem firstA_hit {top bottom a : Int} {n : Nat} (h : GoodA top bottom a) : firstA top bottom a (n + 1) = some a := if_pos h
theorem firstA_miss {top bottom a : Int} {n : Nat} (h : ¬ GoodA top bottom a) : firstA top bottom a (n + 1) = firstA top bottom (a + 1) n := if_neg h
theorem firstA_some {top bottom : Int} : ∀ {n : Nat} {a x : Int}, firstA top bottom a n = some x → GoodA top bottom x ∧ a ≤ x ∧ x < a + n ∧ ∀ y, a ≤ y → y < x → ¬ GoodA top bottom y
  | 0, a, x, h => by cases h
  | n + 1, a, x, h => by
    by_cases hg : GoodA top bottom a
    · rw [firstA_hit hg] at h
      obtain rfl := Option.some.inj h
      exact ⟨hg, Int.le_refl _, by omega, fun y h1 h2 => by omega⟩
    · rw [firstA_miss hg] at h
      obtain ⟨h1, h2, h3, h4⟩ := firstA_some h
      refine ⟨h1, by omega, by omega, fun y h5 h6 => ?_⟩
      by_cases e : y = a
      · rw [e]; exact hg
      · exact h4 y (by omega) h6
theorem firstA_none {top bottom : Int} : ∀ {n : Nat} {a : Int}, firstA top bottom a n = none → ∀ y, a ≤ y → y < a + n → ¬ GoodA top bottom y
  | 0, a, _, y, h1, h2 => by omega
  | n + 1, a, h, y, h1, h2 => by
    by_cases hg : GoodA top bottom a
    · rw [firstA_hit hg] at h; cases h
    · rw [firstA_miss hg] at h
      by_cases e : y = a
      · rw [e]; exact hg
      · exact firstA_none h y (by omega) (by omega)
open Classical in
noncomputable def gearsM (top bottom : Int) : (Int × Int) × Bool :=
  if (1 ≤ top ∧ top ≤ 10000) ∧ (1 ≤ bottom ∧ bottom ≤ 10000) then (match firstA top bottom 6 115 with | some a => ((a, a * bottom / top), true) | none => ((0, 0), false)) else ((0, 0), false)
theorem gearsM_no {top bottom : Int} (h : ¬ ((1 ≤ top ∧ top ≤ 10000) ∧ (1 ≤ bottom ∧ bottom ≤ 10000))) : gearsM top bottom = ((0, 0), false) := if_neg h
theorem gearsM_some {top bottom a : Int} (h : (1 ≤ top ∧ top ≤ 10000) ∧ (1 ≤ bottom ∧ bottom ≤ 10000)) (ha : firstA top bottom 6 115 = some a) : gearsM top bottom = ((a, a * bottom / top), true) := by unfold gearsM; rw [if_pos h, ha]
theorem gearsM_none {top bottom : Int} (h : (1 ≤ top ∧ top ≤ 10000) ∧ (1 ≤ bottom ∧ bottom ≤ 10000)) (ha : firstA top bottom 6 115 = none) : gearsM top bottom = ((0, 0), false) := by unfold gearsM; rw [if_pos h, ha]

/-! ### what FnGears asks -/
theorem gears_self {p : Int × Int} (h : GearP p) : ∃ g : Int × Int, gearsM p.1 p.2 = (g, true) ∧ g.1 * p.2 = p.1 * g.2 ∧ g.1 ≤ p.1 ∧ (6 ≤ g.1 ∧ g.1 ≤ 120) ∧ (6 ≤ g.2 ∧ g.2 ≤ 120) := by
  obtain ⟨⟨h1, h2⟩, h3, h4⟩ := h
  have hr : (1 ≤ p.1 ∧ p.1 ≤ 10000) ∧ (1 ≤ p.2 ∧ p.2 ≤ 10000) := by omega
  have hself : GoodA p.1 p.2 p.1 := by
    refine ⟨Int.mul_emod_right _ _, ?_, ?_⟩ <;> (rw [Int.mul_ediv_cancel_left _ (by omega)]; omega)
  cases hf : firstA p.1 p.2 6 115 with
  | none => exact absurd hself (firstA_none hf p.1 h1 (by omega))
  | some a =>
    obtain ⟨⟨g1, g2, g3⟩, g4, g5, g6⟩ := firstA_some hf
    refine ⟨(a, a * p.2 / p.1), gearsM_some hr hf, ?_, ?_, ?_, ?_⟩
    · show a * p.2 = p.1 * (a * p.2 / p.1)
      have := Int.mul_ediv_add_emod (a * p.2) p.1
      rw [g1, Int.add_zero] at this
      exact this.symm
    · show a ≤ p.1
      exact Int.not_lt.1 fun hlt => g6 p.1 h1 hlt hself
    · show 6 ≤ a ∧ a ≤ 120
      omega
    · exact ⟨g2, g3⟩
theorem gears_half : gearsM 1 2 = ((6, 12), true) := by
  have : firstA 1 2 6 115 = some 6 := firstA_hit ⟨by decide, by decide, by decide⟩
  rw [gearsM_some (by decide) this]; rfl
/-- Three times as many turns as are needed for whole ones. -/
theorem turns_three {l : List (Int × Int)} (h : trainB l = true) {a b : Nat} (hab : ratM l = ((a : Int), (b : Int))) (hb : 1 ≤ b) (hn : 3 * (b : Int) ≤ 1000000) : gturnsM l (3 * (b : Int)) = (3 * (a : Int), true) := by
  have e : 3 * (b : Int) * (a : Int) = (b : Int) * (3 * (a : Int)) := by rw [Int.mul_comm (b : Int), Int.mul_assoc, Int.mul_assoc, Int.mul_comm (b : Int)]
  rw [gturnsM_yes h ⟨by omega, hn⟩ (by rw [hab]; simp only; rw [e]; exact Int.mul_emod_right _ _), hab]
  simp only
  rw [e, Int.mul_ediv_cancel_left _ (by omega)]
theorem turns_back {l : List (Int × Int)} (h : trainB l = true) {a b : Nat} (hab : ratM l = ((a : Int), (b : Int))) (ha : 1 ≤ a) (hn : 3 * (a : Int) ≤ 1000000) : gturnsM (l.reverse.map swapG) (3 * (a : Int)) = (3 * (b : Int), true) :=
  turns_three (back_train h) (by rw [back_rat h, hab]) ha hn
/-- One turn less than is needed is not whole. -/
theorem turns_less {l : List (Int × Int)} {a b : Nat} (hab : ratM l = ((a : Int), (b : Int))) (hg : Nat.gcd a b = 1) (hb : 1 < b) : gturnsM l ((b : Int) - 1) = (0, false) := by
  refine gturnsM_no fun ⟨_, _, h0⟩ => ?_
  rw [hab] at h0
  simp only at h0
  have hd : (b : Int) ∣ ((b : Int) - 1) * (a : Int) := Int.dvd_of_emod_eq_zero h0
  have e : ((b : Int) - 1) * (a : Int) = (((b - 1) * a : Nat) : Int) := by rw [Int.natCast_mul, Int.natCast_sub (by omega)]; rfl
  rw [e, Int.natCast_dvd_natCast] at hd
  have hc : Nat.Coprime b a := by rw [Nat.coprime_comm]; exact hg
  have := hc.dvd_of_dvd_mul_right hd
  have := Nat.le_of_dvd (by omega) this
  omega
theorem turns_big {l : List (Int × Int)} {n : Int} (h : 1000000 < n) : gturnsM l n = (0, false) := gturnsM_no fun ⟨_, h1, _⟩ => by omega
end Go.Proofs.Ytcbdoldcdgaooaa
