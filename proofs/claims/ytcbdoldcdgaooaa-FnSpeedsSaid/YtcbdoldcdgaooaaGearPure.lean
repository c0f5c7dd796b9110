/- Pure facts for the program's chapter 10: a ratio in lowest terms, the times of a gear, a row filled from its end. No condition. -/
import Derived.Test.YtcbdoldcdgaooaaGearMath
import Derived.Test.YtcbdoldcdgaooaaGears
namespace Go.Proofs.Ytcbdoldcdgaooaa
open Go.ChangeShapes Go.WideShapes Go.ChangeAt Go.RowKit

theorem low_terms {T B : Nat} (hT : 1 ≤ T) (hB : 1 ≤ B) : ∃ d e g : Nat, T = d * g ∧ B = e * g ∧ 1 ≤ d ∧ 1 ≤ e ∧ 1 ≤ g ∧ Nat.gcd d e = 1 ∧ Nat.gcd T B = g := by
  have hg : 0 < Nat.gcd T B := Nat.gcd_pos_of_pos_left _ (by omega)
  refine ⟨T / Nat.gcd T B, B / Nat.gcd T B, Nat.gcd T B, ?_, ?_, ?_, ?_, hg, Nat.coprime_div_gcd_div_gcd hg, rfl⟩
  · exact (Nat.div_mul_cancel (Nat.gcd_dvd_left _ _)).symm
  · exact (Nat.div_mul_cancel (Nat.gcd_dvd_right _ _)).symm
  · exact Nat.div_pos (Nat.gcd_le_left _ (by omega)) hg
  · exact Nat.div_pos (Nat.gcd_le_right _ (by omega)) hg

theorem good_times {d e g : Nat} (hd : 1 ≤ d) (hg : 1 ≤ g) (hc : Nat.gcd d e = 1) {y : Int} (hy : 0 ≤ y) (h : GoodA ((d * g : Nat) : Int) ((e * g : Nat) : Int) y) :
    ∃ s : Nat, y = ((d * s : Nat) : Int) ∧ 6 ≤ e * s ∧ e * s ≤ 120 := by
  obtain ⟨Y, rfl⟩ := Int.eq_ofNat_of_zero_le hy
  obtain ⟨h1, h2, h3⟩ := h
  rw [← Int.natCast_mul] at h1 h2 h3
  rw [← Int.natCast_emod] at h1
  have h1' : Y * (e * g) % (d * g) = 0 := by omega
  have hdv : d * g ∣ Y * (e * g) := Nat.dvd_of_mod_eq_zero h1'
  rw [← Nat.mul_assoc] at hdv
  have hdv2 : d ∣ Y * e := Nat.dvd_of_mul_dvd_mul_right (by omega) hdv
  have hdv3 : d ∣ Y := Nat.Coprime.dvd_of_dvd_mul_right hc hdv2
  obtain ⟨s, rfl⟩ := hdv3
  have e1 : d * s * (e * g) = e * s * (d * g) := by
    rw [Nat.mul_mul_mul_comm, Nat.mul_comm d e, Nat.mul_assoc, Nat.mul_assoc, Nat.mul_left_comm d s g]
  rw [e1, ← Int.natCast_ediv, Nat.mul_div_cancel _ (Nat.mul_pos (by omega) (by omega))] at h2 h3
  exact ⟨s, rfl, by omega, by omega⟩
theorem good_mk {d e g s : Nat} (hd : 1 ≤ d) (hg : 1 ≤ g) (h6 : 6 ≤ e * s) (h120 : e * s ≤ 120) :
    GoodA ((d * g : Nat) : Int) ((e * g : Nat) : Int) ((d * s : Nat) : Int) ∧ ((d * s : Nat) : Int) * ((e * g : Nat) : Int) / ((d * g : Nat) : Int) = ((e * s : Nat) : Int) := by
  have e1 : d * s * (e * g) = e * s * (d * g) := by
    rw [Nat.mul_mul_mul_comm, Nat.mul_comm d e, Nat.mul_assoc, Nat.mul_assoc, Nat.mul_left_comm d s g]
  have e2 : ((d * s : Nat) : Int) * ((e * g : Nat) : Int) / ((d * g : Nat) : Int) = ((e * s : Nat) : Int) := by
    rw [← Int.natCast_mul, e1, ← Int.natCast_ediv, Nat.mul_div_cancel _ (Nat.mul_pos (by omega) (by omega))]
  refine ⟨⟨?_, ?_, ?_⟩, e2⟩
  · rw [← Int.natCast_mul, e1, ← Int.natCast_emod, Nat.mul_mod_left]; rfl
  · rw [e2]; omega
  · rw [e2]; omega
/-- The gear with these times both numbers. -/
def timesG (d e s : Nat) : Int × Int := (((d * s : Nat) : Int), ((e * s : Nat) : Int))
theorem times_gear {d e s : Nat} : GearP (timesG d e s) ↔ (6 ≤ d * s ∧ d * s ≤ 120) ∧ (6 ≤ e * s ∧ e * s ≤ 120) := by
  unfold GearP timesG; simp only; omega
theorem gears_hit {d e g s : Nat} (hd : 1 ≤ d) (he : 1 ≤ e) (hg : 1 ≤ g) (hc : Nat.gcd d e = 1) (hT : d * g ≤ 10000) (hB : e * g ≤ 10000) (hs : gearB (timesG d e s) = true) (hl : ∀ r, 1 ≤ r → r < s → gearB (timesG d e r) = false) :
    gearsM ((d * g : Nat) : Int) ((e * g : Nat) : Int) = (timesG d e s, true) := by
  have hr : (1 ≤ ((d * g : Nat) : Int) ∧ ((d * g : Nat) : Int) ≤ 10000) ∧ (1 ≤ ((e * g : Nat) : Int) ∧ ((e * g : Nat) : Int) ≤ 10000) := by
    have := Nat.mul_pos (show 0 < d by omega) (show 0 < g by omega)
    have := Nat.mul_pos (show 0 < e by omega) (show 0 < g by omega)
    omega
  have hs' := times_gear.1 (gearB_true.1 hs)
  obtain ⟨g1, g2⟩ := good_mk (d := d) (e := e) (g := g) (s := s) hd hg hs'.2.1 hs'.2.2
  cases hf : firstA ((d * g : Nat) : Int) ((e * g : Nat) : Int) 6 115 with
  | none => exact absurd g1 (firstA_none hf _ (by omega) (by omega))
  | some a =>
    obtain ⟨f1, f2, f3, f4⟩ := firstA_some hf
    obtain ⟨r, rfl, r1, r2⟩ := good_times hd hg hc (by omega) f1
    have hrs : r = s := by
      have h1 : ¬ s < r := fun h => f4 _ (by omega) (by have := Nat.mul_lt_mul_of_pos_left h (show 0 < d by omega); omega) g1
      have h2 : ¬ r < s := fun h => by
        have hr1 : 1 ≤ r := by
          refine Nat.pos_of_ne_zero fun h0 => ?_
          subst h0; simp at r1
        have := gearB_false.1 (hl r hr1 h)
        exact this (times_gear.2 ⟨by omega, r1, r2⟩)
      omega
    subst hrs
    rw [gearsM_some hr hf, g2]; rfl
theorem gears_miss {d e g : Nat} (hd : 1 ≤ d) (he : 1 ≤ e) (hg : 1 ≤ g) (hc : Nat.gcd d e = 1) (hT : d * g ≤ 10000) (hB : e * g ≤ 10000) (hl : ∀ r, 1 ≤ r → r < 7 → gearB (timesG d e r) = false) :
    gearsM ((d * g : Nat) : Int) ((e * g : Nat) : Int) = ((0, 0), false) := by
  have hr : (1 ≤ ((d * g : Nat) : Int) ∧ ((d * g : Nat) : Int) ≤ 10000) ∧ (1 ≤ ((e * g : Nat) : Int) ∧ ((e * g : Nat) : Int) ≤ 10000) := by
    have := Nat.mul_pos (show 0 < d by omega) (show 0 < g by omega)
    have := Nat.mul_pos (show 0 < e by omega) (show 0 < g by omega)
    omega
  cases hf : firstA ((d * g : Nat) : Int) ((e * g : Nat) : Int) 6 115 with
  | none => exact gearsM_none hr hf
  | some a =>
    obtain ⟨f1, f2, f3, f4⟩ := firstA_some hf
    obtain ⟨r, rfl, r1, r2⟩ := good_times hd hg hc (by omega) f1
    exfalso
    have hr1 : 1 ≤ r := by
      refine Nat.pos_of_ne_zero fun h0 => ?_
      subst h0; simp at r1
    by_cases h7 : r < 7
    · exact gearB_false.1 (hl r hr1 h7) (times_gear.2 ⟨by omega, r1, r2⟩)
    · have q1 := Nat.mul_le_mul_left d (show 6 ≤ r by omega)
      have q2 := Nat.mul_le_mul_left e (show 6 ≤ r by omega)
      exact gearB_false.1 (hl 6 (by omega) (by omega)) (times_gear.2 ⟨by omega, by omega, by omega⟩)

/-! ### turns by a ratio in lowest terms -/
theorem low_turns {a b m : Nat} (hb : 1 ≤ b) (hc : Nat.gcd a b = 1) : (((m : Int) * (a : Int)) % (b : Int) = 0 ↔ (m : Int) % (b : Int) = 0) ∧ ((m : Int) % (b : Int) = 0 → (m : Int) * (a : Int) / (b : Int) = (m : Int) / (b : Int) * (a : Int)) := by
  rw [← Int.natCast_mul, ← Int.natCast_emod, ← Int.natCast_emod, ← Int.natCast_ediv, ← Int.natCast_ediv, ← Int.natCast_mul]
  have hcb : Nat.Coprime b a := by rw [Nat.coprime_comm]; exact hc
  constructor
  · constructor
    · intro h
      have h' : m * a % b = 0 := by omega
      have := hcb.dvd_of_dvd_mul_right (Nat.dvd_of_mod_eq_zero h')
      have := Nat.mod_eq_zero_of_dvd this
      omega
    · intro h
      have h' : m % b = 0 := by omega
      have := Nat.mod_eq_zero_of_dvd (Nat.dvd_mul_right_of_dvd (Nat.dvd_of_mod_eq_zero h') a)
      omega
  · intro h
    have h' : m % b = 0 := by omega
    obtain ⟨q, rfl⟩ := Nat.dvd_of_mod_eq_zero h'
    rw [Nat.mul_assoc, Nat.mul_div_cancel_left _ (by omega), Nat.mul_div_cancel_left _ (by omega)]

/-! ### a row filled from its end -/
theorem set2_prev {ys : List Value} {l : List (Int × Int)} {m : Nat} {p : Int × Int} (h : ∀ c, (m + 1) * 2 ≤ c → ys[c]? = (flat2 l)[c]?) (hp : l[m]? = some p) (hj : m * 2 + 1 < ys.length) :
    ∀ c, m * 2 ≤ c → ((ys.set (m * 2) (.int .i64 p.1)).set (m * 2 + 1) (.int .i64 p.2))[c]? = (flat2 l)[c]? := by
  intro c hc
  obtain ⟨f1, f2⟩ := flat2_at l m p hp
  by_cases h2 : c = m * 2 + 1
  · subst h2; rw [List.getElem?_set_self (by simpa using hj), f2]; rfl
  · rw [List.getElem?_set_ne (by omega)]
    by_cases h1 : c = m * 2
    · subst h1; rw [List.getElem?_set_self (by omega), f1]; rfl
    · rw [List.getElem?_set_ne (by omega)]; exact h c (by omega)
theorem back_at {l : List (Int × Int)} {k : Nat} {p : Int × Int} (h : l[k]? = some p) : (l.reverse.map swapG)[l.length - 1 - k]? = some (p.2, p.1) := by
  have hk := (List.getElem?_eq_some_iff.1 h).1
  rw [List.getElem?_map, List.getElem?_reverse (by omega), show l.length - 1 - (l.length - 1 - k) = k by omega, h]; rfl

/-! ### the products of a row -/
def ProdOk (l : List (Int × Int)) : Prop := ∀ k, k ≤ l.length → (1 ≤ topL (l.take k) ∧ topL (l.take k) ≤ 1000000000000) ∧ (1 ≤ botL (l.take k) ∧ botL (l.take k) ≤ 1000000000000)
theorem prod_train {l : List (Int × Int)} (h : trainB l = true) : ProdOk l := fun k hk => by
  obtain ⟨h1, h2⟩ := trainB_true.1 h
  have g : ∀ p ∈ l.take k, GearP p := fun p hp => h2 p (List.mem_of_mem_take hp)
  have t1 := topL_pos g (by rw [List.length_take]; omega)
  have t2 := botL_pos g (by rw [List.length_take]; omega)
  omega
theorem prod_one {p : Int × Int} (h1 : 1 ≤ p.1 ∧ p.1 ≤ 10000) (h2 : 1 ≤ p.2 ∧ p.2 ≤ 10000) : ProdOk [p] := fun k hk => by
  have : k = 0 ∨ k = 1 := by simp at hk; omega
  rcases this with rfl | rfl
  · simp [topL, botL, mulL]
  · simp [topL, botL, mulL]; omega
/-- The ratio of a row, valid or not. -/
def ratL (l : List (Int × Int)) : Int × Int := (topL l / (Int.gcd (topL l) (botL l) : Nat), botL l / (Int.gcd (topL l) (botL l) : Nat))
theorem ratL_train {l : List (Int × Int)} (h : trainB l = true) : ratL l = ratM l := (ratM_yes h).symm
theorem ratL_one {d e g : Nat} (hg : 1 ≤ g) (hc : Nat.gcd d e = 1) : ratL [(((d * g : Nat) : Int), ((e * g : Nat) : Int))] = ((d : Int), (e : Int)) := by
  have h1 : topL [(((d * g : Nat) : Int), ((e * g : Nat) : Int))] = ((d * g : Nat) : Int) := by simp [topL, mulL]
  have h2 : botL [(((d * g : Nat) : Int), ((e * g : Nat) : Int))] = ((e * g : Nat) : Int) := by simp [botL, mulL]
  have h3 : Int.gcd ((d * g : Nat) : Int) ((e * g : Nat) : Int) = g := by
    show Nat.gcd (d * g) (e * g) = g
    rw [Nat.gcd_mul_right, hc, Nat.one_mul]
  unfold ratL
  rw [h1, h2, h3, ← Int.natCast_ediv, ← Int.natCast_ediv, Nat.mul_div_cancel _ (by omega), Nat.mul_div_cancel _ (by omega)]
theorem ratL_nat {l : List (Int × Int)} (h : ProdOk l) : ∃ x y : Nat, topL l = (x : Int) ∧ botL l = (y : Int) ∧ 1 ≤ x ∧ 1 ≤ y ∧ x ≤ 1000000000000 ∧ y ≤ 1000000000000 ∧ 1 ≤ Nat.gcd x y ∧ Nat.gcd x y ≤ x ∧ ratL l = ((x : Int) / ((Nat.gcd x y : Nat) : Int), (y : Int) / ((Nat.gcd x y : Nat) : Int)) := by
  have := h l.length (Nat.le_refl _)
  rw [List.take_length] at this
  obtain ⟨x, hx⟩ := Int.eq_ofNat_of_zero_le (show 0 ≤ topL l by omega)
  obtain ⟨y, hy⟩ := Int.eq_ofNat_of_zero_le (show 0 ≤ botL l by omega)
  refine ⟨x, y, hx, hy, by omega, by omega, by omega, by omega, Nat.gcd_pos_of_pos_left _ (by omega), Nat.gcd_le_left _ (by omega), ?_⟩
  unfold ratL
  rw [hx, hy]; rfl
end Go.Proofs.Ytcbdoldcdgaooaa
