/- Words for chapter 12's answers: springs, their force, winding, turns with a force, work; what FnSprings asks. Pure. No condition. -/
import Derived.Test.YtfkjaofepilnkaaDoorInts
namespace Go.Proofs.YtfkjaofepilnkaaDoor
open Go.ChangeShapes Go.WideShapes Go.ChangeAt Go.RowKit

def SprP (t m f : Int) : Prop := (1 ≤ m ∧ m ≤ 50) ∧ (0 ≤ t ∧ t ≤ m) ∧ (1 ≤ f ∧ f ≤ 10000)
def sprB (t m f : Int) : Bool := decide ((1 ≤ m ∧ m ≤ 50) ∧ (0 ≤ t ∧ t ≤ m) ∧ (1 ≤ f ∧ f ≤ 10000))
theorem sprB_true {t m f : Int} : sprB t m f = true ↔ SprP t m f := by unfold sprB SprP; simp
theorem sprB_false {t m f : Int} : sprB t m f = false ↔ ¬ SprP t m f := by rw [← sprB_true]; simp
/-- The force at t turns. -/
def frcQ (t m f : Int) : Int := f * t / m
def frcM (t m f : Int) : Int := if sprB t m f = true then frcQ t m f else -1
theorem frcM_yes {t m f : Int} (h : sprB t m f = true) : frcM t m f = frcQ t m f := if_pos h
theorem frcM_no {t m f : Int} (h : sprB t m f = false) : frcM t m f = -1 := if_neg (by rw [h]; decide)
theorem frc_bounds {t m f : Int} (h : SprP t m f) : 0 ≤ f * t ∧ f * t ≤ 500000 ∧ 0 ≤ frcQ t m f ∧ frcQ t m f ≤ f ∧ frcQ t m f ≤ 10000 := by
  obtain ⟨h1, h2, h3⟩ := h
  have a0 : 0 ≤ f * t := Int.mul_nonneg (by omega) h2.1
  have a1 : f * t ≤ 10000 * 50 := Int.mul_le_mul h3.2 (by omega) h2.1 (by omega)
  have a2 : f * t ≤ f * m := Int.mul_le_mul_of_nonneg_left h2.2 (by omega)
  have a3 : 0 ≤ f * t / m := Int.ediv_nonneg a0 (by omega)
  have a4 : f * t / m ≤ f := by
    have := Int.ediv_le_ediv (show 0 < m by omega) a2
    rwa [Int.mul_ediv_cancel _ (by omega)] at this
  unfold frcQ
  omega
theorem frc_mono {t u m f : Int} (h : SprP t m f) (hu : t ≤ u) : frcQ t m f ≤ frcQ u m f :=
  Int.ediv_le_ediv (by have := h.1; omega) (Int.mul_le_mul_of_nonneg_left hu (by have := h.2.2; omega))
open Classical in
/-- Wind: the turns afterwards, and those that were possible. -/
noncomputable def windM (t m f n : Int) : Int × Int := if sprB t m f = true ∧ (0 ≤ n ∧ n ≤ 100) then (t + min n (m - t), min n (m - t)) else (t, -1)
theorem windM_yes {t m f n : Int} (h : sprB t m f = true) (hn : 0 ≤ n ∧ n ≤ 100) : windM t m f n = (t + min n (m - t), min n (m - t)) := if_pos ⟨h, hn⟩
theorem windM_no {t m f n : Int} (h : ¬ (sprB t m f = true ∧ (0 ≤ n ∧ n ≤ 100))) : windM t m f n = (t, -1) := if_neg h
open Classical in
noncomputable def unwM (t m f n : Int) : Int × Int := if sprB t m f = true ∧ (0 ≤ n ∧ n ≤ 100) then (t - min n t, min n t) else (t, -1)
theorem unwM_yes {t m f n : Int} (h : sprB t m f = true) (hn : 0 ≤ n ∧ n ≤ 100) : unwM t m f n = (t - min n t, min n t) := if_pos ⟨h, hn⟩
theorem unwM_no {t m f n : Int} (h : ¬ (sprB t m f = true ∧ (0 ≤ n ∧ n ≤ 100))) : unwM t m f n = (t, -1) := if_neg h
/-- How many turns can be taken from t on. -/
def twQ (m f need : Int) : Nat → Nat
  | 0 => 0
  | t + 1 => if need ≤ frcQ ((t + 1 : Nat) : Int) m f then twQ m f need t + 1 else 0
theorem twQ_go {m f need : Int} {t : Nat} (h : need ≤ frcQ ((t + 1 : Nat) : Int) m f) : twQ m f need (t + 1) = twQ m f need t + 1 := if_pos h
theorem twQ_stop {m f need : Int} {t : Nat} (h : ¬ need ≤ frcQ ((t + 1 : Nat) : Int) m f) : twQ m f need (t + 1) = 0 := if_neg h
theorem twQ_le (m f need : Int) : ∀ t, twQ m f need t ≤ t
  | 0 => Nat.le_refl _
  | t + 1 => by
    by_cases h : need ≤ frcQ ((t + 1 : Nat) : Int) m f
    · rw [twQ_go h]; have := twQ_le m f need t; omega
    · rw [twQ_stop h]; omega
open Classical in
noncomputable def twM (t m f need : Int) : Int := if sprB t m f = true ∧ (0 ≤ need ∧ need ≤ 10000) then (twQ m f need t.toNat : Nat) else -1
theorem twM_yes {t m f need : Int} (h : sprB t m f = true) (hn : 0 ≤ need ∧ need ≤ 10000) : twM t m f need = (twQ m f need t.toNat : Nat) := if_pos ⟨h, hn⟩
theorem twM_no {t m f need : Int} (h : ¬ (sprB t m f = true ∧ (0 ≤ need ∧ need ≤ 10000))) : twM t m f need = -1 := if_neg h
def wkQ (m f : Int) : Nat → Int
  | 0 => 0
  | t + 1 => frcQ ((t + 1 : Nat) : Int) m f + wkQ m f t
theorem wkQ_bounds {m f : Int} : ∀ {t : Nat}, SprP (t : Int) m f → 0 ≤ wkQ m f t ∧ wkQ m f t ≤ 10000 * (t : Int)
  | 0, _ => by simp [wkQ]
  | t + 1, h => by
    have hb := (frc_bounds h).2.2
    have := wkQ_bounds (t := t) ⟨h.1, ⟨by omega, by have := h.2.1; omega⟩, h.2.2⟩
    simp only [wkQ]
    omega
def wkM (t m f : Int) : Int := if sprB t m f = true then wkQ m f t.toNat else -1
theorem wkM_yes {t m f : Int} (h : sprB t m f = true) : wkM t m f = wkQ m f t.toNat := if_pos h
theorem wkM_no {t m f : Int} (h : sprB t m f = false) : wkM t m f = -1 := if_neg (by rw [h]; decide)
theorem spr_less {t u m f : Int} (h : SprP t m f) (h0 : 0 ≤ u) (hu : u ≤ t) : SprP u m f := ⟨h.1, ⟨h0, Int.le_trans hu h.2.1.2⟩, h.2.2⟩

/-! ### what FnSprings asks -/
theorem tw_after {m f need : Int} : ∀ {t : Nat}, twQ m f need t < t → frcQ ((t - twQ m f need t : Nat) : Int) m f < need
  | 0, h => by omega
  | t + 1, h => by
    by_cases hq : need ≤ frcQ ((t + 1 : Nat) : Int) m f
    · rw [twQ_go hq] at h ⊢
      rw [show t + 1 - (twQ m f need t + 1) = t - twQ m f need t by omega]
      exact tw_after (by omega)
    · rw [twQ_stop hq] at h ⊢
      exact Int.not_le.1 hq
theorem tw_first {m f need : Int} {t : Nat} (h : 0 < twQ m f need t) : need ≤ frcQ (t : Int) m f := by
  cases t with
  | zero => simp [twQ] at h
  | succ t =>
    by_cases hq : need ≤ frcQ ((t + 1 : Nat) : Int) m f
    · exact hq
    · rw [twQ_stop hq] at h; omega
theorem tw_zero {m f : Int} : ∀ {t : Nat}, SprP (t : Int) m f → twQ m f 0 t = t
  | 0, _ => rfl
  | t + 1, h => by
    rw [twQ_go (frc_bounds h).2.2.1, tw_zero (t := t) (spr_less h (by omega) (by omega))]
end Go.Proofs.YtfkjaofepilnkaaDoor
