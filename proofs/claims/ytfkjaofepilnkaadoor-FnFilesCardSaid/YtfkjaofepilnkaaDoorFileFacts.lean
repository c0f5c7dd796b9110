/- All that FnFiles asks of the answers of chapter 15, of a drawn tooth. No condition. -/
import Derived.Test.YtfkjaofepilnkaaDoorFileMath
namespace Go.Proofs.YtfkjaofepilnkaaDoor
open Go.ChangeShapes Go.WideShapes Go.ChangeAt Go.RowKit

theorem best_step {t p r n A B best : Int} (h : BestP t p r n A B best) (hA : 0 ≤ A ∧ A ≤ p) (hB : 0 ≤ B ∧ B ≤ r) : ∃ b, BestP t p r n A (B + 1) b := by
  by_cases hi : 0 ≤ t + 7 * A - 11 * B ∧ t + 7 * A - 11 * B ≤ 6000
  · by_cases ho : farA (t + 7 * A - 11 * B) n < farA best n ∨ (farA (t + 7 * A - 11 * B) n = farA best n ∧ t + 7 * A - 11 * B < best)
    · exact ⟨_, best_take h hA hB rfl hi ho⟩
    · exact ⟨_, best_not h rfl ho⟩
  · exact ⟨_, best_out h rfl hi⟩
theorem best_line {t p r n A best : Int} (h : BestP t p r n A 0 best) (hA : 0 ≤ A ∧ A ≤ p) : ∀ k : Nat, (k : Int) ≤ r + 1 → ∃ b, BestP t p r n A (k : Int) b
  | 0, _ => ⟨best, h⟩
  | k + 1, hk => by
    obtain ⟨b, hb⟩ := best_line h hA k (by omega)
    exact best_step hb hA ⟨by omega, by omega⟩
theorem best_all {t p r n : Int} (h : ToothP t p r) : ∀ k : Nat, (k : Int) ≤ p + 1 → ∃ b, BestP t p r n (k : Int) 0 b
  | 0, _ => ⟨t, best_start h⟩
  | k + 1, hk => by
    have hr := h.2.2.1
    obtain ⟨b, hb⟩ := best_all h k (by omega)
    obtain ⟨c, hc⟩ := best_line hb ⟨by omega, by omega⟩ (r + 1).toNat (by omega)
    rw [show (((r + 1).toNat : Nat) : Int) = r + 1 by omega] at hc
    exact ⟨c, best_row hc⟩
/-- There is always a closest tone. -/
theorem closest_ex {t p r n : Int} (h : ToothP t p r) : ∃ c, ClosestP t p r n c := by
  have hp := h.2.1.1
  obtain ⟨b, hb⟩ := best_all (n := n) h (p + 1).toNat (by omega)
  rw [show (((p + 1).toNat : Nat) : Int) = p + 1 by omega] at hb
  exact ⟨b, best_end hb⟩
/-- A tone that is reached is its own closest one. -/
theorem closest_own {t p r n : Int} (h : ToneP t p r n) : ClosestP t p r n n :=
  ⟨h, fun d _ => by unfold NearerP farA; omega⟩
/-- FnFiles, of a drawn tooth: A and B files make the tone n; near is any tone. -/
theorem files_facts {t p r A B near : Int} (h : (1200 ≤ t ∧ t ≤ 1449) ∧ (0 ≤ p ∧ p ≤ 8) ∧ (0 ≤ r ∧ r ≤ 8)) (hA : 0 ≤ A ∧ A ≤ p) (hB : 0 ≤ B ∧ B ≤ r) (hn : 0 ≤ near ∧ near ≤ 6000) :
    (∃ x y, stM t p r (t + 7 * A - 11 * B) = (x, y, true) ∧ (0 ≤ x ∧ x ≤ p) ∧ (0 ≤ y ∧ y ≤ r) ∧ t + 7 * x - 11 * y = t + 7 * A - 11 * B ∧ x + y ≤ A + B) ∧
    clM t p r (t + 7 * A - 11 * B) = t + 7 * A - 11 * B ∧
    ∃ c x y x2 y2, clM t p r near = c ∧ (0 ≤ c ∧ c ≤ 6000) ∧ stM t p r c = (x, y, true) ∧ farA c near ≤ farA (t + 7 * A - 11 * B) near ∧ stM t p r near = (x2, y2, decide (farA c near = 0)) := by
  have ht : ToothP t p r := ⟨by omega, by omega, by omega⟩
  have hw : 0 ≤ t + 7 * A - 11 * B ∧ t + 7 * A - 11 * B ≤ 6000 := by omega
  have hr : ReachP t p r (t + 7 * A - 11 * B) A B := ⟨hA, hB, rfl⟩
  have hT : ToneP t p r (t + 7 * A - 11 * B) := ⟨hw, (A, B), hr⟩
  refine ⟨?_, clM_is ht hw (closest_own hT), ?_⟩
  · obtain ⟨x, y, h1, h2, h3⟩ := stM_reach ht hw hr
    exact ⟨x, y, h1, h2.1, h2.2.1, h2.2.2, h3⟩
  · obtain ⟨c, hc⟩ := closest_ex (n := near) ht
    obtain ⟨hci, ⟨q1, q2⟩, hcr⟩ := id hc.1
    obtain ⟨x, y, h1, -, -⟩ := stM_reach ht hci hcr
    have hd := hc.2 _ hT
    have hle : farA c near ≤ farA (t + 7 * A - 11 * B) near := by unfold NearerP at hd; omega
    by_cases hz : farA c near = 0
    · have hcn : c = near := by unfold farA at hz; omega
      subst hcn
      exact ⟨c, x, y, x, y, clM_is ht hn hc, hci, h1, hle, by rw [h1, decide_eq_true hz]⟩
    · refine ⟨c, x, y, 0, 0, clM_is ht hn hc, hci, h1, hle, ?_⟩
      rw [stM_none fun a b q => hz ?_, decide_eq_false hz]
      have hk := hc.2 near ⟨hn, (a, b), q⟩
      unfold NearerP farA at hk
      unfold farA
      omega
end Go.Proofs.YtfkjaofepilnkaaDoor
