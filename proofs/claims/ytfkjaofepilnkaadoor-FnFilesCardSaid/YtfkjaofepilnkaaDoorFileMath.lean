/- Pure facts of chapter 15: filing teeth. No condition. -/
import Derived.Test.YtfkjaofepilnkaaDoorTuneSpec
namespace Go.Proofs.YtfkjaofepilnkaaDoor
open Go.ChangeShapes Go.WideShapes Go.ChangeAt Go.RowKit

def ToothP (t p r : Int) : Prop := (0 ≤ t ∧ t ≤ 6000) ∧ (0 ≤ p ∧ p ≤ 20) ∧ (0 ≤ r ∧ r ≤ 20)
instance toothDec (t p r : Int) : Decidable (ToothP t p r) := by unfold ToothP; exact inferInstance
def tooB (t p r : Int) : Bool := decide (ToothP t p r)
theorem tooB_true {t p r : Int} : tooB t p r = true ↔ ToothP t p r := by unfold tooB; exact decide_eq_true_iff
theorem tooB_false {t p r : Int} : tooB t p r = false ↔ ¬ ToothP t p r := by unfold tooB; exact decide_eq_false_iff_not
/-- A tip can be filed. -/
def TipP (t p r : Int) : Prop := ToothP t p r ∧ p ≠ 0 ∧ t + 7 ≤ 6000
instance tipDec (t p r : Int) : Decidable (TipP t p r) := by unfold TipP; exact inferInstance
def RootP (t p r : Int) : Prop := ToothP t p r ∧ r ≠ 0 ∧ 11 ≤ t
instance rootDec (t p r : Int) : Decidable (RootP t p r) := by unfold RootP; exact inferInstance
/-- Reached by a files of the tip and b of the root. -/
def ReachP (t p r n a b : Int) : Prop := (0 ≤ a ∧ a ≤ p) ∧ (0 ≤ b ∧ b ≤ r) ∧ t + 7 * a - 11 * b = n
def LeastP (t p r n a b : Int) : Prop := ReachP t p r n a b ∧ ∀ x y, ReachP t p r n x y → a + b ≤ x + y
theorem least_uniq {t p r n a b x y : Int} (h : LeastP t p r n a b) (k : LeastP t p r n x y) : a = x ∧ b = y := by
  have h1 := h.2 x y k.1
  have h2 := k.2 a b h.1
  have h3 := h.1.2.2
  have h4 := k.1.2.2
  omega
open Classical in
/-- The answer of StepsTo. -/
noncomputable def stM (t p r n : Int) : Int × Int × Bool :=
  if h : ToothP t p r ∧ (0 ≤ n ∧ n ≤ 6000) ∧ ∃ q : Int × Int, LeastP t p r n q.1 q.2 then (h.2.2.choose.1, h.2.2.choose.2, true) else (0, 0, false)
theorem stM_is {t p r n a b : Int} (h : ToothP t p r) (hn : 0 ≤ n ∧ n ≤ 6000) (hl : LeastP t p r n a b) : stM t p r n = (a, b, true) := by
  have k : ToothP t p r ∧ (0 ≤ n ∧ n ≤ 6000) ∧ ∃ q : Int × Int, LeastP t p r n q.1 q.2 := ⟨h, hn, (a, b), hl⟩
  unfold stM
  rw [dif_pos k]
  have hc := k.2.2.choose_spec
  obtain ⟨h1, h2⟩ := least_uniq hc hl
  rw [h1, h2]
theorem stM_no {t p r n : Int} (h : ¬ (ToothP t p r ∧ (0 ≤ n ∧ n ≤ 6000))) : stM t p r n = (0, 0, false) := by
  unfold stM
  rw [dif_neg fun k => h ⟨k.1, k.2.1⟩]
theorem stM_none {t p r n : Int} (h : ∀ a b, ¬ ReachP t p r n a b) : stM t p r n = (0, 0, false) := by
  unfold stM
  rw [dif_neg fun k => by obtain ⟨-, -, q, hq⟩ := k; exact h _ _ hq.1]
/-- Among those that reach it there is one with the fewest files. -/
theorem least_ex {t p r n : Int} : ∀ (m : Nat) (a b : Int), ReachP t p r n a b → a + b ≤ (m : Int) → ∃ x y, LeastP t p r n x y ∧ x + y ≤ a + b
  | 0, a, b, h, hm => ⟨a, b, ⟨h, fun x y k => by have := k.1; have := k.2.1; have := h.1; have := h.2.1; omega⟩, by omega⟩
  | m + 1, a, b, h, hm => by
    by_cases hl : ∃ x y, ReachP t p r n x y ∧ x + y < a + b
    · obtain ⟨x, y, hx, hxy⟩ := hl
      obtain ⟨u, v, hu, huv⟩ := least_ex m x y hx (by omega)
      exact ⟨u, v, hu, by omega⟩
    · refine ⟨a, b, ⟨h, fun x y k => ?_⟩, by omega⟩
      by_cases hc : a + b ≤ x + y
      · exact hc
      · exact absurd ⟨x, y, k, by omega⟩ hl
theorem stM_reach {t p r n a b : Int} (h : ToothP t p r) (hn : 0 ≤ n ∧ n ≤ 6000) (hr : ReachP t p r n a b) : ∃ x y, stM t p r n = (x, y, true) ∧ ReachP t p r n x y ∧ x + y ≤ a + b := by
  obtain ⟨x, y, hl, hle⟩ := least_ex (a + b).toNat a b hr (by omega)
  exact ⟨x, y, stM_is h hn hl, hl.1, hle⟩
def farA (c n : Int) : Int := max (c - n) (n - c)
/-- A tone that can be reached. -/
def ToneP (t p r c : Int) : Prop := (0 ≤ c ∧ c ≤ 6000) ∧ ∃ q : Int × Int, ReachP t p r c q.1 q.2
def NearerP (n c d : Int) : Prop := farA c n < farA d n ∨ (farA c n = farA d n ∧ c ≤ d)
def ClosestP (t p r n c : Int) : Prop := ToneP t p r c ∧ ∀ d, ToneP t p r d → NearerP n c d
theorem closest_uniq {t p r n c d : Int} (h : ClosestP t p r n c) (k : ClosestP t p r n d) : c = d := by
  have h1 := h.2 d k.1
  have h2 := k.2 c h.1
  unfold NearerP at h1 h2
  omega
open Classical in
/-- The answer of ClosestTone. -/
noncomputable def clM (t p r n : Int) : Int :=
  if h : ToothP t p r ∧ (0 ≤ n ∧ n ≤ 6000) ∧ ∃ c : Int, ClosestP t p r n c then h.2.2.choose else -1
theorem clM_is {t p r n c : Int} (h : ToothP t p r) (hn : 0 ≤ n ∧ n ≤ 6000) (hc : ClosestP t p r n c) : clM t p r n = c := by
  have k : ToothP t p r ∧ (0 ≤ n ∧ n ≤ 6000) ∧ ∃ c : Int, ClosestP t p r n c := ⟨h, hn, c, hc⟩
  unfold clM
  rw [dif_pos k]
  exact closest_uniq k.2.2.choose_spec hc
theorem clM_no {t p r n : Int} (h : ¬ (ToothP t p r ∧ (0 ≤ n ∧ n ≤ 6000))) : clM t p r n = -1 := by
  unfold clM
  rw [dif_neg fun k => h ⟨k.1, k.2.1⟩]
/-- Of a tone that is reached the one that is taken: the nearer. -/
def nearer (n best c : Int) : Int := if farA c n < farA best n ∨ (farA c n = farA best n ∧ c < best) then c else best
theorem nearer_le {n best c : Int} : NearerP n (nearer n best c) best ∧ NearerP n (nearer n best c) c ∧ (nearer n best c = best ∨ nearer n best c = c) := by
  unfold nearer NearerP farA
  split <;> omega
theorem nearer_trans {n a b c : Int} (h : NearerP n a b) (k : NearerP n b c) : NearerP n a c := by
  unfold NearerP at *; omega

/-- The answers of FileTip and FileRoot. -/
def tipA (t p r : Int) : Int × Int × Int × Bool := if TipP t p r then (t + 7, p - 1, r, true) else (t, p, r, false)
theorem tipA_yes {t p r : Int} (h : TipP t p r) : tipA t p r = (t + 7, p - 1, r, true) := if_pos h
theorem tipA_no {t p r : Int} (h : ¬ TipP t p r) : tipA t p r = (t, p, r, false) := if_neg h
def rootA (t p r : Int) : Int × Int × Int × Bool := if RootP t p r then (t - 11, p, r - 1, true) else (t, p, r, false)
theorem rootA_yes {t p r : Int} (h : RootP t p r) : rootA t p r = (t - 11, p, r - 1, true) := if_pos h
theorem rootA_no {t p r : Int} (h : ¬ RootP t p r) : rootA t p r = (t, p, r, false) := if_neg h
theorem tip_iff {t p r : Int} (h : ToothP t p r) : TipP t p r ↔ ToothP (t + 7) (p - 1) r := by unfold TipP ToothP at *; omega
theorem root_iff {t p r : Int} (h : ToothP t p r) : RootP t p r ↔ ToothP (t - 11) p (r - 1) := by unfold RootP ToothP at *; omega
/-- Of the tones that are reached by less than A of the tip, or A and less than B of the root, best is the one that is taken. -/
def BestP (t p r n A B best : Int) : Prop := ToneP t p r best ∧ ∀ x y c, (0 ≤ c ∧ c ≤ 6000) → ReachP t p r c x y → (x < A ∨ (x = A ∧ y < B)) → NearerP n best c
theorem best_start {t p r n : Int} (h : ToothP t p r) : BestP t p r n 0 0 t := by
  refine ⟨⟨h.1, (0, 0), ⟨by omega, h.2.1.1⟩, ⟨by omega, h.2.2.1⟩, by omega⟩, fun x y c hc hr hl => ?_⟩
  have := hr.1.1
  have := hr.2.1.1
  omega
theorem best_row {t p r n A best : Int} (h : BestP t p r n A (r + 1) best) : BestP t p r n (A + 1) 0 best :=
  ⟨h.1, fun x y c hc hr hl => h.2 x y c hc hr (by have := hr.2.1.1; have := hr.2.1.2; omega)⟩
theorem best_end {t p r n best : Int} (h : BestP t p r n (p + 1) 0 best) : ClosestP t p r n best :=
  ⟨h.1, fun d hd => by obtain ⟨hc, ⟨x, y⟩, hr⟩ := hd; exact h.2 x y d hc hr (by have := hr.1.2; simp only at this; omega)⟩
theorem best_keep {t p r n A B best : Int} (h : BestP t p r n A B best) (hk : ∀ c, (0 ≤ c ∧ c ≤ 6000) → ReachP t p r c A B → NearerP n best c) : BestP t p r n A (B + 1) best := by
  refine ⟨h.1, fun x y c hc hr hl => ?_⟩
  by_cases hq : x < A ∨ (x = A ∧ y < B)
  · exact h.2 x y c hc hr hq
  · have hx : x = A := by omega
    have hy : y = B := by omega
    subst hx; subst hy
    exact hk c hc hr
/-- The tone out of range: nothing changes. -/
theorem best_out {t p r n A B best c : Int} (h : BestP t p r n A B best) (hc : t + 7 * A - 11 * B = c) (ho : ¬ (0 ≤ c ∧ c ≤ 6000)) : BestP t p r n A (B + 1) best :=
  best_keep h fun d hd hr => absurd hd (by have := hr.2.2; have : d = c := by omega
                                           subst this; exact ho)
theorem best_not {t p r n A B best c : Int} (h : BestP t p r n A B best) (hc : t + 7 * A - 11 * B = c) (ho : ¬ (farA c n < farA best n ∨ (farA c n = farA best n ∧ c < best))) : BestP t p r n A (B + 1) best :=
  best_keep h fun d hd hr => by
    have : d = c := by have := hr.2.2; omega
    subst this
    unfold NearerP; omega
theorem best_take {t p r n A B best c : Int} (h : BestP t p r n A B best) (hA : 0 ≤ A ∧ A ≤ p) (hB : 0 ≤ B ∧ B ≤ r) (hc : t + 7 * A - 11 * B = c) (hi : 0 ≤ c ∧ c ≤ 6000)
    (ho : farA c n < farA best n ∨ (farA c n = farA best n ∧ c < best)) : BestP t p r n A (B + 1) c := by
  have hN : NearerP n c best := by unfold NearerP; omega
  have h2 : BestP t p r n A B c := ⟨⟨hi, (A, B), hA, hB, hc⟩, fun x y d hd hr hl => nearer_trans hN (h.2 x y d hd hr hl)⟩
  exact best_keep h2 fun d hd hr => by
    have : d = c := by have := hr.2.2; omega
    subst this
    unfold NearerP; omega
end Go.Proofs.YtfkjaofepilnkaaDoor
