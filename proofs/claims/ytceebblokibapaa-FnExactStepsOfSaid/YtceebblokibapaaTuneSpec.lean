/- The contracts of chapter 2's model: l01In, l02Less, TuneOk. No condition. -/
import Derived.Test.YtceebblokibapaaNotes
namespace Go.Proofs.Ytceebblokibapaa
open Go.ChangeShapes Go.WideShapes Go.ChangeAt Go.RowKit

def inB (x lo hi : Int) : Bool := decide (lo ≤ x ∧ x ≤ hi)
def lessB (p q : Int × Int) : Bool := decide (p.1 < q.1 ∨ (p.1 = q.1 ∧ p.2 < q.2))
theorem inB_true {x lo hi : Int} (h : lo ≤ x ∧ x ≤ hi) : inB x lo hi = true := decide_eq_true h
theorem inB_false {x lo hi : Int} (h : ¬ (lo ≤ x ∧ x ≤ hi)) : inB x lo hi = false := decide_eq_false h

/-- What TuneOk asks of the note at place k. -/
def NoteOk (l : List (Int × Int)) (k : Nat) (p : Int × Int) : Prop := (0 ≤ p.1 ∧ p.1 ≤ 1000) ∧ (0 ≤ p.2 ∧ p.2 ≤ 60) ∧ ∀ i q, k = i + 1 → l[i]? = some q → lessB q p = true
def TuneP (l : List (Int × Int)) : Prop := l.length ≤ 40 ∧ ∀ k p, l[k]? = some p → NoteOk l k p
open Classical in
noncomputable def tuneB (l : List (Int × Int)) : Bool := decide (TuneP l)
theorem tuneB_true {l : List (Int × Int)} : tuneB l = true ↔ TuneP l := by unfold tuneB; simp
theorem tuneB_false {l : List (Int × Int)} : tuneB l = false ↔ ¬ TuneP l := by unfold tuneB; simp

theorem ret_b {a b : Bool} (h : a = b) : Ending.returned (.bool a) = .returned (.bool b) := by rw [h]

theorem in_any (x lo hi : Int) (w : World) :
    Calls Try.prog 11 #[.int .i64 x, .int .i64 lo, .int .i64 hi] w fun e w' => e = .returned (.bool (inB x lo hi)) ∧ w = w' := by
  by_cases h1 : lo ≤ x <;> by_cases h2 : x ≤ hi
  all_goals
    go_enter Try.func11, Try.ntmps11
    go_wp2
    go_ret
    exact ⟨by unfold inB; simp; omega, rfl⟩

theorem in_yes (x lo hi : Int) (h : lo ≤ x ∧ x ≤ hi) (w : World) :
    Calls Try.prog 11 #[.int .i64 x, .int .i64 lo, .int .i64 hi] w fun e w' => e = .returned (.bool true) ∧ w = w' :=
  (in_any x lo hi w).mono fun _ _ ⟨he, hw⟩ => ⟨by rw [he, inB_true h], hw⟩
theorem in_no (x lo hi : Int) (h : ¬ (lo ≤ x ∧ x ≤ hi)) (w : World) :
    Calls Try.prog 11 #[.int .i64 x, .int .i64 lo, .int .i64 hi] w fun e w' => e = .returned (.bool false) ∧ w = w' :=
  (in_any x lo hi w).mono fun _ _ ⟨he, hw⟩ => ⟨by rw [he, inB_false h], hw⟩

theorem in_yes' (x lo hi : Int) (h : lo ≤ x ∧ x ≤ hi) (w : World) :
    Calls Try.prog 11 #[.int .i64 x, .int .i64 lo, .int .i64 hi] w fun e w' => e = .returned (.bool true) ∧ w' = w := (in_yes x lo hi h w).mono fun _ _ ⟨he, hw⟩ => ⟨he, hw.symm⟩
theorem in_no' (x lo hi : Int) (h : ¬ (lo ≤ x ∧ x ≤ hi)) (w : World) :
    Calls Try.prog 11 #[.int .i64 x, .int .i64 lo, .int .i64 hi] w fun e w' => e = .returned (.bool false) ∧ w' = w := (in_no x lo hi h w).mono fun _ _ ⟨he, hw⟩ => ⟨he, hw.symm⟩

end Go.Proofs.Ytceebblokibapaa
