/- Small helpers of the laws' walks over notes. -/
import Derived.Test.YtcbdoldcdgaooaaNotes
namespace Go.Proofs.Ytcbdoldcdgaooaa
open Go.ChangeShapes Go.WideShapes Go.ChangeAt Go.RowKit

theorem sz0_yes {w : World} {n cap : Nat} {a : Option Addr} (h : n ≤ 1048576) :
    Calls Try.prog 22 #[.slice a n cap, .int .i64 1048576] w fun e w' => ∃ x : Int, 0 ≤ x ∧ e = .returned (.int .i64 x) ∧ w = w' :=
  (szNote_yes 1048576 (Nat.le_refl _) h).mono fun _ _ ⟨he, hw⟩ => ⟨_, by omega, he, hw⟩
theorem sz0_no {w : World} {n cap : Nat} {a : Option Addr} (h : ¬ n ≤ 1048576) (hm : n ≤ 9223372036854775807) :
    Calls Try.prog 22 #[.slice a n cap, .int .i64 1048576] w fun e w' => e = .returned (.int .i64 (-1)) ∧ w = w' :=
  szNote_no 1048576 (Nat.le_refl _) (by omega) hm

theorem apartS' {a b : World} {B e e' s s' : Nat} {v v' : Value} {n n' : Nat} {xs xs' : List Value} (h : a.ownsRow B e s v n xs) (h' : b.ownsRow a.heap.size e' s' v' n' xs') : v'.ownBlock = none ∨ v'.ownBlock ≠ v.ownBlock := by
  cases h1 : v'.ownBlock with
  | none => exact Or.inl rfl
  | some k =>
    refine Or.inr (fun e => ?_)
    have a1 := (h'.lt k h1).1
    have a2 := (h.lt k (by rw [← e])).2
    omega
end Go.Proofs.Ytcbdoldcdgaooaa
