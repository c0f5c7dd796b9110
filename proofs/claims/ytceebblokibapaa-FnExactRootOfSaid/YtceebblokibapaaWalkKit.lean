/- Small helpers of the laws' walks over notes. -/
import Derived.Test.YtceebblokibapaaNotes
namespace Go.Proofs.Ytceebblokibapaa
open Go.ChangeShapes Go.WideShapes Go.ChangeAt Go.RowKit

theorem apartS' {a b : World} {B e e' s s' : Nat} {v v' : Value} {n n' : Nat} {xs xs' : List Value} (h : a.ownsRow B e s v n xs) (h' : b.ownsRow a.heap.size e' s' v' n' xs') : v'.ownBlock = none ∨ v'.ownBlock ≠ v.ownBlock := by
  cases h1 : v'.ownBlock with
  | none => exact Or.inl rfl
  | some k =>
    refine Or.inr (fun e => ?_)
    have a1 := (h'.lt k h1).1
    have a2 := (h.lt k (by rw [← e])).2
    omega
end Go.Proofs.Ytceebblokibapaa
