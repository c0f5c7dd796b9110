/- The contract of slices.Clone at rows of pins; rows of pins sorted (no program). No condition. Made by mk_implpin.py. -/
import Derived.Test.YtemhmbaacpfnaaaPinCmp
import Derived.Test.YtemhmbaacpfnaaaPinApp
namespace Go.Proofs.Ytemhmbaacpfnaaa
open Go.ChangeShapes Go.WideShapes Go.ChangeAt Go.RowKit


/-- The row of pins sorted, all kept. -/
def mergeP (l : List (Int × Int)) : List (Int × Int) := l.mergeSort fun x y => !pless y x
theorem mergeP_len (l : List (Int × Int)) : (mergeP l).length = l.length := List.length_mergeSort l
theorem mergeP_mem {l : List (Int × Int)} {x : Int × Int} : x ∈ mergeP l ↔ x ∈ l := List.mem_mergeSort
theorem mergeP_perm (l : List (Int × Int)) : (mergeP l).Perm l := List.mergeSort_perm l _
theorem mergeP_pw (l : List (Int × Int)) : (mergeP l).Pairwise fun a b => pless b a = false := by
  have h := List.pairwise_mergeSort (le := fun x y : Int × Int => !pless y x)
    (fun a b c h1 h2 => by
      simp only [Bool.not_eq_true'] at *
      rw [← Bool.not_eq_true, pless_iff] at *; omega)
    (fun a b => by
      by_cases h : pless b a = true
      · simp [pless_asymm h]
      · simp [h]) l
  exact h.imp fun hab => by simpa using hab
/-- Without doubles the sorted row rises strictly. -/
theorem mergeP_sp {l : List (Int × Int)} (h : l.Nodup) : SP (mergeP l) := by
  refine sp_pw.2 ?_
  have hn : (mergeP l).Nodup := (mergeP_perm l).nodup_iff.2 h
  refine (mergeP_pw l).imp₂ (fun a b h1 h2 => ?_) hn
  by_cases k : pless a b = true
  · exact k
  · exact absurd (pless_total (by simpa using k) h1) h2
theorem sp_merge {l : List (Int × Int)} (h : SP (mergeP l)) : l.Nodup := (mergeP_perm l).nodup_iff.1 (sp_nodup h)
end Go.Proofs.Ytemhmbaacpfnaaa
