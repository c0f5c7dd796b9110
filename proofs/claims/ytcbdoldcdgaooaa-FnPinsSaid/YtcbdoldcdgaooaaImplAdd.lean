/- The contracts of slices.Contains and slices.BinarySearchFunc at rows of notes. No condition. -/
import Derived.Test.YtcbdoldcdgaooaaImplSort
import Derived.Test.YtcbdoldcdgaooaaNoteIn
namespace Go.Proofs.Ytcbdoldcdgaooaa
open Go.ChangeShapes Go.WideShapes Go.ChangeAt Go.RowKit

theorem Gr.trans {a b c : World} (h : Gr a b) (k : Gr b c) : Gr a c := by
  obtain ⟨q, os, rfl⟩ := h
  obtain ⟨q', os', rfl⟩ := k
  refine ⟨q + q', os ++ os', ?_⟩
  show Sort.grow (Sort.grow ((a.drewN q).drewN q') os) os' = _
  rw [Sort.grow_grow, World.drewN_drewN]
/-- The place of a note that is not there, in a tune. -/
theorem rank_mono {l : List (Int × Int)} {x p q : Int × Int} {i j : Nat} (h : SS l) (hij : i ≤ j) (hp : l[i]? = some p) (hq : l[j]? = some q) (hl : lessB q x = true) : lessB p x = true := by
  rcases Nat.eq_or_lt_of_le hij with rfl | hlt
  · rw [hp] at hq; rw [Option.some.inj hq]; exact hl
  · obtain ⟨h1, e1⟩ := List.getElem?_eq_some_iff.1 hp
    obtain ⟨h2, e2⟩ := List.getElem?_eq_some_iff.1 hq
    have := List.pairwise_iff_getElem.1 h i j h1 h2 hlt
    rw [e1, e2] at this
    exact less_trans this hl

end Go.Proofs.Ytcbdoldcdgaooaa
