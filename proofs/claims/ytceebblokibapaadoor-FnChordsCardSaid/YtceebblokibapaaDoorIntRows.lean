/- The contracts of slices.Clone, slices.Grow at nil and slices.Concat of two rows, at ints; rows cut short. No condition. -/
import Derived.Test.YtceebblokibapaaDoorAppInts
import Derived.Test.YtceebblokibapaaDoorRdCap
import Derived.Test.YtceebblokibapaaDoorTuneSpec2
import Derived.Lib.AppendZerosOnto
namespace Go.Proofs.YtceebblokibapaaDoor
open Go.ChangeShapes Go.WideShapes Go.ChangeAt Go.RowKit

/-- The first k elements of a row of ints. -/
theorem rd1_pre {w : World} {b off cap c2 : Nat} {l : List Int} (h : Rd1 w (.slice (some ⟨b, off, none⟩) l.length cap) l) {k : Nat} (hk : k ≤ l.length) : Rd1 w (.slice (some ⟨b, off, none⟩) k c2) (l.take k) := by
  have hl : (l.take k).length = k := by rw [List.length_take]; omega
  have hm := h.2.1
  refine ⟨by simp, by omega, ?_⟩
  by_cases h0 : k = 0
  · left
    exact ⟨by omega, some ⟨b, off, none⟩, c2, by rw [h0]⟩
  · right
    refine ⟨b, off, c2, by rw [hl], by omega, fun c hc => ?_⟩
    obtain ⟨b1, o1, cp, hv, hcs⟩ := Rd.pos h (by omega)
    simp only [Value.slice.injEq, Option.some.injEq, Addr.mk.injEq, true_and, and_true] at hv
    obtain ⟨⟨rfl, rfl⟩, rfl⟩ := hv
    rw [hl] at hc
    rw [hcs c (by omega), List.getElem?_map, List.getElem?_map, List.getElem?_take, if_pos (by omega)]

end Go.Proofs.YtceebblokibapaaDoor
