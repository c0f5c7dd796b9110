/- A package-level array that holds what its initialiser laid: TabAt. No condition. -/
import Derived.Test.YtceebblokibapaaDoorChordMath
import Derived.WalkSmall
namespace Go.Proofs.YtceebblokibapaaDoor
open Go.ChangeShapes Go.WideShapes Go.ChangeAt Go.RowKit
theorem gE : Tryd.prog.globalNamed "loop.example/g03309/impl.sweetSteps" = some 0 := by kernel_rfl
def TabAt (W : World) : Prop := 0 < W.heap.size ∧ W.var? Tryd.prog "loop.example/g03309/impl.sweetSteps" = some #[.bool true, .bool false, .bool false, .bool true, .bool true, .bool true, .bool false]
theorem tabAt_of {W : World} (h : W.var? Tryd.prog "loop.example/g03309/impl.sweetSteps" = some #[.bool true, .bool false, .bool false, .bool true, .bool true, .bool true, .bool false]) : TabAt W := by
  have h0 : W.cell? ⟨0, 0, none⟩ = some (.bool true) := by simpa using World.var?_cell gE h 0
  exact ⟨World.block_lt_of_cell? _ _ h0, h⟩
theorem TabAt.below {W W' : World} (h : TabAt W) (hb : Below W.heap.size W W') : TabAt W' := tabAt_of (var?_below hb gE h.1 h.2)
theorem TabAt.flag {W : World} (h : TabAt W) {i : Nat} {b : Bool} (hb : sweetL[i]? = some b) : W.cell? ⟨0, i, none⟩ = some (.bool b) := by
  have e := World.var?_cell gE h.2 i
  rw [e, show (#[.bool true, .bool false, .bool false, .bool true, .bool true, .bool true, .bool false] : Array Value) = (sweetL.map Value.bool).toArray from rfl, List.getElem?_toArray, List.getElem?_map, hb]; rfl
theorem TabAt.cell {W : World} (h : TabAt W) (i : Nat) : W.cell? ⟨0, i, none⟩ = (#[.bool true, .bool false, .bool false, .bool true, .bool true, .bool true, .bool false] : Array Value)[i]? := World.var?_cell gE h.2 i
end Go.Proofs.YtceebblokibapaaDoor
