/- The contracts of the laws' own helpers on rows of ints: eqIntS, markIntS, heldIntS. No condition. -/
import Derived.Test.YtfkjaofepilnkaaDoorNotes
namespace Go.Proofs.YtfkjaofepilnkaaDoor
open Go.ChangeShapes Go.WideShapes Go.ChangeAt Go.RowKit

theorem infoInt : (Tryd.prog.info? 3).map (fun i => (i.zero, i.size, i.bytes)) = some (some (.int .i64 0), 1, 8) := by kernel_rfl
def Rd1 (w : World) (v : Value) (l : List Int) : Prop := Rd 1 w v l.length (l.map intV)
theorem Rd1.cell {w : World} {v : Value} {l : List Int} (h : Rd1 w v l) {k : Nat} {x : Int} (hk : l[k]? = some x) :
    ∃ b off cap, v = .slice (some ⟨b, off, none⟩) l.length cap ∧ w.cell? ⟨b, off + k, none⟩ = some (.int .i64 x) := by
  have hlt : k < l.length := (List.getElem?_eq_some_iff.1 hk).1
  obtain ⟨b, off, cap, rfl, hc⟩ := Rd.pos h (by omega)
  refine ⟨b, off, cap, rfl, ?_⟩
  rw [hc _ (by omega), List.getElem?_map, hk]; rfl

end Go.Proofs.YtfkjaofepilnkaaDoor
