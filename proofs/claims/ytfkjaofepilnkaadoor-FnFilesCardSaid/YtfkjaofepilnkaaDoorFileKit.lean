/- Teeth: an argument that is a tooth, the laws' helpers toTooth, eqTooth; the forms of the answers. No condition. -/
import Derived.Test.YtfkjaofepilnkaaDoorSprKit
import Derived.Test.YtfkjaofepilnkaaDoorFileMath
namespace Go.Proofs.YtfkjaofepilnkaaDoor
open Go.ChangeShapes Go.WideShapes Go.ChangeAt Go.RowKit

/-- The answer of FileTip and of FileRoot. -/
def TooAns (w : World) (q : Int × Int × Int × Bool) (e : Ending) (w' : World) : Prop := e = .returned (.tuple #[.agg #[.int .i64 q.1, .int .i64 q.2.1, .int .i64 q.2.2.1], .bool q.2.2.2]) ∧ Below w.heap.size w w'
/-- The answer of StepsTo. -/
def StAns (w : World) (q : Int × Int × Bool) (e : Ending) (w' : World) : Prop := e = .returned (.tuple #[.int .i64 q.1, .int .i64 q.2.1, .bool q.2.2]) ∧ Below w.heap.size w w'
theorem at_max {c n : Int} : (if c - n < n - c then n - c else c - n) = farA c n := by unfold farA; split <;> omega

set_option maxRecDepth 100000 in
theorem tooth_of_trod {H : Type} {enc : TypeId × Value → H} {W : World} {v : Value} {d : DataW H} {ps : List MemPlace} {r : Reach} {b0 : Nat}
    (hval : Value.okWide Tryd.prog W r b0 34 v) (hd : DataW.Trod enc Tryd.prog W 0 (fun _ => true) true 34 v d ps) : ∃ t p r : Int, v = .agg #[.int .i64 t, .int .i64 p, .int .i64 r] := by
  obtain ⟨v0, v1, v2, y0, y1, y2, n, rfl, _, _, h0, h1, h2⟩ := Joins.open_agg3 Tryd.underlying34 (by kernel_rfl) (by kernel_rfl) hval hd
  obtain ⟨a, e0, _⟩ := DataW.trod_int (k := .i64) (by kernel_rfl) h0
  obtain ⟨b, e1, _⟩ := DataW.trod_int (k := .i64) (by kernel_rfl) h1
  obtain ⟨c, e2, _⟩ := DataW.trod_int (k := .i64) (by kernel_rfl) h2
  obtain rfl : v0 = .int .i64 a := by simpa using e0
  obtain rfl : v1 = .int .i64 b := by simpa using e1
  obtain rfl : v2 = .int .i64 c := by simpa using e2
  exact ⟨a, b, c, rfl⟩

theorem toTooth_any {w : World} (t p r : Int) :
    Calls Tryd.prog 14 #[.agg #[.int .i64 t, .int .i64 p, .int .i64 r]] w fun e w' => e = .returned (.agg #[.int .i64 t, .int .i64 p, .int .i64 r]) ∧ Below w.heap.size w w' := by
  go_enter Tryd.func14, Tryd.ntmps14
  go_wp2
  refine bodyPost_ret (v := .agg #[.int .i64 t, .int .i64 p, .int .i64 r]) (by simp [results, Tryd.results14, go_sem]) rfl ⟨rfl, ?_⟩
  repeat (first | exact Below.refl _ _ | (refine Below.setCell ?_ (by simp <;> omega) _) | (refine Below.alloc ?_ (by simp <;> omega) _))
end Go.Proofs.YtfkjaofepilnkaaDoor
