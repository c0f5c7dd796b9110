/- The program's withPins and unchanged. No condition. -/
import Derived.Test.YtemhmbaacpfnaaaPinClone
import Derived.Test.YtemhmbaacpfnaaaImplCyl
namespace Go.Proofs.Ytemhmbaacpfnaaa
open Go.ChangeShapes Go.WideShapes Go.ChangeAt Go.RowKit

/-- A boxed cylinder, its row written. -/
theorem box_two {w : World} (s t : Int) (u : Value) (x y z : Value) (ty ty' : TypeId) :
    BoxW ((w.alloc (.cells #[.int .i64 s, .int .i64 t, u] ty)).alloc (.cells #[x, y, z] ty')) w.heap.size (.int .i64 s) (.int .i64 t) u ∧ BoxW ((w.alloc (.cells #[.int .i64 s, .int .i64 t, u] ty)).alloc (.cells #[x, y, z] ty')) (w.heap.size + 1) x y z ∧ Below w.heap.size w ((w.alloc (.cells #[.int .i64 s, .int .i64 t, u] ty)).alloc (.cells #[x, y, z] ty')) ∧ ((w.alloc (.cells #[.int .i64 s, .int .i64 t, u] ty)).alloc (.cells #[x, y, z] ty')).heap.size = w.heap.size + 1 + 1 := by
  refine ⟨(boxw_new _ _ _ _ _).below ((Below.refl _ _).alloc (Nat.le_refl _) _), ?_, ((Below.refl _ _).alloc (Nat.le_refl _) _).alloc (by simp) _, by simp⟩
  have := boxw_new (w.alloc (.cells #[.int .i64 s, .int .i64 t, u] ty)) x y z ty'
  rw [size_alloc] at this; exact this

set_option maxHeartbeats 1000000 in
set_option maxRecDepth 100000 in
theorem withpins_any (s t : Int) (a a2 : Option Addr) (n c n2 c2 : Nat) (w : World) :
    Calls Try.prog 41 #[.agg #[.int .i64 s, .int .i64 t, .slice a n c], .slice a2 n2 c2] w fun e w' => e = .returned (.agg #[.int .i64 s, .int .i64 t, .slice a2 n2 c2]) ∧ Below w.heap.size w w' := by
  have hb : ∀ x y : Obj, Below w.heap.size w ((w.alloc x).alloc y) := fun x y => ((Below.refl _ _).alloc (Nat.le_refl _) _).alloc (by simp) _
  have HB := Lib.hid hb; clear hb
  go_enter Try.func41, Try.ntmps41
  go_wp2
  exact bodyPost_ret (v := .agg #[.int .i64 s, .int .i64 t, .slice a2 n2 c2]) (by simp [results, Try.results41, go_sem]) rfl ⟨rfl, HB.out _ _⟩

end Go.Proofs.Ytemhmbaacpfnaaa
