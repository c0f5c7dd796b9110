/- A gear appended to a row of gears, in a drawn region. No condition. -/
import Derived.Test.YtjikpkigncomfaaGears
import Derived.Test.YtjikpkigncomfaaSortSpec
namespace Go.Proofs.Ytjikpkigncomfaa
open Go.ChangeShapes Go.WideShapes Go.ChangeAt Go.RowKit

theorem start_aG (W : World) : ((W.alloc (.cells #[] 31)).drew).ownsRow W.heap.size 31 2 (.slice (some ⟨W.heap.size, 0, none⟩) 0 0) 0 (flat2 []) :=
  (World.ownsRow_made W #[] 0 (Nat.le_refl _) (by simp) rfl).drew
theorem start_bG (W : World) (o : Obj) : (((W.alloc (.cells #[] 31)).alloc o).drew).ownsRow W.heap.size 31 2 (.slice (some ⟨W.heap.size, 0, none⟩) 0 0) 0 (flat2 []) := ((World.ownsRow_made W #[] 0 (Nat.le_refl _) (by simp) rfl).alloc o).drew
theorem start_cG (W : World) (o : Obj) : (((W.alloc o).alloc (.cells #[] 31)).drew).ownsRow W.heap.size 31 2 (.slice (some ⟨W.heap.size + 1, 0, none⟩) 0 0) 0 (flat2 []) := by
  have h := (World.ownsRow_made (base := W.heap.size) (e := 31) (size := 2) (W.alloc o) #[] 0 (by rw [size_alloc]; omega) (by simp) rfl).drew
  rw [size_alloc] at h; exact h
/-- The block of one note, made in a world behind W. -/
theorem one_row0G {W ws : World} (hb : Below W.heap.size W ws) (x : Int × Int) : (ws.alloc (.cells #[.int .i64 x.1, .int .i64 x.2] 31)).ownsRow W.heap.size 31 2 (.slice (some ⟨ws.heap.size, 0, none⟩) 1 1) 1 (flat2 [x]) :=
  World.ownsRow_lit ws #[.int .i64 x.1, .int .i64 x.2] 1 hb.size (by simp [maxLen]) rfl
theorem xrow_bG (W : World) (o : Obj) (x : Int × Int) : (((W.alloc o).alloc (.cells #[.int .i64 x.1, .int .i64 x.2] 31)).drew).ownsRow W.heap.size 31 2 (.slice (some ⟨W.heap.size + 1, 0, none⟩) 1 1) 1 (flat2 [x]) := by
  have h := (one_row0G ((Below.refl W.heap.size W).alloc (Nat.le_refl _) o) x).drew
  rw [size_alloc] at h; exact h
theorem xrow_cG (W : World) (o : Obj) (x : Int × Int) : (((W.alloc (.cells #[.int .i64 x.1, .int .i64 x.2] 31)).alloc o).drew).ownsRow W.heap.size 31 2 (.slice (some ⟨W.heap.size, 0, none⟩) 1 1) 1 (flat2 [x]) :=
  ((one_row0G (Below.refl W.heap.size W) x).alloc o).drew
set_option maxRecDepth 100000 in
theorem eq_gear (W : World) (a b c d : Int) : (binOp .eql 31 (.agg #[.int .i64 a, .int .i64 b]) (.agg #[.int .i64 c, .int .i64 d])).run Try.prog W = .ok (.bool (a == c && b == d)) W := by
  rw [run_eql_struct, show (10000 : Nat) = 9999 + 1 from rfl, run_equalIn_agg W 9999 _ _ _ (by rfl) (by decide +kernel)]
  have hf : (Try.prog.fieldsOf 31).toList = (Try.prog.fieldsOf 31).toList := rfl
  conv at hf => rhs; whnf
  have h0 : ∀ x y : Value, (part 3 #[x, y] 0).run Try.prog W = .ok x W := fun _ _ => rfl
  have h1 : ∀ x y : Value, (part 3 #[x, y] 1).run Try.prog W = .ok y W := fun _ _ => rfl
  have he : ∀ x y : Int, (Op.equalIn 9999 3 (.int .i64 x) (.int .i64 y)).run Try.prog W = .ok (x == y) W := fun x y => run_equalIn_int W 9998 3 .i64 .i64 x y rfl
  rw [hf]
  simp (config := {decide := true}) only [Op.eqFields, if_true, Sem.run_bind, h0, h1, he, Result.andThen_ok]
  cases hx : a == c <;> cases hy : b == d <;> simp [Sem.run_bind, Sem.run_pure, h1, he, hx, hy, Result.andThen_ok]
theorem eql_yesG {p q : Int × Int} (h : q = p) (W : World) : (binOp .eql 31 (.agg #[.int .i64 q.1, .int .i64 q.2]) (.agg #[.int .i64 p.1, .int .i64 p.2])).run Try.prog W = .ok (.bool true) W := by
  rw [eq_gear, h]; simp
theorem eql_noG {p q : Int × Int} (h : ¬ q = p) (W : World) : (binOp .eql 31 (.agg #[.int .i64 q.1, .int .i64 q.2]) (.agg #[.int .i64 p.1, .int .i64 p.2])).run Try.prog W = .ok (.bool false) W := by
  have : (q.1 == p.1 && q.2 == p.2) = false := by
    rw [← Bool.not_eq_true]; intro hh
    simp only [Bool.and_eq_true, beq_iff_eq] at hh
    exact h (Prod.ext hh.1 hh.2)
  rw [eq_gear, this]
end Go.Proofs.Ytjikpkigncomfaa
