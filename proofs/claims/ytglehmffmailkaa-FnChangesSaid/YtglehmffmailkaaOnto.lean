/- The contract of the program's moveOnto: a change that moves one note onto another. No condition. Made by gen_implmotif.py. -/
import Derived.Test.YtglehmffmailkaaImplLit
import Derived.Test.YtglehmffmailkaaSortSpec
namespace Go.Proofs.Ytglehmffmailkaa
open Go.ChangeShapes Go.WideShapes Go.ChangeAt Go.RowKit

/-- A function value that moves notes. -/
def MvAt (w : World) (bt bp : Nat) (d1 d2 : Int) : Prop := w.cell? ⟨bt, 0, none⟩ = some (.int .i64 d1) ∧ w.cell? ⟨bp, 0, none⟩ = some (.int .i64 d2)
theorem MvAt.below {w w' : World} {bt bp : Nat} {d1 d2 : Int} (h : MvAt w bt bp d1 d2) (hb : Below w.heap.size w w') : MvAt w' bt bp d1 d2 := ⟨kept_b hb h.1, kept_b hb h.2⟩
theorem MvAt.drew {w : World} {bt bp : Nat} {d1 d2 : Int} (h : MvAt w bt bp d1 d2) : MvAt w.drew bt bp d1 d2 := h
theorem mv_below2 (w : World) (a b : Obj) : Below w.heap.size w ((w.alloc a).alloc b) := ((Below.refl _ _).alloc (Nat.le_refl _) _).alloc (by simp) _
/-- What moveOnto gives. -/
def OntoP (w : World) (d1 d2 : Int) (e : Ending) (w' : World) : Prop :=
  ∃ bt bp, e = .returned (.func (.func 80) #[] #[.pointer (some ⟨bt, 0, none⟩), .pointer (some ⟨bp, 0, none⟩)]) ∧ MvAt w' bt bp d1 d2 ∧ Below w.heap.size w w'

set_option maxHeartbeats 1000000 in
theorem moveonto_any {w : World} (p q : Int × Int) (e1 : IntKind.i64.wrap (q.1 - p.1) = q.1 - p.1) (e2 : IntKind.i64.wrap (q.2 - p.2) = q.2 - p.2) :
    Calls Try.prog 54 #[.agg #[.int .i64 p.1, .int .i64 p.2], .agg #[.int .i64 q.1, .int .i64 q.2]] w (OntoP w (q.1 - p.1) (q.2 - p.2)) := by
  obtain ⟨a, b⟩ := p
  obtain ⟨c, d⟩ := q
  simp only at e1 e2
  have hb : Below w.heap.size w ((w.alloc (.cells #[.int .i64 a, .int .i64 b] 39)).alloc (.cells #[.int .i64 c, .int .i64 d] 39)) := mv_below2 w _ _
  go_enter Try.func54, Try.ntmps54
  go_wp2_with fail
  generalize (w.alloc (.cells #[.int .i64 a, .int .i64 b] 39)).alloc (.cells #[.int .i64 c, .int .i64 d] 39) = W at *
  refine (moveby_any _ _).mono ?_
  rintro e w1 ⟨rfl, rfl⟩
  go_wp2
  go_ret
  exact ⟨_, _, rfl, ⟨cell_at1' _ _ _ _, cell_at2 _ _ _ _⟩, hb.trans ((mv_below2 W _ _).mono hb.size)⟩
/-- The call of such a value. -/
theorem mvcall_any {w : World} {bt bp : Nat} {d1 d2 : Int} (p : Int × Int) (h : MvAt w bt bp d1 d2) (e1 : IntKind.i64.wrap (p.1 + d1) = p.1 + d1) (e2 : IntKind.i64.wrap (p.2 + d2) = p.2 + d2) :
    Calls Try.prog 80 #[.agg #[.int .i64 p.1, .int .i64 p.2], .pointer (some ⟨bt, 0, none⟩), .pointer (some ⟨bp, 0, none⟩)] w fun e w' => e = .returned (.agg #[.int .i64 (p.1 + d1), .int .i64 (p.2 + d2)]) ∧ Gr w w' :=
  mvlit_any d1 d2 p h.1 h.2 e1 e2
end Go.Proofs.Ytglehmffmailkaa
