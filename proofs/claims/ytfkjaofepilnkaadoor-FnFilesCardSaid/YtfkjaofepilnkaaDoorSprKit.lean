/- Springs: a boxed spring (three ints in a block that may be written), an argument that is a spring, the laws' helpers toSpring, eqSpring. No condition. -/
import Derived.Test.YtfkjaofepilnkaaDoorSpringMath
import Derived.Test.YtfkjaofepilnkaaDoorSortSpec
import Derived.Test.YtfkjaofepilnkaaDoorTuneOpen
import Derived.Lib.SmallJoins
namespace Go.Proofs.YtfkjaofepilnkaaDoor
open Go.ChangeShapes Go.WideShapes Go.ChangeAt Go.RowKit

theorem wrap_as {x P : Int} (h : x = P) (h0 : 0 ≤ P) (h1 : P ≤ 1000000000000000) : IntKind.i64.wrap x = P ∧ wrap64 x = P := by
  subst h
  have e : IntKind.i64.wrap x = x := IntWalk.i64_in _ (by omega)
  exact ⟨e, by unfold wrap64; omega⟩
/-- A boxed spring. -/
def B3 (w : World) (b : Nat) (t m f : Int) : Prop := b < w.heap.size ∧ (w.cell? ⟨b, 0, none⟩ = some (.int .i64 t) ∧ w.cell? ⟨b, 1, none⟩ = some (.int .i64 m) ∧ w.cell? ⟨b, 2, none⟩ = some (.int .i64 f)) ∧ ∀ o, w.frozen? ⟨b, o, none⟩ = false
theorem b3_new (w : World) (t m f : Int) (ty : TypeId) : B3 (w.alloc (.cells #[.int .i64 t, .int .i64 m, .int .i64 f] ty)) w.heap.size t m f :=
  ⟨by simp, ⟨by simp [go_sem], by simp [go_sem], by simp [go_sem]⟩, fun o => by simp [go_sem]⟩
theorem B3.below {w w' : World} {b : Nat} {t m f : Int} (h : B3 w b t m f) (hb : Below w.heap.size w w') : B3 w' b t m f :=
  ⟨Nat.lt_of_lt_of_le h.1 hb.size, ⟨kept_b hb h.2.1.1, kept_b hb h.2.1.2.1, kept_b hb h.2.1.2.2⟩, fun o => (hb.frozen (p := ⟨b, o, none⟩) h.1).trans (h.2.2 o)⟩
theorem b3_two (w : World) (t m f : Int) (ty : TypeId) : B3 ((w.alloc (.cells #[.int .i64 t, .int .i64 m, .int .i64 f] ty)).alloc (.cells #[.int .i64 0, .int .i64 0, .int .i64 0] ty)) w.heap.size t m f ∧
    B3 ((w.alloc (.cells #[.int .i64 t, .int .i64 m, .int .i64 f] ty)).alloc (.cells #[.int .i64 0, .int .i64 0, .int .i64 0] ty)) (w.heap.size + 1) 0 0 0 ∧
    Below w.heap.size w ((w.alloc (.cells #[.int .i64 t, .int .i64 m, .int .i64 f] ty)).alloc (.cells #[.int .i64 0, .int .i64 0, .int .i64 0] ty)) := by
  have h0 : Below w.heap.size w (w.alloc (.cells #[.int .i64 t, .int .i64 m, .int .i64 f] ty)) := (Below.refl _ _).alloc (Nat.le_refl _) _
  refine ⟨(b3_new w t m f ty).below ((Below.refl _ _).alloc (Nat.le_refl _) _), ?_, h0.alloc h0.size _⟩
  have := b3_new (w.alloc (.cells #[.int .i64 t, .int .i64 m, .int .i64 f] ty)) 0 0 0 ty
  rwa [size_alloc] at this
/-- The turns of a boxed spring written. -/
theorem b3_turn {w : World} {b : Nat} {t m f : Int} (h : B3 w b t m f) (u : Int) : B3 (w.setCell ⟨b, 0, none⟩ (.int .i64 u)) b u m f :=
  ⟨by simp; exact h.1, ⟨World.cell?_setCell_same _ _ _ h.2.1.1, by rw [World.cell?_setCell_other (h := by simp)]; exact h.2.1.2.1, by rw [World.cell?_setCell_other (h := by simp)]; exact h.2.1.2.2⟩, fun o => (by simp [go_sem] : (w.setCell ⟨b, 0, none⟩ (.int .i64 u)).frozen? ⟨b, o, none⟩ = w.frozen? ⟨b, o, none⟩).trans (h.2.2 o)⟩
theorem b3_far {w : World} {b c : Nat} {t m f : Int} (h : B3 w c t m f) (hne : b ≠ c) (o : Nat) (u : Value) : B3 (w.setCell ⟨b, o, none⟩ u) c t m f :=
  ⟨by simp; exact h.1, ⟨by rw [World.cell?_setCell_far _ _ _ _ hne]; exact h.2.1.1, by rw [World.cell?_setCell_far _ _ _ _ hne]; exact h.2.1.2.1, by rw [World.cell?_setCell_far _ _ _ _ hne]; exact h.2.1.2.2⟩, fun q => (by simp [go_sem] : (w.setCell ⟨b, o, none⟩ u).frozen? ⟨c, q, none⟩ = w.frozen? ⟨c, q, none⟩).trans (h.2.2 q)⟩
/-- A whole spring written into a box. -/
def wrS (w : World) (b : Nat) (t m f : Int) : World := ((w.setCell ⟨b, 0, none⟩ (.int .i64 t)).setCell ⟨b, 1, none⟩ (.int .i64 m)).setCell ⟨b, 2, none⟩ (.int .i64 f)
theorem b3_all {w : World} {b : Nat} {t0 m0 f0 : Int} (h : B3 w b t0 m0 f0) (t m f : Int) : B3 (wrS w b t m f) b t m f ∧ (w.setCell ⟨b, 0, none⟩ (.int .i64 t)).cell? ⟨b, 1, none⟩ = some (.int .i64 m0) ∧ ((w.setCell ⟨b, 0, none⟩ (.int .i64 t)).setCell ⟨b, 1, none⟩ (.int .i64 m)).cell? ⟨b, 2, none⟩ = some (.int .i64 f0) := by
  have k1 := b3_turn h t
  refine ⟨⟨by unfold wrS; simp; exact h.1, ⟨?_, ?_, ?_⟩, fun o => (by unfold wrS; simp [go_sem] : (wrS w b t m f).frozen? ⟨b, o, none⟩ = w.frozen? ⟨b, o, none⟩).trans (h.2.2 o)⟩, k1.2.1.2.1, by rw [World.cell?_setCell_other (h := by simp)]; exact k1.2.1.2.2⟩
  · unfold wrS; rw [World.cell?_setCell_other (h := by simp), World.cell?_setCell_other (h := by simp)]; exact k1.2.1.1
  · unfold wrS; rw [World.cell?_setCell_other (h := by simp)]; exact World.cell?_setCell_same _ _ _ k1.2.1.2.1
  · unfold wrS; exact World.cell?_setCell_same _ _ _ (by rw [World.cell?_setCell_other (h := by simp)]; exact k1.2.1.2.2)
theorem wrS_far {w : World} {b c : Nat} {t0 m0 f0 : Int} (h : B3 w c t0 m0 f0) (hne : b ≠ c) (t m f : Int) : B3 (wrS w b t m f) c t0 m0 f0 := b3_far (b3_far (b3_far h hne 0 _) hne 1 _) hne 2 _
theorem wrS_below {w0 w : World} {B b : Nat} (h : Below B w0 w) (hb : B ≤ b) (t m f : Int) : Below B w0 (wrS w b t m f) := by unfold wrS; exact ((h.setCell hb _).setCell hb _).setCell hb _
theorem wrS_cell (w : World) {b c o : Nat} (t m f : Int) (hne : b ≠ c) : (wrS w b t m f).cell? ⟨c, o, none⟩ = w.cell? ⟨c, o, none⟩ := by
  unfold wrS; rw [World.cell?_setCell_far _ _ _ _ hne, World.cell?_setCell_far _ _ _ _ hne, World.cell?_setCell_far _ _ _ _ hne]

/-- The answer of Wind and of Unwind. -/
def SprAns (w : World) (u m f x : Int) (e : Ending) (w' : World) : Prop := e = .returned (.tuple #[.agg #[.int .i64 u, .int .i64 m, .int .i64 f], .int .i64 x]) ∧ Below w.heap.size w w'

end Go.Proofs.YtfkjaofepilnkaaDoor
