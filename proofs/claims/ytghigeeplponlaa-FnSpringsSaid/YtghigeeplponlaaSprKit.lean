/- Springs: a boxed spring (three ints in a block that may be written), an argument that is a spring, the laws' helpers toSpring, eqSpring. No condition. -/
import Derived.Test.YtghigeeplponlaaSpringMath
import Derived.Test.YtghigeeplponlaaSortSpec
import Derived.Test.YtghigeeplponlaaTuneOpen
import Derived.Lib.SmallJoins
namespace Go.Proofs.Ytghigeeplponlaa
open Go.ChangeShapes Go.WideShapes Go.ChangeAt Go.RowKit

theorem wrap_as {x P : Int} (h : x = P) (h0 : 0 ≤ P) (h1 : P ≤ 1000000000000000) : IntKind.i64.wrap x = P ∧ wrap64 x = P := by
  subst h
  have e : IntKind.i64.wrap x = x := IntWalk.i64_in _ (by omega)
  exact ⟨e, by unfold wrap64; omega⟩
/-- A boxed spring. -/
def B3 (w : World) (b : Nat) (t m f : Int) : Prop := b < w.heap.size ∧ (w.cell? ⟨b, 0, none⟩ = some (.int .i64 t) ∧ w.cell? ⟨b, 1, none⟩ = some (.int .i64 m) ∧ w.cell? ⟨b, 2, none⟩ = some (.int .i64 f)) ∧ ∀ o, w.frozen? ⟨b, o, none⟩ = false
theorem b3_new (w : World) (t m f : Int) (ty : TypeId) : B3 (w.alloc (.cells #[.int .i64 t, .int .i64 m, .int .i64 f] ty)) w.heap.size t m f :=
  ⟨by simp, ⟨by simp [go_sem], by simp [go_sem], by simp [go_sem]⟩, fun o => by simp [go_sem]⟩
theorem B3.below {w w' : World} {b : Nat} {t m f : Int} (h : B3 w b t m f) (hb : Below w.heap.size w w') : B3 w' b t m f :=
  ⟨Nat.lt_of_lt_of_le h.1 hb.size, ⟨kept_b hb h.2.1.1, kept_b hb h.2.1.2.1, kept_b hb h.2.1.2.2⟩, fun o => (hb.frozen (p := ⟨b, o, none⟩) h.1).trans (h.2.2 o)⟩
theorem b3_two (w : World) (t m f : Int) (ty : TypeId) : B3 ((w.alloc (.cells #[.int .i64 t, .int .i64 m, .int .i64 f] ty)).alloc (.cells #[.int .i64 0, .int .i64 0, .int .i64 0] ty)) w.heap.size t m f ∧
    B3 ((w.alloc (.cells #[.int .i64 t, .int .i64 m, .int .i64 f] ty)).alloc (.cells #[.int .i64 0, .int .i64 0, .int .i64 0] ty)) (w.heap.size + 1) 0 0 0 ∧
    Below w.heap.size w ((w.alloc (.cells #[.int .i64 t, .int .i64 m, .int .i64 f] ty)).alloc (.cells #[.int .i64 0, .int .i64 0, .int .i64 0] ty)) := by
  have h0 : Below w.heap.size w (w.alloc (.cells #[.int .i64 t, .int .i64 m, .int .i64 f] ty)) := (Below.refl _ _).alloc (Nat.le_refl _) _
  refine ⟨(b3_new w t m f ty).below ((Below.refl _ _).alloc (Nat.le_refl _) _), ?_, h0.alloc h0.size _⟩
  have := b3_new (w.alloc (.cells #[.int .i64 t, .int .i64 m, .int .i64 f] ty)) 0 0 0 ty
  rwa [size_alloc] at this
/-- The turns of a boxed spring written. -/
theorem b3_turn {w : World} {b : Nat} {t m f : Int} (h : B3 w b t m f) (u : Int) : B3 (w.setCell ⟨b, 0, none⟩ (.int .i64 u)) b u m f :=
  ⟨by simp; exact h.1, ⟨World.cell?_setCell_same _ _ _ h.2.1.1, by rw [World.cell?_setCell_other (h := by simp)]; exact h.2.1.2.1, by rw [World.cell?_setCell_other (h := by simp)]; exact h.2.1.2.2⟩, fun o => (by simp [go_sem] : (w.setCell ⟨b, 0, none⟩ (.int .i64 u)).frozen? ⟨b, o, none⟩ = w.frozen? ⟨b, o, none⟩).trans (h.2.2 o)⟩
theorem b3_far {w : World} {b c : Nat} {t m f : Int} (h : B3 w c t m f) (hne : b ≠ c) (o : Nat) (u : Value) : B3 (w.setCell ⟨b, o, none⟩ u) c t m f :=
  ⟨by simp; exact h.1, ⟨by rw [World.cell?_setCell_far _ _ _ _ hne]; exact h.2.1.1, by rw [World.cell?_setCell_far _ _ _ _ hne]; exact h.2.1.2.1, by rw [World.cell?_setCell_far _ _ _ _ hne]; exact h.2.1.2.2⟩, fun q => (by simp [go_sem] : (w.setCell ⟨b, o, none⟩ u).frozen? ⟨c, q, none⟩ = w.frozen? ⟨c, q, none⟩).trans (h.2.2 q)⟩
/-- A whole spring written into a box. -/
def wrS (w : World) (b : Nat) (t m f : Int) : World := ((w.setCell ⟨b, 0, none⟩ (.int .i64 t)).setCell ⟨b, 1, none⟩ (.int .i64 m)).setCell ⟨b, 2, none⟩ (.int .i64 f)
theorem b3_all {w : World} {b : Nat} {t0 m0 f0 : Int} (h : B3 w b t0 m0 f0) (t m f : Int) : B3 (wrS w b t m f) b t m f ∧ (w.setCell ⟨b, 0, none⟩ (.int .i64 t)).cell? ⟨b, 1, none⟩ = some (.int .i64 m0) ∧ ((w.setCell ⟨b, 0, none⟩ (.int .i64 t)).setCell ⟨b, 1, none⟩ (.int .i64 m)).cell? ⟨b, 2, none⟩ = some (.int .i64 f0) := by
  have k1 := b3_turn h t
  refine ⟨⟨by unfold wrS; simp; exact h.1, ⟨?_, ?_, ?_⟩, fun o => (by unfold wrS; simp [go_sem] : (wrS w b t m f).frozen? ⟨b, o, none⟩ = w.frozen? ⟨b, o, none⟩).trans (h.2.2 o)⟩, k1.2.1.2.1, by rw [World.cell?_setCell_other (h := by simp)]; exact k1.2.1.2.2⟩
  · unfold wrS; rw [World.cell?_setCell_other (h := by simp), World.cell?_setCell_other (h := by simp)]; exact k1.2.1.1
  · unfold wrS; rw [World.cell?_setCell_other (h := by simp)]; exact World.cell?_setCell_same _ _ _ k1.2.1.2.1
  · unfold wrS; exact World.cell?_setCell_same _ _ _ (by rw [World.cell?_setCell_other (h := by simp)]; exact k1.2.1.2.2)
theorem wrS_far {w : World} {b c : Nat} {t0 m0 f0 : Int} (h : B3 w c t0 m0 f0) (hne : b ≠ c) (t m f : Int) : B3 (wrS w b t m f) c t0 m0 f0 := b3_far (b3_far (b3_far h hne 0 _) hne 1 _) hne 2 _
theorem wrS_below {w0 w : World} {B b : Nat} (h : Below B w0 w) (hb : B ≤ b) (t m f : Int) : Below B w0 (wrS w b t m f) := by unfold wrS; exact ((h.setCell hb _).setCell hb _).setCell hb _
theorem wrS_cell (w : World) {b c o : Nat} (t m f : Int) (hne : b ≠ c) : (wrS w b t m f).cell? ⟨c, o, none⟩ = w.cell? ⟨c, o, none⟩ := by
  unfold wrS; rw [World.cell?_setCell_far _ _ _ _ hne, World.cell?_setCell_far _ _ _ _ hne, World.cell?_setCell_far _ _ _ _ hne]

/-- The answer of Wind and of Unwind. -/
def SprAns (w : World) (u m f x : Int) (e : Ending) (w' : World) : Prop := e = .returned (.tuple #[.agg #[.int .i64 u, .int .i64 m, .int .i64 f], .int .i64 x]) ∧ Below w.heap.size w w'

set_option maxRecDepth 100000 in
theorem spring_of_trod {H : Type} {enc : TypeId × Value → H} {W : World} {v : Value} {d : DataW H} {ps : List MemPlace} {r : Reach} {b0 : Nat}
    (hval : Value.okWide Try.prog W r b0 33 v) (hd : DataW.Trod enc Try.prog W 0 (fun _ => true) true 33 v d ps) : ∃ t m f : Int, v = .agg #[.int .i64 t, .int .i64 m, .int .i64 f] := by
  obtain ⟨v0, v1, v2, y0, y1, y2, n, rfl, _, _, h0, h1, h2⟩ := Joins.open_agg3 Try.underlying33 (by kernel_rfl) (by kernel_rfl) hval hd
  obtain ⟨a, e0, _⟩ := DataW.trod_int (k := .i64) (by kernel_rfl) h0
  obtain ⟨b, e1, _⟩ := DataW.trod_int (k := .i64) (by kernel_rfl) h1
  obtain ⟨c, e2, _⟩ := DataW.trod_int (k := .i64) (by kernel_rfl) h2
  obtain rfl : v0 = .int .i64 a := by simpa using e0
  obtain rfl : v1 = .int .i64 b := by simpa using e1
  obtain rfl : v2 = .int .i64 c := by simpa using e2
  exact ⟨a, b, c, rfl⟩

theorem eqSpring_same {w : World} (t m f : Int) :
    Calls Try.prog 24 #[.agg #[.int .i64 t, .int .i64 m, .int .i64 f], .agg #[.int .i64 t, .int .i64 m, .int .i64 f]] w fun e w' => e = .returned (.bool true) ∧ Below w.heap.size w w' := by
  go_enter Try.func24, Try.ntmps24
  go_wp2
  go_ret
  exact ⟨rfl, ((Below.refl _ _).alloc (Nat.le_refl _) _).alloc (by simp) _⟩

theorem toSpring_any {w : World} (t m f : Int) :
    Calls Try.prog 21 #[.agg #[.int .i64 t, .int .i64 m, .int .i64 f]] w fun e w' => e = .returned (.agg #[.int .i64 t, .int .i64 m, .int .i64 f]) ∧ Below w.heap.size w w' := by
  go_enter Try.func21, Try.ntmps21
  go_wp2
  refine bodyPost_ret (v := .agg #[.int .i64 t, .int .i64 m, .int .i64 f]) (by simp [results, Try.results21, go_sem]) rfl ⟨rfl, ?_⟩
  repeat (first | exact Below.refl _ _ | (refine Below.setCell ?_ (by simp <;> omega) _) | (refine Below.alloc ?_ (by simp <;> omega) _))
end Go.Proofs.Ytghigeeplponlaa
