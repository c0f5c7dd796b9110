/- The contracts of chapter 10's model, further: TurnsOf, TurnTrain, GearsFor. No condition. -/
import Derived.Test.YtcbdoldcdgaooaaGearSpec
import Derived.Test.YtcbdoldcdgaooaaGearApp
namespace Go.Proofs.Ytcbdoldcdgaooaa
open Go.ChangeShapes Go.WideShapes Go.ChangeAt Go.RowKit

theorem wrap_as {x P : Int} (h : x = P) (h0 : 0 ≤ P) (h1 : P ≤ 1000000000000000) : IntKind.i64.wrap x = P ∧ wrap64 x = P := by
  subst h
  have e : IntKind.i64.wrap x = x := IntWalk.i64_in _ (by omega)
  exact ⟨e, by unfold wrap64; omega⟩
/-- The last j gears, turned around. -/
def lastG (l : List (Int × Int)) (j : Nat) : List (Int × Int) := (l.drop (l.length - j)).reverse.map swapG
theorem lastG_len {l : List (Int × Int)} {j : Nat} (h : j ≤ l.length) : (lastG l j).length = j := by
  unfold lastG; rw [List.length_map, List.length_reverse, List.length_drop]; omega
theorem lastG_next {l : List (Int × Int)} {k : Nat} {q : Int × Int} (h : l[k]? = some q) : lastG l (l.length - k) = lastG l (l.length - (k + 1)) ++ [(q.2, q.1)] := by
  obtain ⟨hk, e⟩ := List.getElem?_eq_some_iff.1 h
  unfold lastG
  rw [show l.length - (l.length - k) = k by omega, show l.length - (l.length - (k + 1)) = k + 1 by omega, List.drop_eq_getElem_cons hk, e, List.reverse_cons, List.map_append]
  rfl
theorem lastG_all (l : List (Int × Int)) : lastG l l.length = l.reverse.map swapG := by unfold lastG; rw [Nat.sub_self]; rfl

/-! ### a boxed gear -/
def Box2 (w : World) (b : Nat) (x y : Value) : Prop := b < w.heap.size ∧ (w.cell? ⟨b, 0, none⟩ = some x ∧ w.cell? ⟨b, 1, none⟩ = some y) ∧ ∀ o, w.frozen? ⟨b, o, none⟩ = false
theorem box2_new (w : World) (x y : Value) (ty : TypeId) : Box2 (w.alloc (.cells #[x, y] ty)) w.heap.size x y :=
  ⟨by simp, ⟨by simp [go_sem], by simp [go_sem]⟩, fun o => by simp [go_sem]⟩
theorem Box2.below {w w' : World} {b : Nat} {x y : Value} (h : Box2 w b x y) (hb : Below w.heap.size w w') : Box2 w' b x y :=
  ⟨Nat.lt_of_lt_of_le h.1 hb.size, ⟨kept_b hb h.2.1.1, kept_b hb h.2.1.2⟩, fun o => (hb.frozen (p := ⟨b, o, none⟩) h.1).trans (h.2.2 o)⟩
def wr2 (w : World) (b : Nat) (x y : Value) : World := (w.setCell ⟨b, 0, none⟩ x).setCell ⟨b, 1, none⟩ y
theorem read2 {w : World} {b : Nat} {x0 y0 : Value} (h : Box2 w b x0 y0) (x y : Value) : (w.setCell ⟨b, 0, none⟩ x).cell? ⟨b, 0, none⟩ = some x ∧ ((w.setCell ⟨b, 0, none⟩ x).setCell ⟨b, 1, none⟩ y).cell? ⟨b, 1, none⟩ = some y :=
  ⟨World.cell?_setCell_same _ _ _ h.2.1.1, World.cell?_setCell_same _ _ _ (by rw [World.cell?_setCell_other (h := by simp)]; exact h.2.1.2)⟩
theorem frz_set (w : World) (p : Addr) (v : Value) (a : Addr) : (w.setCell p v).frozen? a = w.frozen? a := by simp [go_sem]
theorem wr2_same {w : World} {b : Nat} {x0 y0 : Value} (h : Box2 w b x0 y0) (x y : Value) : Box2 (wr2 w b x y) b x y := by
  obtain ⟨k0, k1⟩ := read2 h x y
  refine ⟨by unfold wr2; simp; exact h.1, ⟨?_, k1⟩, fun o => by unfold wr2; rw [frz_set, frz_set]; exact h.2.2 o⟩
  unfold wr2; rw [World.cell?_setCell_other (h := by simp)]; exact k0
theorem wr2_other {w : World} {b c : Nat} {x0 y0 : Value} (h : Box2 w c x0 y0) (hne : b ≠ c) (x y : Value) : Box2 (wr2 w b x y) c x0 y0 := by
  refine ⟨by unfold wr2; simp; exact h.1, ⟨?_, ?_⟩, fun o => by unfold wr2; rw [frz_set, frz_set]; exact h.2.2 o⟩ <;> (unfold wr2; rw [World.cell?_setCell_far _ _ _ _ hne, World.cell?_setCell_far _ _ _ _ hne])
  · exact h.2.1.1
  · exact h.2.1.2
theorem wr2_below {w0 w : World} {B b : Nat} (h : Below B w0 w) (hb : B ≤ b) (x y : Value) : Below B w0 (wr2 w b x y) := by unfold wr2; exact (h.setCell hb _).setCell hb _

theorem wr2_cell (w : World) {b c o : Nat} (x y : Value) (hne : b ≠ c) : (wr2 w b x y).cell? ⟨c, o, none⟩ = w.cell? ⟨c, o, none⟩ := by
  unfold wr2; rw [World.cell?_setCell_far _ _ _ _ hne, World.cell?_setCell_far _ _ _ _ hne]

/-- The answer of GearsFor. -/
def GearAns (w : World) (g : Int × Int) (b : Bool) (e : Ending) (w' : World) : Prop := e = .returned (.tuple #[.agg #[.int .i64 g.1, .int .i64 g.2], .bool b]) ∧ Below w.heap.size w w'

end Go.Proofs.Ytcbdoldcdgaooaa
