/- Boxed cylinders: blocks of three cells, written and read. No condition. -/
import Derived.Test.YtcbdoldcdgaooaaPutSpec
namespace Go.Proofs.Ytcbdoldcdgaooaa
open Go.ChangeShapes Go.WideShapes Go.ChangeAt Go.RowKit

/-- A block of three cells that may be written. -/
def BoxW (w : World) (b : Nat) (x y z : Value) : Prop := b < w.heap.size ∧ (w.cell? ⟨b, 0, none⟩ = some x ∧ w.cell? ⟨b, 1, none⟩ = some y ∧ w.cell? ⟨b, 2, none⟩ = some z) ∧ ∀ o, w.frozen? ⟨b, o, none⟩ = false
theorem froz_new (w : World) (vs : Array Value) (ty : TypeId) (o : Nat) : (w.alloc (.cells vs ty)).frozen? ⟨w.heap.size, o, none⟩ = false := by simp [go_sem]
theorem boxw_new (w : World) (x y z : Value) (ty : TypeId) : BoxW (w.alloc (.cells #[x, y, z] ty)) w.heap.size x y z := ⟨by simp, ⟨cell0 _ _ _ _, cell0 _ _ _ _, cell0 _ _ _ _⟩, froz_new _ _ _⟩
theorem BoxW.below {w w' : World} {b : Nat} {x y z : Value} (h : BoxW w b x y z) (hb : Below w.heap.size w w') : BoxW w' b x y z :=
  ⟨Nat.lt_of_lt_of_le h.1 hb.size, ⟨old_cell hb h.2.1.1, old_cell hb h.2.1.2.1, old_cell hb h.2.1.2.2⟩, fun o => old_frozen hb h.1 (h.2.2 o)⟩
theorem cell_of_drewN {w : World} {a : Addr} {v : Value} (n : Nat) (h : w.cell? a = some v) : (w.drewN n).cell? a = some v := h
def wr3 (w : World) (b : Nat) (x y z : Value) : World := ((w.setCell ⟨b, 0, none⟩ x).setCell ⟨b, 1, none⟩ y).setCell ⟨b, 2, none⟩ z
theorem read3 {w : World} {b : Nat} {x0 y0 z0 : Value} (h : BoxW w b x0 y0 z0) (x y z : Value) : (w.setCell ⟨b, 0, none⟩ x).cell? ⟨b, 0, none⟩ = some x ∧ ((w.setCell ⟨b, 0, none⟩ x).setCell ⟨b, 1, none⟩ y).cell? ⟨b, 1, none⟩ = some y ∧ (((w.setCell ⟨b, 0, none⟩ x).setCell ⟨b, 1, none⟩ y).setCell ⟨b, 2, none⟩ z).cell? ⟨b, 2, none⟩ = some z :=
  ⟨World.cell?_setCell_same _ _ _ h.2.1.1, World.cell?_setCell_same _ _ _ (by rw [World.cell?_setCell_other (h := by simp)]; exact h.2.1.2.1), World.cell?_setCell_same _ _ _ (by rw [World.cell?_setCell_other (h := by simp), World.cell?_setCell_other (h := by simp)]; exact h.2.1.2.2)⟩
theorem froz_set (w : World) (p : Addr) (v : Value) (a : Addr) : (w.setCell p v).frozen? a = w.frozen? a := by simp [go_sem]
theorem size_set (w : World) (p : Addr) (v : Value) : (w.setCell p v).heap.size = w.heap.size := by simp
theorem wr3_same {w : World} {b : Nat} {x0 y0 z0 : Value} (h : BoxW w b x0 y0 z0) (x y z : Value) : BoxW (wr3 w b x y z) b x y z := by
  obtain ⟨k0, k1, k2⟩ := read3 h x y z
  refine ⟨by unfold wr3; rw [size_set, size_set, size_set]; exact h.1, ⟨?_, ?_, k2⟩, fun o => by unfold wr3; rw [froz_set, froz_set, froz_set]; exact h.2.2 o⟩
  · unfold wr3; rw [World.cell?_setCell_other (h := by simp), World.cell?_setCell_other (h := by simp)]; exact k0
  · unfold wr3; rw [World.cell?_setCell_other (h := by simp)]; exact k1
theorem wr3_cell (w : World) (b : Nat) (x y z : Value) {a : Addr} (hne : b ≠ a.block) : (wr3 w b x y z).cell? a = w.cell? a := by
  unfold wr3; rw [World.cell?_setCell_far _ _ _ _ hne, World.cell?_setCell_far _ _ _ _ hne, World.cell?_setCell_far _ _ _ _ hne]
theorem wr3_other {w : World} {b c : Nat} {x0 y0 z0 : Value} (h : BoxW w c x0 y0 z0) (hne : b ≠ c) (x y z : Value) : BoxW (wr3 w b x y z) c x0 y0 z0 :=
  ⟨by unfold wr3; rw [size_set, size_set, size_set]; exact h.1, ⟨by rw [wr3_cell _ _ _ _ _ hne]; exact h.2.1.1, by rw [wr3_cell _ _ _ _ _ hne]; exact h.2.1.2.1, by rw [wr3_cell _ _ _ _ _ hne]; exact h.2.1.2.2⟩, fun o => by unfold wr3; rw [froz_set, froz_set, froz_set]; exact h.2.2 o⟩
theorem wr3_below {w0 w : World} {B b : Nat} (h : Below B w0 w) (hb : B ≤ b) (x y z : Value) : Below B w0 (wr3 w b x y z) := by unfold wr3; exact ((h.setCell hb _).setCell hb _).setCell hb _
theorem own_set' {w : World} {C e s n : Nat} {v u : Value} {xs : List Value} {p : Addr} (h : w.ownsRow C e s v n xs) (hp : v.ownBlock ≠ some p.block) : (w.setCell p u).ownsRow C e s v n xs :=
  h.kept (only_setCell (World.grownBy.refl _ _) (Or.inl rfl) u) (Or.inr hp)
theorem wr3_own {w : World} {C e s n b : Nat} {v : Value} {xs : List Value} (h : w.ownsRow C e s v n xs) (hp : v.ownBlock ≠ some b) (x y z : Value) : (wr3 w b x y z).ownsRow C e s v n xs := own_set' (own_set' (own_set' h hp) hp) hp
theorem ob_of_lt {w : World} {C e s n b : Nat} {v : Value} {xs : List Value} (h : w.ownsRow C e s v n xs) (hb : b < C) : v.ownBlock ≠ some b := fun e => by have := (h.lt b e).1; omega
/-- One cell of a box written. -/
theorem box_set2 {w : World} {b : Nat} {x y z : Value} (h : BoxW w b x y z) (u : Value) : BoxW (w.setCell ⟨b, 2, none⟩ u) b x y u :=
  ⟨by rw [size_set]; exact h.1, ⟨by rw [World.cell?_setCell_other (h := by simp)]; exact h.2.1.1, by rw [World.cell?_setCell_other (h := by simp)]; exact h.2.1.2.1, World.cell?_setCell_same _ _ _ h.2.1.2.2⟩, fun o => by rw [froz_set]; exact h.2.2 o⟩
theorem box_set_other {w : World} {b c : Nat} {x y z : Value} (h : BoxW w c x y z) (hne : b ≠ c) (o : Nat) (u : Value) : BoxW (w.setCell ⟨b, o, none⟩ u) c x y z :=
  ⟨by rw [size_set]; exact h.1, ⟨by rw [World.cell?_setCell_far _ _ _ _ hne]; exact h.2.1.1, by rw [World.cell?_setCell_far _ _ _ _ hne]; exact h.2.1.2.1, by rw [World.cell?_setCell_far _ _ _ _ hne]; exact h.2.1.2.2⟩, fun o => by rw [froz_set]; exact h.2.2 o⟩

theorem cell_grown_by {w w' : World} {row : Option Nat} (hg : w.grownBy w' row) {a : Addr} (hlt : a.block < w.heap.size) (hr : some a.block ≠ row) : w'.cell? a = w.cell? a := by
  unfold World.cell?; rw [hg.block a.block hlt hr]
theorem froz_grown_by {w w' : World} {row : Option Nat} (hg : w.grownBy w' row) {a : Addr} (hlt : a.block < w.heap.size) (hr : some a.block ≠ row) : w'.frozen? a = w.frozen? a := by
  unfold World.frozen?; rw [hg.block a.block hlt hr]
theorem Box.grown {w w' : World} {b : Nat} {s t : Int} {u : Value} {row : Option Nat} (h : Box w b s t u) (hg : w.grownBy w' row) (hr : some b ≠ row) : Box w' b s t u :=
  ⟨Nat.lt_of_lt_of_le h.1 hg.size, (cell_grown_by hg (a := ⟨b, 0, none⟩) h.1 hr).trans h.2.1, (cell_grown_by hg (a := ⟨b, 1, none⟩) h.1 hr).trans h.2.2.1, (cell_grown_by hg (a := ⟨b, 2, none⟩) h.1 hr).trans h.2.2.2⟩
theorem BoxW.grown {w w' : World} {b : Nat} {x y z : Value} {row : Option Nat} (h : BoxW w b x y z) (hg : w.grownBy w' row) (hr : some b ≠ row) : BoxW w' b x y z :=
  ⟨Nat.lt_of_lt_of_le h.1 hg.size, ⟨(cell_grown_by hg (a := ⟨b, 0, none⟩) h.1 hr).trans h.2.1.1, (cell_grown_by hg (a := ⟨b, 1, none⟩) h.1 hr).trans h.2.1.2.1, (cell_grown_by hg (a := ⟨b, 2, none⟩) h.1 hr).trans h.2.1.2.2⟩, fun o => (froz_grown_by hg (a := ⟨b, o, none⟩) h.1 hr).trans (h.2.2 o)⟩

theorem set3_cell (w : World) (b : Nat) (x y z : Value) {a : Addr} (hne : b ≠ a.block) : (((w.setCell ⟨b, 0, none⟩ x).setCell ⟨b, 1, none⟩ y).setCell ⟨b, 2, none⟩ z).cell? a = w.cell? a := wr3_cell w b x y z hne
/-- A box made behind w0 that holds a cylinder whose row lies behind w0 too. -/
def Laid (w0 w' : World) (s t : Int) (b : Nat) (v : Value) (l : List (Int × Int)) : Prop := Box w' b s t v ∧ w'.ownsRow w0.heap.size 32 2 v l.length (flat2 l) ∧ Below w0.heap.size w0 w' ∧ v.ownBlock ≠ some b ∧ w0.heap.size ≤ b
theorem laid_store {w0 w : World} {s t : Int} {b C : Nat} {v x y z : Value} {l : List (Int × Int)} (hb : BoxW w b x y z) (ho : w.ownsRow C 32 2 v l.length (flat2 l)) (hC : w0.heap.size ≤ C) (hk : v.ownBlock ≠ some b) (h : Below w0.heap.size w0 w) (h0 : w0.heap.size ≤ b) :
    Laid w0 (((w.setCell ⟨b, 0, none⟩ (.int .i64 s)).setCell ⟨b, 1, none⟩ (.int .i64 t)).setCell ⟨b, 2, none⟩ v) s t b v l := by
  have k := wr3_same hb (.int .i64 s) (.int .i64 t) v
  exact ⟨⟨k.1, k.2.1.1, k.2.1.2.1, k.2.1.2.2⟩, own_low (wr3_own ho hk _ _ _) hC, wr3_below h h0 _ _ _, hk, h0⟩
theorem laid_alloc {w0 w : World} {s t : Int} {C : Nat} {v : Value} {l : List (Int × Int)} (ty : TypeId) (ho : w.ownsRow C 32 2 v l.length (flat2 l)) (hC : w0.heap.size ≤ C) (h : Below w0.heap.size w0 w) :
    Laid w0 (w.alloc (.cells #[.int .i64 s, .int .i64 t, v] ty)) s t w.heap.size v l :=
  ⟨box_new _ _ _ _ _, own_low (ho.alloc _) hC, h.alloc h.size _, fun e => Nat.lt_irrefl _ (ho.lt _ e).2, h.size⟩
theorem cut_rule {P G : Prop} (f : Hid P → G) (p : P) : G := f (Lib.hid p)
abbrev cylV (s t : Int) (u : Value) : Value := .agg #[.int .i64 s, .int .i64 t, u]
def NewCyl (w : World) (s t : Int) (l : List (Int × Int)) (e : Ending) (w' : World) : Prop :=
  ∃ v, e = .returned (.agg #[.int .i64 s, .int .i64 t, v]) ∧ w'.ownsRow w.heap.size 32 2 v l.length (flat2 l) ∧ Below w.heap.size w w'
def NewCylB (w : World) (s t : Int) (l : List (Int × Int)) (b : Bool) (e : Ending) (w' : World) : Prop :=
  ∃ v, e = .returned (.tuple #[.agg #[.int .i64 s, .int .i64 t, v], .bool b]) ∧ w'.ownsRow w.heap.size 32 2 v l.length (flat2 l) ∧ Below w.heap.size w w'

end Go.Proofs.Ytcbdoldcdgaooaa
