/- The contracts of the program's changes of a note: moveBy and the function literals of chapter 3. No condition. -/
import Derived.Test.YtcbdoldcdgaooaaCmp
namespace Go.Proofs.Ytcbdoldcdgaooaa
open Go.ChangeShapes Go.WideShapes Go.ChangeAt Go.RowKit

theorem cell2 {w : World} {b c : Nat} {u : Value} (h : w.cell? ⟨b, c, none⟩ = some u) (x y : Obj) : ((w.alloc x).alloc y).cell? ⟨b, c, none⟩ = some u := by
  have hb : b < w.heap.size := World.block_lt_of_cell? w _ h
  rw [World.cell?_alloc_past _ _ _ (by simp; omega), World.cell?_alloc_past _ _ _ hb]; exact h
theorem gr_two (w : World) (x y : Obj) : Gr w ((w.alloc x).alloc y) := gr_of_below (((Below.refl _ _).alloc (Nat.le_refl _) _).alloc (by simp) _) (Nat.le_refl _)
theorem cell_at1 (w : World) (u : Value) (t : TypeId) : (w.alloc (.cells #[u] t)).cell? ⟨w.heap.size, 0, none⟩ = some u := World.cell?_alloc_mark w #[u] t (0, 0) 0
theorem cell_at2 (w : World) (o : Obj) (u : Value) (t : TypeId) : ((w.alloc o).alloc (.cells #[u] t)).cell? ⟨w.heap.size + 1, 0, none⟩ = some u := by
  have h := cell_at1 (w.alloc o) u t
  have e : (w.alloc o).heap.size = w.heap.size + 1 := by show (w.heap.push o).size = _; simp
  rw [e] at h; exact h
theorem cell_at1' (w : World) (u : Value) (t : TypeId) (o : Obj) : ((w.alloc (.cells #[u] t)).alloc o).cell? ⟨w.heap.size, 0, none⟩ = some u := by
  rw [World.cell?_alloc_past _ _ _ (by simp)]; exact cell_at1 w u t

end Go.Proofs.Ytcbdoldcdgaooaa
