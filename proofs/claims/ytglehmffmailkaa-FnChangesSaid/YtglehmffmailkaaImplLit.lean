/- The contracts of the program's changes of a note: moveBy and the function literals of chapter 3. No condition. -/
import Derived.Test.YtglehmffmailkaaCmp
namespace Go.Proofs.Ytglehmffmailkaa
open Go.ChangeShapes Go.WideShapes Go.ChangeAt Go.RowKit

theorem cell2 {w : World} {b c : Nat} {u : Value} (h : w.cell? ⟨b, c, none⟩ = some u) (x y : Obj) : ((w.alloc x).alloc y).cell? ⟨b, c, none⟩ = some u := by
  have hb : b < w.heap.size := World.block_lt_of_cell? w _ h
  rw [World.cell?_alloc_past _ _ _ (by simp; omega), World.cell?_alloc_past _ _ _ hb]; exact h
theorem gr_two (w : World) (x y : Obj) : Gr w ((w.alloc x).alloc y) := gr_of_below (((Below.refl _ _).alloc (Nat.le_refl _) _).alloc (by simp) _) (Nat.le_refl _)
theorem cell_at1 (w : World) (u : Value) (t : TypeId) : (w.alloc (.cells #[u] t)).cell? ⟨w.heap.size, 0, none⟩ = some u := World.cell?_alloc_mark w #[u] t (0, 0) 0
theorem cell_at2 (w : World) (o : Obj) (u : Value) (t : TypeId) : ((w.alloc o).alloc (.cells #[u] t)).cell? ⟨w.heap.size + 1, 0, none⟩ = some u := by
  have h := cell_at1 (w.alloc o) u t
  have e : (w.alloc o).heap.size = w.heap.size + 1 := by show (w.heap.push o).size = _; simp
  rw [e] at h; exact h
theorem cell_at1' (w : World) (u : Value) (t : TypeId) (o : Obj) : ((w.alloc (.cells #[u] t)).alloc o).cell? ⟨w.heap.size, 0, none⟩ = some u := by
  rw [World.cell?_alloc_past _ _ _ (by simp)]; exact cell_at1 w u t

theorem moveby_any {w : World} (dt dp : Int) :
    Calls Try.prog 69 #[.int .i64 dt, .int .i64 dp] w fun e w' => e = .returned (.func (.func 80) #[] #[.pointer (some ⟨w.heap.size, 0, none⟩), .pointer (some ⟨w.heap.size + 1, 0, none⟩)]) ∧ w' = (w.alloc (.cells #[.int .i64 dt] 3)).alloc (.cells #[.int .i64 dp] 3) := by
  have hmf : ∀ (fn : Fn) (first cap : Array Value) (w : World), (Instr.makeFunc fn first cap).run Try.prog w = .ok (.func fn first cap) w := fun _ _ _ _ => rfl
  go_enter Try.func69, Try.ntmps69
  go_wp2_with fail
  go_ret
  exact ⟨rfl, rfl⟩

theorem mvlit_any {w : World} {qx qy : Nat} (dx dy : Int) (p : Int × Int) (hx : w.cell? ⟨qx, 0, none⟩ = some (.int .i64 dx)) (hy : w.cell? ⟨qy, 0, none⟩ = some (.int .i64 dy))
    (e0 : IntKind.i64.wrap (p.1 + dx) = p.1 + dx) (e1 : IntKind.i64.wrap (p.2 + dy) = p.2 + dy) :
    Calls Try.prog 80 #[.agg #[.int .i64 p.1, .int .i64 p.2], .pointer (some ⟨qx, 0, none⟩), .pointer (some ⟨qy, 0, none⟩)] w fun e w' => e = .returned (.agg #[.int .i64 (p.1 + dx), .int .i64 (p.2 + dy)]) ∧ Gr w w' := by
  obtain ⟨a, b⟩ := p
  have gx := cell2 hx (.cells #[.int .i64 a, .int .i64 b] 39) (.cells #[.int .i64 0, .int .i64 0] 39)
  have gy := cell2 hy (.cells #[.int .i64 a, .int .i64 b] 39) (.cells #[.int .i64 0, .int .i64 0] 39)
  go_enter Try.func80, Try.ntmps80
  go_wp2_with fail
  refine bodyPost_ret (v := .agg #[.int .i64 (a + dx), .int .i64 (b + dy)]) (by simp [results, Try.results80, go_sem]) rfl ⟨rfl, ?_⟩
  exact gr_two _ _ _

theorem slowlit_any {w : World} {qx : Nat} (dx : Int) (p : Int × Int) (hx : w.cell? ⟨qx, 0, none⟩ = some (.int .i64 dx))
    (e0 : IntKind.i64.wrap (p.1 * dx) = p.1 * dx) :
    Calls Try.prog 70 #[.agg #[.int .i64 p.1, .int .i64 p.2], .pointer (some ⟨qx, 0, none⟩)] w fun e w' => e = .returned (.agg #[.int .i64 (p.1 * dx), .int .i64 (p.2)]) ∧ Gr w w' := by
  obtain ⟨a, b⟩ := p
  have gx := cell2 hx (.cells #[.int .i64 a, .int .i64 b] 39) (.cells #[.int .i64 0, .int .i64 0] 39)
  go_enter Try.func70, Try.ntmps70
  go_wp2_with fail
  refine bodyPost_ret (v := .agg #[.int .i64 (a * dx), .int .i64 (b)]) (by simp [results, Try.results70, go_sem]) rfl ⟨rfl, ?_⟩
  exact gr_two _ _ _

theorem backlit_any {w : World} {qx : Nat} (dx : Int) (p : Int × Int) (hx : w.cell? ⟨qx, 0, none⟩ = some (.int .i64 dx))
    (e0 : IntKind.i64.wrap (dx - p.1) = dx - p.1) :
    Calls Try.prog 65 #[.agg #[.int .i64 p.1, .int .i64 p.2], .pointer (some ⟨qx, 0, none⟩)] w fun e w' => e = .returned (.agg #[.int .i64 (dx - p.1), .int .i64 (p.2)]) ∧ Gr w w' := by
  obtain ⟨a, b⟩ := p
  have gx := cell2 hx (.cells #[.int .i64 a, .int .i64 b] 39) (.cells #[.int .i64 0, .int .i64 0] 39)
  go_enter Try.func65, Try.ntmps65
  go_wp2_with fail
  refine bodyPost_ret (v := .agg #[.int .i64 (dx - a), .int .i64 (b)]) (by simp [results, Try.results65, go_sem]) rfl ⟨rfl, ?_⟩
  exact gr_two _ _ _

theorem uplit_any {w : World} {qx qy : Nat} (dx dy : Int) (p : Int × Int) (hx : w.cell? ⟨qx, 0, none⟩ = some (.int .i64 dx)) (hy : w.cell? ⟨qy, 0, none⟩ = some (.int .i64 dy))
    (e0 : IntKind.i64.wrap (dx + dy) = dx + dy) (e1 : IntKind.i64.wrap (dx + dy - p.2) = dx + dy - p.2) :
    Calls Try.prog 67 #[.agg #[.int .i64 p.1, .int .i64 p.2], .pointer (some ⟨qx, 0, none⟩), .pointer (some ⟨qy, 0, none⟩)] w fun e w' => e = .returned (.agg #[.int .i64 (p.1), .int .i64 (dx + dy - p.2)]) ∧ Gr w w' := by
  obtain ⟨a, b⟩ := p
  have gx := cell2 hx (.cells #[.int .i64 a, .int .i64 b] 39) (.cells #[.int .i64 0, .int .i64 0] 39)
  have gy := cell2 hy (.cells #[.int .i64 a, .int .i64 b] 39) (.cells #[.int .i64 0, .int .i64 0] 39)
  go_enter Try.func67, Try.ntmps67
  go_wp2_with fail
  refine bodyPost_ret (v := .agg #[.int .i64 (a), .int .i64 (dx + dy - b)]) (by simp [results, Try.results67, go_sem]) rfl ⟨rfl, ?_⟩
  exact gr_two _ _ _
end Go.Proofs.Ytglehmffmailkaa
