/- The program's withPins and unchanged. No condition. -/
import Derived.Test.YtcbdoldcdgaooaaPinClone
import Derived.Test.YtcbdoldcdgaooaaImplCyl
namespace Go.Proofs.Ytcbdoldcdgaooaa
open Go.ChangeShapes Go.WideShapes Go.ChangeAt Go.RowKit

/-- A boxed cylinder, its row written. -/
theorem box_two {w : World} (s t : Int) (u : Value) (x y z : Value) (ty ty' : TypeId) :
    BoxW ((w.alloc (.cells #[.int .i64 s, .int .i64 t, u] ty)).alloc (.cells #[x, y, z] ty')) w.heap.size (.int .i64 s) (.int .i64 t) u ∧ BoxW ((w.alloc (.cells #[.int .i64 s, .int .i64 t, u] ty)).alloc (.cells #[x, y, z] ty')) (w.heap.size + 1) x y z ∧ Below w.heap.size w ((w.alloc (.cells #[.int .i64 s, .int .i64 t, u] ty)).alloc (.cells #[x, y, z] ty')) ∧ ((w.alloc (.cells #[.int .i64 s, .int .i64 t, u] ty)).alloc (.cells #[x, y, z] ty')).heap.size = w.heap.size + 1 + 1 := by
  refine ⟨(boxw_new _ _ _ _ _).below ((Below.refl _ _).alloc (Nat.le_refl _) _), ?_, ((Below.refl _ _).alloc (Nat.le_refl _) _).alloc (by simp) _, by simp⟩
  have := boxw_new (w.alloc (.cells #[.int .i64 s, .int .i64 t, u] ty)) x y z ty'
  rw [size_alloc] at this; exact this

set_option maxHeartbeats 1000000 in
set_option maxRecDepth 100000 in
theorem withpins_any (s t : Int) (a a2 : Option Addr) (n c n2 c2 : Nat) (w : World) :
    Calls Try.prog 64 #[.agg #[.int .i64 s, .int .i64 t, .slice a n c], .slice a2 n2 c2] w fun e w' => e = .returned (.agg #[.int .i64 s, .int .i64 t, .slice a2 n2 c2]) ∧ Below w.heap.size w w' := by
  have hb : ∀ x y : Obj, Below w.heap.size w ((w.alloc x).alloc y) := fun x y => ((Below.refl _ _).alloc (Nat.le_refl _) _).alloc (by simp) _
  have HB := Lib.hid hb; clear hb
  go_enter Try.func64, Try.ntmps64
  go_wp2
  exact bodyPost_ret (v := .agg #[.int .i64 s, .int .i64 t, .slice a2 n2 c2]) (by simp [results, Try.results64, go_sem]) rfl ⟨rfl, HB.out _ _⟩

set_option maxHeartbeats 1000000 in
set_option maxRecDepth 100000 in
theorem unchanged_any {w : World} {v : Value} {l : List (Int × Int)} (s t : Int) (h : Rd2 w v l) (hl : l.length ≤ 1048576) :
    Calls Try.prog 60 #[.agg #[.int .i64 s, .int .i64 t, v]] w (NewCyl w s t l) := by
  obtain ⟨a1, cap1, rfl⟩ := Rd.slice h
  obtain ⟨W, hW⟩ : ∃ W, W = (w.alloc (.cells #[.int .i64 s, .int .i64 t, .slice a1 l.length cap1] 26)).alloc (.cells #[.int .i64 0, .int .i64 0, .slice none 0 0] 26) := ⟨_, rfl⟩
  obtain ⟨hX, hR, hB, hsz⟩ := box_two (w := w) s t (.slice a1 l.length cap1) (.int .i64 0) (.int .i64 0) (.slice none 0 0) 26 26
  rw [← hW] at hX hR hB hsz
  go_enter Try.func60, Try.ntmps60
  go_wp2_with fail
  rw [← hW]
  clear hW
  obtain ⟨bx, hbx⟩ : ∃ b, b = w.heap.size := ⟨_, rfl⟩
  have hle : w.heap.size ≤ bx := by omega
  rw [← hbx] at hX hR hsz
  simp only [← hbx]
  clear hbx
  have hRW : Rd2 W (.slice a1 l.length cap1) l := Rd.below h hB
  obtain ⟨c0, c1, c2⟩ := id hX.2.1
  have HCL := Lib.hid (cloneP_any (Rd.below hRW (Below.refl _ _).drew) hl)
  have hWd : Below W.heap.size W W.drew := (Below.refl _ _).drew
  have hXd : BoxW W.drew bx (.int .i64 s) (.int .i64 t) (.slice a1 l.length cap1) := hX
  have hRd : BoxW W.drew (bx + 1) (.int .i64 0) (.int .i64 0) (.slice none 0 0) := hR
  go_region_held3 (fun w' => w'.cell? ⟨bx, 0, none⟩ = some (.int .i64 s) ∧ w'.cell? ⟨bx, 1, none⟩ = some (.int .i64 t) ∧ w'.cell? ⟨bx, 2, none⟩ = some (.slice a1 l.length cap1)) (go_keep)
    ((first
        | (go_at_call 70; (with_reducible refine HCL.out.mono ?_); rintro e w3 ⟨v3, rfl, ho3, hb3⟩; obtain ⟨a3, cap3, rfl⟩ := ownS_slice ho3; have hX3 := hXd.below hb3; have hR3 := hRd.below hb3; obtain ⟨q0, q1, q2⟩ := id hX3.2.1)
        | (go_at_call 64; (with_reducible refine (withpins_any s t a1 a3 l.length cap1 l.length cap3 w3).mono ?_); rintro e w4 ⟨rfl, hb4⟩; have hX4 := hX3.below hb4; have hR4 := hR3.below hb4; have ho4 := ownS_below ho3 hb4; have hb5 := bstep (bstep hB hWd) (bstep hb3 hb4); obtain ⟨r0, r1, r2⟩ := id hX4.2.1; obtain ⟨d0, d1, d2⟩ := id hR4.2.1; have f0 := hR4.2.2 0; have f1 := hR4.2.2 1; have f2 := hR4.2.2 2; have hq := read3 hR4 (.int .i64 s) (.int .i64 t) (.slice a3 l.length cap3); obtain ⟨u0, u1, u2⟩ : _ ∧ _ ∧ _ := ⟨(set3_cell w4 (bx + 1) (.int .i64 s) (.int .i64 t) (.slice a3 l.length cap3) (a := ⟨bx, 0, none⟩) (by show bx + 1 ≠ bx; omega)).trans r0, (set3_cell w4 (bx + 1) (.int .i64 s) (.int .i64 t) (.slice a3 l.length cap3) (a := ⟨bx, 1, none⟩) (by show bx + 1 ≠ bx; omega)).trans r1, (set3_cell w4 (bx + 1) (.int .i64 s) (.int .i64 t) (.slice a3 l.length cap3) (a := ⟨bx, 2, none⟩) (by show bx + 1 ≠ bx; omega)).trans r2⟩)))
  rename_i hHeld
  have ho9 := own_low (wr3_own ho4 (ob_of_lt ho4 (show bx + 1 < W.drew.heap.size by show bx + 1 < W.heap.size; omega)) (.int .i64 s) (.int .i64 t) (.slice a3 l.length cap3)) (show w.heap.size ≤ W.drew.heap.size from hB.size)
  have hb9 := wr3_below hb5 (show w.heap.size ≤ bx + 1 by omega) (.int .i64 s) (.int .i64 t) (.slice a3 l.length cap3)
  clear hHeld
  go_wp2
  exact bodyPost_ret (v := .agg #[.int .i64 s, .int .i64 t, .slice a3 l.length cap3]) (by simp [results, Try.results60, go_sem, hq.1, hq.2.1, hq.2.2]) rfl ⟨_, rfl, ho9, hb9⟩
end Go.Proofs.Ytcbdoldcdgaooaa
