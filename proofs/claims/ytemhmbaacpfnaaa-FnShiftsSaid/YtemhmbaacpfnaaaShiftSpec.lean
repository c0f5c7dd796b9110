/- The contract of the model's ShiftedTracks. No condition. -/
import Derived.Test.YtemhmbaacpfnaaaShiftPure
import Derived.Test.YtemhmbaacpfnaaaBoxKit
import Derived.Deep.AppendLies
namespace Go.Proofs.Ytemhmbaacpfnaaa
open Go.ChangeShapes Go.WideShapes Go.ChangeAt Go.RowKit

/-- A new cylinder and true, or the zero cylinder and false. -/
def NewCylO (w : World) (o : Option Cyl) (e : Ending) (w' : World) : Prop := NewCylB w (outC o).1.1 (outC o).1.2.1 (outC o).1.2.2 (outC o).2 e w'
theorem shift_succ {d h : Int} {l : List (Int × Int)} {k : Nat} {p : Int × Int} (hk : l[k]? = some p) : shiftL d h (l.take (k + 1)) = shiftL d h (l.take k) ++ [shP d h p] := by
  unfold shiftL; rw [List.take_add_one, hk, List.map_append]; rfl
theorem Box.set_other {w : World} {b c : Nat} {s t : Int} {z : Value} (h : Box w c s t z) (hne : b ≠ c) (o : Nat) (u : Value) : Box (w.setCell ⟨b, o, none⟩ u) c s t z :=
  ⟨by rw [size_set]; exact h.1, by rw [World.cell?_setCell_far _ _ _ _ hne]; exact h.2.1, by rw [World.cell?_setCell_far _ _ _ _ hne]; exact h.2.2.1, by rw [World.cell?_setCell_far _ _ _ _ hne]; exact h.2.2.2⟩
/-- A row of pins in a boxed cylinder bo, being filled: beside it the argument bx and the answer bx + 1. -/
def Filling (w : World) (bx bo : Nat) (s t S T : Int) (z : Value) (u : Value) (L : List (Int × Int)) (wr : World) : Prop :=
  wr.ownsRow (bo + 1) 34 2 u L.length (flat2 L) ∧ Below w.heap.size w wr ∧ Box wr bx s t z ∧ BoxW wr (bx + 1) (.int .i64 0) (.int .i64 0) (.slice none 0 0) ∧ BoxW wr bo (.int .i64 S) (.int .i64 T) u
theorem Filling.below {w wr w' : World} {bx bo : Nat} {s t S T : Int} {z u : Value} {L : List (Int × Int)} (h : Filling w bx bo s t S T z u L wr) (hb : Below wr.heap.size wr w') : Filling w bx bo s t S T z u L w' :=
  ⟨ownS_below h.1 hb, bstep h.2.1 hb, h.2.2.1.below hb, h.2.2.2.1.below hb, h.2.2.2.2.below hb⟩
/-- One pin more. -/
theorem Filling.push {w wr W w4 : World} {bx bo : Nat} {s t S T : Int} {z u v' : Value} {L : List (Int × Int)} (h : Filling w bx bo s t S T z u L wr) (hle : w.heap.size ≤ bo) (hx : bx + 1 < bo) (q : Int × Int)
    (hW : Below wr.heap.size wr W) (hown : w4.ownsRow (bo + 1) 34 2 v' (L.length + 1) (flat2 L ++ [.int .i64 q.1, .int .i64 q.2])) (hg : W.grownBy w4 u.ownBlock) :
    Filling w bx bo s t S T z v' (L ++ [q]) (w4.setCell ⟨bo, 2, none⟩ v') ∧ w4.cell? ⟨bo, 2, none⟩ = some u ∧ w4.frozen? ⟨bo, 2, none⟩ = false ∧ Below w.heap.size w w4 ∧ Box w4 bx s t z := by
  have h' := h.below hW
  have ne : ∀ b, b ≤ bo → some b ≠ u.ownBlock := fun b hb e => by have := (h.1.lt b e.symm).1; omega
  have hX := h'.2.2.1.grown hg (ne bx (by omega))
  have hR := h'.2.2.2.1.grown hg (ne (bx + 1) (by omega))
  have hO := h'.2.2.2.2.grown hg (ne bo (Nat.le_refl _))
  have hb := h'.2.1.grown hg h'.2.1.size (fun k hk => by have := (h.1.lt k hk).1; omega)
  have ho : w4.ownsRow (bo + 1) 34 2 v' (L ++ [q]).length (flat2 (L ++ [q])) := by rw [flat2_append, List.length_append]; exact hown
  exact ⟨⟨own_set' ho (ob_of_lt ho (Nat.lt_succ_self bo)), hb.setCell hle _, hX.set_other (by omega) 2 _, box_set_other hR (by omega) 2 _, box_set2 hO _⟩, hO.2.1.2.2, hO.2.2 2, hb, hX⟩
theorem pin_news (W : World) (x y : Int) : ∀ j u, ([.int .i64 x, .int .i64 y] : List Value)[j]? = some u → (W.alloc (.cells #[.int .i64 x, .int .i64 y] 34)).drew.cell? ((⟨W.heap.size, 0, none⟩ : Addr).add j) = some u :=
  World.news_of_block (w := (W.alloc (.cells #[.int .i64 x, .int .i64 y] 34)).drew) (heap_alloc_new W _)

set_option maxHeartbeats 4000000 in
set_option maxRecDepth 100000 in
theorem sshift_any {w : World} {v : Value} (c : Cyl) (d h : Int) (hc : Rd2 w v c.2.2) :
    Calls Try.prog 18 #[.agg #[.int .i64 c.1, .int .i64 c.2.1, v], .int .i64 d, .int .i64 h] w (NewCylO w (shO c d h)) := by
  obtain ⟨s, t, l⟩ := c
  simp only at hc ⊢
  obtain ⟨i0, hi, hz0, hz1, hz2⟩ := info_parts infoPin
  obtain ⟨a1, cap1, rfl⟩ := Rd.slice hc
  have hm := hc.2.1
  unfold maxLen at hm
  obtain ⟨W, hW⟩ : ∃ W, W = (w.alloc (.cells #[.int .i64 s, .int .i64 t, .slice a1 l.length cap1] 26)).alloc (.cells #[.int .i64 0, .int .i64 0, .slice none 0 0] 26) := ⟨_, rfl⟩
  have hb1 : Below (w.alloc (.cells #[.int .i64 s, .int .i64 t, .slice a1 l.length cap1] 26)).heap.size (w.alloc (.cells #[.int .i64 s, .int .i64 t, .slice a1 l.length cap1] 26)) W := by rw [hW]; exact (Below.refl _ _).alloc (Nat.le_refl _) _
  have hX : Box W w.heap.size s t (.slice a1 l.length cap1) := (box_new _ _ _ _ _).below hb1
  have hR : BoxW W (w.heap.size + 1) (.int .i64 0) (.int .i64 0) (.slice none 0 0) := by
    have := boxw_new (w.alloc (.cells #[.int .i64 s, .int .i64 t, .slice a1 l.length cap1] 26)) (.int .i64 0) (.int .i64 0) (.slice none 0 0) 26
    rw [size_alloc, ← hW] at this; exact this
  have hB : Below w.heap.size w W := bstep ((Below.refl _ _).alloc (Nat.le_refl _) _) hb1
  go_enter Try.func18, Try.ntmps18
  go_wp2_with fail
  rw [← hW]
  clear hW hb1
  obtain ⟨bx, hbx⟩ : ∃ b, b = w.heap.size := ⟨_, rfl⟩
  have hle : w.heap.size ≤ bx + 1 := by omega
  rw [← hbx] at hX hR
  simp only [← hbx]
  clear hbx
  by_cases tc : cylB s t l = true
  · have TC := Lib.hid tc
    have CC := Lib.hid (cylB_true.1 tc)
    have hl := (cylB_true.1 tc).2.2.1
    have ht100 := (cylB_true.1 tc).2.1
    clear tc
    refine (cylok_yes (Rd.below hc hB) TC.out).mono ?_
    rintro e w1 ⟨rfl, hb1⟩
    have hX1 := hX.below hb1
    have hR1 := hR.below hb1
    have g1 := bstep hB hb1
    clear hX hR hB hb1
    go_wp2_with fail
    by_cases td : 1 ≤ d ∧ d ≤ 20
    · have es : IntKind.i64.wrap (d - 1) = d - 1 := IntWalk.i64_in _ (by omega)
      refine (in_yes' _ _ _ td _).mono ?_
      rintro e w1 ⟨rfl, rfl⟩
      go_wp2_with fail
      by_cases th : 0 ≤ h ∧ h ≤ d - 1
      · refine (in_yes' _ _ _ th _).mono ?_
        rintro e w1 ⟨rfl, rfl⟩
        obtain ⟨kx, k0, k1, k2⟩ := id hX1
        go_wp2_with fail
        obtain ⟨W3, hW3⟩ : ∃ W3, W3 = w1.alloc (.cells #[.int .i64 s, .int .i64 100, .slice none 0 0] 26) := ⟨_, rfl⟩
        have hb3 : Below w1.heap.size w1 W3 := by rw [hW3]; exact (Below.refl _ _).alloc (Nat.le_refl _) _
        have hO : BoxW W3 w1.heap.size (.int .i64 s) (.int .i64 100) (.slice none 0 0) := by rw [hW3]; exact boxw_new _ _ _ _ _
        rw [← hW3]
        clear hW3 kx k0 k1 k2
        have hX3 := hX1.below hb3
        have hR3 := hR1.below hb3
        have g3 := bstep g1 hb3
        have hsz1 : bx + 1 < w1.heap.size := hR1.1
        have hlo : w.heap.size ≤ w1.heap.size := g1.size
        obtain ⟨bo, hbo⟩ : ∃ b, b = w1.heap.size := ⟨_, rfl⟩
        rw [← hbo] at hO hsz1 hlo
        simp only [← hbo]
        clear hbo hX1 hR1 g1 hb3
        have hF3 : Filling w bx bo s t s 100 (.slice a1 l.length cap1) (.slice none 0 0) [] W3 := ⟨World.ownsRow_nil _ _ _ _, g3, hX3, hR3, hO⟩
        clear g3 hX3 hR3 hO
        go_loopw [9] (fun v9 wr => ∃ (k : Nat) (u : Value), k ≤ l.length ∧ v9 = .int .i64 k ∧ Filling w bx bo s t s 100 (.slice a1 l.length cap1) u (shiftL d h (l.take k)) wr) (fun v9 _ => l.length - (intOf v9).toNat)
        case atStart => exact ⟨0, _, Nat.zero_le _, rfl, hF3⟩
        case round =>
          clear hF3
          obtain ⟨k, u, hk, rfl, hF⟩ := hrel
          obtain ⟨kx, k0, k1, k2⟩ := id hF.2.2.1
          obtain ⟨e0, e1, e2⟩ := id hF.2.2.2.2.2.1
          have ef := hF.2.2.2.2.2.2 2
          have hsl : (shiftL d h (l.take k)).length ≤ 100 := by rw [shift_len, List.length_take]; omega
          by_cases hlt : k < l.length
          · obtain ⟨p, hp⟩ : ∃ p, l[k]? = some p := ⟨_, List.getElem?_eq_getElem hlt⟩
            have HA := Lib.hid (shift_succ (d := d) (h := h) hp)
            have hpb := cyl_bd CC.out (List.mem_of_getElem? hp)
            obtain ⟨b1, o1, cc1, hv1, x0, y0⟩ := Rd2.cells hc hp
            simp only [Value.slice.injEq, true_and] at hv1
            obtain ⟨rfl, rfl⟩ := hv1
            have x1 := old_cell hF.2.1 x0
            have y1 := old_cell hF.2.1 y0
            have hmul1 : 0 ≤ p.1 * d := Int.mul_nonneg hpb.1.1 (by omega)
            have hmul2 : p.1 * d ≤ 99 * 20 := Int.mul_le_mul (by omega) td.2 (by omega) (by omega)
            have ew1 : IntKind.i64.wrap (p.1 * d) = p.1 * d := IntWalk.i64_in _ (by omega)
            have ew2 : IntKind.i64.wrap (p.1 * d + h) = p.1 * d + h := IntWalk.i64_in _ (by omega)
            have hbl : bo + 1 ≤ wr.heap.size := hF.2.2.2.2.1
            clear hp
            obtain ⟨au, cu, rfl⟩ := ownS_slice hF.1
            go_wp2_with fail
            have hown2 := (hF.1.alloc (.cells #[.int .i64 (p.1 * d + h), .int .i64 p.2] 34)).drew
            have hnews := pin_news wr (p.1 * d + h) p.2
            have e2' := old_cell (below_a wr (.cells #[.int .i64 (p.1 * d + h), .int .i64 p.2] 34)) e2
            have hb1w := World.block_lt_of_cell? _ _ x0
            have hn1 : bo ≠ bx := by omega
            have hn2 : bo ≠ b1 := by simp only at hb1w; omega
            have hn3 : bx ≠ bo := by omega
            have hn4 : b1 ≠ bo := by simp only at hb1w; omega
            refine wp_region_held_drew (S := fun w' => w'.cell? ⟨bx, 2, none⟩ = some (.slice (some ⟨b1, o1, none⟩) l.length cap1) ∧ w'.cell? ⟨b1, o1 + k * 2, none⟩ = some (.int .i64 p.1) ∧ w'.cell? ⟨b1, o1 + k * 2 + 1, none⟩ = some (.int .i64 p.2)) (by kernel_rfl) ?_ (fun hHeld => ?_)
            · (try dsimp only); go_keep
            refine wpAnyH_take (i := 0) (oi := { dst := some 36, op := _, type := _, pos := _, after := _, guard := _ }) (v := ?v0) rfl (by kernel_rfl) (by kernel_rfl) (by kernel_rfl) (fun _ _ _ h => h) (Or.inl ⟨by rfl, ?hy0⟩) (by assumption) ?rest0
            case hy0 => ((intro w' hSw; (try dsimp only at hSw); go_simp); try (with_reducible rfl))
            try simp only [Act.put, List.setIfInBounds_toArray, List.set_cons_zero, List.set_cons_succ]
            refine wpAnyH_take (i := 2) (oi := { dst := some 38, op := _, type := _, pos := _, after := _, guard := _ }) (v := ?v2) rfl (by kernel_rfl) (by kernel_rfl) (by kernel_rfl) (fun _ _ _ h => h) (Or.inl ⟨by rfl, ?hy2⟩) (by assumption) ?rest2
            case hy2 => ((intro w' hSw; (try dsimp only at hSw); go_simp); try (with_reducible rfl))
            try simp only [Act.put, List.setIfInBounds_toArray, List.set_cons_zero, List.set_cons_succ]
            refine wpAnyH_take (i := 3) (oi := { dst := some 39, op := _, type := _, pos := _, after := _, guard := _ }) (v := ?v3) rfl (by kernel_rfl) (by kernel_rfl) (by kernel_rfl) (fun _ _ _ h => h) (Or.inl ⟨by rfl, ?hy3⟩) (by assumption) ?rest3
            case hy3 => ((intro w' hSw; (try dsimp only at hSw); go_simp); try (with_reducible rfl))
            try simp only [Act.put, List.setIfInBounds_toArray, List.set_cons_zero, List.set_cons_succ]
            refine wpAnyH_take (i := 4) (oi := { dst := some 40, op := _, type := _, pos := _, after := _, guard := _ }) (v := ?v4) rfl (by kernel_rfl) (by kernel_rfl) (by kernel_rfl) (fun _ _ _ h => h) (Or.inl ⟨by rfl, ?hy4⟩) (by assumption) ?rest4
            case hy4 => ((intro w' hSw; (try dsimp only at hSw); go_simp); try (with_reducible rfl))
            try simp only [Act.put, List.setIfInBounds_toArray, List.set_cons_zero, List.set_cons_succ]
            refine wpAnyH_take (i := 5) (oi := { dst := some 41, op := _, type := _, pos := _, after := _, guard := _ }) (v := ?v5) rfl (by kernel_rfl) (by kernel_rfl) (by kernel_rfl) (fun _ _ _ h => h) (Or.inl ⟨by rfl, ?hy5⟩) (by assumption) ?rest5
            case hy5 => ((intro w' hSw; (try dsimp only at hSw); go_simp); try (with_reducible rfl))
            try simp only [Act.put, List.setIfInBounds_toArray, List.set_cons_zero, List.set_cons_succ]
            refine wpAnyH_take (i := 6) (oi := { dst := some 42, op := _, type := _, pos := _, after := _, guard := _ }) (v := ?v6) rfl (by kernel_rfl) (by kernel_rfl) (by kernel_rfl) (fun _ _ _ h => h) (Or.inl ⟨by rfl, ?hy6⟩) (by assumption) ?rest6
            case hy6 => ((intro w' hSw; (try dsimp only at hSw); go_simp); try (with_reducible rfl))
            try simp only [Act.put, List.setIfInBounds_toArray, List.set_cons_zero, List.set_cons_succ]
            refine wpAnyH_take (i := 7) (oi := { dst := some 43, op := _, type := _, pos := _, after := _, guard := _ }) (v := ?v7) rfl (by kernel_rfl) (by kernel_rfl) (by kernel_rfl) (fun _ _ _ h => h) (Or.inl ⟨by rfl, ?hy7⟩) (by assumption) ?rest7
            case hy7 => ((intro w' hSw; (try dsimp only at hSw); go_simp); try (with_reducible rfl))
            try simp only [Act.put, List.setIfInBounds_toArray, List.set_cons_zero, List.set_cons_succ]
            refine wpAnyH_take (i := 8) (oi := { dst := some 44, op := _, type := _, pos := _, after := _, guard := _ }) (v := ?v8) rfl (by kernel_rfl) (by kernel_rfl) (by kernel_rfl) (fun _ _ _ h => h) (Or.inl ⟨by rfl, ?hy8⟩) (by assumption) ?rest8
            case hy8 => ((intro w' hSw; (try dsimp only at hSw); go_simp); try (with_reducible rfl))
            try simp only [Act.put, List.setIfInBounds_toArray, List.set_cons_zero, List.set_cons_succ]
            refine wpAnyH_take (i := 9) (oi := { dst := some 45, op := _, type := _, pos := _, after := _, guard := _ }) (v := ?v9) rfl (by kernel_rfl) (by kernel_rfl) (by kernel_rfl) (fun _ _ _ h => h) (Or.inl ⟨by rfl, ?hy9⟩) (by assumption) ?rest9
            case hy9 => ((intro w' hSw; (try dsimp only at hSw); go_simp); try (with_reducible rfl))
            try simp only [Act.put, List.setIfInBounds_toArray, List.set_cons_zero, List.set_cons_succ]
            refine wpAnyH_take (i := 10) (oi := { dst := some 46, op := _, type := _, pos := _, after := _, guard := _ }) (v := ?v10) rfl (by kernel_rfl) (by kernel_rfl) (by kernel_rfl) (fun _ _ _ h => h) (Or.inl ⟨by rfl, ?hy10⟩) (by assumption) ?rest10
            case hy10 => ((intro w' hSw; (try dsimp only at hSw); go_simp); try (with_reducible rfl))
            try simp only [Act.put, List.setIfInBounds_toArray, List.set_cons_zero, List.set_cons_succ]
            refine wpAnyH_take (i := 11) (oi := { dst := some 47, op := _, type := _, pos := _, after := _, guard := _ }) (v := ?v11) rfl (by kernel_rfl) (by kernel_rfl) (by kernel_rfl) (fun _ _ _ h => h) (Or.inl ⟨by rfl, ?hy11⟩) (by assumption) ?rest11
            case hy11 => ((intro w' hSw; (try dsimp only at hSw); go_simp); try (with_reducible rfl))
            try simp only [Act.put, List.setIfInBounds_toArray, List.set_cons_zero, List.set_cons_succ]
            refine wpAnyH_take (i := 12) (oi := { dst := some 48, op := _, type := _, pos := _, after := _, guard := _ }) (v := ?v12) rfl (by kernel_rfl) (by kernel_rfl) (by kernel_rfl) (fun _ _ _ h => h) (Or.inl ⟨by rfl, ?hy12⟩) (by assumption) ?rest12
            case hy12 => ((intro w' hSw; (try dsimp only at hSw); go_simp); try (with_reducible rfl))
            try simp only [Act.put, List.setIfInBounds_toArray, List.set_cons_zero, List.set_cons_succ]
            refine wpAnyH_take (i := 13) (oi := { dst := some 49, op := _, type := _, pos := _, after := _, guard := _ }) (v := ?v13) rfl (by kernel_rfl) (by kernel_rfl) (by kernel_rfl) (fun _ _ _ h => h) (Or.inl ⟨by rfl, ?hy13⟩) (by assumption) ?rest13
            case hy13 => ((intro w' hSw; (try dsimp only at hSw); go_simp); try (with_reducible rfl))
            try simp only [Act.put, List.setIfInBounds_toArray, List.set_cons_zero, List.set_cons_succ]
            refine wpAnyH_take (i := 14) (oi := { dst := some 50, op := _, type := _, pos := _, after := _, guard := _ }) (v := ?v14) rfl (by kernel_rfl) (by kernel_rfl) (by kernel_rfl) (fun _ _ _ h => h) (Or.inl ⟨by rfl, ?hy14⟩) (by assumption) ?rest14
            case hy14 => ((intro w' hSw; (try dsimp only at hSw); go_simp); try (with_reducible rfl))
            try simp only [Act.put, List.setIfInBounds_toArray, List.set_cons_zero, List.set_cons_succ]
            refine wpAnyH_take (i := 15) (oi := { dst := some 51, op := _, type := _, pos := _, after := _, guard := _ }) (v := ?v15) rfl (by kernel_rfl) (by kernel_rfl) (by kernel_rfl) (fun _ _ _ h => h) (Or.inl ⟨by rfl, ?hy15⟩) (by assumption) ?rest15
            case hy15 => ((intro w' hSw; (try dsimp only at hSw); go_simp); try (with_reducible rfl))
            try simp only [Act.put, List.setIfInBounds_toArray, List.set_cons_zero, List.set_cons_succ]
            refine wpAnyH_take (i := 16) (oi := { dst := some 52, op := _, type := _, pos := _, after := _, guard := _ }) (v := ?v16) rfl (by kernel_rfl) (by kernel_rfl) (by kernel_rfl) (fun _ _ _ h => h) (Or.inl ⟨by rfl, ?hy16⟩) (by assumption) ?rest16
            case hy16 => ((intro w' hSw; (try dsimp only at hSw); go_simp); try (with_reducible rfl))
            try simp only [Act.put, List.setIfInBounds_toArray, List.set_cons_zero, List.set_cons_succ]
            refine wpAnyH_take (i := 17) (oi := { dst := some 53, op := _, type := _, pos := _, after := _, guard := _ }) (v := ?v17) rfl (by kernel_rfl) (by kernel_rfl) (by kernel_rfl) (fun _ _ _ h => h) (Or.inl ⟨by rfl, ?hy17⟩) (by assumption) ?rest17
            case hy17 => ((intro w' hSw; (try dsimp only at hSw); go_simp); try (with_reducible rfl))
            try simp only [Act.put, List.setIfInBounds_toArray, List.set_cons_zero, List.set_cons_succ]
            refine wpAnyH_take (i := 18) (oi := { dst := some 54, op := _, type := _, pos := _, after := _, guard := _ }) (v := ?v18) rfl (by kernel_rfl) (by kernel_rfl) (by kernel_rfl) (fun _ _ _ h => h) (Or.inl ⟨by rfl, ?hy18⟩) (by assumption) ?rest18
            case hy18 => ((intro w' hSw; (try dsimp only at hSw); go_simp); try (with_reducible rfl))
            try simp only [Act.put, List.setIfInBounds_toArray, List.set_cons_zero, List.set_cons_succ]
            refine wpAnyH_ready (rs := [1, 19]) (by kernel_rfl) (by simp) ?_
            refine AllReadyH.cons rfl (fun K hK => ?_) ?_
            · go_simp
              refine hK.out _ _ ?_ (fun hHeld => ?_)
              · (try dsimp only); go_keep
              clear hK K
              try simp only [Act.put, List.setIfInBounds_toArray, List.set_cons_zero, List.set_cons_succ]
              refine wpAnyH_ready (rs := [19]) (by kernel_rfl) (by simp) ?_
              refine AllReadyH.cons rfl (fun K hK => ?_) ?_
              · go_simp
                refine hK.out _ _ ?_ (fun hHeld => ?_)
                · (try dsimp only); go_keep
                clear hK K
                try simp only [Act.put, List.setIfInBounds_toArray, List.set_cons_zero, List.set_cons_succ]
                refine wpAnyH_ready (rs := [20]) (by kernel_rfl) (by simp) ?_
                refine AllReadyH.cons rfl (fun K hK => ?_) ?_
                · refine step_append_lies _ rfl _ _ 24 rfl (bo + 1) 34 i0 (.agg #[.int .i64 0, .int .i64 0]) 2 16 Try.underlying24 hi hz0 hz1 hz2 rfl (by decide) (.slice au (shiftL d h (l.take k)).length cu) (shiftL d h (l.take k)).length _ rfl hown2 ⟨wr.heap.size, 0, none⟩ 1 1 [.int .i64 (p.1 * d + h), .int .i64 p.2] rfl rfl hnews (by simp [Value.oneCell']) (by decide) (by unfold maxLen; omega) (by omega) (by simp; omega) _ rfl ?_
                  intro g4 c4 w4 hown4 hgrow _ _
                  obtain ⟨hF4, q1, q2, q3, q4, q5, q6, q7⟩ := hF.push hlo hsz1 (shP d h p) (below_a wr _) hown4 hgrow
                  have q8 := old_cell q3 x0
                  have q9 := old_cell q3 y0
                  refine hK.out _ _ ?_ (fun hHeld => ?_)
                  · (try dsimp only); go_keep
                  clear hK K
                  try simp only [Act.put, List.setIfInBounds_toArray, List.set_cons_zero, List.set_cons_succ]
                  refine wpAnyH_ready (rs := [21]) (by kernel_rfl) (by simp) ?_
                  refine AllReadyH.cons rfl (fun K hK => ?_) ?_
                  · go_simp
                    refine hK.out _ _ ?_ (fun hHeld => ?_)
                    · (try dsimp only); go_keep
                    clear hK K
                    try simp only [Act.put, List.setIfInBounds_toArray, List.set_cons_zero, List.set_cons_succ]
                    refine wpAnyH_ready (rs := [22]) (by kernel_rfl) (by simp) ?_
                    refine AllReadyH.cons rfl (fun K hK => ?_) ?_
                    · go_simp
                      refine hK.out _ _ ?_ (fun hHeld => ?_)
                      · (try dsimp only); go_keep
                      clear hK K
                      try simp only [Act.put, List.setIfInBounds_toArray, List.set_cons_zero, List.set_cons_succ]
                      refine wpAnyH_done (by kernel_rfl) ?_ _
                      rw [← HA.out] at hF4
                      clear q1 q2 q3 q4 q5 q6 q7 q8 q9 hown4 hgrow hown2 hnews hF x0 y0 x1 y1 e2' hn1 hn2 hn3 hn4 hb1w
                      go_wp2
                      go_roundw
                      case rel => exact ⟨k + 1, _, by omega, by go_num, hF4⟩
                      case measure => simp [intOf]; omega
                    exact AllReadyH.nil
                  exact AllReadyH.nil
                exact AllReadyH.nil
              exact AllReadyH.nil
            refine AllReadyH.cons rfl (fun K hK => ?_) ?_
            · go_simp
              refine hK.out _ _ ?_ (fun hHeld => ?_)
              · (try dsimp only); go_keep
              clear hK K
              try simp only [Act.put, List.setIfInBounds_toArray, List.set_cons_zero, List.set_cons_succ]
              refine wpAnyH_ready (rs := [1]) (by kernel_rfl) (by simp) ?_
              refine AllReadyH.cons rfl (fun K hK => ?_) ?_
              · go_simp
                refine hK.out _ _ ?_ (fun hHeld => ?_)
                · (try dsimp only); go_keep
                clear hK K
                try simp only [Act.put, List.setIfInBounds_toArray, List.set_cons_zero, List.set_cons_succ]
                refine wpAnyH_ready (rs := [20]) (by kernel_rfl) (by simp) ?_
                refine AllReadyH.cons rfl (fun K hK => ?_) ?_
                · refine step_append_lies _ rfl _ _ 24 rfl (bo + 1) 34 i0 (.agg #[.int .i64 0, .int .i64 0]) 2 16 Try.underlying24 hi hz0 hz1 hz2 rfl (by decide) (.slice au (shiftL d h (l.take k)).length cu) (shiftL d h (l.take k)).length _ rfl hown2 ⟨wr.heap.size, 0, none⟩ 1 1 [.int .i64 (p.1 * d + h), .int .i64 p.2] rfl rfl hnews (by simp [Value.oneCell']) (by decide) (by unfold maxLen; omega) (by omega) (by simp; omega) _ rfl ?_
                  intro g4 c4 w4 hown4 hgrow _ _
                  obtain ⟨hF4, q1, q2, q3, q4, q5, q6, q7⟩ := hF.push hlo hsz1 (shP d h p) (below_a wr _) hown4 hgrow
                  have q8 := old_cell q3 x0
                  have q9 := old_cell q3 y0
                  refine hK.out _ _ ?_ (fun hHeld => ?_)
                  · (try dsimp only); go_keep
                  clear hK K
                  try simp only [Act.put, List.setIfInBounds_toArray, List.set_cons_zero, List.set_cons_succ]
                  refine wpAnyH_ready (rs := [21]) (by kernel_rfl) (by simp) ?_
                  refine AllReadyH.cons rfl (fun K hK => ?_) ?_
                  · go_simp
                    refine hK.out _ _ ?_ (fun hHeld => ?_)
                    · (try dsimp only); go_keep
                    clear hK K
                    try simp only [Act.put, List.setIfInBounds_toArray, List.set_cons_zero, List.set_cons_succ]
                    refine wpAnyH_ready (rs := [22]) (by kernel_rfl) (by simp) ?_
                    refine AllReadyH.cons rfl (fun K hK => ?_) ?_
                    · go_simp
                      refine hK.out _ _ ?_ (fun hHeld => ?_)
                      · (try dsimp only); go_keep
                      clear hK K
                      try simp only [Act.put, List.setIfInBounds_toArray, List.set_cons_zero, List.set_cons_succ]
                      refine wpAnyH_done (by kernel_rfl) ?_ _
                      rw [← HA.out] at hF4
                      clear q1 q2 q3 q4 q5 q6 q7 q8 q9 hown4 hgrow hown2 hnews hF x0 y0 x1 y1 e2' hn1 hn2 hn3 hn4 hb1w
                      go_wp2
                      go_roundw
                      case rel => exact ⟨k + 1, _, by omega, by go_num, hF4⟩
                      case measure => simp [intOf]; omega
                    exact AllReadyH.nil
                  exact AllReadyH.nil
                exact AllReadyH.nil
              exact AllReadyH.nil
            exact AllReadyH.nil
          · obtain rfl : k = l.length := by omega
            rw [List.take_length] at hF hsl
            have HY := Lib.hid (fun k4 => shO_yes (c := (s, t, l)) TC.out td th k4)
            have HN := Lib.hid (fun k4 => shO_no (c := (s, t, l)) (d := d) (h := h) k4)
            simp only at HY HN
            generalize shiftL d h l = M at *
            obtain ⟨hown, hbr, hX, hR, hO⟩ := hF
            obtain ⟨au, cu, rfl⟩ := ownS_slice hown
            go_wp2_with fail
            by_cases t3 : cylB s 100 M = true
            · have HM := Lib.hid (HY.out t3)
              refine (cylok_yes (Rd.of_own hown) t3).mono ?_
              rintro e w6 ⟨rfl, hb6⟩
              have hR6 := hR.below hb6
              have hO6 := hO.below hb6
              have g6 := bstep hbr hb6
              have ho6 := ownS_below hown hb6
              obtain ⟨d0, d1, d2⟩ := id hR6.2.1
              obtain ⟨j0, j1, j2⟩ := id hO6.2.1
              have f0 := hR6.2.2 0
              have f1 := hR6.2.2 1
              have f2 := hR6.2.2 2
              have hq := read3 hR6 (.int .i64 s) (.int .i64 100) (.slice au M.length cu)
              have ho7 := own_low (wr3_own ho6 (ob_of_lt ho6 (show bx + 1 < bo + 1 by omega)) (.int .i64 s) (.int .i64 100) (.slice au M.length cu)) (show w.heap.size ≤ bo + 1 by omega)
              have hb7 := wr3_below g6 hle (.int .i64 s) (.int .i64 100) (.slice au M.length cu)
              clear hb6 hX hR hO hbr hown ho6 kx k0 k1 k2 e0 e1 e2 ef t3 HY HN
              go_wp2
              refine bodyPost_ret (v := .tuple #[.agg #[.int .i64 s, .int .i64 100, .slice au M.length cu], .bool true]) (by simp [results, Try.results18, go_sem, hq.1, hq.2.1, hq.2.2]) rfl ?_
              rw [HM.out]
              exact ⟨_, rfl, ho7, hb7⟩
            · have HM := Lib.hid (HN.out fun k2 => t3 k2.2.2.2)
              refine (cylok_no (Rd.of_own hown) (by simpa using t3)).mono ?_
              rintro e w6 ⟨rfl, hb6⟩
              have hR6 := hR.below hb6
              have g6 := bstep hbr hb6
              clear hb6 hX hR hO hbr hown kx k0 k1 k2 e0 e1 e2 ef t3 HY HN
              obtain ⟨d0, d1, d2⟩ := id hR6.2.1
              have f0 := hR6.2.2 0
              have f1 := hR6.2.2 1
              have f2 := hR6.2.2 2
              have hq := read3 hR6 (.int .i64 0) (.int .i64 0) (.slice none 0 0)
              have hb9 := wr3_below g6 hle (.int .i64 0) (.int .i64 0) (.slice none 0 0)
              clear g6
              go_wp2
              refine bodyPost_ret (v := .tuple #[.agg #[.int .i64 0, .int .i64 0, .slice none 0 0], .bool false]) (by simp [results, Try.results18, go_sem, hq.1, hq.2.1, hq.2.2]) rfl ?_
              rw [HM.out]
              exact ⟨_, rfl, World.ownsRow_nil _ _ _ _, hb9⟩
      · have HM := Lib.hid (shO_no (c := (s, t, l)) (d := d) (h := h) fun k => th k.2.2.1)
        refine (in_no _ _ _ th _).mono ?_
        rintro e w1 ⟨rfl, rfl⟩
        clear hX1
        obtain ⟨d0, d1, d2⟩ := id hR1.2.1
        have f0 := hR1.2.2 0
        have f1 := hR1.2.2 1
        have f2 := hR1.2.2 2
        have hq := read3 hR1 (.int .i64 0) (.int .i64 0) (.slice none 0 0)
        have hb9 := wr3_below g1 hle (.int .i64 0) (.int .i64 0) (.slice none 0 0)
        clear g1
        go_wp2
        refine bodyPost_ret (v := .tuple #[.agg #[.int .i64 0, .int .i64 0, .slice none 0 0], .bool false]) (by simp [results, Try.results18, go_sem, hq.1, hq.2.1, hq.2.2]) rfl ?_
        rw [HM.out]
        exact ⟨_, rfl, World.ownsRow_nil _ _ _ _, hb9⟩
    · have HM := Lib.hid (shO_no (c := (s, t, l)) (d := d) (h := h) fun k => td k.2.1)
      refine (in_no _ _ _ td _).mono ?_
      rintro e w1 ⟨rfl, rfl⟩
      clear hX1
      obtain ⟨d0, d1, d2⟩ := id hR1.2.1
      have f0 := hR1.2.2 0
      have f1 := hR1.2.2 1
      have f2 := hR1.2.2 2
      have hq := read3 hR1 (.int .i64 0) (.int .i64 0) (.slice none 0 0)
      have hb9 := wr3_below g1 hle (.int .i64 0) (.int .i64 0) (.slice none 0 0)
      clear g1
      go_wp2
      refine bodyPost_ret (v := .tuple #[.agg #[.int .i64 0, .int .i64 0, .slice none 0 0], .bool false]) (by simp [results, Try.results18, go_sem, hq.1, hq.2.1, hq.2.2]) rfl ?_
      rw [HM.out]
      exact ⟨_, rfl, World.ownsRow_nil _ _ _ _, hb9⟩
  · have TC := Lib.hid (show cylB s t l = false by simpa using tc)
    have HM := Lib.hid (shO_no (c := (s, t, l)) (d := d) (h := h) fun k => tc k.1)
    refine (cylok_no (Rd.below hc hB) TC.out).mono ?_
    rintro e w1 ⟨rfl, hb1⟩
    have hR1 := hR.below hb1
    have g1 := bstep hB hb1
    clear hX hR hB hb1 tc
    obtain ⟨d0, d1, d2⟩ := id hR1.2.1
    have f0 := hR1.2.2 0
    have f1 := hR1.2.2 1
    have f2 := hR1.2.2 2
    have hq := read3 hR1 (.int .i64 0) (.int .i64 0) (.slice none 0 0)
    have hb9 := wr3_below g1 hle (.int .i64 0) (.int .i64 0) (.slice none 0 0)
    clear g1
    go_wp2
    refine bodyPost_ret (v := .tuple #[.agg #[.int .i64 0, .int .i64 0, .slice none 0 0], .bool false]) (by simp [results, Try.results18, go_sem, hq.1, hq.2.1, hq.2.2]) rfl ?_
    rw [HM.out]
    exact ⟨_, rfl, World.ownsRow_nil _ _ _ _, hb9⟩
end Go.Proofs.Ytemhmbaacpfnaaa
