/- The contracts of chapter 6's model: l06Less, l06Mod, CylinderOk. No condition. -/
import Derived.Test.YtcbdoldcdgaooaaPinMath
import Derived.Test.YtcbdoldcdgaooaaCylOps
import Derived.Test.YtcbdoldcdgaooaaCmp
namespace Go.Proofs.Ytcbdoldcdgaooaa
open Go.ChangeShapes Go.WideShapes Go.ChangeAt Go.RowKit

theorem gr_refl (w : World) : Gr w w := gr_of_below (Below.refl _ _) (Nat.le_refl _)
theorem ing_yes (x lo hi : Int) (h : lo ≤ x ∧ x ≤ hi) (w : World) :
    Calls Try.prog 90 #[.int .i64 x, .int .i64 lo, .int .i64 hi] w fun e w' => e = .returned (.bool true) ∧ Gr w w' := (in_yes x lo hi h w).mono fun _ _ ⟨he, hw⟩ => ⟨he, hw ▸ gr_refl w⟩
theorem ing_no (x lo hi : Int) (h : ¬ (lo ≤ x ∧ x ≤ hi)) (w : World) :
    Calls Try.prog 90 #[.int .i64 x, .int .i64 lo, .int .i64 hi] w fun e w' => e = .returned (.bool false) ∧ Gr w w' := (in_no x lo hi h w).mono fun _ _ ⟨he, hw⟩ => ⟨he, hw ▸ gr_refl w⟩

theorem pless_any (p q : Int × Int) (w : World) :
    Calls Try.prog 116 #[.agg #[.int .i64 p.1, .int .i64 p.2], .agg #[.int .i64 q.1, .int .i64 q.2]] w fun e w' => e = .returned (.bool (pless p q)) ∧ Gr w w' := by
  obtain ⟨a, b⟩ := p
  obtain ⟨c, d⟩ := q
  have hb : ∀ x y : Obj, Gr w ((w.alloc x).alloc y) := fun x y => gr_of_below (((Below.refl _ _).alloc (Nat.le_refl _) _).alloc (by simp) _) (Nat.le_refl _)
  have HB := Lib.hid hb; clear hb
  by_cases h1 : b < d
  · have HE := Lib.hid (show pless (a, b) (c, d) = true from pless_iff.2 (Or.inl h1))
    go_enter Try.func116, Try.ntmps116
    go_wp2
    go_ret
    exact ⟨by rw [HE.out]; rfl, HB.out _ _⟩
  · by_cases h2 : b = d
    · subst h2
      by_cases h3 : a < c
      · have HE := Lib.hid (show pless (a, b) (c, b) = true from pless_iff.2 (Or.inr ⟨rfl, h3⟩))
        go_enter Try.func116, Try.ntmps116
        go_wp2
        go_ret
        exact ⟨by rw [HE.out]; rfl, HB.out _ _⟩
      · have HE := Lib.hid (show pless (a, b) (c, b) = false by rw [← Bool.not_eq_true, pless_iff]; simp only; omega)
        go_enter Try.func116, Try.ntmps116
        go_wp2
        go_ret
        exact ⟨by rw [HE.out]; rfl, HB.out _ _⟩
    · have HE := Lib.hid (show pless (a, b) (c, d) = false by rw [← Bool.not_eq_true, pless_iff]; simp only; omega)
      have h2' : (b == d) = false := by simpa using h2
      go_enter Try.func116, Try.ntmps116
      go_wp2
      go_ret
      exact ⟨by rw [HE.out]; rfl, HB.out _ _⟩
theorem pless_yes {p q : Int × Int} (h : pless p q = true) (w : World) :
    Calls Try.prog 116 #[.agg #[.int .i64 p.1, .int .i64 p.2], .agg #[.int .i64 q.1, .int .i64 q.2]] w fun e w' => e = .returned (.bool true) ∧ Gr w w' :=
  (pless_any p q w).mono fun _ _ ⟨he, hb⟩ => ⟨by rw [he, h], hb⟩
theorem pless_no {p q : Int × Int} (h : pless p q = false) (w : World) :
    Calls Try.prog 116 #[.agg #[.int .i64 p.1, .int .i64 p.2], .agg #[.int .i64 q.1, .int .i64 q.2]] w fun e w' => e = .returned (.bool false) ∧ Gr w w' :=
  (pless_any p q w).mono fun _ _ ⟨he, hb⟩ => ⟨by rw [he, h], hb⟩

theorem tmod_fix {a n : Int} (h : 0 < n) : ((a.tmod n + n).tmod n) = a % n := by
  have h0 : 0 ≤ a.tmod n + n := by
    have h1 := Int.lt_tmod_of_pos a h
    omega
  rw [Int.tmod_eq_emod_of_nonneg h0, Int.add_emod_right]
  conv => rhs; rw [← Int.tmod_add_mul_tdiv a n, Int.add_mul_emod_self_left]
/-- A boxed cylinder: its cells in a world, and in what grows out of it. -/
def Box (w : World) (b : Nat) (s t : Int) (u : Value) : Prop := b < w.heap.size ∧ w.cell? ⟨b, 0, none⟩ = some (.int .i64 s) ∧ w.cell? ⟨b, 1, none⟩ = some (.int .i64 t) ∧ w.cell? ⟨b, 2, none⟩ = some u
theorem box_new (w : World) (s t : Int) (u : Value) (ty : TypeId) : Box (w.alloc (.cells #[.int .i64 s, .int .i64 t, u] ty)) w.heap.size s t u := ⟨by simp, cell0 _ _ _ _, cell0 _ _ _ _, cell0 _ _ _ _⟩
theorem Box.below {w w' : World} {b : Nat} {s t : Int} {u : Value} (h : Box w b s t u) (hb : Below w.heap.size w w') : Box w' b s t u := ⟨Nat.lt_of_lt_of_le h.1 hb.size, old_cell hb h.2.1, old_cell hb h.2.2.1, old_cell hb h.2.2.2⟩

set_option maxHeartbeats 4000000 in
theorem cylok_any {w : World} {v : Value} {l : List (Int × Int)} (s t : Int) (h : Rd2 w v l) :
    Calls Try.prog 75 #[.agg #[.int .i64 s, .int .i64 t, v]] w fun e w' => e = .returned (.bool (cylB s t l)) ∧ Below w.heap.size w w' := by
  obtain ⟨a1, cap1, rfl⟩ := Rd.slice h
  have hm := h.2.1
  unfold maxLen at hm
  obtain ⟨hbx, hB0⟩ : (∀ ty, Box (w.alloc (.cells #[.int .i64 s, .int .i64 t, .slice a1 l.length cap1] ty)) w.heap.size s t (.slice a1 l.length cap1)) ∧ (∀ o, Below w.heap.size w (w.alloc o)) := ⟨fun _ => box_new _ _ _ _ _, fun o => (Below.refl _ _).alloc (Nat.le_refl _) _⟩
  by_cases hs : 4 ≤ s ∧ s ≤ 96
  · by_cases ht : 1 ≤ t ∧ t ≤ 100
    · by_cases hl : l.length ≤ 100
      · have hl100 : decide ((100 : Int) < (l.length : Int)) = false := decide_eq_false (by omega)
        have es : IntKind.i64.wrap (s - 1) = s - 1 := IntWalk.i64_in _ (by omega)
        have et : IntKind.i64.wrap (t - 1) = t - 1 := IntWalk.i64_in _ (by omega)
        go_enter Try.func75, Try.ntmps75
        go_wp2_with fail
        refine (in_yes' _ _ _ hs _).mono ?_
        rintro e w1 ⟨rfl, rfl⟩
        go_wp2_with fail
        refine (in_yes' _ _ _ ht _).mono ?_
        rintro e w1 ⟨rfl, rfl⟩
        go_wp2_with fail
        obtain ⟨W, hW⟩ : ∃ W, W = w.alloc (.cells #[.int .i64 s, .int .i64 t, .slice a1 l.length cap1] 26) := ⟨_, rfl⟩
        have hBW := hbx 26
        have hb0 := hB0 (.cells #[.int .i64 s, .int .i64 t, .slice a1 l.length cap1] 26)
        rw [← hW] at hBW hb0 ⊢
        clear hW hbx hB0
        go_loopw [3] (fun v3 wr => ∃ j : Nat, j ≤ l.length ∧ v3 = .int .i64 j ∧ Below W.heap.size W wr ∧ Hid (∀ k p, k < j → l[k]? = some p → PinOk s t l k p)) (fun v3 _ => l.length - (intOf v3).toNat)
        case atStart => exact ⟨0, Nat.zero_le _, rfl, Below.refl _ _, Lib.hid fun k p hk => by omega⟩
        case round =>
          obtain ⟨j, hj, rfl, hbr, HA⟩ := hrel
          have hwr := bstep hb0 hbr
          obtain ⟨kx, k0, k1, k2⟩ := hBW.below hbr
          by_cases hlt : j < l.length
          · obtain ⟨p, hp⟩ : ∃ p, l[j]? = some p := ⟨_, List.getElem?_eq_getElem hlt⟩
            have HP := Lib.hid hp
            obtain ⟨b1, o1, c1, hv1, x1, y1⟩ := Rd2.cells (Rd.below h hwr) hp
            simp only [Value.slice.injEq, true_and] at hv1
            obtain ⟨rfl, rfl⟩ := hv1
            clear hp
            go_wp2_with fail
            obtain ⟨V, hV⟩ : ∃ V, V = wr.alloc (.cells #[.int .i64 p.1, .int .i64 p.2] 32) := ⟨_, rfl⟩
            have hbV : Below wr.heap.size wr V := by rw [hV]; exact (Below.refl _ _).alloc (Nat.le_refl _) _
            have z0 : V.cell? ⟨wr.heap.size, 0, none⟩ = some (.int .i64 p.1) := by rw [hV]; exact cell0 _ _ _ _
            have z1 : V.cell? ⟨wr.heap.size, 1, none⟩ = some (.int .i64 p.2) := by rw [hV]; exact cell0 _ _ _ _
            rw [← hV]
            clear hV
            have hwV := bstep hwr hbV
            have hkV := bstep hbr hbV
            have m0 := fun n os => cell_grown (World.block_lt_of_cell? _ _ (old_cell hbV k0)) (old_cell hbV k0) n os
            have m1 := fun n os => cell_grown (World.block_lt_of_cell? _ _ (old_cell hbV k1)) (old_cell hbV k1) n os
            have m2 := fun n os => cell_grown (World.block_lt_of_cell? _ _ (old_cell hbV k2)) (old_cell hbV k2) n os
            have q0 := fun n os => cell_grown (World.block_lt_of_cell? _ _ z0) z0 n os
            have q1 := fun n os => cell_grown (World.block_lt_of_cell? _ _ z1) z1 n os
            clear z0 z1 kx k0 k1 k2 x1 y1 hbV hbr hwr
            by_cases r1 : 0 ≤ p.1 ∧ p.1 ≤ t - 1
            · have r1w : 0 ≤ p.1 ∧ p.1 ≤ IntKind.i64.wrap (t - 1) := by rw [et]; exact r1
              by_cases r2 : 0 ≤ p.2 ∧ p.2 ≤ s - 1
              · have r2w : 0 ≤ p.2 ∧ p.2 ≤ IntKind.i64.wrap (s - 1) := by rw [es]; exact r2
                by_cases hj0 : 0 < j
                · obtain ⟨q, hq⟩ : ∃ q, l[j - 1]? = some q := ⟨_, List.getElem?_eq_getElem (by omega)⟩
                  have HQ := Lib.hid hq
                  obtain ⟨b2, o2, c2, hv2, x2, y2⟩ := Rd2.cells (Rd.below h hwV) hq
                  simp only [Value.slice.injEq, true_and, Option.some.injEq, Addr.mk.injEq, and_true] at hv2
                  obtain ⟨⟨rfl, rfl⟩, rfl⟩ := hv2
                  clear hq
                  have x3 := fun n os => cell_grown (World.block_lt_of_cell? _ _ x2) x2 n os
                  have y3 := fun n os => cell_grown (World.block_lt_of_cell? _ _ y2) y2 n os
                  have hj1 : (0 : Int) ≤ (j : Int) - 1 := by omega
                  have hj2 : (1 : Int) ≤ (j : Int) := by omega
                  have hj3 : (j : Int) - 1 < (l.length : Int) := by omega
                  have hj4 : 1 ≤ j := by omega
                  have ej1 : IntKind.i64.wrap ((j : Int) - 1) = (j : Int) - 1 := IntWalk.i64_in _ (by omega)
                  have ej2 : ((j : Int) - 1).toNat = j - 1 := by omega
                  clear x2 y2
                  by_cases hls : pless q p = true
                  · have HN : Hid (∀ k p, k < j + 1 → l[k]? = some p → PinOk s t l k p) := Lib.hid fun k r hk hr => by
                      by_cases hkj : k < j
                      · exact HA.out k r hkj hr
                      · obtain rfl : k = j := by omega
                        have := HP.out; rw [this] at hr
                        obtain rfl := Option.some.inj hr
                        exact ⟨r1, r2, fun i t hi ht => by
                          obtain rfl : i = k - 1 := by omega
                          have := HQ.out; rw [this] at ht
                          obtain rfl := Option.some.inj ht
                          exact hls⟩
                    have HLS := Lib.hid hls; clear hls
                    refine wp_region_quiet_grown (by kernel_rfl) (by kernel_rfl) ?_
                    repeat (go_big_quiet_step ((first | (go_at_call 90; first | (refine grown_gr (v := .bool true) ?_; with_reducible exact ing_yes _ _ _ r1w _) | (refine grown_gr (v := .bool true) ?_; with_reducible exact ing_yes _ _ _ r1 _) | (refine grown_gr (v := .bool true) ?_; with_reducible exact ing_yes _ _ _ r2w _) | (refine grown_gr (v := .bool true) ?_; with_reducible exact ing_yes _ _ _ r2 _)) | (go_at_call 116; first | (refine grown_gr (v := .bool true) ?_; with_reducible exact pless_yes HLS.out _)))))
                    refine wpQuiet_nil ?_
                    intro _ hw'
                    obtain ⟨⟨nq, osq⟩, hw''⟩ := hw'
                    subst hw''
                    have hbe := bstep hkV (Gr.below ⟨nq, osq, rfl⟩ : Below V.heap.size V (Sort.grow (V.drewN nq) osq))
                    generalize Sort.grow (V.drewN nq) osq = W2 at *
                    clear q0 q1 m0 m1 m2 x3 y3 hj1 hj2 hj3 ej1 ej2
                    go_wp2
                    go_roundw
                    case rel => exact ⟨j + 1, by omega, by go_num, hbe, HN⟩
                    case measure => simp [intOf]; omega
                  · have HB := Lib.hid (cylB_false.2 fun hc : CylP s t l => hls ((hc.2.2.2 _ _ HP.out).2.2 (j - 1) q (by omega) HQ.out))
                    have HLS := Lib.hid (show pless q p = false by simpa using hls); clear hls
                    refine wp_region_quiet_grown (by kernel_rfl) (by kernel_rfl) ?_
                    repeat (go_big_quiet_step ((first | (go_at_call 90; first | (refine grown_gr (v := .bool true) ?_; with_reducible exact ing_yes _ _ _ r1w _) | (refine grown_gr (v := .bool true) ?_; with_reducible exact ing_yes _ _ _ r1 _) | (refine grown_gr (v := .bool true) ?_; with_reducible exact ing_yes _ _ _ r2w _) | (refine grown_gr (v := .bool true) ?_; with_reducible exact ing_yes _ _ _ r2 _)) | (go_at_call 116; first | (refine grown_gr (v := .bool false) ?_; with_reducible exact pless_no HLS.out _)))))
                    refine wpQuiet_nil ?_
                    intro _ hw'
                    obtain ⟨⟨nq, osq⟩, hw''⟩ := hw'
                    subst hw''
                    have hbe := bstep hkV (Gr.below ⟨nq, osq, rfl⟩ : Below V.heap.size V (Sort.grow (V.drewN nq) osq))
                    generalize Sort.grow (V.drewN nq) osq = W2 at *
                    clear q0 q1 m0 m1 m2 x3 y3 hj1 hj2 hj3 ej1 ej2
                    go_wp2
                    go_ret
                    exact ⟨by rw [HB.out]; rfl, bstep hb0 hbe⟩
                · have HN : Hid (∀ k p, k < j + 1 → l[k]? = some p → PinOk s t l k p) := Lib.hid fun k q hk hq => by
                    obtain rfl : k = j := by omega
                    have := HP.out; rw [this] at hq
                    obtain rfl := Option.some.inj hq
                    exact ⟨r1, r2, fun i q h => by omega⟩
                  have hj1 : decide (0 < j) = false := decide_eq_false hj0
                  refine wp_region_quiet_grown (by kernel_rfl) (by kernel_rfl) ?_
                  repeat (go_big_quiet_step ((first | (go_at_call 90; first | (refine grown_gr (v := .bool true) ?_; with_reducible exact ing_yes _ _ _ r1w _) | (refine grown_gr (v := .bool true) ?_; with_reducible exact ing_yes _ _ _ r1 _) | (refine grown_gr (v := .bool true) ?_; with_reducible exact ing_yes _ _ _ r2w _) | (refine grown_gr (v := .bool true) ?_; with_reducible exact ing_yes _ _ _ r2 _)))))
                  refine wpQuiet_nil ?_
                  intro _ hw'
                  obtain ⟨⟨nq, osq⟩, hw''⟩ := hw'
                  subst hw''
                  have hbe := bstep hkV (Gr.below ⟨nq, osq, rfl⟩ : Below V.heap.size V (Sort.grow (V.drewN nq) osq))
                  generalize Sort.grow (V.drewN nq) osq = W2 at *
                  clear q0 q1 m0 m1 m2
                  go_wp2
                  go_roundw
                  case rel => exact ⟨j + 1, by omega, by go_num, hbe, HN⟩
                  case measure => simp [intOf]; omega
              · have r2w : ¬ (0 ≤ p.2 ∧ p.2 ≤ IntKind.i64.wrap (s - 1)) := by rw [es]; exact r2
                have HB := Lib.hid (cylB_false.2 fun hc : CylP s t l => r2 (hc.2.2.2 _ _ HP.out).2.1)
                refine wp_region_quiet_grown (by kernel_rfl) (by kernel_rfl) ?_
                repeat (go_big_quiet_step ((first | (go_at_call 90; first | (refine grown_gr (v := .bool true) ?_; with_reducible exact ing_yes _ _ _ r1w _) | (refine grown_gr (v := .bool true) ?_; with_reducible exact ing_yes _ _ _ r1 _) | (refine grown_gr (v := .bool false) ?_; with_reducible exact ing_no _ _ _ r2w _) | (refine grown_gr (v := .bool false) ?_; with_reducible exact ing_no _ _ _ r2 _)))))
                refine wpQuiet_nil ?_
                intro _ hw'
                obtain ⟨⟨nq, osq⟩, hw''⟩ := hw'
                subst hw''
                have hbe := bstep hkV (Gr.below ⟨nq, osq, rfl⟩ : Below V.heap.size V (Sort.grow (V.drewN nq) osq))
                generalize Sort.grow (V.drewN nq) osq = W2 at *
                clear q0 q1 m0 m1 m2
                go_wp2
                go_ret
                exact ⟨by rw [HB.out]; rfl, bstep hb0 hbe⟩
            · have r1w : ¬ (0 ≤ p.1 ∧ p.1 ≤ IntKind.i64.wrap (t - 1)) := by rw [et]; exact r1
              have HB := Lib.hid (cylB_false.2 fun hc : CylP s t l => r1 (hc.2.2.2 _ _ HP.out).1)
              refine wp_region_quiet_grown (by kernel_rfl) (by kernel_rfl) ?_
              repeat (go_big_quiet_step ((first | (go_at_call 90; first | (refine grown_gr (v := .bool false) ?_; with_reducible exact ing_no _ _ _ r1w _) | (refine grown_gr (v := .bool false) ?_; with_reducible exact ing_no _ _ _ r1 _)))))
              refine wpQuiet_nil ?_
              intro _ hw'
              obtain ⟨⟨nq, osq⟩, hw''⟩ := hw'
              subst hw''
              have hbe := bstep hkV (Gr.below ⟨nq, osq, rfl⟩ : Below V.heap.size V (Sort.grow (V.drewN nq) osq))
              generalize Sort.grow (V.drewN nq) osq = W2 at *
              clear q0 q1 m0 m1 m2
              go_wp2
              go_ret
              exact ⟨by rw [HB.out]; rfl, bstep hb0 hbe⟩
          · obtain rfl : j = l.length := by omega
            have HT := Lib.hid (cylB_true.2 (show CylP s t l from ⟨hs, ht, hl, fun k p hk => HA.out k p (List.getElem?_eq_some_iff.1 hk).1 hk⟩))
            go_wp2
            go_ret
            exact ⟨by rw [HT.out]; rfl, hwr⟩
      · have hl100 : decide ((100 : Int) < (l.length : Int)) = true := decide_eq_true (by omega)
        have HB := Lib.hid (cylB_false.2 fun hc : CylP s t l => hl hc.2.2.1)
        go_enter Try.func75, Try.ntmps75
        go_wp2_with fail
        refine (in_yes' _ _ _ hs _).mono ?_
        rintro e w1 ⟨rfl, rfl⟩
        go_wp2_with fail
        refine (in_yes' _ _ _ ht _).mono ?_
        rintro e w1 ⟨rfl, rfl⟩
        go_wp2
        go_ret
        exact ⟨by rw [HB.out]; rfl, hB0 _⟩
    · have HB := Lib.hid (cylB_false.2 fun hc : CylP s t l => ht hc.2.1)
      go_enter Try.func75, Try.ntmps75
      go_wp2_with fail
      refine (in_yes' _ _ _ hs _).mono ?_
      rintro e w1 ⟨rfl, rfl⟩
      go_wp2_with fail
      refine (in_no' _ _ _ ht _).mono ?_
      rintro e w1 ⟨rfl, rfl⟩
      go_wp2
      go_ret
      exact ⟨by rw [HB.out]; rfl, hB0 _⟩
  · have HB := Lib.hid (cylB_false.2 fun hc : CylP s t l => hs hc.1)
    go_enter Try.func75, Try.ntmps75
    go_wp2_with fail
    refine (in_no' _ _ _ hs _).mono ?_
    rintro e w1 ⟨rfl, rfl⟩
    go_wp2
    go_ret
    exact ⟨by rw [HB.out]; rfl, hB0 _⟩
theorem cylok_yes {w : World} {v : Value} {l : List (Int × Int)} {s t : Int} (h : Rd2 w v l) (hc : cylB s t l = true) :
    Calls Try.prog 75 #[.agg #[.int .i64 s, .int .i64 t, v]] w fun e w' => e = .returned (.bool true) ∧ Below w.heap.size w w' :=
  (cylok_any s t h).mono fun _ _ ⟨he, hb⟩ => ⟨by rw [he, hc], hb⟩
theorem cylok_no {w : World} {v : Value} {l : List (Int × Int)} {s t : Int} (h : Rd2 w v l) (hc : cylB s t l = false) :
    Calls Try.prog 75 #[.agg #[.int .i64 s, .int .i64 t, v]] w fun e w' => e = .returned (.bool false) ∧ Below w.heap.size w w' :=
  (cylok_any s t h).mono fun _ _ ⟨he, hb⟩ => ⟨by rw [he, hc], hb⟩
end Go.Proofs.Ytcbdoldcdgaooaa
