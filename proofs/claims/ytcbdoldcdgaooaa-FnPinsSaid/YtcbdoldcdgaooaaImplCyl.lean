/- The program's own cylinders: sizeOk, hasPlace, pinsOk, CylinderOk, turnOk, around. No condition. -/
import Derived.Test.YtcbdoldcdgaooaaPinCmp
import Derived.Test.YtcbdoldcdgaooaaBoxKit
namespace Go.Proofs.Ytcbdoldcdgaooaa
open Go.ChangeShapes Go.WideShapes Go.ChangeAt Go.RowKit

def szB (s t : Int) : Bool := decide ((4 ≤ s ∧ s ≤ 96) ∧ (1 ≤ t ∧ t ≤ 100))
theorem szB_true {s t : Int} : szB s t = true ↔ ((4 ≤ s ∧ s ≤ 96) ∧ (1 ≤ t ∧ t ≤ 100)) := by unfold szB; simp
theorem szB_false {s t : Int} : szB s t = false ↔ ¬ ((4 ≤ s ∧ s ≤ 96) ∧ (1 ≤ t ∧ t ≤ 100)) := by rw [← szB_true]; simp
def plB (s t : Int) (x : Int × Int) : Bool := decide ((0 ≤ x.1 ∧ x.1 < t) ∧ (0 ≤ x.2 ∧ x.2 < s))
theorem plB_true {s t : Int} {x : Int × Int} : plB s t x = true ↔ ((0 ≤ x.1 ∧ x.1 < t) ∧ (0 ≤ x.2 ∧ x.2 < s)) := by unfold plB; simp

theorem sizeok_any (s t : Int) (a : Option Addr) (n c : Nat) (w : World) :
    Calls Try.prog 65 #[.agg #[.int .i64 s, .int .i64 t, .slice a n c]] w fun e w' => e = .returned (.bool (szB s t)) ∧ Gr w w' := by
  have hb : ∀ x : Obj, Gr w (w.alloc x) := fun x => gr_of_below ((Below.refl _ _).alloc (Nat.le_refl _) _) (Nat.le_refl _)
  have HB := Lib.hid hb; clear hb
  by_cases h1 : 4 ≤ s <;> by_cases h2 : s ≤ 96 <;> by_cases h3 : 1 ≤ t <;> by_cases h4 : t ≤ 100
  all_goals try (exfalso; omega)
  all_goals
    have e := (rfl : szB s t = szB s t)
    conv at e => rhs; unfold szB
    simp only [h1, h2, h3, h4, and_true, and_false, true_and, false_and, and_self, decide_true, decide_false] at e
    have HE := Lib.hid e; clear e
    go_enter Try.func65, Try.ntmps65
    go_wp2
    go_ret
    exact ⟨by rw [HE.out]; rfl, HB.out _⟩

theorem hasplace_any (s t : Int) (a : Option Addr) (n c : Nat) (x : Int × Int) (w : World) :
    Calls Try.prog 109 #[.agg #[.int .i64 s, .int .i64 t, .slice a n c], .agg #[.int .i64 x.1, .int .i64 x.2]] w fun e w' => e = .returned (.bool (plB s t x)) ∧ Gr w w' := by
  obtain ⟨p, q⟩ := x
  have hb : ∀ x y : Obj, Gr w ((w.alloc x).alloc y) := fun x y => gr_of_below (((Below.refl _ _).alloc (Nat.le_refl _) _).alloc (by simp) _) (Nat.le_refl _)
  have HB := Lib.hid hb; clear hb
  by_cases h1 : 0 ≤ p <;> by_cases h2 : p < t <;> by_cases h3 : 0 ≤ q <;> by_cases h4 : q < s
  all_goals
    have e := (rfl : plB s t (p, q) = plB s t (p, q))
    conv at e => rhs; unfold plB
    simp only [h1, h2, h3, h4, and_true, and_false, true_and, false_and, and_self, decide_true, decide_false] at e
    have HE := Lib.hid e; clear e
    go_enter Try.func109, Try.ntmps109
    go_wp2
    go_ret
    exact ⟨by rw [HE.out]; rfl, HB.out _ _⟩
theorem hasplace_yes {s t : Int} {a : Option Addr} {n c : Nat} {x : Int × Int} (h : plB s t x = true) (w : World) :
    Calls Try.prog 109 #[.agg #[.int .i64 s, .int .i64 t, .slice a n c], .agg #[.int .i64 x.1, .int .i64 x.2]] w fun e w' => e = .returned (.bool true) ∧ Gr w w' :=
  (hasplace_any s t a n c x w).mono fun _ _ ⟨he, hb⟩ => ⟨by rw [he, h], hb⟩
theorem hasplace_no {s t : Int} {a : Option Addr} {n c : Nat} {x : Int × Int} (h : plB s t x = false) (w : World) :
    Calls Try.prog 109 #[.agg #[.int .i64 s, .int .i64 t, .slice a n c], .agg #[.int .i64 x.1, .int .i64 x.2]] w fun e w' => e = .returned (.bool false) ∧ Gr w w' :=
  (hasplace_any s t a n c x w).mono fun _ _ ⟨he, hb⟩ => ⟨by rw [he, h], hb⟩

def turnB (d : Int) : Bool := decide (-1000000 ≤ d ∧ d ≤ 1000000)
theorem turnok_any (d : Int) (w : World) : Calls Try.prog 59 #[.int .i64 d] w fun e w' => e = .returned (.bool (turnB d)) ∧ w = w' := by
  by_cases h1 : -1000000 ≤ d <;> by_cases h2 : d ≤ 1000000
  all_goals try (exfalso; omega)
  all_goals
    have e := (rfl : turnB d = turnB d)
    conv at e => rhs; unfold turnB
    simp only [h1, h2, and_true, and_false, true_and, false_and, and_self, decide_true, decide_false] at e
    have HE := Lib.hid e; clear e
    go_enter Try.func59, Try.ntmps59
    go_wp2
    go_ret
    exact ⟨by rw [HE.out]; rfl, rfl⟩
theorem turnok_yes {d : Int} (h : -1000000 ≤ d ∧ d ≤ 1000000) (w : World) : Calls Try.prog 59 #[.int .i64 d] w fun e w' => e = .returned (.bool true) ∧ w = w' :=
  (turnok_any d w).mono fun _ _ ⟨he, hb⟩ => ⟨by rw [he, show turnB d = true from decide_eq_true h], hb⟩
theorem turnok_no {d : Int} (h : ¬ (-1000000 ≤ d ∧ d ≤ 1000000)) (w : World) : Calls Try.prog 59 #[.int .i64 d] w fun e w' => e = .returned (.bool false) ∧ w = w' :=
  (turnok_any d w).mono fun _ _ ⟨he, hb⟩ => ⟨by rw [he, show turnB d = false from decide_eq_false h], hb⟩

theorem around_any {s t d : Int} {a : Option Addr} {n c : Nat} (hs : 4 ≤ s ∧ s ≤ 96) (w : World) :
    Calls Try.prog 61 #[.agg #[.int .i64 s, .int .i64 t, .slice a n c], .int .i64 d] w fun e w' => e = .returned (.int .i64 (d % s)) ∧ Gr w w' := by
  have h1 := Int.lt_tmod_of_pos d (show 0 < s by omega)
  have h2 := Int.tmod_lt_of_pos d (show 0 < s by omega)
  have hf := tmod_fix (a := d) (n := s) (by omega)
  have h3 := Int.emod_nonneg d (show s ≠ 0 by omega)
  have h4 := Int.emod_lt_of_pos d (show 0 < s by omega)
  have e1 : IntKind.i64.wrap (d.tmod s) = d.tmod s := IntWalk.i64_in _ (by omega)
  have e2 : IntKind.i64.wrap (d.tmod s + s) = d.tmod s + s := IntWalk.i64_in _ (by omega)
  have e3 : IntKind.i64.wrap ((d.tmod s + s).tmod s) = d % s := by rw [hf]; exact IntWalk.i64_in _ (by omega)
  have hz : (s == 0) = false := by rw [beq_eq_false_iff_ne]; omega
  have hz' : ¬ s = 0 := by omega
  have hb : ∀ (x : Obj) (k : Nat), Gr w ((w.alloc x).drewN k) := fun x k => gr_of_below (below_drewN ((Below.refl _ _).alloc (Nat.le_refl _) _) k) (by show w.drawn ≤ w.drawn + k; omega)
  have HB := Lib.hid hb; clear hb
  have k0 := cell0 w #[.int .i64 s, .int .i64 t, .slice a n c] 26 0
  simp only [List.getElem?_toArray, List.getElem?_cons_zero] at k0
  go_enter Try.func61, Try.ntmps61
  go_wp2_with fail
  go_quiet (fail)
  go_wp2
  go_ret
  exact ⟨by first | rfl | (simp [hf]), HB.out _ _⟩

def pinsB (s t : Int) (l : List (Int × Int)) : Prop := l.length ≤ 100 ∧ ∀ k p, l[k]? = some p → PinOk s t l k p
theorem cyl_parts {s t : Int} {l : List (Int × Int)} : CylP s t l ↔ szB s t = true ∧ pinsB s t l := by
  rw [szB_true]; exact ⟨fun ⟨a, b, c⟩ => ⟨⟨a, b⟩, c⟩, fun ⟨⟨a, b⟩, c⟩ => ⟨a, b, c⟩⟩
open Classical in
noncomputable def pinsD (s t : Int) (l : List (Int × Int)) : Bool := decide (pinsB s t l)
theorem pinsD_true {s t : Int} {l : List (Int × Int)} : pinsD s t l = true ↔ pinsB s t l := by unfold pinsD; simp
theorem pinsD_false {s t : Int} {l : List (Int × Int)} : pinsD s t l = false ↔ ¬ pinsB s t l := by unfold pinsD; simp
theorem plB_pin {s t : Int} {x : Int × Int} : plB s t x = true ↔ ((0 ≤ x.1 ∧ x.1 ≤ t - 1) ∧ (0 ≤ x.2 ∧ x.2 ≤ s - 1)) := by rw [plB_true]; omega

set_option maxHeartbeats 4000000 in
set_option maxRecDepth 100000 in
theorem pinsok_any {w : World} {v : Value} {l : List (Int × Int)} (s t : Int) (h : Rd2 w v l) :
    Calls Try.prog 66 #[.agg #[.int .i64 s, .int .i64 t, v]] w fun e w' => e = .returned (.bool (pinsD s t l)) ∧ Below w.heap.size w w' := by
  obtain ⟨a1, cap1, rfl⟩ := Rd.slice h
  have hm := h.2.1
  unfold maxLen at hm
  obtain ⟨W, hW⟩ : ∃ W, W = w.alloc (.cells #[.int .i64 s, .int .i64 t, .slice a1 l.length cap1] 26) := ⟨_, rfl⟩
  have hBW : Box W w.heap.size s t (.slice a1 l.length cap1) := by rw [hW]; exact box_new _ _ _ _ _
  have hb0 : Below w.heap.size w W := by rw [hW]; exact (Below.refl _ _).alloc (Nat.le_refl _) _
  obtain ⟨bx, hbx⟩ : ∃ b, b = w.heap.size := ⟨_, rfl⟩
  by_cases h100 : 100 < l.length
  · have ht : pinsD s t l = false := pinsD_false.2 fun hp => by have := hp.1; omega
    have HT := Lib.hid ht; clear ht
    rw [hW] at hBW hb0
    obtain ⟨-, k0, k1, k2⟩ := id hBW
    clear hW hbx
    go_enter Try.func66, Try.ntmps66
    go_wp2
    go_ret
    exact ⟨by rw [HT.out]; rfl, hb0⟩
  · have h100' : l.length ≤ 100 := by omega
    have hd100 : decide ((100 : Int) < (l.length : Int)) = false := decide_eq_false (by omega)
    obtain ⟨-, k0, k1, k2⟩ := id hBW
    rw [hW] at k0 k1 k2
    go_enter Try.func66, Try.ntmps66
    go_wp2
    clear k0 k1 k2
    rw [← hW]
    rw [← hbx] at hBW
    simp only [← hbx]
    clear hW hbx
    go_loopw [12] (fun v12 wr => ∃ j : Nat, j ≤ l.length ∧ v12 = .int .i64 j ∧ Below W.heap.size W wr ∧ Hid (∀ k p, k < j → l[k]? = some p → PinOk s t l k p)) (fun v12 _ => l.length - (intOf v12).toNat)
    case atStart => exact ⟨0, Nat.zero_le _, rfl, Below.refl _ _, Lib.hid fun k p hk => by omega⟩
    case round =>
      obtain ⟨j, hj, rfl, hbr, HA⟩ := hrel
      have hwr := bstep hb0 hbr
      obtain ⟨kx, k0, k1, k2⟩ := hBW.below hbr
      by_cases hlt : j < l.length
      · obtain ⟨p, hp⟩ : ∃ p, l[j]? = some p := ⟨_, List.getElem?_eq_getElem hlt⟩
        have HP := Lib.hid hp
        obtain ⟨b1, o1, c1, hv1, x1, y1⟩ := Rd2.cells (Rd.below h hwr) hp
        simp only [Value.slice.injEq, true_and] at hv1
        obtain ⟨rfl, rfl⟩ := hv1
        clear hp
        go_wp2_with fail
        obtain ⟨V, hV⟩ : ∃ V, V = wr.alloc (.cells #[.int .i64 p.1, .int .i64 p.2] 32) := ⟨_, rfl⟩
        have hbV : Below wr.heap.size wr V := by rw [hV]; exact (Below.refl _ _).alloc (Nat.le_refl _) _
        have z0 : V.cell? ⟨wr.heap.size, 0, none⟩ = some (.int .i64 p.1) := by rw [hV]; exact cell0 _ _ _ _
        have z1 : V.cell? ⟨wr.heap.size, 1, none⟩ = some (.int .i64 p.2) := by rw [hV]; exact cell0 _ _ _ _
        rw [← hV]
        clear hV
        have hwV := bstep hwr hbV
        have hkV := bstep hbr hbV
        have m0 := fun n os => cell_grown (World.block_lt_of_cell? _ _ (old_cell hbV k0)) (old_cell hbV k0) n os
        have m1 := fun n os => cell_grown (World.block_lt_of_cell? _ _ (old_cell hbV k1)) (old_cell hbV k1) n os
        have m2 := fun n os => cell_grown (World.block_lt_of_cell? _ _ (old_cell hbV k2)) (old_cell hbV k2) n os
        have q0 := fun n os => cell_grown (World.block_lt_of_cell? _ _ z0) z0 n os
        have q1 := fun n os => cell_grown (World.block_lt_of_cell? _ _ z1) z1 n os
        generalize wr.heap.size = bp at *
        by_cases r1 : plB s t p = true
        · by_cases hj0 : 0 < j
          · obtain ⟨q, hq⟩ : ∃ q, l[j - 1]? = some q := ⟨_, List.getElem?_eq_getElem (by omega)⟩
            have HQ := Lib.hid hq
            obtain ⟨b2, o2, c2, hv2, x2, y2⟩ := Rd2.cells (Rd.below h hwV) hq
            simp only [Value.slice.injEq, true_and, Option.some.injEq, Addr.mk.injEq, and_true] at hv2
            obtain ⟨⟨rfl, rfl⟩, rfl⟩ := hv2
            clear hq
            have x3 := fun n os => cell_grown (World.block_lt_of_cell? _ _ x2) x2 n os
            have y3 := fun n os => cell_grown (World.block_lt_of_cell? _ _ y2) y2 n os
            have hj1 : (0 : Int) ≤ (j : Int) - 1 := by omega
            have hj2 : (1 : Int) ≤ (j : Int) := by omega
            have hj3 : (j : Int) - 1 < (l.length : Int) := by omega
            have hj4 : 1 ≤ j := by omega
            have ej1 : IntKind.i64.wrap ((j : Int) - 1) = (j : Int) - 1 := IntWalk.i64_in _ (by omega)
            have ej2 : ((j : Int) - 1).toNat = j - 1 := by omega
            have HR1 := Lib.hid r1
            clear x1 y1 x2 y2 k0 k1 k2 kx z0 z1 hbV hbr hwr r1
            by_cases hls : pless q p = true
            · have hn : ∀ k p, k < j + 1 → l[k]? = some p → PinOk s t l k p := fun k r hk hr => by
                by_cases hkj : k < j
                · exact HA.out k r hkj hr
                · obtain rfl : k = j := by omega
                  have := HP.out; rw [this] at hr
                  obtain rfl := Option.some.inj hr
                  exact ⟨(plB_pin.1 HR1.out).1, (plB_pin.1 HR1.out).2, fun i t hi ht => by
                    obtain rfl : i = k - 1 := by omega
                    have := HQ.out; rw [this] at ht
                    obtain rfl := Option.some.inj ht
                    exact hls⟩
              have HN := Lib.hid hn; clear hn
              have hcn : decide (0 ≤ cmpP q p) = false := decide_eq_false (by rw [cmpP_ge]; simp [hls])
              clear hls
              refine wp_region_quiet_grown (by kernel_rfl) (by kernel_rfl) ?_
              repeat (go_big_quiet_step ((first | (go_at_call 109; refine grown_gr (v := .bool true) ?_; with_reducible exact hasplace_yes HR1.out _) | (go_at_call 63; refine grown_gr (v := .int .i64 (cmpP q p)) ?_; with_reducible exact compP_any q p _))))
              refine wpQuiet_nil ?_
              intro _ hw'
              obtain ⟨⟨nq, osq⟩, hw''⟩ := hw'
              subst hw''
              have hgr : Below V.heap.size V (Sort.grow (V.drewN nq) osq) := Gr.below ⟨nq, osq, rfl⟩
              generalize Sort.grow (V.drewN nq) osq = V2 at *
              have hb9 := bstep hkV hgr
              clear x3 y3 q0 q1 m0 m1 m2 ej1 ej2 hj1 hj2 hj3 hj4 hcn hgr hwV hkV
              go_wp2
              go_roundw
              case rel => exact ⟨j + 1, by omega, by go_num, hb9, HN⟩
              case measure => simp [intOf]; omega
            · have hbad : ¬ pinsB s t l := fun ht => hls ((ht.2 _ _ HP.out).2.2 (j - 1) q (by omega) HQ.out)
              have HB := Lib.hid (pinsD_false.2 hbad); clear hbad
              have hcn : decide (0 ≤ cmpP q p) = true := decide_eq_true (by rw [cmpP_ge]; simpa using hls)
              clear hls
              refine wp_region_quiet_grown (by kernel_rfl) (by kernel_rfl) ?_
              repeat (go_big_quiet_step ((first | (go_at_call 109; refine grown_gr (v := .bool true) ?_; with_reducible exact hasplace_yes HR1.out _) | (go_at_call 63; refine grown_gr (v := .int .i64 (cmpP q p)) ?_; with_reducible exact compP_any q p _))))
              refine wpQuiet_nil ?_
              intro _ hw'
              obtain ⟨⟨nq, osq⟩, hw''⟩ := hw'
              subst hw''
              have hgr : Below V.heap.size V (Sort.grow (V.drewN nq) osq) := Gr.below ⟨nq, osq, rfl⟩
              generalize Sort.grow (V.drewN nq) osq = V2 at *
              have hb9 := bstep hwV hgr
              clear x3 y3 q0 q1 m0 m1 m2 ej1 ej2 hj1 hj2 hj3 hj4 hcn hgr hwV hkV
              go_wp2
              go_ret
              exact ⟨by rw [HB.out]; rfl, hb9⟩
          · have hn : ∀ k p, k < j + 1 → l[k]? = some p → PinOk s t l k p := fun k q hk hq => by
              obtain rfl : k = j := by omega
              have := HP.out; rw [this] at hq
              obtain rfl := Option.some.inj hq
              exact ⟨(plB_pin.1 r1).1, (plB_pin.1 r1).2, fun i q h => by omega⟩
            have HN := Lib.hid hn; clear hn
            have hj1 : decide (0 < j) = false := decide_eq_false hj0
            have hj2 : decide ((0 : Int) < (j : Int)) = false := decide_eq_false (by omega)
            have HR1 := Lib.hid r1
            clear x1 y1 k0 k1 k2 kx z0 z1 hbV hbr hwr r1
            refine wp_region_quiet_grown (by kernel_rfl) (by kernel_rfl) ?_
            repeat (go_big_quiet_step ((first | (go_at_call 109; refine grown_gr (v := .bool true) ?_; with_reducible exact hasplace_yes HR1.out _))))
            refine wpQuiet_nil ?_
            intro _ hw'
            obtain ⟨⟨nq, osq⟩, hw''⟩ := hw'
            subst hw''
            have hgr : Below V.heap.size V (Sort.grow (V.drewN nq) osq) := Gr.below ⟨nq, osq, rfl⟩
            generalize Sort.grow (V.drewN nq) osq = V2 at *
            have hb9 := bstep hkV hgr
            clear q0 q1 m0 m1 m2 hgr hwV hkV
            go_wp2
            go_roundw
            case rel => exact ⟨j + 1, by omega, by go_num, hb9, HN⟩
            case measure => simp [intOf]; omega
        · have hbad : ¬ pinsB s t l := fun ht => r1 (plB_pin.2 ⟨(ht.2 _ _ HP.out).1, (ht.2 _ _ HP.out).2.1⟩)
          have HB := Lib.hid (pinsD_false.2 hbad); clear hbad
          have HR1 := Lib.hid (show plB s t p = false by simpa using r1)
          clear x1 y1 k0 k1 k2 kx z0 z1 hbV hbr hwr r1
          refine wp_region_quiet_grown (by kernel_rfl) (by kernel_rfl) ?_
          repeat (go_big_quiet_step ((first | (go_at_call 109; refine grown_gr (v := .bool false) ?_; with_reducible exact hasplace_no HR1.out _))))
          refine wpQuiet_nil ?_
          intro _ hw'
          obtain ⟨⟨nq, osq⟩, hw''⟩ := hw'
          subst hw''
          have hgr : Below V.heap.size V (Sort.grow (V.drewN nq) osq) := Gr.below ⟨nq, osq, rfl⟩
          generalize Sort.grow (V.drewN nq) osq = V2 at *
          have hb9 := bstep hwV hgr
          clear q0 q1 m0 m1 m2 hgr hwV hkV
          go_wp2
          go_ret
          exact ⟨by rw [HB.out]; rfl, hb9⟩
      · obtain rfl : j = l.length := by omega
        have hall : ∀ k p, l[k]? = some p → PinOk s t l k p := fun k p hk => HA.out k p (List.getElem?_eq_some_iff.1 hk).1 hk
        have HT := Lib.hid (pinsD_true.2 ⟨h100', hall⟩); clear hall
        go_wp2
        go_ret
        exact ⟨by rw [HT.out]; rfl, hwr⟩

set_option maxHeartbeats 1000000 in
theorem icyl_any {w : World} {v : Value} {l : List (Int × Int)} (s t : Int) (h : Rd2 w v l) :
    Calls Try.prog 15 #[.agg #[.int .i64 s, .int .i64 t, v]] w fun e w' => e = .returned (.bool (cylB s t l)) ∧ Below w.heap.size w w' := by
  obtain ⟨a1, cap1, rfl⟩ := Rd.slice h
  obtain ⟨W, hW⟩ : ∃ W, W = w.alloc (.cells #[.int .i64 s, .int .i64 t, .slice a1 l.length cap1] 26) := ⟨_, rfl⟩
  have hBW : Box W w.heap.size s t (.slice a1 l.length cap1) := by rw [hW]; exact box_new _ _ _ _ _
  have hb0 : Below w.heap.size w W := by rw [hW]; exact (Below.refl _ _).alloc (Nat.le_refl _) _
  by_cases h1 : szB s t = true
  · have HE := Lib.hid (show cylB s t l = pinsD s t l by
      rw [Bool.eq_iff_iff, cylB_true, cyl_parts, pinsD_true]; exact ⟨fun k => k.2, fun k => ⟨h1, k⟩⟩)
    obtain ⟨-, k0, k1, k2⟩ := id hBW
    rw [hW] at k0 k1 k2
    go_enter Try.func15, Try.ntmps15
    go_wp2_with fail
    rw [← hW]
    rw [← hW] at k0 k1 k2
    clear hW
    refine ((sizeok_any s t a1 l.length cap1 W).mono ?_)
    rw [h1]
    rintro e w1 ⟨rfl, hg1⟩
    have hb1 := hg1.below
    obtain ⟨-, m0, m1, m2⟩ := hBW.below hb1
    have hb2 := bstep hb0 hb1
    clear k0 k1 k2 hg1 h1
    go_wp2_with fail
    refine ((pinsok_any s t (Rd.below h hb2)).mono ?_)
    rintro e w2 ⟨rfl, hb3⟩
    have hb4 := bstep hb2 hb3
    clear m0 m1 m2 hb1 hb2 hb3
    go_wp2
    go_ret
    exact ⟨by rw [HE.out]; rfl, hb4⟩
  · have h1' : szB s t = false := by simpa using h1
    have HE := Lib.hid (show cylB s t l = false from cylB_false.2 fun k => h1 (cyl_parts.1 k).1)
    obtain ⟨-, k0, k1, k2⟩ := id hBW
    rw [hW] at k0 k1 k2
    go_enter Try.func15, Try.ntmps15
    go_wp2_with fail
    rw [← hW]
    rw [← hW] at k0 k1 k2
    clear hW
    refine ((sizeok_any s t a1 l.length cap1 W).mono ?_)
    rw [h1']
    rintro e w1 ⟨rfl, hg1⟩
    have hb2 := bstep hb0 hg1.below
    clear k0 k1 k2 hg1 h1 h1'
    go_wp2
    go_ret
    exact ⟨by rw [HE.out]; rfl, hb2⟩
theorem icyl_yes {w : World} {v : Value} {l : List (Int × Int)} {s t : Int} (h : Rd2 w v l) (hc : cylB s t l = true) :
    Calls Try.prog 15 #[.agg #[.int .i64 s, .int .i64 t, v]] w fun e w' => e = .returned (.bool true) ∧ Below w.heap.size w w' :=
  (icyl_any s t h).mono fun _ _ ⟨he, hb⟩ => ⟨by rw [he, hc], hb⟩
theorem icyl_no {w : World} {v : Value} {l : List (Int × Int)} {s t : Int} (h : Rd2 w v l) (hc : cylB s t l = false) :
    Calls Try.prog 15 #[.agg #[.int .i64 s, .int .i64 t, v]] w fun e w' => e = .returned (.bool false) ∧ Below w.heap.size w w' :=
  (icyl_any s t h).mono fun _ _ ⟨he, hb⟩ => ⟨by rw [he, hc], hb⟩
end Go.Proofs.Ytcbdoldcdgaooaa
