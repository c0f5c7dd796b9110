/- The walk of the law FnChords. Condition: the listed variable holds its array (TabAt). Made by gen_chords.py. -/
import Derived.Test.YtceebblokibapaaDoorChordFacts
import Derived.Test.YtceebblokibapaaDoorImplChord
import Derived.Test.YtceebblokibapaaDoorImplTri
import Derived.Deep.CutRange
namespace Go.Proofs.YtceebblokibapaaDoor
open Go.ChangeShapes Go.WideShapes Go.ChangeAt Go.RowKit

theorem atV_any {w : World} {v : Value} {n : Nat} {B : Nat} (i : Nat) (hi : i ≤ 20) (hC : Code w B v n) (hn : n ≤ 1048576) :
    Calls Tryd.prog 9 #[v, .int .i64 (i : Nat)] w fun e w' => ∃ x : Int, 0 ≤ x ∧ x ≤ 255 ∧ e = .returned (.int .i64 x) ∧ w = w' := by
  rcases hC with ⟨rfl, a, cap, rfl⟩ | ⟨b, off, cap, rfl, hm, hbB, hcell⟩
  · go_enter Tryd.func9, Tryd.ntmps9
    go_wp2
    go_ret
    exact ⟨0, by omega, by omega, rfl, rfl⟩
  · unfold maxLen at hm
    by_cases h0 : n = 0
    · subst h0
      clear hcell
      go_enter Tryd.func9, Tryd.ntmps9
      go_wp2
      go_ret
      exact ⟨0, by omega, by omega, rfl, rfl⟩
    · obtain ⟨z, hz0, hz1, hz⟩ := hcell ((i * 5 + 1) % n) (Nat.mod_lt _ (by omega))
      clear hcell
      have h0' : ((n : Int) == 0) = false := by simpa using h0
      have hm0 : (0 : Int) ≤ ((i : Int) * 5 + 1) % (n : Int) := Int.emod_nonneg _ (by omega)
      have hm1 : ((i : Int) * 5 + 1) % (n : Int) < (n : Int) := Int.emod_lt_of_pos _ (by omega)
      have hm2 : (((i : Int) * 5 + 1) % (n : Int)).toNat = (i * 5 + 1) % n := by
        have e : ((i : Int) * 5 + 1) % (n : Int) = (((i * 5 + 1) % n : Nat) : Int) := by rw [Int.natCast_emod, Int.natCast_add, Int.natCast_mul]; rfl
        rw [e]; exact Int.toNat_natCast _
      go_enter Tryd.func9, Tryd.ntmps9
      go_wp2
      go_ret
      exact ⟨z, hz0, hz1, rfl, rfl⟩
theorem has_any {w : World} {v : Value} {l : List Int} (x : Int) (h : Rd1 w v l) :
    Calls Tryd.prog 12 #[v, .int .i64 x] w fun e w' => e = .returned (.bool (decide (x ∈ l))) ∧ Below w.heap.size w w' := by
  obtain ⟨a1, cap1, rfl⟩ := Rd.slice h
  have hm := h.2.1
  unfold maxLen at hm
  go_enter Tryd.func12, Tryd.ntmps12
  go_wp2
  go_loopw [5] (fun v5 wr => ∃ j : Nat, j ≤ l.length ∧ v5 = .int .i64 (j : Int) ∧ Below w.heap.size w wr ∧ Hid (x ∉ l.take j)) (fun v5 _ => l.length - (intOf v5).toNat)
  case atStart => exact ⟨0, Nat.zero_le _, rfl, Below.refl _ _, Lib.hid (by simp)⟩
  case round =>
    obtain ⟨j, hj, rfl, hbr, HX⟩ := hrel
    by_cases hlt : j < l.length
    · obtain ⟨p, hp⟩ : ∃ p, l[j]? = some p := ⟨_, List.getElem?_eq_getElem hlt⟩
      have HP := Lib.hid hp
      obtain ⟨b1, o1, c1, hv1, x1⟩ := Rd1.cell (Rd.below h hbr) hp
      simp only [Value.slice.injEq, true_and] at hv1
      obtain ⟨rfl, rfl⟩ := hv1
      clear hp
      by_cases hpx : p = x
      · have HD := Lib.hid (show decide (x ∈ l) = true from decide_eq_true (by rw [← hpx]; exact List.mem_of_getElem? HP.out))
        subst hpx
        go_wp2
        go_ret
        exact ⟨by rw [HD.out]; rfl, hbr⟩
      · have HX2 : Hid (x ∉ l.take (j + 1)) := Lib.hid (by
          rw [List.take_add_one, HP.out, List.mem_append]
          rintro (h | h)
          · exact HX.out h
          · simp at h; exact hpx h.symm)
        have hne : (p == x) = false := by simpa using hpx
        go_wp2
        go_roundw
        case rel => exact ⟨j + 1, by omega, by go_num, hbr, HX2⟩
        case measure => simp [intOf]; omega
    · obtain rfl : j = l.length := by omega
      have HD := Lib.hid (show decide (x ∈ l) = false from decide_eq_false (by have := HX.out; rw [List.take_length] at this; exact this))
      go_wp2
      go_ret
      exact ⟨by rw [HD.out]; rfl, hbr⟩
theorem code_mono {w : World} {B B' : Nat} {v : Value} {n : Nat} (h : Code w B v n) (hb : B ≤ B') : Code w B' v n := by
  rcases h with h | ⟨b, off, cap, rfl, hn, hB, hc⟩
  · exact Or.inl h
  · exact Or.inr ⟨b, off, cap, rfl, hn, by omega, hc⟩
theorem btoi_gr (c : Bool) (w : World) : Calls Tryd.prog 17 #[.bool c] w fun e w' => e = .returned (.int .i64 (if c then 1 else 0)) ∧ Gr w w' := by
  cases c
  all_goals
    go_enter Tryd.func17, Tryd.ntmps17
    go_wp2
    go_ret
    exact ⟨rfl, gr_same rfl⟩
theorem sweetI_gr {w : World} {a b : Int} {c : Bool} (hE : TabAt w) (h : sweetB a b = c) :
    Calls Tryd.prog 13 #[.int .i64 a, .int .i64 b] w fun e w' => e = .returned (.bool c) ∧ Gr w w' :=
  (sweetI_is hE h).mono fun _ _ ⟨he, hw⟩ => ⟨he, gr_same hw⟩
theorem stepI_is {w : World} {a b d : Int} (h : stepsI a b = d) :
    Calls Tryd.prog 10 #[.int .i64 a, .int .i64 b] w fun e w' => e = .returned (.int .i64 d) ∧ w = w' :=
  (stepI_any a b).mono fun _ _ ⟨he, hw⟩ => ⟨by rw [he, h], hw⟩
theorem harshI_is {w : World} {v : Value} {l : List (Int × Int)} {d : Int} (hE : TabAt w) (hc : Rc2 w v l) (h : harshI l = d) :
    Calls Tryd.prog 15 #[v] w fun e w' => e = .returned (.int .i64 d) ∧ Below w.heap.size w w' :=
  (harshI_any hE hc).mono fun _ _ ⟨he, hw⟩ => ⟨by rw [he, h], hw⟩
theorem rootI_is {w : World} {v : Value} {l : List Int} {d : Int} (hc : Rd1 w v l) (h : rootI l = d) :
    Calls Tryd.prog 19 #[v] w fun e w' => e = .returned (.int .i64 d) ∧ Below w.heap.size w w' :=
  (rootI_any hc).mono fun _ _ ⟨he, hw⟩ => ⟨by rw [he, h], hw⟩
theorem chordI_is {w : World} {v : Value} {l : List Int} {c : Bool} (hE : TabAt w) (hc : Rc1 w v l) (h : chordB l = c) :
    Calls Tryd.prog 18 #[v] w fun e w' => e = .returned (.bool c) ∧ w = w' :=
  (chordI_any hE hc).mono fun _ _ ⟨he, hw⟩ => ⟨by rw [he, h], hw⟩

set_option maxHeartbeats 4000000 in
set_option maxRecDepth 1000000 in
theorem chords_walk {w : World} {v : Value} {n : Nat} (hE : TabAt w) (hC : Code w w.heap.size v n) :
    Calls Tryd.prog 3 #[v] w fun e w' => e = .returned (.bool true) ∧ Below w.heap.size w w' := by
  have HE := Lib.hid hE
  clear hE
  by_cases hbig : 1048576 < n
  · go_enter Tryd.func3, Tryd.ntmps3
    go_wp2_with fail
    refine (big_yes hC hbig).mono ?_
    rintro e w1 ⟨rfl, rfl⟩
    go_wp2
    go_ret
    exact ⟨rfl, Below.refl _ _⟩
  · have hn40 : n ≤ 1048576 := by omega
    go_enter Tryd.func3, Tryd.ntmps3
    go_wp2_with fail
    refine (big_no hC hbig).mono ?_
    rintro e w1 ⟨rfl, rfl⟩
    clear hbig
    go_wp2_with fail
    refine (atV_any 0 (by omega) hC hn40).mono ?_
    rintro e w1 ⟨x0, hx0, hy0, rfl, rfl⟩
    go_wp2_with fail
    refine (atV_any 1 (by omega) hC hn40).mono ?_
    rintro e w1 ⟨x1, hx1, hy1, rfl, rfl⟩
    go_wp2_with fail
    refine (atV_any 2 (by omega) hC hn40).mono ?_
    rintro e w1 ⟨x2, hx2, hy2, rfl, rfl⟩
    obtain ⟨a, ha⟩ : ∃ a, a = x0 % 40 := ⟨_, rfl⟩
    obtain ⟨b, hb⟩ : ∃ b, b = x1 % 40 := ⟨_, rfl⟩
    obtain ⟨r, hr⟩ : ∃ r, r = x2 % 12 := ⟨_, rfl⟩
    have ha0 : 0 ≤ a ∧ a ≤ 39 := by omega
    have hb0 : 0 ≤ b ∧ b ≤ 39 := by omega
    have hr0 : 0 ≤ r ∧ r < 12 := by omega
    have HPA := Lib.hid ha0
    have HPB := Lib.hid hb0
    have HPR := Lib.hid hr0
    have ea : IntKind.i64.wrap (a + 12) = a + 12 := IntWalk.i64_in _ (by omega)
    have r1 : IntKind.i64.wrap (r + 1) = r + 1 := IntWalk.i64_in _ (by omega)
    have r3 : IntKind.i64.wrap (r + 3) = r + 3 := IntWalk.i64_in _ (by omega)
    have r7 : IntKind.i64.wrap (r + 7) = r + 7 := IntWalk.i64_in _ (by omega)
    have r16 : IntKind.i64.wrap (r + 16) = r + 16 := IntWalk.i64_in _ (by omega)
    have r24 : IntKind.i64.wrap (r + 24) = r + 24 := IntWalk.i64_in _ (by omega)
    go_wp2_with fail
    rw [← ha, ← hb]
    try rw [← hr]
    clear hx0 hy0 hx1 hy1 hx2 hy2
    -- d
    have hd0 := stepsI_pos (a := a) (b := b) ⟨⟨ha0.1, by omega⟩, hb0.1, by omega⟩
    have hd6 := (stepsI_range a b).2
    have HD1 := Lib.hid (stepsI_comm b a)
    have HD2 := Lib.hid (stepsI_up (a := a) (b := b) ⟨ha0.1, by omega⟩ ⟨hb0.1, by omega⟩)
    have HDD := Lib.hid (stepI_any (w := w) a b)
    generalize stepsI a b = d at *
    clear ha hb hr
    refine HDD.out.mono ?_
    rintro e w1 ⟨rfl, rfl⟩
    clear HDD
    -- SweetFor
    have hR := rd1_made w [a, b] 3 (by unfold maxLen; simp)
    simp only [List.map_cons, List.map_nil, intV, List.length_cons, List.length_nil, Nat.reduceAdd] at hR
    have hb1 : Below w.heap.size w (w.alloc (.cells #[.int .i64 a, .int .i64 b] 3)) := (Below.refl _ _).alloc (Nat.le_refl _) _
    go_wp2_with fail
    generalize w.alloc (.cells #[.int .i64 a, .int .i64 b] 3) = W1 at *
    refine (sfI_any (HE.out.below hb1) 0 60 hR).mono ?_
    rintro e w2 ⟨vs, rfl, hos, hb2⟩
    have g2 := bstep hb1 hb2
    clear hR hb2 hb1
    have HM := Lib.hid (fun (p : Int) (hp : 0 ≤ p ∧ p ≤ 60) => sf_mem (a := a) (b := b) (p := p) ⟨HPA.out.1, by have := HPA.out.2; omega⟩ ⟨HPB.out.1, by have := HPB.out.2; omega⟩ hp)
    generalize sweetForL [a, b] 0 60 = S at *
    go_wp2_with fail
    go_loopw [8] (fun v8 wr => ∃ p : Nat, p ≤ 61 ∧ v8 = .int .i64 (p : Int) ∧ Below w2.heap.size w2 wr) (fun v8 _ => 61 - (intOf v8).toNat)
    case atStart => exact ⟨0, by omega, rfl, Below.refl _ _⟩
    case round =>
      obtain ⟨p, hp, rfl, hbr⟩ := hrel
      have gr := bstep g2 hbr
      by_cases hlt : p ≤ 60
      · have hle : (p : Int) ≤ 60 := by omega
        have HX := Lib.hid (HM.out (p : Int) ⟨by omega, by omega⟩)
        go_wp2_with fail
        refine (has_any (p : Int) (Rd.of_own (ownS_below hos hbr))).mono ?_
        rintro e w3 ⟨rfl, hb3⟩
        rw [HX.out]
        have g3 := bstep hbr hb3
        have HT3 := Lib.hid (HE.out.below (bstep g2 g3))
        have HSA := Lib.hid (sweetI_any (w := w3) HT3.out (p : Int) a)
        have HSB := Lib.hid (sweetI_any (w := w3) HT3.out (p : Int) b)
        clear HX HM hbr hb3 gr
        generalize sweetB (p : Int) a = ca at *
        generalize sweetB (p : Int) b = cb at *
        go_wp2_with fail
        refine HSA.out.mono ?_
        rintro e w4 ⟨rfl, rfl⟩
        cases ca with
        | true =>
          go_wp2_with fail
          refine HSB.out.mono ?_
          rintro e w4 ⟨rfl, rfl⟩
          cases cb
          all_goals
            go_wp2
            go_roundw
            case rel => exact ⟨p + 1, by omega, by go_num, g3⟩
            case measure => simp [intOf]; omega
        | false =>
          go_wp2
          go_roundw
          case rel => exact ⟨p + 1, by omega, by go_num, g3⟩
          case measure => simp [intOf]; omega
      · obtain rfl : p = 61 := by omega
        have hC5 := code_mono (hC.below gr) gr.size
        clear HM hos hbr g2
        go_wp2_with fail
        refine (drawtune_any hC5).mono ?_
        rintro e w5 ⟨t, vt, hTD, rfl, hot, hb5⟩
        have g5 := bstep gr hb5
        clear hC hC5 gr hb5
        obtain ⟨u1, u2, u3, u4⟩ := drawn_up hTD
        have ht11 := hTD.1
        have HTT := Lib.hid hTD.2.1
        have HU1 := Lib.hid u1
        have HU3 := Lib.hid u3
        have HU4 := Lib.hid u4
        clear hTD u1 u2 u3 u4
        have hN := harshN_le t t.length (by omega)
        go_wp2_with fail
        refine (harshI_is (HE.out.below g5) (Rc2.of_own hot) HU4.out).mono ?_
        rintro e w6 ⟨rfl, hb6⟩
        have g6 := bstep g5 hb6
        have hot6 := ownS_below hot hb6
        clear hot g5 hb6
        have hHI := higher_any (w := w6) 12 (Rd.of_own hot6) (by omega)
        rw [HU1.out] at hHI
        have HHI := Lib.hid hHI
        clear hHI
        go_wp2_with fail
        refine HHI.out.mono ?_
        rintro e w7 ⟨vu, rfl, hou, hb7⟩
        clear HHI HU1
        have g7 := bstep g6 hb7
        have hot7 := ownS_below hot6 hb7
        try simp only at hou
        clear g6 hot6 hb7
        have hR4 := rd1_made w7 [r + 7, r + 16, r, r + 24] 3 (by unfold maxLen; simp)
        simp only [List.map_cons, List.map_nil, intV, List.length_cons, List.length_nil, Nat.reduceAdd] at hR4
        have k4 : Below w7.heap.size w7 (w7.alloc (.cells #[.int .i64 (r + 7), .int .i64 (r + 16), .int .i64 r, .int .i64 (r + 24)] 3)) := (Below.refl _ _).alloc (Nat.le_refl _) _
        have hR3 := rd1_made (w7.alloc (.cells #[.int .i64 (r + 7), .int .i64 (r + 16), .int .i64 r, .int .i64 (r + 24)] 3)) [r, r + 3, r + 7] 3 (by unfold maxLen; simp)
        simp only [List.map_cons, List.map_nil, intV, List.length_cons, List.length_nil, Nat.reduceAdd] at hR3
        have k3 : Below (w7.alloc (.cells #[.int .i64 (r + 7), .int .i64 (r + 16), .int .i64 r, .int .i64 (r + 24)] 3)).heap.size (w7.alloc (.cells #[.int .i64 (r + 7), .int .i64 (r + 16), .int .i64 r, .int .i64 (r + 24)] 3)) ((w7.alloc (.cells #[.int .i64 (r + 7), .int .i64 (r + 16), .int .i64 r, .int .i64 (r + 24)] 3)).alloc (.cells #[.int .i64 r, .int .i64 (r + 3), .int .i64 (r + 7)] 3)) := (Below.refl _ _).alloc (Nat.le_refl _) _
        have hR4' := Rd.below hR4 k3
        have g8 := bstep g7 (bstep k4 k3)
        have hot8 := ownS_below (ownS_below hot7 k4) k3
        have hou8 := ownS_below (ownS_below hou k4) k3
        rw [size_alloc] at hR3
        clear k4 k3 hot7 hou hR4 g7
        go_wp2_with fail
        generalize (w7.alloc (.cells #[.int .i64 (r + 7), .int .i64 (r + 16), .int .i64 r, .int .i64 (r + 24)] 3)).alloc (.cells #[.int .i64 r, .int .i64 (r + 3), .int .i64 (r + 7)] 3) = W8 at *
        generalize w7.heap.size = q7 at *
        have hRt := Rd.of_own hot8
        obtain ⟨at1, cpt, hvt⟩ := Rd.slice hRt
        subst hvt
        have hm := hRt.2.1
        unfold maxLen at hm
        go_loopw [15, 16] (fun v15 v16 wr => ∃ i : Nat, i ≤ t.length ∧ v16 = .int .i64 i ∧ v15 = .int .i64 (harshN t i : Int) ∧ Below W8.heap.size W8 wr) (fun _ v16 _ => t.length - (intOf v16).toNat)
        case atStart => exact ⟨0, Nat.zero_le _, rfl, rfl, Below.refl _ _⟩
        case round =>
          obtain ⟨i, hi, rfl, rfl, hbr⟩ := hrel
          by_cases hlt : i < t.length
          · obtain ⟨x, hx⟩ : ∃ x, t[i]? = some x := ⟨_, List.getElem?_eq_getElem hlt⟩
            have HA := Lib.hid hx
            have HN := Lib.hid (harshN_step hx)
            have hle := harshN_le t i (by omega)
            clear hx
            generalize hg : harshN t i = n0 at *
            clear hg
            go_wp2_with fail
            go_loopw [15, 17] (fun v15 v17 wx => ∃ j : Nat, j ≤ i ∧ v17 = .int .i64 j ∧ v15 = .int .i64 ((n0 + harshRow t x j : Nat) : Int) ∧ Below W8.heap.size W8 wx) (fun _ v17 _ => i - (intOf v17).toNat)
            case atStart => exact ⟨0, Nat.zero_le _, rfl, rfl, hbr⟩
            case round =>
              obtain ⟨j, hj, rfl, rfl, hbx⟩ := hrel
              clear hbr
              by_cases hlj : j < i
              · obtain ⟨y, hy⟩ : ∃ y, t[j]? = some y := ⟨_, List.getElem?_eq_getElem (by omega)⟩
                have HB := Lib.hid hy
                have hjl : j < t.length := by omega
                have hle2 := harshRow_le t x j
                obtain ⟨b1, o1, c1, hv1, x1, y1⟩ := Rd2.cells (Rd.below hRt hbx) HA.out
                simp only [Value.slice.injEq, true_and] at hv1
                obtain ⟨rfl, rfl⟩ := hv1
                obtain ⟨b2, o2, c2, hv2, x2, y2⟩ := Rd2.cells (Rd.below hRt hbx) hy
                simp only [Value.slice.injEq, true_and, Option.some.injEq, Addr.mk.injEq, and_true] at hv2
                obtain ⟨⟨rfl, rfl⟩, rfl⟩ := hv2
                have x3 := fun n os => cell_grown (World.block_lt_of_cell? _ _ x1) x1 n os
                have x4 := fun n os => cell_grown (World.block_lt_of_cell? _ _ x2) x2 n os
                have y3 := fun n os => cell_grown (World.block_lt_of_cell? _ _ y1) y1 n os
                have y4 := fun n os => cell_grown (World.block_lt_of_cell? _ _ y2) y2 n os
                have HG : Hid (∀ n os, TabAt (Sort.grow (wr.drewN n) os)) := Lib.hid (fun n os => (HE.out.below (bstep g8 hbx)).below (Gr.below ⟨n, os, rfl⟩))
                clear x1 x2 y1 y2 hy
                have hw1 : IntKind.i64.wrap (((n0 + harshRow t x j : Nat) : Int) + 1) = ((n0 + harshRow t x j : Nat) : Int) + 1 := IntWalk.i64_in _ (by omega)
                have hw0 : IntKind.i64.wrap (((n0 + harshRow t x j : Nat) : Int) + 0) = ((n0 + harshRow t x j : Nat) : Int) := by rw [Int.add_zero]; exact IntWalk.i64_in _ (by omega)
                have HY := Lib.hid (harshRow_yes (a := x) HB.out)
                have HX := Lib.hid (harshRow_no (a := x) HB.out)
                generalize hgr : harshRow t x j = m at *
                clear hgr
                obtain ⟨xa, xp⟩ := x
                obtain ⟨ya, yp⟩ := y
                simp only at x3 x4 y3 y4
                by_cases he : xa = ya
                · subst he
                  by_cases hs : sweetB xp yp = true
                  · have HS := Lib.hid hs
                    have HZ := Lib.hid (HX.out fun k => by rw [hs] at k; exact absurd k.2 (by decide))
                    clear hs HY HX hw1
                    go_wp2_with fail
                    refine wp_region_quiet_grown (by kernel_rfl) (by kernel_rfl) ?_
                    repeat (go_big_quiet_step ((first | (go_at_call 13; exact grown_gr (sweetI_gr (HG.out _ _) HS.out)) | (go_at_call 17; exact grown_gr (btoi_gr _ _)))))
                    refine wpQuiet_nil ?_
                    intro _ hw'
                    obtain ⟨⟨nq, osq⟩, hw''⟩ := hw'
                    subst hw''
                    have hbe := bstep hbx (Gr.below ⟨nq, osq, rfl⟩ : Below wr.heap.size wr (Sort.grow (wr.drewN nq) osq))
                    generalize Sort.grow (wr.drewN nq) osq = W9 at *
                    clear hbx HG
                    clear x3 x4 y3 y4
                    go_wp2
                    go_roundw
                    case rel => exact ⟨j + 1, by omega, by go_num, by simp only [HZ.out] <;> first | rfl | go_num, hbe⟩
                    case measure => simp [intOf]; omega
                  · have HS : Hid (sweetB xp yp = false) := Lib.hid (by simpa using hs)
                    have HZ := Lib.hid (HY.out rfl HS.out)
                    clear hs HY HX hw0
                    go_wp2_with fail
                    refine wp_region_quiet_grown (by kernel_rfl) (by kernel_rfl) ?_
                    repeat (go_big_quiet_step ((first | (go_at_call 13; exact grown_gr (sweetI_gr (HG.out _ _) HS.out)) | (go_at_call 17; exact grown_gr (btoi_gr _ _)))))
                    refine wpQuiet_nil ?_
                    intro _ hw'
                    obtain ⟨⟨nq, osq⟩, hw''⟩ := hw'
                    subst hw''
                    have hbe := bstep hbx (Gr.below ⟨nq, osq, rfl⟩ : Below wr.heap.size wr (Sort.grow (wr.drewN nq) osq))
                    generalize Sort.grow (wr.drewN nq) osq = W9 at *
                    clear hbx HG
                    clear x3 x4 y3 y4
                    go_wp2
                    go_roundw
                    case rel => exact ⟨j + 1, by omega, by go_num, by simp only [HZ.out] <;> first | rfl | go_num, hbe⟩
                    case measure => simp [intOf]; omega
                · have he' : (xa == ya) = false := by rw [beq_eq_false_iff_ne]; exact he
                  have HZ := Lib.hid (HX.out fun k => he k.1)
                  have HS : Hid (sweetB xp yp = sweetB xp yp) := Lib.hid rfl
                  clear HY HX hw1 he
                  go_wp2_with fail
                  refine wp_region_quiet_grown (by kernel_rfl) (by kernel_rfl) ?_
                  repeat (go_big_quiet_step ((first | (go_at_call 13; exact grown_gr (sweetI_gr (HG.out _ _) HS.out)) | (go_at_call 17; exact grown_gr (btoi_gr _ _)))))
                  refine wpQuiet_nil ?_
                  intro _ hw'
                  obtain ⟨⟨nq, osq⟩, hw''⟩ := hw'
                  subst hw''
                  have hbe := bstep hbx (Gr.below ⟨nq, osq, rfl⟩ : Below wr.heap.size wr (Sort.grow (wr.drewN nq) osq))
                  generalize Sort.grow (wr.drewN nq) osq = W9 at *
                  clear hbx HG
                  clear x3 x4 y3 y4
                  go_wp2
                  go_roundw
                  case rel => exact ⟨j + 1, by omega, by go_num, by simp only [HZ.out] <;> first | rfl | go_num, hbe⟩
                  case measure => simp [intOf]; omega
              · obtain rfl : j = i := by omega
                go_wp2
                go_roundw
                case rel => exact ⟨j + 1, by omega, by go_num, by simp only [HN.out] <;> first | rfl | go_num, hbx⟩
                case measure => simp [intOf]; omega
          · obtain rfl : i = t.length := by omega
            have g9 := bstep g8 hbr
            have hou9 := ownS_below hou8 hbr
            have hR49 := Rd.below hR4' hbr
            have hR39 := Rd.below hR3 hbr
            clear hot8 hou8 hR4' hR3 g8 hbr hRt
            obtain ⟨e1, e2, e3, e4⟩ := chord_root HPR.out
            have HC1 := Lib.hid e1
            have HC2 := Lib.hid e2
            have HC3 := Lib.hid e3
            have HC4 := Lib.hid e4
            clear e1 e2 e3 e4
            have hTb := HE.out.below g9
            have HTb := Lib.hid hTb
            clear hTb
            generalize harshN t t.length = N at *
            go_wp2_with fail
            refine (stepI_is HD1.out).mono ?_
            rintro e wa ⟨rfl, rfl⟩
            go_wp2_with fail
            refine (stepI_is HD2.out).mono ?_
            rintro e wa ⟨rfl, rfl⟩
            obtain ⟨c, hc⟩ : ∃ c, sweetB a b = c := ⟨_, rfl⟩
            have HCQ := Lib.hid hc
            have HSa := Lib.hid (sweetI_is (w := wr) HTb.out hc)
            have HSb := Lib.hid (sweetI_is (w := wr) HTb.out ((sweetB_comm b a).trans hc))
            have HSc := Lib.hid (sweetI_is (w := wr) HTb.out (sweetB_self (a := a) ⟨HPA.out.1, by have := HPA.out.2; omega⟩))
            have HCt := Lib.hid ((chord_two (a := a) (b := b) ⟨HPA.out.1, by have := HPA.out.2; omega⟩ ⟨HPB.out.1, by have := HPB.out.2; omega⟩).trans hc)
            clear hc
            go_wp2_with fail
            refine HSa.out.mono ?_
            rintro e wa ⟨rfl, rfl⟩
            go_wp2_with fail
            refine HSb.out.mono ?_
            rintro e wa ⟨rfl, rfl⟩
            have hcc : (c == c) = true := beq_self_eq_true _
            go_wp2_with fail
            refine HSc.out.mono ?_
            rintro e wa ⟨rfl, rfl⟩
            have hR2 := rd1_made wr [a, b] 3 (by unfold maxLen; simp)
            simp only [List.map_cons, List.map_nil, intV, List.length_cons, List.length_nil, Nat.reduceAdd] at hR2
            have k2 : Below wr.heap.size wr (wr.alloc (.cells #[.int .i64 a, .int .i64 b] 3)) := (Below.refl _ _).alloc (Nat.le_refl _) _
            have g10 := bstep g9 k2
            have HTc := Lib.hid (HE.out.below g10)
            have hou10 := ownS_below hou9 k2
            have hR410 := Rd.below hR49 k2
            have hR310 := Rd.below hR39 k2
            have HSd := Lib.hid (sweetI_is (w := wr.alloc (.cells #[.int .i64 a, .int .i64 b] 3)) HTc.out HCQ.out)
            clear HSa HSb HSc k2 g9 hou9 hR49 hR39
            go_wp2_with fail
            generalize wr.alloc (.cells #[.int .i64 a, .int .i64 b] 3) = V at *
            refine (chordI_is HTc.out ⟨hR2, ⟨_, _, _, rfl, Nat.le_refl _⟩⟩ HCt.out).mono ?_
            rintro e wa ⟨rfl, rfl⟩
            go_wp2_with fail
            refine HSd.out.mono ?_
            rintro e wa ⟨rfl, rfl⟩
            have hNN : ((N : Int) == (N : Int)) = true := beq_self_eq_true _
            have hrr : (r == r) = true := beq_self_eq_true _
            clear HSd hR2
            go_wp2_with fail
            refine (harshI_is HTc.out (Rc2.of_own hou10) (HU3.out.trans HU4.out)).mono ?_
            rintro e wb ⟨rfl, hbb⟩
            have g11 := bstep g10 hbb
            have hR411 := Rd.below hR410 hbb
            have hR311 := Rd.below hR310 hbb
            clear g10 hR410 hR310 hou10 hbb
            go_wp2_with fail
            refine (rootI_is hR411 HC1.out).mono ?_
            rintro e wc ⟨rfl, hbc⟩
            have g12 := bstep g11 hbc
            have hR412 := Rd.below hR411 hbc
            have hR312 := Rd.below hR311 hbc
            clear g11 hR411 hR311 hbc
            go_wp2_with fail
            refine (rootI_is hR312 HC2.out).mono ?_
            rintro e wd ⟨rfl, hbd⟩
            have g13 := bstep g12 hbd
            have hR413 := Rd.below hR412 hbd
            clear g12 hR412 hR312 hbd
            go_wp2_with fail
            refine (chordI_is (HE.out.below g13) ⟨hR413, ⟨_, _, _, rfl, Nat.le_refl _⟩⟩ HC3.out).mono ?_
            rintro e we ⟨rfl, rfl⟩
            have hRr := rd1_made wd [r, r + 1] 3 (by unfold maxLen; simp)
            simp only [List.map_cons, List.map_nil, intV, List.length_cons, List.length_nil, Nat.reduceAdd] at hRr
            have g14 := bstep g13 ((Below.refl _ _).alloc (Nat.le_refl _) (.cells #[.int .i64 r, .int .i64 (r + 1)] 3) : Below wd.heap.size wd (wd.alloc (.cells #[.int .i64 r, .int .i64 (r + 1)] 3)))
            clear g13 hR413
            go_wp2_with fail
            generalize wd.alloc (.cells #[.int .i64 r, .int .i64 (r + 1)] 3) = X at *
            refine (rootI_is hRr HC4.out).mono ?_
            rintro e wf ⟨rfl, hbf⟩
            have g15 := bstep g14 hbf
            clear g14 hRr hbf
            go_wp2
            go_ret
            exact ⟨rfl, g15⟩
end Go.Proofs.YtceebblokibapaaDoor
