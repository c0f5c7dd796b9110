/- The contracts of slices.Contains and slices.BinarySearchFunc at rows of pins. No condition. Made by mk_implpin.py. -/
import Derived.Test.YtcbdoldcdgaooaaPinSort
import Derived.Test.YtcbdoldcdgaooaaImplAdd
namespace Go.Proofs.Ytcbdoldcdgaooaa
open Go.ChangeShapes Go.WideShapes Go.ChangeAt Go.RowKit


theorem rankP_mono {l : List (Int × Int)} {x p q : Int × Int} {i j : Nat} (h : SP l) (hij : i ≤ j) (hp : l[i]? = some p) (hq : l[j]? = some q) (hl : pless q x = true) : pless p x = true := by
  rcases Nat.eq_or_lt_of_le hij with rfl | hlt
  · rw [hp] at hq; rw [Option.some.inj hq]; exact hl
  · obtain ⟨h1, e1⟩ := List.getElem?_eq_some_iff.1 hp
    obtain ⟨h2, e2⟩ := List.getElem?_eq_some_iff.1 hq
    have := List.pairwise_iff_getElem.1 (sp_pw.1 h) i j h1 h2 hlt
    rw [e1, e2] at this
    exact pless_trans this hl
set_option maxHeartbeats 1000000 in
theorem indexP_any {w : World} {v : Value} {l : List (Int × Int)} (x : Int × Int) (h : Rd2 w v l) (hl : l.length ≤ 1048576) :
    Calls Try.prog 110 #[v, .agg #[.int .i64 x.1, .int .i64 x.2]] w (IdxPost w l x) := by
  obtain ⟨a1, cap1, rfl⟩ := Rd.slice h
  go_enter Try.func110, Try.ntmps110
  go_wp2_with fail
  obtain ⟨z1, z2, hb0⟩ : (w.alloc (.cells #[.int .i64 x.1, .int .i64 x.2] 32)).cell? ⟨w.heap.size, 0, none⟩ = some (.int .i64 x.1) ∧ (w.alloc (.cells #[.int .i64 x.1, .int .i64 x.2] 32)).cell? ⟨w.heap.size, 1, none⟩ = some (.int .i64 x.2) ∧ Below w.heap.size w (w.alloc (.cells #[.int .i64 x.1, .int .i64 x.2] 32)) :=
    ⟨cell0 _ _ _ _, cell0 _ _ _ _, (Below.refl _ _).alloc (Nat.le_refl _) _⟩
  generalize w.alloc (.cells #[.int .i64 x.1, .int .i64 x.2] 32) = W1 at *
  go_loopw [8] (fun v8 wr => ∃ j d : Nat, j ≤ l.length ∧ v8 = .int .i64 j ∧ wr = W1.drewN d ∧ (∀ i p, i < j → l[i]? = some p → p ≠ x)) (fun v8 _ => l.length - (intOf v8).toNat)
  case atStart => exact ⟨0, 0, Nat.zero_le _, rfl, rfl, fun i p hi => by omega⟩
  case round =>
    obtain ⟨j, d, hj, rfl, rfl, hall⟩ := hrel
    have HA := Lib.hid hall; clear hall
    by_cases hlt : j < l.length
    · obtain ⟨p, hp⟩ : ∃ p, l[j]? = some p := ⟨_, List.getElem?_eq_getElem hlt⟩
      have HP := Lib.hid hp
      obtain ⟨b1, o1, c1, hv1, x1, y1⟩ := Rd2.cells (Rd.below h hb0) hp
      simp only [Value.slice.injEq, true_and] at hv1
      obtain ⟨rfl, rfl⟩ := hv1
      clear hp
      by_cases hpx : x = p
      · have he := fun W => eql_yesP hpx W
        have HM : Hid (memB l x = true) := Lib.hid (memB_true.2 (List.mem_iff_getElem?.2 ⟨j, by rw [HP.out, hpx]⟩))
        clear hpx
        go_wp2_with fail
        go_quiet (fail)
        go_wp2
        go_ret
        exact ⟨j, rfl, by rw [HM.out]; exact decide_eq_true (by omega), below_drewN (below_drewN hb0 _) _⟩
      · have he := fun W => eql_noP hpx W
        have HN : Hid (∀ i q, i < j + 1 → l[i]? = some q → q ≠ x) := Lib.hid (fun i q hi hq => by
          by_cases hij : i < j
          · exact HA.out i q hij hq
          · obtain rfl : i = j := by omega
            rw [HP.out] at hq
            obtain rfl := Option.some.inj hq
            exact fun e => hpx e.symm)
        clear hpx
        go_wp2_with fail
        go_quiet (fail)
        clear he
        go_wp2
        go_roundw
        case rel => exact ⟨j + 1, _, by omega, by go_num, rfl, HN.out⟩
        case measure => simp [intOf]; omega
    · have HM : Hid (memB l x = false) := Lib.hid (memB_false.2 (fun hx => by
        obtain ⟨i, hi⟩ := List.mem_iff_getElem?.1 hx
        exact HA.out i x (by have := (List.getElem?_eq_some_iff.1 hi).1; omega) hi rfl))
      obtain rfl : j = l.length := by omega
      go_wp2
      go_ret
      exact ⟨-1, rfl, by rw [HM.out]; rfl, below_drewN hb0 _⟩

set_option maxHeartbeats 1000000 in
theorem containsP_any {w : World} {v : Value} {l : List (Int × Int)} (x : Int × Int) (h : Rd2 w v l) (hl : l.length ≤ 1048576) :
    Calls Try.prog 67 #[v, .agg #[.int .i64 x.1, .int .i64 x.2]] w fun e w' => e = .returned (.bool (memB l x)) ∧ Below w.heap.size w w' := by
  go_enter Try.func67, Try.ntmps67
  go_wp2_with fail
  obtain ⟨z1, z2, hb0⟩ : (w.alloc (.cells #[.int .i64 x.1, .int .i64 x.2] 32)).cell? ⟨w.heap.size, 0, none⟩ = some (.int .i64 x.1) ∧ (w.alloc (.cells #[.int .i64 x.1, .int .i64 x.2] 32)).cell? ⟨w.heap.size, 1, none⟩ = some (.int .i64 x.2) ∧ Below w.heap.size w (w.alloc (.cells #[.int .i64 x.1, .int .i64 x.2] 32)) :=
    ⟨cell0 _ _ _ _, cell0 _ _ _ _, (Below.refl _ _).alloc (Nat.le_refl _) _⟩
  refine (indexP_any x (Rd.below h hb0) hl).mono ?_
  rintro e w2 ⟨r, rfl, hr, hb2⟩
  have hb3 := bstep hb0 hb2
  have HR := Lib.hid hr
  clear hr hb0 hb2 z1 z2
  go_wp2
  go_ret
  exact ⟨ret_b HR.out, hb3⟩

theorem containsP_yes {w : World} {v : Value} {l : List (Int × Int)} {x : Int × Int} (h : Rd2 w v l) (hl : l.length ≤ 1048576) (hx : memB l x = true) :
    Calls Try.prog 67 #[v, .agg #[.int .i64 x.1, .int .i64 x.2]] w fun e w' => e = .returned (.bool true) ∧ Below w.heap.size w w' :=
  (containsP_any x h hl).mono fun _ _ ⟨he, hb⟩ => ⟨by rw [he, hx], hb⟩

theorem containsP_no {w : World} {v : Value} {l : List (Int × Int)} {x : Int × Int} (h : Rd2 w v l) (hl : l.length ≤ 1048576) (hx : memB l x = false) :
    Calls Try.prog 67 #[v, .agg #[.int .i64 x.1, .int .i64 x.2]] w fun e w' => e = .returned (.bool false) ∧ Below w.heap.size w w' :=
  (containsP_any x h hl).mono fun _ _ ⟨he, hb⟩ => ⟨by rw [he, hx], hb⟩

set_option maxHeartbeats 2000000 in
theorem bsearchP_any {w : World} {v : Value} {l : List (Int × Int)} (x : Int × Int) (h : Rd2 w v l) (hl : l.length ≤ 1048576) (hs : SP l) (hx : x ∉ l) :
    Calls Try.prog 68 #[v, .agg #[.int .i64 x.1, .int .i64 x.2], .func (.func 63) #[] #[]] w fun e w' => e = .returned (.tuple #[.int .i64 (rankP l x : Nat), .bool false]) ∧ Below w.heap.size w w' := by
  obtain ⟨a1, cap1, rfl⟩ := Rd.slice h
  have HS := Lib.hid hs; have HX := Lib.hid hx
  clear hs hx
  go_enter Try.func68, Try.ntmps68
  go_wp2_with fail
  obtain ⟨z1, z2, hb0⟩ : (w.alloc (.cells #[.int .i64 x.1, .int .i64 x.2] 32)).cell? ⟨w.heap.size, 0, none⟩ = some (.int .i64 x.1) ∧ (w.alloc (.cells #[.int .i64 x.1, .int .i64 x.2] 32)).cell? ⟨w.heap.size, 1, none⟩ = some (.int .i64 x.2) ∧ Below w.heap.size w (w.alloc (.cells #[.int .i64 x.1, .int .i64 x.2] 32)) :=
    ⟨cell0 _ _ _ _, cell0 _ _ _ _, (Below.refl _ _).alloc (Nat.le_refl _) _⟩
  generalize w.alloc (.cells #[.int .i64 x.1, .int .i64 x.2] 32) = W1 at *
  go_loopw [9, 10] (fun v9 v10 wr => ∃ lo hi : Nat, lo ≤ hi ∧ hi ≤ l.length ∧ v9 = .int .i64 lo ∧ v10 = .int .i64 hi ∧ Gr W1 wr ∧ Hid ((∀ i p, i < lo → l[i]? = some p → pless p x = true) ∧ (∀ i p, hi ≤ i → l[i]? = some p → pless p x = false))) (fun v9 v10 _ => (intOf v10).toNat - (intOf v9).toNat)
  case atStart => exact ⟨0, l.length, Nat.zero_le _, Nat.le_refl _, rfl, rfl, gr_of_below (Below.refl _ _) (Nat.le_refl _), Lib.hid ⟨fun i p hi => by omega, fun i p hi hp => by have := (List.getElem?_eq_some_iff.1 hp).1; omega⟩⟩
  case round =>
    obtain ⟨lo, hi, hlh, hhl, rfl, rfl, hgr, HI⟩ := hrel
    have hb1 := below_of_only (only_of_below hgr.below (some W1.heap.size)) (Nat.le_refl _) (Nat.le_refl _)
    by_cases hlt : lo < hi
    · obtain ⟨m, hm⟩ : ∃ m, m = (lo + hi) / 2 := ⟨_, rfl⟩
      have hm1 : lo ≤ m := by omega
      have hm2 : m < hi := by omega
      have hm3 : m < l.length := by omega
      obtain ⟨p, hp⟩ : ∃ p, l[m]? = some p := ⟨_, List.getElem?_eq_getElem hm3⟩
      obtain ⟨b1, o1, c1, hv1, x1, y1⟩ := Rd2.cells (Rd.below h (bstep hb0 hb1)) hp
      simp only [Value.slice.injEq, true_and] at hv1
      obtain ⟨rfl, rfl⟩ := hv1
      have HP := Lib.hid hp; have HM := Lib.hid hm
      have x3 := fun n os => cell_grown (World.block_lt_of_cell? _ _ x1) x1 n os
      have y3 := fun n os => cell_grown (World.block_lt_of_cell? _ _ y1) y1 n os
      have z3 := kept_b hb1 z1
      have z4 := kept_b hb1 z2
      have z5 := fun n os => cell_grown (World.block_lt_of_cell? _ _ z3) z3 n os
      have z6 := fun n os => cell_grown (World.block_lt_of_cell? _ _ z4) z4 n os
      have em : ((lo : Int) + (hi : Int)) / 2 = (m : Int) := by omega
      clear hp hm x1 y1 z3 z4
      have HMM : Hid (lo ≤ m ∧ m < hi ∧ (lo + hi) / 2 = m) := Lib.hid ⟨hm1, hm2, HM.out.symm⟩
      go_wp2_with fail
      by_cases hls : pless p x = true
      · have hcn : decide (cmpP p x < 0) = true := decide_eq_true (cmpP_lt.2 hls)
        have HI2 : Hid ((∀ i q, i < m + 1 → l[i]? = some q → pless q x = true) ∧ (∀ i p, hi ≤ i → l[i]? = some p → pless p x = false)) := Lib.hid ⟨fun i q hi hq => rankP_mono HS.out (by omega) hq HP.out hls, HI.out.2⟩
        clear hls
        refine wp_region_quiet_grown (by kernel_rfl) (by kernel_rfl) ?_
        repeat (go_big_quiet_step ((go_at_call 63; exact grown_gr (compP_any p x _))))
        refine wpQuiet_nil ?_
        intro _ hw'
        obtain ⟨⟨nq, osq⟩, hw''⟩ := hw'
        subst hw''
        have hg2 : Gr W1 (Sort.grow (wr.drewN nq) osq) := hgr.trans ⟨nq, osq, rfl⟩
        generalize Sort.grow (wr.drewN nq) osq = W2 at *
        clear x3 y3 z5 z6 hcn hb1 em
        go_wp2
        go_roundw
        case rel => exact ⟨m + 1, hi, by omega, by omega, by go_num, rfl, hg2, HI2⟩
        case measure => simp [intOf]; omega
      · have hls' : pless p x = false := by simpa using hls
        have hcn : decide (cmpP p x < 0) = false := decide_eq_false (fun h => by rw [cmpP_lt] at h; exact hls h)
        have HI2 : Hid ((∀ i q, i < lo → l[i]? = some q → pless q x = true) ∧ (∀ i q, m ≤ i → l[i]? = some q → pless q x = false)) := Lib.hid ⟨HI.out.1, fun i q hi hq => by
          by_cases e : pless q x = true
          · exact absurd (rankP_mono HS.out hi HP.out hq e) hls
          · simpa using e⟩
        clear hls hls'
        refine wp_region_quiet_grown (by kernel_rfl) (by kernel_rfl) ?_
        repeat (go_big_quiet_step ((go_at_call 63; exact grown_gr (compP_any p x _))))
        refine wpQuiet_nil ?_
        intro _ hw'
        obtain ⟨⟨nq, osq⟩, hw''⟩ := hw'
        subst hw''
        have hg2 : Gr W1 (Sort.grow (wr.drewN nq) osq) := hgr.trans ⟨nq, osq, rfl⟩
        generalize Sort.grow (wr.drewN nq) osq = W2 at *
        clear x3 y3 z5 z6 hcn hb1 em
        go_wp2
        go_roundw
        case rel => exact ⟨lo, m, by omega, by omega, rfl, rfl, hg2, HI2⟩
        case measure => simp [intOf]; omega
    · obtain rfl : lo = hi := by omega
      have HR : Hid (rankP l x = lo) := Lib.hid (rankP_of (fun i p hi hp => HI.out.1 i p hi hp) hhl (fun p hp => HI.out.2 lo p (Nat.le_refl _) hp))
      by_cases hn : lo < l.length
      · obtain ⟨p, hp⟩ : ∃ p, l[lo]? = some p := ⟨_, List.getElem?_eq_getElem hn⟩
        obtain ⟨b1, o1, c1, hv1, x1, y1⟩ := Rd2.cells (Rd.below h (bstep hb0 hb1)) hp
        simp only [Value.slice.injEq, true_and] at hv1
        obtain ⟨rfl, rfl⟩ := hv1
        have hpx : p ≠ x := fun e => HX.out (e ▸ List.mem_iff_getElem?.2 ⟨lo, hp⟩)
        have x3 := fun n os => cell_grown (World.block_lt_of_cell? _ _ x1) x1 n os
        have y3 := fun n os => cell_grown (World.block_lt_of_cell? _ _ y1) y1 n os
        have z3 := kept_b hb1 z1
        have z4 := kept_b hb1 z2
        have z5 := fun n os => cell_grown (World.block_lt_of_cell? _ _ z3) z3 n os
        have z6 := fun n os => cell_grown (World.block_lt_of_cell? _ _ z4) z4 n os
        have hcn : (cmpP p x == 0) = false := by
          rw [← Bool.not_eq_true, beq_iff_eq, cmpP_zero]; exact hpx
        clear hp x1 y1 z3 z4 hpx
        go_wp2_with fail
        refine wp_region_quiet_grown (by kernel_rfl) (by kernel_rfl) ?_
        repeat (go_big_quiet_step ((go_at_call 63; exact grown_gr (compP_any p x _))))
        refine wpQuiet_nil ?_
        intro _ hw'
        obtain ⟨⟨nq, osq⟩, hw''⟩ := hw'
        subst hw''
        have hg2 : Gr W1 (Sort.grow (wr.drewN nq) osq) := hgr.trans ⟨nq, osq, rfl⟩
        generalize Sort.grow (wr.drewN nq) osq = W2 at *
        have hb9 := bstep hb0 hg2.below
        clear x3 y3 z5 z6 hcn hb1
        go_wp2
        go_ret2
        exact ⟨by rw [HR.out]; rfl, hb9⟩
      · have hn' : decide (lo < l.length) = false := decide_eq_false hn
        have hn'' : decide ((lo : Int) < (l.length : Int)) = false := decide_eq_false (by omega)
        have hb9 := bstep hb0 hgr.below
        go_wp2_with fail
        go_quiet (fail)
        go_wp2
        go_ret2
        exact ⟨by rw [HR.out]; rfl, below_drewN hb9 _⟩

end Go.Proofs.Ytcbdoldcdgaooaa
