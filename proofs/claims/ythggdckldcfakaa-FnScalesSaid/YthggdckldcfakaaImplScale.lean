/- The contracts of chapter 17's program: a scale is a struct with a function field. No condition. Made by gen_scale.py. -/
import Derived.Test.YthggdckldcfakaaScaleSpec
import Derived.Test.YthggdckldcfakaaImplTune
import Derived.Test.YthggdckldcfakaaSortSpec
import Derived.Deep.CutRange
namespace Go.Proofs.Ythggdckldcfakaa
open Go.ChangeShapes Go.WideShapes Go.ChangeAt Go.RowKit

/-! ### a boxed struct of an int and a function -/
def BoxF (w : World) (b : Nat) (x y : Value) : Prop := b < w.heap.size ∧ (w.cell? ⟨b, 0, none⟩ = some x ∧ w.cell? ⟨b, 1, none⟩ = some y) ∧ ∀ o, w.frozen? ⟨b, o, none⟩ = false
theorem boxF_new (w : World) (x y : Value) (ty : TypeId) : BoxF (w.alloc (.cells #[x, y] ty)) w.heap.size x y :=
  ⟨by simp, ⟨by simp [go_sem], by simp [go_sem]⟩, fun o => by simp [go_sem]⟩
theorem BoxF.below {w w' : World} {b : Nat} {x y : Value} (h : BoxF w b x y) (hb : Below w.heap.size w w') : BoxF w' b x y :=
  ⟨Nat.lt_of_lt_of_le h.1 hb.size, ⟨kept_b hb h.2.1.1, kept_b hb h.2.1.2⟩, fun o => (hb.frozen (p := ⟨b, o, none⟩) h.1).trans (h.2.2 o)⟩
def wrF (w : World) (b : Nat) (x y : Value) : World := (w.setCell ⟨b, 0, none⟩ x).setCell ⟨b, 1, none⟩ y
theorem readF {w : World} {b : Nat} {x0 y0 : Value} (h : BoxF w b x0 y0) (x y : Value) : (w.setCell ⟨b, 0, none⟩ x).cell? ⟨b, 0, none⟩ = some x ∧ ((w.setCell ⟨b, 0, none⟩ x).setCell ⟨b, 1, none⟩ y).cell? ⟨b, 1, none⟩ = some y :=
  ⟨World.cell?_setCell_same _ _ _ h.2.1.1, World.cell?_setCell_same _ _ _ (by rw [World.cell?_setCell_other (h := by simp)]; exact h.2.1.2)⟩
theorem frzF_set (w : World) (p : Addr) (v : Value) (a : Addr) : (w.setCell p v).frozen? a = w.frozen? a := by simp [go_sem]
theorem wrF_same {w : World} {b : Nat} {x0 y0 : Value} (h : BoxF w b x0 y0) (x y : Value) : BoxF (wrF w b x y) b x y := by
  obtain ⟨k0, k1⟩ := readF h x y
  refine ⟨by unfold wrF; simp; exact h.1, ⟨?_, k1⟩, fun o => by unfold wrF; rw [frzF_set, frzF_set]; exact h.2.2 o⟩
  unfold wrF; rw [World.cell?_setCell_other (h := by simp)]; exact k0
theorem wrF_other {w : World} {b c : Nat} {x0 y0 : Value} (h : BoxF w c x0 y0) (hne : b ≠ c) (x y : Value) : BoxF (wrF w b x y) c x0 y0 := by
  refine ⟨by unfold wrF; simp; exact h.1, ⟨?_, ?_⟩, fun o => by unfold wrF; rw [frzF_set, frzF_set]; exact h.2.2 o⟩ <;> (unfold wrF; rw [World.cell?_setCell_far _ _ _ _ hne, World.cell?_setCell_far _ _ _ _ hne])
  · exact h.2.1.1
  · exact h.2.1.2
theorem wrF_below {w0 w : World} {B b : Nat} (h : Below B w0 w) (hb : B ≤ b) (x y : Value) : Below B w0 (wrF w b x y) := by unfold wrF; exact (h.setCell hb _).setCell hb _
theorem wrF_cell (w : World) {b c o : Nat} (x y : Value) (hne : b ≠ c) : (wrF w b x y).cell? ⟨c, o, none⟩ = w.cell? ⟨c, o, none⟩ := by
  unfold wrF; rw [World.cell?_setCell_far _ _ _ _ hne, World.cell?_setCell_far _ _ _ _ hne]
theorem keptF {W W' : World} {row : Option Nat} (hg : W.grownBy W' row) {b o : Nat} {v : Value} (hb : some b ≠ row) (h : W.cell? ⟨b, o, none⟩ = some v) : W'.cell? ⟨b, o, none⟩ = some v := by
  have hlt : b < W.heap.size := World.block_lt_of_cell? W _ h
  have e : W'.cell? ⟨b, o, none⟩ = W.cell? ⟨b, o, none⟩ := World.cell?_of_block (hg.block b hlt hb)
  rw [e]; exact h
theorem cellF1 (w : World) (u : Value) (t : TypeId) : (w.alloc (.cells #[u] t)).cell? ⟨w.heap.size, 0, none⟩ = some u := World.cell?_alloc_mark w #[u] t (0, 0) 0
theorem run_store_funcF (w : World) (a : Addr) (m : Mode) (fn : Fn) (x y : Array Value) : (store a (.func fn x y) m).run Try.prog w = stored Try.prog w a (.func fn x y) m := run_store Try.prog w a _ m rfl
theorem gr_trans17 {a b c : World} (h : Gr a b) (k : Gr b c) : Gr a c := by
  obtain ⟨q, os, rfl⟩ := h
  obtain ⟨q', os', rfl⟩ := k
  refine ⟨q + q', os ++ os', ?_⟩
  show Sort.grow (Sort.grow ((a.drewN q).drewN q') os) os' = _
  rw [Sort.grow_grow, World.drewN_drewN]
theorem gr_alloc17 (w : World) (x : Obj) : Gr w (w.alloc x) := gr_of_below ((Below.refl _ _).alloc (Nat.le_refl _) _) (Nat.le_refl _)

theorem scOk_any (x : Int) (w : World) :
    Calls Try.prog 47 #[.int .i64 x] w fun e w' => e = .returned (.bool (inB x 0 4095)) ∧ w = w' := by
  by_cases h1 : 0 ≤ x <;> by_cases h2 : x ≤ 4095
  all_goals
    go_enter Try.func47, Try.ntmps47
    go_wp2
    go_ret
    exact ⟨by unfold inB; simp; omega, rfl⟩
theorem scOk_is {x : Int} {c : Bool} (h : inB x 0 4095 = c) (w : World) :
    Calls Try.prog 47 #[.int .i64 x] w fun e w' => e = .returned (.bool c) ∧ w = w' :=
  (scOk_any x w).mono fun _ _ ⟨he, hw⟩ => ⟨by rw [he, h], hw⟩

theorem stOk_any (x : Int) (w : World) :
    Calls Try.prog 45 #[.int .i64 x] w fun e w' => e = .returned (.bool (inB x 0 11)) ∧ w = w' := by
  by_cases h1 : 0 ≤ x <;> by_cases h2 : x < 12
  all_goals
    go_enter Try.func45, Try.ntmps45
    go_wp2
    go_ret
    exact ⟨by unfold inB; simp; omega, rfl⟩
theorem stOk_is {x : Int} {c : Bool} (h : inB x 0 11 = c) (w : World) :
    Calls Try.prog 45 #[.int .i64 x] w fun e w' => e = .returned (.bool c) ∧ w = w' :=
  (stOk_any x w).mono fun _ _ ⟨he, hw⟩ => ⟨by rw [he, h], hw⟩

theorem rotP_any (s b : Int) (w : World) :
    Calls Try.prog 19 #[.int .i64 s, .int .i64 b] w fun e w' => e = .returned (.int .i64 (rotI s b)) ∧ Gr w w' := by
  by_cases h1 : 0 ≤ s ∧ s ≤ 4095
  · by_cases h2 : 0 ≤ b ∧ b ≤ 11
    · obtain ⟨s, rfl⟩ := Int.eq_ofNat_of_zero_le h1.1
      obtain ⟨b, rfl⟩ := Int.eq_ofNat_of_zero_le h2.1
      have hb12 : b < 12 := by omega
      have HR := Lib.hid (rotI_yes (s := s) (b := b) (by omega) hb12)
      have HE := Lib.hid (rot_prog (s := s) (b := b) (by omega) hb12)
      have e12 : (12 : Int) - (b : Int) = ((12 - b : Nat) : Int) := by omega
      have e12w : IntKind.i64.wrap ((12 - b : Nat) : Int) = ((12 - b : Nat) : Int) := IntWalk.i64_in _ (by omega)
      have h1' := Lib.hid h1
      have h2' := Lib.hid h2
      clear h1 h2
      go_enter Try.func19, Try.ntmps19
      go_wp2_with fail
      have h1 := h1'.out
      refine (scOk_is (inB_true h1) _).mono ?_
      rintro e w1 ⟨rfl, rfl⟩
      clear h1
      go_wp2_with fail
      have h2 := h2'.out
      refine (stOk_is (inB_true h2) _).mono ?_
      rintro e w1 ⟨rfl, rfl⟩
      clear h2
      go_wp2_with fail
      go_quiet (fail)
      have hge : Gr w (w.drewN nq) := gr_of_below (below_drewN (Below.refl _ _) nq) (by show w.drawn ≤ w.drawn + nq; omega)
      generalize w.drewN nq = W2 at *
      go_wp2
      go_ret
      refine ⟨?_, hge⟩
      rw [HR.out, ← HE.out]; (try rfl)
    · have HR := Lib.hid (rotI_no (s := s) (b := b) fun k => h2 k.2)
      have h1' := Lib.hid h1
      have h2' := Lib.hid h2
      clear h1 h2
      go_enter Try.func19, Try.ntmps19
      go_wp2_with fail
      have h1 := h1'.out
      refine (scOk_is (inB_true h1) _).mono ?_
      rintro e w1 ⟨rfl, rfl⟩
      clear h1
      go_wp2_with fail
      have h2 := h2'.out
      refine (stOk_is (inB_false h2) _).mono ?_
      rintro e w1 ⟨rfl, rfl⟩
      clear h2
      go_wp2
      go_ret
      exact ⟨by rw [HR.out]; (try rfl), gr_same17 rfl⟩
  · have HR := Lib.hid (rotI_no (s := s) (b := b) fun k => h1 k.1)
    have h1' := Lib.hid h1
    clear h1
    go_enter Try.func19, Try.ntmps19
    go_wp2_with fail
    have h1 := h1'.out
    refine (scOk_is (inB_false h1) _).mono ?_
    rintro e w1 ⟨rfl, rfl⟩
    clear h1
    go_wp2
    go_ret
    exact ⟨by rw [HR.out]; (try rfl), gr_same17 rfl⟩
theorem rotP_is {s b c : Int} (h : rotI s b = c) (w : World) :
    Calls Try.prog 19 #[.int .i64 s, .int .i64 b] w fun e w' => e = .returned (.int .i64 c) ∧ Gr w w' :=
  (rotP_any s b w).mono fun _ _ ⟨he, hw⟩ => ⟨by rw [he, h], hw⟩
theorem majP_any (r : Int) (w : World) :
    Calls Try.prog 18 #[.int .i64 r] w fun e w' => e = .returned (.int .i64 (rotI 2741 r)) ∧ Gr w w' := by
  have HR := Lib.hid (fun W => rotP_any 2741 r W)
  generalize rotI 2741 r = R at *
  go_enter Try.func18, Try.ntmps18
  go_wp2_with fail
  refine (HR.out _).mono ?_
  rintro e w1 ⟨rfl, hg1⟩
  go_wp2
  go_ret
  exact ⟨rfl, hg1⟩
theorem majP_is {r : Nat} (hr : r < 12) (w : World) :
    Calls Try.prog 18 #[.int .i64 (r : Int)] w fun e w' => e = .returned (.int .i64 ((majN r : Nat) : Int)) ∧ Gr w w' :=
  (majP_any r w).mono fun _ _ ⟨he, hw⟩ => ⟨by rw [he, majI_yes hr], hw⟩

set_option maxHeartbeats 1000000 in
theorem symP_any (s : Int) (w : World) :
    Calls Try.prog 22 #[.int .i64 s] w fun e w' => e = .returned (.int .i64 (symI s)) ∧ Gr w w' := by
  by_cases h1 : 0 ≤ s ∧ s ≤ 4095
  · obtain ⟨s, rfl⟩ := Int.eq_ofNat_of_zero_le h1.1
    have HS : Hid (s < 4096) := Lib.hid (by omega)
    have HR := Lib.hid (symI_yes HS.out)
    have h1' := Lib.hid h1
    clear h1
    go_enter Try.func22, Try.ntmps22
    go_wp2_with fail
    have h1 := h1'.out
    refine (scOk_is (inB_true h1) _).mono ?_
    rintro e w1 ⟨rfl, rfl⟩
    clear h1
    go_wp2_with fail
    go_loopw [3, 8] (fun v3 v8 wr => ∃ n : Nat, n ≤ 12 ∧ v8 = .int .i64 (n : Int) ∧ v3 = .int .i64 ((symN s n : Nat) : Int) ∧ Gr w wr) (fun _ v8 _ => 12 - (intOf v8).toNat)
    case atStart => exact ⟨0, by omega, rfl, rfl, gr_same17 rfl⟩
    case round =>
      obtain ⟨n, hn, rfl, rfl, hgr⟩ := hrel
      by_cases hlt : n < 12
      · have hsl := symN_le s n
        by_cases hq : rotN s n = s
        · have HY := Lib.hid (symN_yes hq)
          have HQ : Hid (rotI s n = (s : Int)) := Lib.hid (by rw [rotI_yes HS.out hlt, hq])
          clear hq
          generalize symN s n = y at *
          go_wp2_with fail
          refine (rotP_is HQ.out _).mono ?_
          rintro e w1 ⟨rfl, hg1⟩
          have hg2 := gr_trans17 hgr hg1
          go_wp2
          go_roundw
          case rel => exact ⟨n + 1, by omega, by go_num, by rw [HY.out]; go_num, hg2⟩
          case measure => simp [intOf]; omega
        · have HN := Lib.hid (symN_no hq)
          have hz : (((rotN s n : Nat) : Int) == (s : Int)) = false := by rw [beq_eq_false_iff_ne]; omega
          have HQ : Hid (rotI s n = ((rotN s n : Nat) : Int)) := Lib.hid (rotI_yes HS.out hlt)
          clear hq
          generalize symN s n = y at *
          generalize rotN s n = z at *
          go_wp2_with fail
          refine (rotP_is HQ.out _).mono ?_
          rintro e w1 ⟨rfl, hg1⟩
          have hg2 := gr_trans17 hgr hg1
          go_wp2
          go_roundw
          case rel => exact ⟨n + 1, by omega, by go_num, by rw [HN.out], hg2⟩
          case measure => simp [intOf]; omega
      · obtain rfl : n = 12 := by omega
        go_wp2
        go_ret
        exact ⟨by rw [HR.out]; (try rfl), hgr⟩
  · have HR := Lib.hid (symI_no h1)
    have h1' := Lib.hid h1
    clear h1
    go_enter Try.func22, Try.ntmps22
    go_wp2_with fail
    have h1 := h1'.out
    refine (scOk_is (inB_false h1) _).mono ?_
    rintro e w1 ⟨rfl, rfl⟩
    clear h1
    go_wp2
    go_ret
    exact ⟨by rw [HR.out]; (try rfl), gr_same17 rfl⟩
theorem symP_is {s c : Int} (h : symI s = c) (w : World) :
    Calls Try.prog 22 #[.int .i64 s] w fun e w' => e = .returned (.int .i64 c) ∧ Gr w w' :=
  (symP_any s w).mono fun _ _ ⟨he, hw⟩ => ⟨by rw [he, h], hw⟩

theorem stepP_any (p : Int × Int) (hp : 0 ≤ p.2) (w : World) :
    Calls Try.prog 40 #[.int .i64 p.2] w fun e w' => e = .returned (.int .i64 ((2 ^ stepN p : Nat) : Int)) ∧ w = w' := by
  have hs := stepN_cast p
  have hs12 := stepN_lt p
  have HW := Lib.hid (wrap_pow hs12)
  generalize stepN p = s at *
  generalize p.2 = y at *
  go_enter Try.func40, Try.ntmps40
  go_wp2
  go_ret
  refine ⟨?_, rfl⟩
  rw [← HW.out]; (try rfl)
theorem stepP_gr (p : Int × Int) (hp : 0 ≤ p.2) (w : World) :
    Calls Try.prog 40 #[.int .i64 p.2] w fun e w' => e = .returned (.int .i64 ((2 ^ stepN p : Nat) : Int)) ∧ Gr w w' :=
  (stepP_any p hp w).mono fun _ _ ⟨he, hw⟩ => ⟨he, gr_same17 hw⟩

set_option maxHeartbeats 2000000 in
theorem useP_any {w : World} {v : Value} {l : List (Int × Int)} (h : Rd2 w v l) :
    Calls Try.prog 13 #[v] w fun e w' => e = .returned (.int .i64 (stepsM l)) ∧ Below w.heap.size w w' := by
  obtain ⟨a1, cap1, rfl⟩ := Rd.slice h
  have hm := h.2.1
  unfold maxLen at hm
  by_cases ht : tuneB l = true
  · have HT := Lib.hid ht
    have HP := Lib.hid (tuneB_true.1 ht)
    have h40 := HP.out.1
    have HR := Lib.hid (stepsM_yes ht)
    clear ht
    go_enter Try.func13, Try.ntmps13
    go_wp2_with fail
    refine (itune_yes h HT.out).mono ?_
    rintro e w1 ⟨rfl, hb1⟩
    go_wp2_with fail
    go_loopw [3, 11] (fun v3 v11 wr => ∃ j : Nat, j ≤ l.length ∧ v11 = .int .i64 j ∧ v3 = .int .i64 ((useN (l.take j) : Nat) : Int) ∧ Below w.heap.size w wr) (fun _ v11 _ => l.length - (intOf v11).toNat)
    case atStart => exact ⟨0, Nat.zero_le _, rfl, rfl, hb1⟩
    case round =>
      obtain ⟨j, hj, rfl, rfl, hbr⟩ := hrel
      by_cases hlt : j < l.length
      · obtain ⟨p, hp⟩ : ∃ p, l[j]? = some p := ⟨_, List.getElem?_eq_getElem hlt⟩
        have hpr := (HP.out.2 j p hp).2.1
        obtain ⟨b1, o1, c1, hv1, x1, y1⟩ := Rd2.cells (Rd.below h hbr) hp
        simp only [Value.slice.injEq, true_and] at hv1
        obtain ⟨rfl, rfl⟩ := hv1
        have HQ := Lib.hid hp
        clear hp
        have hs : p.2 % 12 = ((stepN p : Nat) : Int) := stepN_cast p
        have hs12 := stepN_lt p
        have hp0 : 0 ≤ p.2 := hpr.1
        have hS := use_lt (l.take j)
        have HU := Lib.hid (use_step HQ.out)
        have hor := bits_or2 (a := useN (l.take j)) (b := 2 ^ stepN p) (Nat.lt_trans hS (by decide)) (Nat.lt_trans (pow12_lt hs12) (by decide))
        have HST := Lib.hid (fun W => stepP_any p hp0 W)
        have hbA := hbr.alloc hbr.size (.cells #[.int .i64 p.1, .int .i64 p.2] 37)
        clear hs
        generalize useN (l.take j) = S at *
        generalize 2 ^ stepN p = s at *
        go_wp2_with fail
        refine (HST.out _).mono ?_
        rintro e w1 ⟨rfl, rfl⟩
        go_wp2
        go_roundw
        case rel => exact ⟨j + 1, by omega, by go_num, by rw [HU.out]; (try first | rfl | rw [hor]), hbA⟩
        case measure => simp [intOf]; omega
      · obtain rfl : j = l.length := by omega
        rw [List.take_length] at *
        go_wp2
        go_ret
        exact ⟨by rw [HR.out]; (try rfl), hbr⟩
  · have HT : Hid (tuneB l = false) := Lib.hid (by simpa using ht)
    have HR := Lib.hid (stepsM_no HT.out)
    clear ht
    go_enter Try.func13, Try.ntmps13
    go_wp2_with fail
    refine (itune_no h HT.out).mono ?_
    rintro e w1 ⟨rfl, hb1⟩
    go_wp2
    go_ret
    exact ⟨by rw [HR.out]; (try rfl), hb1⟩

/-- A function that tells of a pitch whether it is in the scale that lies in block q. -/
def hasV (q : Nat) : Value := .func (.func 58) #[] #[.pointer (some ⟨q, 0, none⟩)]
def ScAt (w : World) (q r : Nat) : Prop := w.cell? ⟨q, 0, none⟩ = some (.int .i64 ((majN r : Nat) : Int))
theorem ScAt.below {w w' : World} {q r : Nat} (h : ScAt w q r) (hb : Below w.heap.size w w') : ScAt w' q r := kept_b hb h

set_option maxHeartbeats 1000000 in
theorem hasP_any {w : World} {q r : Nat} (h : ScAt w q r) (p : Int × Int) (hp : 0 ≤ p.2) :
    Calls Try.prog 58 (#[.int .i64 p.2] ++ #[.pointer (some ⟨q, 0, none⟩)]) w fun e w' => e = .returned (.bool ((majN r).testBit (stepN p))) ∧ Gr w w' := by
  show Calls Try.prog 58 #[.int .i64 p.2, .pointer (some ⟨q, 0, none⟩)] w _
  unfold ScAt at h
  have hml := maj_lt r
  have hbit := bit_prog hml (stepN_lt p)
  have HS := Lib.hid (fun W => stepP_gr p hp W)
  have hz0 : 0 < 2 ^ stepN p := Nat.two_pow_pos _
  generalize majN r = m at *
  generalize hz : 2 ^ stepN p = z at *
  generalize stepN p = s at *
  generalize p.2 = y at *
  clear hz
  have x3 := fun n os => cell_grown (World.block_lt_of_cell? _ _ h) h n os
  clear h
  cases hb : m.testBit s with
  | true =>
    rw [hb, if_pos rfl] at hbit
    have hne : ((z : Int) == 0) = false := by rw [beq_eq_false_iff_ne]; omega
    have hne' : ¬ z = 0 := by omega
    clear hb
    go_enter Try.func58, Try.ntmps58
    go_wp2_with fail
    refine wp_region_quiet_grown (by kernel_rfl) (by kernel_rfl) ?_
    repeat (go_big_quiet_step ((first | (go_at_call 40; exact grown_gr (HS.out _)))))
    refine wpQuiet_nil ?_
    intro _ hw'
    obtain ⟨⟨nq, osq⟩, hw''⟩ := hw'
    subst hw''
    have hge : Gr w (Sort.grow (w.drewN nq) osq) := ⟨nq, osq, rfl⟩
    have hbe := hge.below
    generalize Sort.grow (w.drewN nq) osq = W2 at *
    go_wp2
    go_ret
    exact ⟨by show Ending.returned (.bool ((z : Int) != 0)) = _; rw [bne, hne]; rfl, hge⟩
  | false =>
    rw [hb, if_neg (by simp)] at hbit
    clear hb
    go_enter Try.func58, Try.ntmps58
    go_wp2_with fail
    refine wp_region_quiet_grown (by kernel_rfl) (by kernel_rfl) ?_
    repeat (go_big_quiet_step ((first | (go_at_call 40; exact grown_gr (HS.out _)))))
    refine wpQuiet_nil ?_
    intro _ hw'
    obtain ⟨⟨nq, osq⟩, hw''⟩ := hw'
    subst hw''
    have hge : Gr w (Sort.grow (w.drewN nq) osq) := ⟨nq, osq, rfl⟩
    have hbe := hge.below
    generalize Sort.grow (w.drewN nq) osq = W2 at *
    go_wp2
    go_ret
    exact ⟨by (try rfl), hge⟩

set_option maxHeartbeats 1000000 in
theorem majOf_any {w : World} {r : Nat} (hr : r < 12) :
    Calls Try.prog 46 #[.int .i64 (r : Int)] w fun e w' => ∃ q, e = .returned (.agg #[.int .i64 (r : Int), hasV q]) ∧ ScAt w' q r ∧ w.heap.size ≤ q ∧ Below w.heap.size w w' := by
  have hmf : ∀ (fn : Fn) (first cap : Array Value) (w : World), (Instr.makeFunc fn first cap).run Try.prog w = .ok (.func fn first cap) w := fun _ _ _ _ => rfl
  have hsf := run_store_funcF
  have hX := boxF_new w (.int .i64 0) .nilFunc 55
  have hb0 : Below w.heap.size w (w.alloc (.cells #[.int .i64 0, .nilFunc] 55)) := (Below.refl _ _).alloc (Nat.le_refl _) _
  have HM := Lib.hid (fun W => majP_is hr W)
  unfold ScAt hasV
  generalize majN r = m at *
  go_enter Try.func46, Try.ntmps46
  go_wp2_with fail
  have hle : w.heap.size ≤ w.heap.size := Nat.le_refl _
  generalize w.alloc (.cells #[.int .i64 0, .nilFunc] 55) = W at *
  obtain ⟨bx, hbx⟩ : ∃ b, b = w.heap.size := ⟨_, rfl⟩
  rw [← hbx] at hX
  simp only [← hbx]
  have hle : w.heap.size ≤ bx := by omega
  clear hbx
  have hleq : w.heap.size ≤ W.heap.size := hb0.size
  refine (HM.out _).mono ?_
  rintro e w1 ⟨rfl, hg1⟩
  replace hX := hX.below hg1.below
  replace hb0 := bstep hb0 hg1.below
  replace hleq : w.heap.size ≤ w1.heap.size := hb0.size
  clear hg1
  generalize W = W0 at *
  clear W0
  generalize w1 = W at *
  go_upto_region 2 with fail
  have hq := cellF1 W (.int .i64 (m : Int)) 3
  have hb1 := hb0.alloc hb0.size (.cells #[.int .i64 (m : Int)] 3)
  have hX1 := hX.below ((Below.refl W.heap.size W).alloc (Nat.le_refl _) (.cells #[.int .i64 (m : Int)] 3))
  have hqx : bx ≠ W.heap.size := by have := hX.1; omega
  obtain ⟨-, ⟨x0, x1⟩, xf⟩ := id hX1
  have xf0 := xf 0
  have xf1 := xf 1
  generalize hqd : W.heap.size = q at *
  obtain ⟨-, ⟨z0, z1⟩, zf⟩ := wrF_same hX1 (.int .i64 (r : Int)) (.func (.func 58) #[] #[.pointer (some ⟨q, 0, none⟩)])
  have hb5 := wrF_below hb1 hle (.int .i64 (r : Int)) (.func (.func 58) #[] #[.pointer (some ⟨q, 0, none⟩)])
  have q2 := (wrF_cell (W.alloc (.cells #[.int .i64 (m : Int)] 3)) (c := q) (o := 0) (.int .i64 (r : Int)) (.func (.func 58) #[] #[.pointer (some ⟨q, 0, none⟩)]) hqx).trans hq
  have q3 : ((W.alloc (.cells #[.int .i64 (m : Int)] 3)).setCell ⟨bx, 0, none⟩ (.int .i64 (r : Int))).cell? ⟨bx, 1, none⟩ = some .nilFunc := by rw [World.cell?_setCell_other (h := by simp)]; exact x1
  unfold wrF at z0 z1 hb5 q2
  clear hX hX1 hb0 hb1 hq hqx
  generalize W.alloc (.cells #[.int .i64 (m : Int)] 3) = W1 at *
  replace hqd := Lib.hid hqd
  go_wp2
  exact bodyPost_ret (v := .agg #[.int .i64 (r : Int), .func (.func 58) #[] #[.pointer (some ⟨q, 0, none⟩)]]) (by simp [results, Try.results46, go_sem, z0, z1]) rfl ⟨q, rfl, q2, by omega, hb5⟩
end Go.Proofs.Ythggdckldcfakaa
