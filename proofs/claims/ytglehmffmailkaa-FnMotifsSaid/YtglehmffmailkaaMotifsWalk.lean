/- The walk of the law FnMotifs, the program's own contracts as premises. No condition. Made by gen_motifs.py. -/
import Derived.Test.YtglehmffmailkaaMotifFacts
import Derived.Test.YtglehmffmailkaaTwiceDraw
import Derived.Test.YtglehmffmailkaaRdCap
import Derived.Deep.CutRange
namespace Go.Proofs.Ytglehmffmailkaa
open Go.ChangeShapes Go.WideShapes Go.ChangeAt Go.RowKit

theorem atV_any {w : World} {v : Value} {n : Nat} {B : Nat} (i : Nat) (hi : i ≤ 20) (hC : Code w B v n) (hn : n ≤ 1048576) :
    Calls Try.prog 15 #[v, .int .i64 (i : Nat)] w fun e w' => ∃ x : Int, 0 ≤ x ∧ x ≤ 255 ∧ e = .returned (.int .i64 x) ∧ w = w' := by
  rcases hC with ⟨rfl, a, cap, rfl⟩ | ⟨b, off, cap, rfl, hm, hbB, hcell⟩
  · go_enter Try.func15, Try.ntmps15
    go_wp2
    go_ret
    exact ⟨0, by omega, by omega, rfl, rfl⟩
  · unfold maxLen at hm
    by_cases h0 : n = 0
    · subst h0
      clear hcell
      go_enter Try.func15, Try.ntmps15
      go_wp2
      go_ret
      exact ⟨0, by omega, by omega, rfl, rfl⟩
    · obtain ⟨z, hz0, hz1, hz⟩ := hcell ((i * 5 + 1) % n) (Nat.mod_lt _ (by omega))
      clear hcell
      have h0' : ((n : Int) == 0) = false := by simpa using h0
      have hm0 : (0 : Int) ≤ ((i : Int) * 5 + 1) % (n : Int) := Int.emod_nonneg _ (by omega)
      have hm1 : ((i : Int) * 5 + 1) % (n : Int) < (n : Int) := Int.emod_lt_of_pos _ (by omega)
      have hm2 : (((i : Int) * 5 + 1) % (n : Int)).toNat = (i * 5 + 1) % n := by
        have e : ((i : Int) * 5 + 1) % (n : Int) = (((i * 5 + 1) % n : Nat) : Int) := by rw [Int.natCast_emod, Int.natCast_add, Int.natCast_mul]; rfl
        rw [e]; exact Int.toNat_natCast _
      go_enter Try.func15, Try.ntmps15
      go_wp2
      go_ret
      exact ⟨z, hz0, hz1, rfl, rfl⟩
theorem has_any {w : World} {v : Value} {l : List Int} (x : Int) (h : Rd1 w v l) :
    Calls Try.prog 18 #[v, .int .i64 x] w fun e w' => e = .returned (.bool (decide (x ∈ l))) ∧ Below w.heap.size w w' := by
  obtain ⟨a1, cap1, rfl⟩ := Rd.slice h
  have hm := h.2.1
  unfold maxLen at hm
  go_enter Try.func18, Try.ntmps18
  go_wp2
  go_loopw [5] (fun v5 wr => ∃ j : Nat, j ≤ l.length ∧ v5 = .int .i64 (j : Int) ∧ Below w.heap.size w wr ∧ Hid (x ∉ l.take j)) (fun v5 _ => l.length - (intOf v5).toNat)
  case atStart => exact ⟨0, Nat.zero_le _, rfl, Below.refl _ _, Lib.hid (by simp)⟩
  case round =>
    obtain ⟨j, hj, rfl, hbr, HX⟩ := hrel
    by_cases hlt : j < l.length
    · obtain ⟨p, hp⟩ : ∃ p, l[j]? = some p := ⟨_, List.getElem?_eq_getElem hlt⟩
      have HP := Lib.hid hp
      obtain ⟨b1, o1, c1, hv1, x1⟩ := Rd1.cell (Rd.below h hbr) hp
      simp only [Value.slice.injEq, true_and] at hv1
      obtain ⟨rfl, rfl⟩ := hv1
      clear hp
      by_cases hpx : p = x
      · have HD := Lib.hid (show decide (x ∈ l) = true from decide_eq_true (by rw [← hpx]; exact List.mem_of_getElem? HP.out))
        subst hpx
        go_wp2
        go_ret
        exact ⟨by rw [HD.out]; rfl, hbr⟩
      · have HX2 : Hid (x ∉ l.take (j + 1)) := Lib.hid (by
          rw [List.take_add_one, HP.out, List.mem_append]
          rintro (h | h)
          · exact HX.out h
          · simp at h; exact hpx h.symm)
        have hne : (p == x) = false := by simpa using hpx
        go_wp2
        go_roundw
        case rel => exact ⟨j + 1, by omega, by go_num, hbr, HX2⟩
        case measure => simp [intOf]; omega
    · obtain rfl : j = l.length := by omega
      have HD := Lib.hid (show decide (x ∈ l) = false from decide_eq_false (by have := HX.out; rw [List.take_length] at this; exact this))
      go_wp2
      go_ret
      exact ⟨by rw [HD.out]; rfl, hbr⟩
theorem sameInts_same {w : World} {v1 v2 : Value} {l : List Int} (h1 : Rd1 w v1 l) (h2 : Rd1 w v2 l) :
    Calls Try.prog 21 #[v1, v2] w fun e w' => e = .returned (.bool true) ∧ Below w.heap.size w w' := by
  obtain ⟨a1, cap1, rfl⟩ := Rd.slice h1
  obtain ⟨a2, cap2, rfl⟩ := Rd.slice h2
  have hm := h1.2.1
  unfold maxLen at hm
  go_enter Try.func21, Try.ntmps21
  go_wp2
  go_loopw [5] (fun v5 wr => ∃ j d : Nat, j ≤ l.length ∧ v5 = .int .i64 j ∧ wr = w.drewN d) (fun v5 _ => l.length - (intOf v5).toNat)
  case atStart => exact ⟨0, 0, Nat.zero_le _, rfl, rfl⟩
  case round =>
    obtain ⟨j, d, hj, rfl, rfl⟩ := hrel
    by_cases hlt : j < l.length
    · obtain ⟨x, hx⟩ : ∃ x, l[j]? = some x := ⟨_, List.getElem?_eq_getElem hlt⟩
      obtain ⟨b1, o1, c1, hv1, x1⟩ := Rd1.cell h1 hx
      obtain ⟨b2, o2, c2, hv2, x2⟩ := Rd1.cell h2 hx
      simp only [Value.slice.injEq, true_and] at hv1 hv2
      obtain ⟨rfl, rfl⟩ := hv1
      obtain ⟨rfl, rfl⟩ := hv2
      clear h1 h2 hx
      go_wp2
      go_quiet (fail)
      go_wp2
      go_roundw
      case rel => exact ⟨j + 1, _, by omega, by go_num, rfl⟩
      case measure => simp [intOf]; omega
    · obtain rfl : j = l.length := by omega
      go_wp2
      go_ret
      exact ⟨rfl, below_drewN (Below.refl _ _) _⟩
theorem code_mono {w : World} {B B' : Nat} {v : Value} {n : Nat} (h : Code w B v n) (hb : B ≤ B') : Code w B' v n := by
  rcases h with h | ⟨b, off, cap, rfl, hn, hB, hc⟩
  · exact Or.inl h
  · exact Or.inr ⟨b, off, cap, rfl, hn, by omega, hc⟩
theorem btoi_any (c : Bool) (w : World) : Calls Try.prog 22 #[.bool c] w fun e w' => e = .returned (.int .i64 (if c then 1 else 0)) ∧ w = w' := by
  cases c
  all_goals
    go_enter Try.func22, Try.ntmps22
    go_wp2
    go_ret
    exact ⟨rfl, rfl⟩
theorem rd_four (w : World) : Rd2 (w.alloc (.cells #[.int .i64 0, .int .i64 3, .int .i64 2, .int .i64 4, .int .i64 4, .int .i64 3, .int .i64 6, .int .i64 4] 39)) (.slice (some ⟨w.heap.size, 0, none⟩) 4 4) fourL :=
  Rd.of_own (show (w.alloc (.cells #[.int .i64 0, .int .i64 3, .int .i64 2, .int .i64 4, .int .i64 4, .int .i64 3, .int .i64 6, .int .i64 4] 39)).ownsRow w.heap.size 39 2 (.slice (some ⟨w.heap.size, 0, none⟩) 4 4) 4 (flat2 fourL) from
    ⟨by simp [flat2, fourL], .inr ⟨w.heap.size, 4, #[.int .i64 0, .int .i64 3, .int .i64 2, .int .i64 4, .int .i64 4, .int .i64 3, .int .i64 6, .int .i64 4], rfl, Nat.le_refl _, heap_alloc_new w _, Nat.le_refl _, by unfold maxLen; simp, by simp, by simp [flat2, fourL, intV]⟩⟩)
theorem rem_nat18 {M : Nat} (d : Int) (h : 1 ≤ M) : ∃ T : Nat, T < M ∧ d % (M : Int) = (T : Int) := by
  have h1 := Int.emod_lt_of_pos d (show (0 : Int) < (M : Int) by omega)
  have h2 := Int.emod_nonneg d (show (M : Int) ≠ 0 by omega)
  exact ⟨(d % (M : Int)).toNat, by omega, by omega⟩

set_option maxHeartbeats 4000000 in
set_option maxRecDepth 1000000 in
theorem motifs_walk {w : World} {v : Value} {n : Nat}
    (hO : ∀ (W : World) (V U : Value) (t m : List (Int × Int)) (k : Int), Rc2 W V t → Rc2 W U m → t.length ≤ 1048576 → m.length ≤ 1048576 → Calls Try.prog 19 #[V, U, .int .i64 k] W fun e W' => e = .returned (.bool (occI t m k)) ∧ Below W.heap.size W W')
    (hS : ∀ (W : World) (V U : Value) (t m : List (Int × Int)), Rc2 W V t → Rc2 W U m → t.length ≤ 1048576 → m.length ≤ 1048576 → Calls Try.prog 17 #[V, U] W (NewInts W (occsM t m)))
    (hL : ∀ (W : World) (V : Value) (t : List (Int × Int)), Rc2 W V t → t.length ≤ 1048576 → Calls Try.prog 13 #[V] W fun e W' => e = .returned (.int .i64 (longI t)) ∧ Below W.heap.size W W')
    (hN : ∀ (W : World) (V : Value) (t : List (Int × Int)) (k : Int), Rc2 W V t → t.length ≤ 1048576 → Calls Try.prog 14 #[V, .int .i64 k] W fun e W' => e = .returned (.int .i64 (countI t k)) ∧ Below W.heap.size W W')
    (hP : ∀ (W : World) (V : Value) (t : List (Int × Int)) (f k : Int), (0 ≤ f ∧ f ≤ 2000000) → (0 ≤ k ∧ k ≤ 2000000) → Rc2 W V t → t.length ≤ 1048576 → Calls Try.prog 16 #[V, .int .i64 f, .int .i64 k] W (NewNotesB W (partM t f k).1 (partM t f k).2))
    (hC : Code w w.heap.size v n) :
    Calls Try.prog 3 #[v] w fun e w' => e = .returned (.bool true) ∧ Below w.heap.size w w' := by
  have HO := Lib.hid hO
  have HS := Lib.hid hS
  have HL := Lib.hid hL
  have HN := Lib.hid hN
  have HP := Lib.hid hP
  clear hO hS hL hN hP
  by_cases hbig : 1048576 < n
  · go_enter Try.func3, Try.ntmps3
    go_wp2_with fail
    refine (big_yes hC hbig).mono ?_
    rintro e w1 ⟨rfl, rfl⟩
    go_wp2
    go_ret
    exact ⟨rfl, Below.refl _ _⟩
  · have hn20 : n ≤ 1048576 := by omega
    go_enter Try.func3, Try.ntmps3
    go_wp2_with fail
    refine (big_no hC hbig).mono ?_
    rintro e w1 ⟨rfl, rfl⟩
    clear hbig
    go_wp2_with fail
    refine (drawtwice_any hC).mono ?_
    rintro e w1 ⟨x, vx, ⟨hx1, hx22⟩, rfl, ho1, g1⟩
    have HT := Lib.hid hx1
    have hx20 : x.length ≤ 1048576 := by omega
    clear hx1
    obtain ⟨ax, cx, rfl⟩ := ownS_slice ho1
    go_wp2_with fail
    refine (HL.out _ _ x (Rc2.of_own ho1) hx20).mono ?_
    rw [longI_yes HT.out]
    rintro e w2 ⟨rfl, hb2⟩
    have ho2 := ownS_below ho1 hb2
    have g2 := bstep g1 hb2
    clear ho1 g1 hb2
    have HLT := Lib.hid (long_lt (t := x))
    have HLP := Lib.hid (long_pos (t := x) HT.out)
    have HGE := Lib.hid (fun (m : Nat) (h1 : 1 ≤ m) (h2 : m ≤ x.length) => cnt_rep HT.out h1 h2)
    generalize longN x x.length = r at *
    go_upto_region 6 with fail
    go_cut [44] from 26 to 44 (fun s44 wx => s44 = .bool false ∧ w2 = wx)
    case first =>
      by_cases h0 : x.length = 0
      · have h01 : ¬ (0 : Int) < (x.length : Int) := by omega
        have h02 : ¬ (1 : Int) < (x.length : Int) := by omega
        clear h0
        go_wp2_with fail
        go_meet
        exact ⟨rfl, rfl⟩
      · have hr1 := HLT.out (by omega)
        have h01 : (0 : Int) < (x.length : Int) := by omega
        have h03 : ¬ (x.length : Int) ≤ (r : Int) := by omega
        by_cases h1 : x.length = 1
        · have h02 : ¬ (1 : Int) < (x.length : Int) := by omega
          clear h0 h1
          go_wp2_with fail
          go_meet
          exact ⟨rfl, rfl⟩
        · have hr2 := HLP.out (by omega)
          have h02 : (1 : Int) < (x.length : Int) := by omega
          have h04 : ¬ (r : Int) < 1 := by omega
          clear h0 h1
          go_wp2_with fail
          go_meet
          exact ⟨rfl, rfl⟩
    case rest =>
    obtain ⟨rfl, rfl⟩ := hcut
    go_wp2_with fail
    go_loopw [6] (fun v6 wr => ∃ m : Nat, 1 ≤ m ∧ m ≤ x.length + 1 ∧ v6 = .int .i64 (m : Int) ∧ Below w2.heap.size w2 wr) (fun v6 _ => x.length + 1 - (intOf v6).toNat)
    case atStart => exact ⟨1, Nat.le_refl _, by omega, rfl, Below.refl _ _⟩
    case round =>
      obtain ⟨m, hm1, hm, rfl, hbr⟩ := hrel
      by_cases hlt : m ≤ x.length
      · have hlz : (m : Int) ≤ (x.length : Int) := by omega
        have HCI := Lib.hid (countI_yes (n := m) HT.out (by omega))
        obtain ⟨D, hD⟩ : ∃ D : Nat, D + 1 = x.length + 1 - m := ⟨x.length - m, by omega⟩
        have hrep := HGE.out m hm1 hlt
        rw [← hD] at HCI hrep
        have hc1 := cntN_pos x m D
        have hc2 := cntN_le x m (D + 1)
        have w1' : IntKind.i64.wrap ((x.length : Int) - (m : Int)) = (D : Int) := by rw [IntWalk.i64_in _ (by omega)]; omega
        have w2' : IntKind.i64.wrap ((D : Int) + 1) = (D : Int) + 1 := IntWalk.i64_in _ (by omega)
        have e1' : (x.length : Int) - (m : Int) = (D : Int) := by omega
        generalize cntN x m (D + 1) = c at *
        have hk1 : ¬ (c : Int) < 1 := by omega
        have hk2 : ¬ (D : Int) + 1 < (c : Int) := by omega
        clear hD
        go_wp2_with fail
        refine (HN.out _ _ x (m : Int) (Rc2.of_own (ownS_below ho2 hbr)) hx20).mono ?_
        rw [HCI.out]
        rintro e w4 ⟨rfl, hb4⟩
        have hbr2 := bstep hbr hb4
        clear hbr hb4
        by_cases hrm : m ≤ r
        · have hk3 : (c : Int) < (D : Int) + 1 := by have := hrep.2 hrm; omega
          have hk4 : (m : Int) ≤ (r : Int) := by omega
          go_wp2
          go_roundw
          case rel => exact ⟨m + 1, by omega, by omega, by go_num, hbr2⟩
          case measure => simp [intOf]; omega
        · have hk3 : ¬ (c : Int) < (D : Int) + 1 := fun k => hrm (hrep.1 (by omega))
          have hk4 : ¬ (m : Int) ≤ (r : Int) := by omega
          go_wp2
          go_roundw
          case rel => exact ⟨m + 1, by omega, by omega, by go_num, hbr2⟩
          case measure => simp [intOf]; omega
      · have hlz : ¬ (m : Int) ≤ (x.length : Int) := by omega
        have g3 := bstep g2 hbr
        have ho3 := ownS_below ho2 hbr
        clear g2 ho2 hbr HGE HLT HLP hm1 hm hlt
        by_cases h0 : x.length = 0
        · have h01 : ¬ (0 : Int) < (x.length : Int) := by omega
          have H0 := Lib.hid h0
          clear h0
          have HPN : Hid (partM x 0 ((x.length : Int) + 1) = ([], false)) := Lib.hid (partM_no (by omega))
          go_wp2_with fail
          refine (HP.out _ _ x 0 ((x.length : Int) + 1) (by omega) (by omega) (Rc2.of_own ho3) hx20).mono ?_
          rw [HPN.out]
          rintro e wT1 ⟨vn, rfl, -, hbT1⟩
          have gT1 := bstep g3 hbT1
          have hoT1 := ownS_below ho3 hbT1
          clear g3 ho3 hbT1
          have hc40 : countI x 40 = 0 := by
            rw [show (40 : Int) = ((40 : Nat) : Int) from rfl, countI_yes HT.out (by omega), show x.length + 1 - 40 = 0 by omega]; rfl
          have HC40 := Lib.hid hc40
          clear hc40
          go_wp2_with fail
          refine (HN.out _ _ x 40 (Rc2.of_own hoT1) hx20).mono ?_
          rw [HC40.out]
          rintro e wT2 ⟨rfl, hbT2⟩
          have gT2 := bstep gT1 hbT2
          clear gT1 hoT1 hbT2
          have hn40 : ((x.length : Int) == 40) = false := by rw [beq_eq_false_iff_ne]; omega
          go_wp2_with fail
          refine (btoi_any false _).mono ?_
          rintro e wT3 ⟨rfl, rfl⟩
          have hR4 := rd_four wT2
          have hb4 := (Below.refl wT2.heap.size wT2).alloc (Nat.le_refl _) (.cells #[.int .i64 0, .int .i64 3, .int .i64 2, .int .i64 4, .int .i64 4, .int .i64 3, .int .i64 6, .int .i64 4] 39)
          have gT3 := bstep gT2 hb4
          clear gT2 hb4
          go_wp2_with fail
          generalize wT2.alloc (.cells #[.int .i64 0, .int .i64 3, .int .i64 2, .int .i64 4, .int .i64 4, .int .i64 3, .int .i64 6, .int .i64 4] 39) = W4 at *
          refine (HL.out _ _ fourL ⟨hR4, ⟨_, _, _, rfl, Nat.le_refl _⟩⟩ (by decide)).mono ?_
          rw [four_long]
          rintro e wT4 ⟨rfl, hbT4⟩
          have gT4 := bstep gT3 hbT4
          clear gT3 hR4 hbT4
          go_wp2
          go_ret
          exact ⟨rfl, gT4⟩
        · have h01 : (0 : Int) < (x.length : Int) := by omega
          have hz0 : ((x.length : Int) == 0) = false := by rw [beq_eq_false_iff_ne]; omega
          have hC3 := code_mono (hC.below g3) g3.size
          go_wp2_with fail
          refine (atV_any 0 (by omega) hC3 hn20).mono ?_
          rintro e wa ⟨x0, hx0, hy0, rfl, rfl⟩
          obtain ⟨f, hf, ef⟩ := rem_nat18 (M := x.length) x0 (by omega)
          have ef2 : x0.tmod (x.length : Int) = (f : Int) := by rw [Int.tmod_eq_emod_of_nonneg hx0]; exact ef
          have wf2 : IntKind.i64.wrap (f : Int) = (f : Int) := IntWalk.i64_in _ (by omega)
          go_wp2_with fail
          refine (atV_any 1 (by omega) hC3 hn20).mono ?_
          rintro e wa ⟨x1, hxx1, hy1, rfl, rfl⟩
          obtain ⟨K, hK⟩ : ∃ K : Nat, K = x.length - f := ⟨_, rfl⟩
          have eK : (x.length : Int) - (f : Int) = (K : Int) := by omega
          have wK : IntKind.i64.wrap (K : Int) = (K : Int) := IntWalk.i64_in _ (by omega)
          have zK : ((K : Int) == 0) = false := by rw [beq_eq_false_iff_ne]; omega
          have zK2 : ¬ K = 0 := by omega
          obtain ⟨q, hq, eq⟩ := rem_nat18 (M := K) x1 (by omega)
          have eq2 : x1.tmod (K : Int) = (q : Int) := by rw [Int.tmod_eq_emod_of_nonneg hxx1]; exact eq
          have wq : IntKind.i64.wrap (q : Int) = (q : Int) := IntWalk.i64_in _ (by omega)
          obtain ⟨m2, hm2⟩ : ∃ m2 : Nat, m2 = q + 1 := ⟨_, rfl⟩
          have em : (1 : Int) + (q : Int) = (m2 : Int) := by omega
          have wm : IntKind.i64.wrap (m2 : Int) = (m2 : Int) := IntWalk.i64_in _ (by omega)
          have hfm : f + m2 ≤ x.length := by omega
          have hm21 : 1 ≤ m2 := by omega
          have HPY := Lib.hid (partM_yes HT.out hfm)
          have HSL := Lib.hid (sub_len hfm)
          have HST := Lib.hid (sub_tune HT.out f m2)
          have HOC := Lib.hid (occ_part HT.out hm21 hfm)
          clear hm2 hK
          go_wp2_with fail
          refine (HP.out _ _ x (f : Int) (m2 : Int) (by omega) (by omega) (Rc2.of_own ho3) hx20).mono ?_
          rw [HPY.out]
          rintro e w5 ⟨vp, rfl, hop, hb5⟩
          try simp only at hop
          have g4 := bstep g3 hb5
          have ho4 := ownS_below ho3 hb5
          clear g3 ho3 hb5 hC3
          obtain ⟨ap, cp, rfl⟩ := ownS_slice hop
          have hpl : (sub18 x f m2).length ≤ 1048576 := by rw [HSL.out]; omega
          have HOM := Lib.hid (fun (y : Int) => occL_mem x (sub18 x f m2) y x.length)
          have HOV := Lib.hid (fun (Q : List (Int × Int)) (h1 : tuneB Q = true) (h2 : offL Q = offL (sub18 x f m2)) => occL_moved (t := x) HST.out h1 h2 x.length)
          have HHI := Lib.hid (higher_off (p := sub18 x f m2))
          have HHL := Lib.hid (higher_len (sub18 x f m2))
          generalize hPP : sub18 x f m2 = P at *
          replace hPP := Lib.hid hPP
          have hE2 : m2 = P.length := HSL.out.symm
          subst hE2
          have hpp : ((P.length : Int) == (P.length : Int)) = true := beq_self_eq_true _
          go_wp2_with fail
          refine (HS.out _ _ _ x P (Rc2.of_own ho4) (Rc2.of_own hop) hx20 hpl).mono ?_
          rintro e w6 ⟨vo, rfl, hoo, hb6⟩
          have g5 := bstep g4 hb6
          have ho5 := ownS_below ho4 hb6
          have hop5 := ownS_below hop hb6
          clear g4 ho4 hop hb6
          have hol := occsM_len x P
          unfold occsM at hoo hol
          have HMF : Hid (decide ((f : Int) ∈ occL x P x.length) = true) := Lib.hid (decide_eq_true ((HOM.out _).2 ⟨by omega, HOC.out⟩))
          go_wp2_with fail
          refine (has_any (f : Int) (Rd.of_own hoo)).mono ?_
          rintro e w7 ⟨rfl, hb7⟩
          rw [HMF.out]
          have g6 := bstep g5 hb7
          have ho6 := ownS_below ho5 hb7
          have hop6 := ownS_below hop5 hb7
          have hoo6 := ownS_below hoo hb7
          clear g5 ho5 hop5 hoo hb7
          go_wp2_with fail
          refine (HO.out _ _ _ x P (f : Int) (Rc2.of_own ho6) (Rc2.of_own hop6) hx20 hpl).mono ?_
          rw [HOC.out]
          rintro e w8 ⟨rfl, hb8⟩
          have g7 := bstep g6 hb8
          have ho7 := ownS_below ho6 hb8
          have hop7 := ownS_below hop6 hb8
          have hoo7 := ownS_below hoo6 hb8
          clear g6 ho6 hop6 hoo6 hb8
          generalize hS : occL x P x.length = S at *
          have HSE := Lib.hid hS
          clear hS
          obtain ⟨ao, co, rfl⟩ := ownS_slice hoo7
          have hlo := own_len hoo7
          unfold maxLen at hlo
          have hol2 : S.length ≤ 22 := by omega
          go_wp2_with fail
          go_loopw [13] (fun v13 wq => ∃ k : Nat, k ≤ S.length ∧ v13 = .int .i64 (k : Int) ∧ Below w8.heap.size w8 wq) (fun v13 _ => S.length - (intOf v13).toNat)
          case atStart => exact ⟨0, Nat.zero_le _, rfl, Below.refl _ _⟩
          case round =>
            obtain ⟨k, hk, rfl, hbq⟩ := hrel
            by_cases hlk : k < S.length
            · obtain ⟨y, hy⟩ : ∃ y, S[k]? = some y := ⟨_, List.getElem?_eq_getElem hlk⟩
              have HOY := Lib.hid ((HOM.out y).1 (List.mem_of_getElem? hy)).2
              obtain ⟨b1, o1, c1, hv1, q1⟩ := Rd1.cell (Rd.of_own (ownS_below hoo7 hbq)) hy
              simp only [Value.slice.injEq, true_and] at hv1
              obtain ⟨rfl, rfl⟩ := hv1
              clear hy
              go_wp2_with fail
              refine (HO.out _ _ _ x P y (Rc2.of_own (ownS_below ho7 hbq)) (Rc2.of_own (ownS_below hop7 hbq)) hx20 hpl).mono ?_
              rw [HOY.out]
              rintro e w9 ⟨rfl, hb9⟩
              have hb10 := bstep hbq hb9
              clear hbq hb9 q1
              go_wp2
              go_roundw
              case rel => exact ⟨k + 1, by omega, by go_num, hb10⟩
              case measure => simp [intOf]; omega
            · obtain rfl : k = S.length := by omega
              have g8 := bstep g7 hbq
              have ho8 := ownS_below ho7 hbq
              have hop8 := ownS_below hop7 hbq
              have hoo8 := ownS_below hoo7 hbq
              clear g7 ho7 hop7 hoo7 hbq HOM HMF
              have hHI := higher_any (w := wr) 1 (Rd.of_own hop8) hpl
              generalize (higherM 1 P).1 = Q at *
              generalize (higherM 1 P).2 = moved at *
              have HHG := Lib.hid hHI
              clear hHI
              go_wp2_with fail
              refine HHG.out.mono ?_
              rintro e w11 ⟨vQ, rfl, hoQ, hb11⟩
              have g9 := bstep g8 hb11
              have ho9 := ownS_below ho8 hb11
              have hoo9 := ownS_below hoo8 hb11
              clear HHG g8 ho8 hop8 hoo8 hb11
              cases moved with
              | true =>
                obtain ⟨hq1, hq2⟩ := HHI.out rfl
                have HOQ := Lib.hid (HOV.out Q hq1 hq2)
                have hql : Q.length ≤ 1048576 := by rw [HHL.out]; exact hpl
                clear hq1 hq2 HHI HOV
                go_wp2_with fail
                refine (HS.out _ _ _ x Q (Rc2.of_own ho9) (Rc2.of_own hoQ) hx20 hql).mono ?_
                unfold occsM
                rw [HOQ.out]
                rintro e w12 ⟨vq, rfl, hoq, hb12⟩
                have g10 := bstep g9 hb12
                have ho10 := ownS_below ho9 hb12
                have hoo10 := ownS_below hoo9 hb12
                clear g9 ho9 hoo9 hoQ hb12
                try rw [HSE.out] at hoq
                go_wp2_with fail
                refine (sameInts_same (Rd.of_own hoq) (Rd.of_own hoo10)).mono ?_
                rintro e w13 ⟨rfl, hb13⟩
                have g11 := bstep g10 hb13
                have ho11 := ownS_below ho10 hb13
                clear g10 ho10 hoo10 hoq hb13
                have HPN : Hid (partM x 0 ((x.length : Int) + 1) = ([], false)) := Lib.hid (partM_no (by omega))
                go_wp2_with fail
                refine (HP.out _ _ x 0 ((x.length : Int) + 1) (by omega) (by omega) (Rc2.of_own ho11) hx20).mono ?_
                rw [HPN.out]
                rintro e wT1 ⟨vn, rfl, -, hbT1⟩
                have gT1 := bstep g11 hbT1
                have hoT1 := ownS_below ho11 hbT1
                clear g11 ho11 hbT1
                have hc40 : countI x 40 = 0 := by
                  rw [show (40 : Int) = ((40 : Nat) : Int) from rfl, countI_yes HT.out (by omega), show x.length + 1 - 40 = 0 by omega]; rfl
                have HC40 := Lib.hid hc40
                clear hc40
                go_wp2_with fail
                refine (HN.out _ _ x 40 (Rc2.of_own hoT1) hx20).mono ?_
                rw [HC40.out]
                rintro e wT2 ⟨rfl, hbT2⟩
                have gT2 := bstep gT1 hbT2
                clear gT1 hoT1 hbT2
                have hn40 : ((x.length : Int) == 40) = false := by rw [beq_eq_false_iff_ne]; omega
                go_wp2_with fail
                refine (btoi_any false _).mono ?_
                rintro e wT3 ⟨rfl, rfl⟩
                have hR4 := rd_four wT2
                have hb4 := (Below.refl wT2.heap.size wT2).alloc (Nat.le_refl _) (.cells #[.int .i64 0, .int .i64 3, .int .i64 2, .int .i64 4, .int .i64 4, .int .i64 3, .int .i64 6, .int .i64 4] 39)
                have gT3 := bstep gT2 hb4
                clear gT2 hb4
                go_wp2_with fail
                generalize wT2.alloc (.cells #[.int .i64 0, .int .i64 3, .int .i64 2, .int .i64 4, .int .i64 4, .int .i64 3, .int .i64 6, .int .i64 4] 39) = W4 at *
                refine (HL.out _ _ fourL ⟨hR4, ⟨_, _, _, rfl, Nat.le_refl _⟩⟩ (by decide)).mono ?_
                rw [four_long]
                rintro e wT4 ⟨rfl, hbT4⟩
                have gT4 := bstep gT3 hbT4
                clear gT3 hR4 hbT4
                go_wp2
                go_ret
                exact ⟨rfl, gT4⟩
              | false =>
                clear HHI HOV hoQ hoo9
                have HPN : Hid (partM x 0 ((x.length : Int) + 1) = ([], false)) := Lib.hid (partM_no (by omega))
                go_wp2_with fail
                refine (HP.out _ _ x 0 ((x.length : Int) + 1) (by omega) (by omega) (Rc2.of_own ho9) hx20).mono ?_
                rw [HPN.out]
                rintro e wT1 ⟨vn, rfl, -, hbT1⟩
                have gT1 := bstep g9 hbT1
                have hoT1 := ownS_below ho9 hbT1
                clear g9 ho9 hbT1
                have hc40 : countI x 40 = 0 := by
                  rw [show (40 : Int) = ((40 : Nat) : Int) from rfl, countI_yes HT.out (by omega), show x.length + 1 - 40 = 0 by omega]; rfl
                have HC40 := Lib.hid hc40
                clear hc40
                go_wp2_with fail
                refine (HN.out _ _ x 40 (Rc2.of_own hoT1) hx20).mono ?_
                rw [HC40.out]
                rintro e wT2 ⟨rfl, hbT2⟩
                have gT2 := bstep gT1 hbT2
                clear gT1 hoT1 hbT2
                have hn40 : ((x.length : Int) == 40) = false := by rw [beq_eq_false_iff_ne]; omega
                go_wp2_with fail
                refine (btoi_any false _).mono ?_
                rintro e wT3 ⟨rfl, rfl⟩
                have hR4 := rd_four wT2
                have hb4 := (Below.refl wT2.heap.size wT2).alloc (Nat.le_refl _) (.cells #[.int .i64 0, .int .i64 3, .int .i64 2, .int .i64 4, .int .i64 4, .int .i64 3, .int .i64 6, .int .i64 4] 39)
                have gT3 := bstep gT2 hb4
                clear gT2 hb4
                go_wp2_with fail
                generalize wT2.alloc (.cells #[.int .i64 0, .int .i64 3, .int .i64 2, .int .i64 4, .int .i64 4, .int .i64 3, .int .i64 6, .int .i64 4] 39) = W4 at *
                refine (HL.out _ _ fourL ⟨hR4, ⟨_, _, _, rfl, Nat.le_refl _⟩⟩ (by decide)).mono ?_
                rw [four_long]
                rintro e wT4 ⟨rfl, hbT4⟩
                have gT4 := bstep gT3 hbT4
                clear gT3 hR4 hbT4
                go_wp2
                go_ret
                exact ⟨rfl, gT4⟩
end Go.Proofs.Ytglehmffmailkaa
