/- The walk of the law FnScales. No condition. Made by gen_scales.py. -/
import Derived.Test.YthggdckldcfakaaScaleFacts
import Derived.Test.YthggdckldcfakaaImplScale4
namespace Go.Proofs.Ythggdckldcfakaa
open Go.ChangeShapes Go.WideShapes Go.ChangeAt Go.RowKit

theorem atV_any {w : World} {v : Value} {n : Nat} {B : Nat} (i : Nat) (hi : i ≤ 20) (hC : Code w B v n) (hn : n ≤ 1048576) :
    Calls Try.prog 21 #[v, .int .i64 (i : Nat)] w fun e w' => ∃ x : Int, 0 ≤ x ∧ x ≤ 255 ∧ e = .returned (.int .i64 x) ∧ w = w' := by
  rcases hC with ⟨rfl, a, cap, rfl⟩ | ⟨b, off, cap, rfl, hm, hbB, hcell⟩
  · go_enter Try.func21, Try.ntmps21
    go_wp2
    go_ret
    exact ⟨0, by omega, by omega, rfl, rfl⟩
  · unfold maxLen at hm
    by_cases h0 : n = 0
    · subst h0
      clear hcell
      go_enter Try.func21, Try.ntmps21
      go_wp2
      go_ret
      exact ⟨0, by omega, by omega, rfl, rfl⟩
    · obtain ⟨z, hz0, hz1, hz⟩ := hcell ((i * 5 + 1) % n) (Nat.mod_lt _ (by omega))
      clear hcell
      have h0' : ((n : Int) == 0) = false := by simpa using h0
      have hm0 : (0 : Int) ≤ ((i : Int) * 5 + 1) % (n : Int) := Int.emod_nonneg _ (by omega)
      have hm1 : ((i : Int) * 5 + 1) % (n : Int) < (n : Int) := Int.emod_lt_of_pos _ (by omega)
      have hm2 : (((i : Int) * 5 + 1) % (n : Int)).toNat = (i * 5 + 1) % n := by
        have e : ((i : Int) * 5 + 1) % (n : Int) = (((i * 5 + 1) % n : Nat) : Int) := by rw [Int.natCast_emod, Int.natCast_add, Int.natCast_mul]; rfl
        rw [e]; exact Int.toNat_natCast _
      go_enter Try.func21, Try.ntmps21
      go_wp2
      go_ret
      exact ⟨z, hz0, hz1, rfl, rfl⟩
theorem has_any {w : World} {v : Value} {l : List Int} (x : Int) (h : Rd1 w v l) :
    Calls Try.prog 17 #[v, .int .i64 x] w fun e w' => e = .returned (.bool (decide (x ∈ l))) ∧ Below w.heap.size w w' := by
  obtain ⟨a1, cap1, rfl⟩ := Rd.slice h
  have hm := h.2.1
  unfold maxLen at hm
  go_enter Try.func17, Try.ntmps17
  go_wp2
  go_loopw [5] (fun v5 wr => ∃ j : Nat, j ≤ l.length ∧ v5 = .int .i64 (j : Int) ∧ Below w.heap.size w wr ∧ Hid (x ∉ l.take j)) (fun v5 _ => l.length - (intOf v5).toNat)
  case atStart => exact ⟨0, Nat.zero_le _, rfl, Below.refl _ _, Lib.hid (by simp)⟩
  case round =>
    obtain ⟨j, hj, rfl, hbr, HX⟩ := hrel
    by_cases hlt : j < l.length
    · obtain ⟨p, hp⟩ : ∃ p, l[j]? = some p := ⟨_, List.getElem?_eq_getElem hlt⟩
      have HP := Lib.hid hp
      obtain ⟨b1, o1, c1, hv1, x1⟩ := Rd1.cell (Rd.below h hbr) hp
      simp only [Value.slice.injEq, true_and] at hv1
      obtain ⟨rfl, rfl⟩ := hv1
      clear hp
      by_cases hpx : p = x
      · have HD := Lib.hid (show decide (x ∈ l) = true from decide_eq_true (by rw [← hpx]; exact List.mem_of_getElem? HP.out))
        subst hpx
        go_wp2
        go_ret
        exact ⟨by rw [HD.out]; rfl, hbr⟩
      · have HX2 : Hid (x ∉ l.take (j + 1)) := Lib.hid (by
          rw [List.take_add_one, HP.out, List.mem_append]
          rintro (h | h)
          · exact HX.out h
          · simp at h; exact hpx h.symm)
        have hne : (p == x) = false := by simpa using hpx
        go_wp2
        go_roundw
        case rel => exact ⟨j + 1, by omega, by go_num, hbr, HX2⟩
        case measure => simp [intOf]; omega
    · obtain rfl : j = l.length := by omega
      have HD := Lib.hid (show decide (x ∈ l) = false from decide_eq_false (by have := HX.out; rw [List.take_length] at this; exact this))
      go_wp2
      go_ret
      exact ⟨by rw [HD.out]; rfl, hbr⟩
theorem code_mono {w : World} {B B' : Nat} {v : Value} {n : Nat} (h : Code w B v n) (hb : B ≤ B') : Code w B' v n := by
  rcases h with h | ⟨b, off, cap, rfl, hn, hB, hc⟩
  · exact Or.inl h
  · exact Or.inr ⟨b, off, cap, rfl, hn, by omega, hc⟩
theorem useP_is {w : World} {v : Value} {l : List (Int × Int)} {c : Int} (h : Rd2 w v l) (hc : stepsM l = c) :
    Calls Try.prog 13 #[v] w fun e w' => e = .returned (.int .i64 c) ∧ Below w.heap.size w w' :=
  (useP_any h).mono fun _ _ ⟨he, hw⟩ => ⟨by rw [he, hc], hw⟩
theorem wrongP_is {w : World} {v : Value} {l : List (Int × Int)} {r c : Int} (h : Rd2 w v l) (hc : wrongI l r = c) :
    Calls Try.prog 16 #[v, .int .i64 r] w fun e w' => e = .returned (.int .i64 c) ∧ Below w.heap.size w w' :=
  (wrongP_any r h).mono fun _ _ ⟨he, hw⟩ => ⟨by rw [he, hc], hw⟩
theorem bestP_is {w : World} {v : Value} {l : List (Int × Int)} {c : Int} (h : Rd2 w v l) (hc : bestI l = c) :
    Calls Try.prog 15 #[v] w fun e w' => e = .returned (.int .i64 c) ∧ Below w.heap.size w w' :=
  (bestP17_any h).mono fun _ _ ⟨he, hw⟩ => ⟨by rw [he, hc], hw⟩
theorem majP_no {c : Int} {r : Int} (h : rotI 2741 r = c) (w : World) :
    Calls Try.prog 18 #[.int .i64 r] w fun e w' => e = .returned (.int .i64 c) ∧ Gr w w' :=
  (majP_any r w).mono fun _ _ ⟨he, hw⟩ => ⟨by rw [he, h], hw⟩

set_option maxHeartbeats 4000000 in
set_option maxRecDepth 1000000 in
theorem scales_walk {w : World} {v : Value} {n : Nat} (hC : Code w w.heap.size v n) :
    Calls Try.prog 3 #[v] w fun e w' => e = .returned (.bool true) ∧ Below w.heap.size w w' := by
  by_cases hbig : 1048576 < n
  · go_enter Try.func3, Try.ntmps3
    go_wp2_with fail
    refine (big_yes hC hbig).mono ?_
    rintro e w1 ⟨rfl, rfl⟩
    go_wp2
    go_ret
    exact ⟨rfl, Below.refl _ _⟩
  · have hn40 : n ≤ 1048576 := by omega
    go_enter Try.func3, Try.ntmps3
    go_wp2_with fail
    refine (big_no hC hbig).mono ?_
    rintro e w1 ⟨rfl, rfl⟩
    clear hbig
    go_wp2_with fail
    refine (drawtune_any hC).mono ?_
    rintro e w1 ⟨t, vt, hTD, rfl, hot1, g1⟩
    have ht11 := hTD.1
    have HT := Lib.hid hTD.2.1
    obtain ⟨u1, u2, u3⟩ := drawn_up2 hTD
    have HU1 := Lib.hid u1
    have HU3 := Lib.hid u3
    have HPI := Lib.hid (fun (k : Nat) (p : Int × Int) (hk : t[k]? = some p) => ((tuneB_true.1 hTD.2.1).2 k p hk).2.1)
    have hcd := hC
    clear hTD u1 u2 u3
    go_wp2_with fail
    refine (useP_is (Rd.of_own hot1) (stepsM_yes HT.out)).mono ?_
    rintro e w2 ⟨rfl, hb2⟩
    have hot2 := ownS_below hot1 hb2
    have g2 := bstep g1 hb2
    clear hot1 g1 hb2
    have hsl := use_lt t
    have HSB := Lib.hid (fun (k : Nat) (p : Int × Int) (hk : t[k]? = some p) => use_in hk)
    have HRS := Lib.hid (rotI_yes (s := useN t) (b := 2) hsl (by omega))
    generalize hSS : useN t = s at *
    clear hSS
    go_wp2_with fail
    refine (scP_any (Rd.of_own hot2)).mono ?_
    rintro e w3 ⟨vs, rfl, hos3, hb3⟩
    rw [scalesM_yes HT.out] at hos3
    have hot3 := ownS_below hot2 hb3
    have g3 := bstep g2 hb3
    clear hot2 g2 hb3
    go_wp2_with fail
    refine (bestP_is (Rd.of_own hot3) (bestI_yes HT.out)).mono ?_
    rintro e w4 ⟨rfl, hb4⟩
    have hot4 := ownS_below hot3 hb4
    have hos4 := ownS_below hos3 hb4
    have g4 := bstep g3 hb4
    clear hot3 hos3 g3 hb4
    have hB12 : bestN t 12 < 12 := bestN_lt t 11
    have HWB := Lib.hid (wrongI_yes HT.out hB12)
    have HBI := Lib.hid (fun (r : Nat) (hr : r < 12) => bestN_is t 12 r hr)
    have HSM := Lib.hid (fun (r : Nat) => scL_mem t r 12)
    generalize scL t 12 = S at *
    generalize wrongN t (majN (bestN t 12)) = y at *
    generalize bestN t 12 = B at *
    go_wp2_with fail
    go_loopw [7] (fun v7 wr => ∃ r : Nat, r ≤ 12 ∧ v7 = .int .i64 (r : Int) ∧ Below w4.heap.size w4 wr) (fun v7 _ => 12 - (intOf v7).toNat)
    case atStart => exact ⟨0, by omega, rfl, Below.refl _ _⟩
    case round =>
      obtain ⟨r, hr, rfl, hbr⟩ := hrel
      by_cases hlt : r < 12
      · have HWR := Lib.hid (wrongI_yes HT.out hlt)
        obtain ⟨hb1', hb2'⟩ := HBI.out r hlt
        have HX := Lib.hid (HSM.out r)
        have HRM : Hid (rotI ((majN 0 : Nat) : Int) (r : Int) = ((majN r : Nat) : Int)) := Lib.hid (maj_rot hlt)
        generalize wrongN t (majN r) = x at *
        have hxy : ¬ (x : Int) < (y : Int) := by omega
        go_wp2_with fail
        refine (wrongP_is (Rd.of_own (ownS_below hot4 hbr)) HWR.out).mono ?_
        rintro e w5 ⟨rfl, hb5⟩
        have g4' := bstep hbr hb5
        go_wp2_with fail
        refine (wrongP_is (Rd.of_own (ownS_below hot4 g4')) HWB.out).mono ?_
        rintro e w6 ⟨rfl, hb6⟩
        have g5 := bstep g4' hb6
        clear hb5 g4' hb6 hbr
        go_wp2_with fail
        refine (has_any (r : Int) (Rd.of_own (ownS_below hos4 g5))).mono ?_
        rintro e wb ⟨rfl, hbb⟩
        have g6 := bstep g5 hbb
        clear g5 hbb
        by_cases hx0 : x = 0
        · have hz : ((x : Int) == 0) = true := by rw [beq_iff_eq]; omega
          have hm : decide ((r : Int) ∈ S) = true := decide_eq_true (HX.out.2 ⟨hlt, hx0⟩)
          rw [hm]
          clear hm HX
          have hlb : ¬ r < B := fun k => by have := hb2' k; omega
          clear hb2'
          go_wp2_with fail
          refine (majP_is hlt _).mono ?_
          rintro e wc ⟨rfl, hgc⟩
          have g7 := bstep g6 hgc.below
          clear g6 hgc
          go_wp2_with fail
          refine (majP_is (r := 0) (by omega) _).mono ?_
          rintro e wd ⟨rfl, hgd⟩
          have g8 := bstep g7 hgd.below
          clear g7 hgd
          go_wp2_with fail
          refine (rotP_is HRM.out _).mono ?_
          rintro e we ⟨rfl, hge⟩
          have g9 := bstep g8 hge.below
          clear g8 hge

          have hlb' : ¬ (r : Int) < (B : Int) := by omega
          go_wp2
          go_roundw
          case rel => exact ⟨r + 1, by omega, by go_num, g9⟩
          case measure => simp [intOf]; omega
        · have hz : ((x : Int) == 0) = false := by rw [beq_eq_false_iff_ne]; omega
          have hm : decide ((r : Int) ∈ S) = false := decide_eq_false (fun k => hx0 (HX.out.1 k).2)
          rw [hm]
          clear hm HX
          by_cases hlb : r < B
          · have hyx := hb2' hlb
            go_wp2_with fail
            refine (majP_is hlt _).mono ?_
            rintro e wc ⟨rfl, hgc⟩
            have g7 := bstep g6 hgc.below
            clear g6 hgc
            go_wp2_with fail
            refine (majP_is (r := 0) (by omega) _).mono ?_
            rintro e wd ⟨rfl, hgd⟩
            have g8 := bstep g7 hgd.below
            clear g7 hgd
            go_wp2_with fail
            refine (rotP_is HRM.out _).mono ?_
            rintro e we ⟨rfl, hge⟩
            have g9 := bstep g8 hge.below
            clear g8 hge

            have hlb' : (r : Int) < (B : Int) := by omega
            have hnz : ((x : Int) == (y : Int)) = false := by rw [beq_eq_false_iff_ne]; omega
            go_wp2_with fail
            refine (wrongP_is (Rd.of_own (ownS_below hot4 g9)) HWB.out).mono ?_
            rintro e wf ⟨rfl, hbf⟩
            have g10 := bstep g9 hbf
            clear g9 hbf
            go_wp2
            go_roundw
            case rel => exact ⟨r + 1, by omega, by go_num, g10⟩
            case measure => simp [intOf]; omega
          · clear hb2'
            go_wp2_with fail
            refine (majP_is hlt _).mono ?_
            rintro e wc ⟨rfl, hgc⟩
            have g7 := bstep g6 hgc.below
            clear g6 hgc
            go_wp2_with fail
            refine (majP_is (r := 0) (by omega) _).mono ?_
            rintro e wd ⟨rfl, hgd⟩
            have g8 := bstep g7 hgd.below
            clear g7 hgd
            go_wp2_with fail
            refine (rotP_is HRM.out _).mono ?_
            rintro e we ⟨rfl, hge⟩
            have g9 := bstep g8 hge.below
            clear g8 hge

            have hlb' : ¬ (r : Int) < (B : Int) := by omega
            go_wp2
            go_roundw
            case rel => exact ⟨r + 1, by omega, by go_num, g9⟩
            case measure => simp [intOf]; omega
      · obtain rfl : r = 12 := by omega
        have g5 := bstep g4 hbr
        have hot5 := ownS_below hot4 hbr
        clear hot4 hos4 g4 hbr HBI HSM HWB
        have hHI := higher_any (w := wr) 2 (Rd.of_own hot5) (by omega)
        rw [HU1.out] at hHI
        have HHI := Lib.hid hHI
        clear hHI
        go_wp2_with fail
        refine HHI.out.mono ?_
        rintro e w7 ⟨vu, rfl, hou7, hb7⟩
        clear HHI HU1
        try simp only at hou7
        have g7 := bstep g5 hb7
        have hot7 := ownS_below hot5 hb7
        have hC7 := code_mono (hC.below g7) g7.size
        clear g5 hot5 hb7
        go_wp2_with fail
        refine (atV_any 0 (by omega) hC7 hn40).mono ?_
        rintro e wa ⟨x0, hx0, hy0, rfl, rfl⟩
        have ew1 : IntKind.i64.wrap (x0 * 16) = x0 * 16 := IntWalk.i64_in _ (by omega)
        have ew1' : wrap64 (x0 * 16) = x0 * 16 := by unfold wrap64; omega
        go_wp2_with fail
        refine (atV_any 1 (by omega) hC7 hn40).mono ?_
        rintro e wa ⟨x1, hx1, hy1, rfl, rfl⟩
        have hm1 := Int.emod_nonneg x1 (show (16 : Int) ≠ 0 by omega)
        have hm2 := Int.emod_lt_of_pos x1 (show (0 : Int) < 16 by omega)
        have ew2 : IntKind.i64.wrap (x0 * 16 + x1 % 16) = x0 * 16 + x1 % 16 := IntWalk.i64_in _ (by omega)
        go_wp2_with fail
        refine (atV_any 2 (by omega) hC7 hn40).mono ?_
        rintro e wa ⟨x2, hx2, hy2, rfl, rfl⟩
        obtain ⟨X, hX⟩ : ∃ X : Nat, x0 * 16 + x1 % 16 = (X : Int) := ⟨(x0 * 16 + x1 % 16).toNat, by omega⟩
        obtain ⟨D, hD⟩ : ∃ D : Nat, x2 % 12 = (D : Int) := ⟨(x2 % 12).toNat, by omega⟩
        have hX4 : X < 4096 := by omega
        have hD12 : D < 12 := by omega
        have HRY := Lib.hid (rotI_yes hX4 hD12)
        obtain ⟨E1, hE1⟩ : ∃ E : Nat, E = 12 - D := ⟨_, rfl⟩
        obtain ⟨E2, hE2⟩ : ∃ E : Nat, E = E1 % 12 := ⟨_, rfl⟩
        have HRB : Hid (rotI ((rotN X D : Nat) : Int) ((E2 : Nat) : Int) = (X : Int)) := Lib.hid (by rw [hE2, hE1, rotI_yes (rot_lt hX4 D) (Nat.mod_lt _ (by omega)), rot_back hX4 hD12])
        have HCX := Lib.hid (symI_yes hX4)
        have HCY : Hid (symI ((rotN X D : Nat) : Int) = ((symN X 12 : Nat) : Int)) := Lib.hid (by rw [symI_yes (rot_lt hX4 D), symN_rot hX4 hD12 12 (Nat.le_refl _)])
        have hc1 : 1 ≤ symN X 12 := symN_pos hX4 11
        have hc12 := symN_le X 12
        have hcm := symN_div hX4
        have hcm' : (12 : Int) % ((symN X 12 : Nat) : Int) = 0 := by rw [show (12 : Int) = ((12 : Nat) : Int) from rfl, ← Int.natCast_emod, hcm]; rfl
        have hct : (12 : Int).tmod ((symN X 12 : Nat) : Int) = 0 := by rw [Int.tmod_eq_emod_of_nonneg (by omega)]; exact hcm'
        have eD : (12 : Int) - (D : Int) = (E1 : Int) := by omega
        have eD2 : (E1 : Int) % 12 = (E2 : Int) := by omega
        have eDw : IntKind.i64.wrap (E1 : Int) = (E1 : Int) := IntWalk.i64_in _ (by omega)
        clear hE1 hE2
        generalize rotN X D = Y at *
        generalize symN X 12 = C at *
        go_wp2_with fail
        try rw [hX]
        try rw [hD]
        refine (rotP_is HRY.out _).mono ?_
        rintro e wy ⟨rfl, hgy⟩
        have g8 := bstep g7 hgy.below
        have hot8 := ownS_below hot7 hgy.below
        have hou8 := ownS_below hou7 hgy.below
        clear g7 hot7 hou7 hgy hC7
        clear hX hD hx0 hy0 hx1 hy1 hx2 hy2 hm1 hm2 ew1 ew1' ew2
        go_wp2_with fail
        refine (symP_is HCX.out _).mono ?_
        rintro e wz ⟨rfl, hgz⟩
        have g9 := bstep g8 hgz.below
        have hot9 := ownS_below hot8 hgz.below
        have hou9 := ownS_below hou8 hgz.below
        clear g8 hot8 hou8 hgz
        have hRt := Rd.of_own hot9
        obtain ⟨at1, cpt, hvt⟩ := Rd.slice hRt
        subst hvt
        have hm := hRt.2.1
        unfold maxLen at hm
        go_wp2_with fail
        go_loopw [15] (fun v15 wq => ∃ j : Nat, j ≤ t.length ∧ v15 = .int .i64 j ∧ Below wz.heap.size wz wq) (fun v15 _ => t.length - (intOf v15).toNat)
        case atStart => exact ⟨0, Nat.zero_le _, rfl, Below.refl _ _⟩
        case round =>
          obtain ⟨j, hj, rfl, hbq⟩ := hrel
          by_cases hlj : j < t.length
          · obtain ⟨p, hp⟩ : ∃ p, t[j]? = some p := ⟨_, List.getElem?_eq_getElem hlj⟩
            obtain ⟨b1, o1, c1, hv1, q1, q2⟩ := Rd2.cells (Rd.below hRt hbq) hp
            simp only [Value.slice.injEq, true_and] at hv1
            obtain ⟨rfl, rfl⟩ := hv1
            have hs := stepN_cast p
            have hs12 := stepN_lt p
            have hp0 := (HPI.out j p hp).1
            have hbit := bit_model (m := s) (k := stepN p) hsl
            rw [HSB.out j p hp] at hbit
            simp only [if_true] at hbit
            generalize stepN p = k at *
            clear hp
            go_wp2
            go_roundw
            case rel => exact ⟨j + 1, by omega, by go_num, hbq⟩
            case measure => simp [intOf]; omega
          · obtain rfl : j = t.length := by omega
            have g10 := bstep g9 hbq
            have hou10 := ownS_below hou9 hbq
            clear g9 hot9 hou9 hbq hRt HSB HPI
            generalize rotN s 2 = R at *
            have hRR : ((R : Int) == (R : Int)) = true := beq_self_eq_true _
            have hXX : ((X : Int) == (X : Int)) = true := beq_self_eq_true _
            have hCC : ((C : Int) == (C : Int)) = true := beq_self_eq_true _
            go_wp2_with fail
            refine (useP_is (Rd.of_own hou10) (HU3.out)).mono ?_
            rintro e wA ⟨rfl, hbA⟩
            have g11 := bstep g10 hbA
            clear g10 hou10 hbA
            go_wp2_with fail
            refine (rotP_is HRS.out _).mono ?_
            rintro e wB ⟨rfl, hgB⟩
            have g12 := bstep g11 hgB.below
            clear g11 hgB
            go_wp2_with fail
            refine (rotP_is HRB.out _).mono ?_
            rintro e wC ⟨rfl, hgC⟩
            have g13 := bstep g12 hgC.below
            clear g12 hgC
            go_wp2_with fail
            refine (symP_is HCY.out _).mono ?_
            rintro e wD ⟨rfl, hgD⟩
            have g14 := bstep g13 hgD.below
            clear g13 hgD
            go_wp2_with fail
            refine (symP_is (c := 6) sym_1365 _).mono ?_
            rintro e wE ⟨rfl, hgE⟩
            have g15 := bstep g14 hgE.below
            clear g14 hgE
            go_wp2_with fail
            refine (majP_no (c := -1) (rotI_no (by omega)) _).mono ?_
            rintro e wF ⟨rfl, hgF⟩
            have g16 := bstep g15 hgF.below
            clear g15 hgF
            go_wp2
            go_ret
            exact ⟨rfl, g16⟩
end Go.Proofs.Ythggdckldcfakaa
