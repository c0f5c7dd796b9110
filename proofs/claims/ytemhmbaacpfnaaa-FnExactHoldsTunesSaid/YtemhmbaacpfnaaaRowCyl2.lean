/- The contracts of the laws' helpers on rows of cylinders: szCylinderS, eqCylinderS, toCylinderS, markCylinderS. No condition. -/
import Derived.Test.YtemhmbaacpfnaaaRowCyl
namespace Go.Proofs.Ytemhmbaacpfnaaa
open Go.ChangeShapes Go.WideShapes Go.ChangeAt Go.RowKit

theorem szYY_yes {w : World} {v : Value} {us : List Value} {cs : List Cyl} (h : RdY w v us cs) (hl : bulkY cs ≤ 1048576) :
    Calls Try.prog 25 #[v, .int .i64 1048576] w fun e w' => ∃ x : Int, 0 ≤ x ∧ e = .returned (.int .i64 x) ∧ Below w.heap.size w w' := by
  obtain ⟨a1, cap1, rfl⟩ := h.slice
  have hll : cs.length ≤ 1048576 := by unfold bulkY at hl; omega
  have e0 : ((1048576 - cs.length : Nat) : Int) = 1048576 - (cs.length : Int) := by omega
  have e1 : ¬ (1048576 : Int) - (cs.length : Int) < 0 := by omega
  have e2 : IntKind.i64.wrap (1048576 - (cs.length : Int)) = 1048576 - (cs.length : Int) := IntWalk.i64_in _ (by omega)
  go_enter Try.func25, Try.ntmps25
  go_wp2_with fail
  go_loopw [1, 5] (fun v1 v5 wr => ∃ k X : Nat, k ≤ cs.length ∧ v5 = .int .i64 (k : Int) ∧ v1 = .int .i64 (X : Int) ∧ Below w.heap.size w wr ∧ Hid (X + lensY (cs.take k) + cs.length = 1048576) ∧ X ≤ 1048576) (fun _ v5 _ => cs.length - (intOf v5).toNat)
  case atStart => exact ⟨0, 1048576 - cs.length, Nat.zero_le _, rfl, by rw [e0], Below.refl _ _, Lib.hid (by simp [lensY]; omega), by omega⟩
  case round =>
    obtain ⟨k, X, hk, rfl, rfl, hbr, HX, hX⟩ := hrel
    clear e0 e1 e2
    by_cases hlt : k < cs.length
    · obtain ⟨c, hc⟩ : ∃ c, cs[k]? = some c := ⟨_, List.getElem?_eq_getElem hlt⟩
      obtain ⟨b1, o1, c1, u, -, hv1, x1, x2, x3, hu⟩ := (h.below hbr).cell hc
      simp only [Value.slice.injEq, true_and] at hv1
      obtain ⟨rfl, rfl⟩ := hv1
      have HS := Lib.hid (lensY_succ hc)
      have HE := Lib.hid (lensY_le cs (k + 1))
      obtain ⟨a2, cap2, rfl⟩ := Rd.slice hu
      have hle : c.2.2.length ≤ X := by have := HX.out; have := HS.out; have := HE.out; unfold bulkY at hl; omega
      have HX2 : Hid ((X - c.2.2.length) + lensY (cs.take (k + 1)) + cs.length = 1048576) := Lib.hid (by have := HX.out; have := HS.out; omega)
      have hX2 : X - c.2.2.length ≤ 1048576 := by omega
      have hpos : ¬ ((X - c.2.2.length : Nat) : Int) < 0 := by omega
      clear hc
      go_wp2_with fail
      refine (szCylL_yes c.1 c.2.1 X hX hle).mono ?_
      rintro e w1 ⟨rfl, hb1⟩
      have hb2 := bstep hbr hb1
      generalize X - c.2.2.length = Y at *
      clear hb1 hbr x1 x2 x3 hu
      go_wp2
      go_roundw
      case rel => exact ⟨k + 1, Y, by omega, by go_num, rfl, hb2, HX2, hX2⟩
      case measure => simp [intOf]; omega
    · obtain rfl : k = cs.length := by omega
      go_wp2
      go_ret
      exact ⟨_, by omega, rfl, hbr⟩

theorem szYY_no {w : World} {v : Value} {us : List Value} {cs : List Cyl} (h : RdY w v us cs) (hl : ¬ bulkY cs ≤ 1048576) :
    Calls Try.prog 25 #[v, .int .i64 1048576] w fun e w' => e = .returned (.int .i64 (-1)) ∧ Below w.heap.size w w' := by
  obtain ⟨a1, cap1, rfl⟩ := h.slice
  have hm := h.len
  unfold maxLen at hm
  by_cases h0 : cs.length ≤ 1048576
  · have e0 : ((1048576 - cs.length : Nat) : Int) = 1048576 - (cs.length : Int) := by omega
    have e1 : ¬ (1048576 : Int) - (cs.length : Int) < 0 := by omega
    have e2 : IntKind.i64.wrap (1048576 - (cs.length : Int)) = 1048576 - (cs.length : Int) := IntWalk.i64_in _ (by omega)
    go_enter Try.func25, Try.ntmps25
    go_wp2_with fail
    go_loopw [1, 5] (fun v1 v5 wr => ∃ k X : Nat, k ≤ cs.length ∧ v5 = .int .i64 (k : Int) ∧ v1 = .int .i64 (X : Int) ∧ Below w.heap.size w wr ∧ Hid (X + lensY (cs.take k) + cs.length = 1048576) ∧ X ≤ 1048576) (fun _ v5 _ => cs.length - (intOf v5).toNat)
    case atStart => exact ⟨0, 1048576 - cs.length, Nat.zero_le _, rfl, by rw [e0], Below.refl _ _, Lib.hid (by simp [lensY]; omega), by omega⟩
    case round =>
      obtain ⟨k, X, hk, rfl, rfl, hbr, HX, hX⟩ := hrel
      clear e0 e1 e2
      by_cases hlt : k < cs.length
      · obtain ⟨c, hc⟩ : ∃ c, cs[k]? = some c := ⟨_, List.getElem?_eq_getElem hlt⟩
        obtain ⟨b1, o1, c1, u, -, hv1, x1, x2, x3, hu⟩ := (h.below hbr).cell hc
        simp only [Value.slice.injEq, true_and] at hv1
        obtain ⟨rfl, rfl⟩ := hv1
        have HS := Lib.hid (lensY_succ hc)
        have hul := hu.2.1
        unfold maxLen at hul
        obtain ⟨a2, cap2, rfl⟩ := Rd.slice hu
        clear hc
        by_cases hle : c.2.2.length ≤ X
        · have HX2 : Hid ((X - c.2.2.length) + lensY (cs.take (k + 1)) + cs.length = 1048576) := Lib.hid (by have := HX.out; have := HS.out; omega)
          have hX2 : X - c.2.2.length ≤ 1048576 := by omega
          have hpos : ¬ ((X - c.2.2.length : Nat) : Int) < 0 := by omega
          go_wp2_with fail
          refine (szCylL_yes c.1 c.2.1 X hX hle).mono ?_
          rintro e w1 ⟨rfl, hb1⟩
          have hb2 := bstep hbr hb1
          generalize X - c.2.2.length = Y at *
          clear hb1 hbr x1 x2 x3 hu
          go_wp2
          go_roundw
          case rel => exact ⟨k + 1, Y, by omega, by go_num, rfl, hb2, HX2, hX2⟩
          case measure => simp [intOf]; omega
        · go_wp2_with fail
          refine (szCylL_no c.1 c.2.1 X hX hle (by omega)).mono ?_
          rintro e w1 ⟨rfl, hb1⟩
          have hb2 := bstep hbr hb1
          clear hb1 hbr x1 x2 x3 hu
          go_wp2
          go_ret
          exact ⟨rfl, hb2⟩
      · exfalso
        obtain rfl : k = cs.length := by omega
        have h1 := HX.out
        rw [List.take_length] at h1
        unfold bulkY at hl
        omega
  · have e1 : IntKind.i64.wrap (1048576 - (cs.length : Int)) = 1048576 - (cs.length : Int) := IntWalk.i64_in _ (by omega)
    have e2 : (1048576 : Int) - (cs.length : Int) < 0 := by omega
    go_enter Try.func25, Try.ntmps25
    go_wp2
    go_ret
    exact ⟨rfl, Below.refl _ _⟩

set_option maxHeartbeats 1000000 in
theorem eqYY_same {w : World} {v1 v2 : Value} {us ts : List Value} {cs : List Cyl} (h1 : RdY w v1 us cs) (h2 : RdY w v2 ts cs) :
    Calls Try.prog 28 #[v1, v2] w fun e w' => e = .returned (.bool true) ∧ Below w.heap.size w w' := by
  obtain ⟨a1, cap1, rfl⟩ := h1.slice
  obtain ⟨a2, cap2, rfl⟩ := h2.slice
  have hm := h1.len
  unfold maxLen at hm
  go_enter Try.func28, Try.ntmps28
  go_wp2
  go_loopw [5] (fun v5 wr => ∃ j : Nat, j ≤ cs.length ∧ v5 = .int .i64 (j : Int) ∧ Below w.heap.size w wr) (fun v5 _ => cs.length - (intOf v5).toNat)
  case atStart => exact ⟨0, Nat.zero_le _, rfl, Below.refl _ _⟩
  case round =>
    obtain ⟨j, hj, rfl, hbr⟩ := hrel
    by_cases hlt : j < cs.length
    · obtain ⟨c, hc⟩ : ∃ c, cs[j]? = some c := ⟨_, List.getElem?_eq_getElem hlt⟩
      obtain ⟨b1, o1, c1, u1, -, hv1, x1, x2, x3, hr1⟩ := (h1.below hbr).cell hc
      obtain ⟨b2, o2, c2, u2, -, hv2, y1, y2, y3, hr2⟩ := (h2.below hbr).cell hc
      simp only [Value.slice.injEq, true_and] at hv1 hv2
      obtain ⟨rfl, rfl⟩ := hv1
      obtain ⟨rfl, rfl⟩ := hv2
      clear hc
      go_wp2_with fail
      go_region_held3 (fun w' => (w'.cell? ⟨b1, o1 + j * 3, none⟩ = some (.int .i64 c.1) ∧ w'.cell? ⟨b1, o1 + j * 3 + 1, none⟩ = some (.int .i64 c.2.1) ∧ w'.cell? ⟨b1, o1 + j * 3 + 2, none⟩ = some u1) ∧ w'.cell? ⟨b2, o2 + j * 3, none⟩ = some (.int .i64 c.1) ∧ w'.cell? ⟨b2, o2 + j * 3 + 1, none⟩ = some (.int .i64 c.2.1) ∧ w'.cell? ⟨b2, o2 + j * 3 + 2, none⟩ = some u2) (go_keep)
        ((go_at_call 20; refine (eqCyl_same c.1 c.2.1 (Rd.below hr1 (Below.drew (Below.refl _ _))) (Rd.below hr2 (Below.drew (Below.refl _ _)))).mono ?_; rintro e w1 ⟨rfl, hb1⟩; have q1 := kept_cell hb1 x1; have q2 := kept_cell hb1 x2; have q3 := kept_cell hb1 x3; have q4 := kept_cell hb1 y1; have q5 := kept_cell hb1 y2; have q6 := kept_cell hb1 y3))
      all_goals
        have hb2 := bstep hbr (below_undrew hb1)
        clear hb1 q1 q2 q3 q4 q5 q6 x1 x2 x3 y1 y2 y3 hbr hr1 hr2
        go_wp2
        go_roundw
        case rel => exact ⟨j + 1, by omega, by go_num, hb2⟩
        case measure => simp [intOf]; omega
    · obtain rfl : j = cs.length := by omega
      go_wp2
      go_ret
      exact ⟨rfl, hbr⟩
end Go.Proofs.Ytemhmbaacpfnaaa
