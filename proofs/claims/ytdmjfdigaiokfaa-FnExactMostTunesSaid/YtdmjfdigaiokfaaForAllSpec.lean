/- The contracts of chapter 9's model: TeethForAll, CombForAll. No condition. -/
import Derived.Test.YtdmjfdigaiokfaaChooseSet
import Derived.Test.YtdmjfdigaiokfaaRestSpec
namespace Go.Proofs.Ytdmjfdigaiokfaa
open Go.ChangeShapes Go.WideShapes Go.ChangeAt Go.RowKit

/-- The set of the tunes chosen, if all is in order. -/
noncomputable def allO (r : Int) (ll : List (List (Int × Int))) (c : List Int) : Option Nat := if progB ll r = true then setTo ((ll.length : Int) - 1) c c.length else none
noncomputable def allS (r : Int) (ll : List (List (Int × Int))) (S : Nat) : Int := (needSL r ll S ll.length).sum
noncomputable def allI (r : Int) (ll : List (List (Int × Int))) (c : List Int) : Int := match allO r ll c with | some S => allS r ll S | none => -1
theorem allO_bad {r : Int} {ll : List (List (Int × Int))} {c : List Int} (h : progB ll r = false) : allO r ll c = none := by unfold allO; rw [if_neg (by rw [h]; decide)]
theorem allO_ok {r : Int} {ll : List (List (Int × Int))} {c : List Int} (h : progB ll r = true) : allO r ll c = setTo ((ll.length : Int) - 1) c c.length := if_pos h
theorem allO_some {r : Int} {ll : List (List (Int × Int))} {c : List Int} {S : Nat} (h : allO r ll c = some S) : progB ll r = true ∧ setTo ((ll.length : Int) - 1) c c.length = some S := by
  unfold allO at h; split at h
  · exact ⟨by assumption, h⟩
  · cases h
theorem allI_some {r : Int} {ll : List (List (Int × Int))} {c : List Int} {S : Nat} (h : allO r ll c = some S) : allI r ll c = allS r ll S := by unfold allI; rw [h]
theorem allI_none {r : Int} {ll : List (List (Int × Int))} {c : List Int} (h : allO r ll c = none) : allI r ll c = -1 := by unfold allI; rw [h]
theorem needSL_le {r : Int} {ll : List (List (Int × Int))} {S : Nat} (hok : progB ll r = true) : ∀ x ∈ needSL r ll S ll.length, 0 ≤ x ∧ x ≤ 40 := by
  intro x hx
  unfold needSL at hx
  obtain ⟨p, -, rfl⟩ := List.mem_map.1 hx
  have := needSet_le (r := r) (S := S) (fun t ht => (tuneB_true.1 ((progB_true.1 hok).1 t ht)).1) ll.length (p : Int)
  omega
theorem allS_nonneg {r : Int} {ll : List (List (Int × Int))} {S : Nat} (hok : progB ll r = true) : 0 ≤ allS r ll S ∧ allS r ll S ≤ 2440 := by
  have := sum_le40 _ (needSL_le (S := S) hok)
  rw [needSL_len] at this
  unfold allS; omega

set_option maxHeartbeats 2000000 in
theorem forall_any {w : World} {v vc : Value} {us : List Value} {ll : List (List (Int × Int))} {c : List Int} (r : Int) (h : RdN w v us ll) (hc : Rd1 w vc c) :
    Calls Try.prog 20 #[v, vc, .int .i64 r] w fun e w' => e = .returned (.int .i64 (allI r ll c)) ∧ Below w.heap.size w w' := by
  obtain ⟨a1, cap1, rfl⟩ := h.slice
  have hm := h.len
  unfold maxLen at hm
  by_cases hok : progB ll r = true
  · have HOK := Lib.hid hok
    have hl8 := (progB_true.1 hok).2.1
    have HO := Lib.hid (allO_ok (c := c) hok)
    clear hok
    go_enter Try.func20, Try.ntmps20
    go_wp2_with fail
    refine (l09ok_any r h).mono ?_
    rintro e w1 ⟨rfl, hb1⟩
    rw [HOK.out]
    have ew : IntKind.i64.wrap ((ll.length : Int) - 1) = (ll.length : Int) - 1 := IntWalk.i64_in _ (by omega)
    go_wp2_with fail
    refine (l09set_any ((ll.length : Int) - 1) (by omega) (Rd.below hc hb1)).mono ?_
    rintro e w2 ⟨rfl, hb2⟩
    have g2 := bstep hb1 hb2
    clear hb1 hb2
    cases hs : setTo ((ll.length : Int) - 1) c c.length with
    | none =>
      have HB := Lib.hid (allI_none (HO.out.trans hs))
      rw [setI_none hs]
      clear hs
      go_wp2
      go_ret
      exact ⟨by rw [HB.out]; rfl, g2⟩
    | some S =>
      have HB := Lib.hid (allI_some (HO.out.trans hs))
      have hS := setTo_lt (by omega) hs
      rw [setI_some hs]
      clear hs
      have hS0 : decide ((S : Int) < 0) = false := decide_eq_false (by omega)
      go_wp2_with fail
      refine (l09needs_any r S hS HOK.out (h.below g2)).mono ?_
      rintro e w3 ⟨v3, rfl, ho3, hb3⟩
      have g3 := bstep g2 hb3
      clear hb3 g2
      go_wp2_with fail
      refine (l09sum_any (Rd.of_own ho3) (by rw [needSL_len]; omega) (needSL_le HOK.out)).mono ?_
      rintro e w4 ⟨rfl, rfl⟩
      go_wp2
      go_ret
      exact ⟨by rw [HB.out]; rfl, g3⟩
  · have hbad : progB ll r = false := by simpa using hok
    have HB := Lib.hid (allI_none (allO_bad (c := c) hbad))
    have HF := Lib.hid hbad
    clear hok hbad
    go_enter Try.func20, Try.ntmps20
    go_wp2_with fail
    refine (l09ok_any r h).mono ?_
    rintro e w1 ⟨rfl, hb1⟩
    rw [HF.out]
    go_wp2
    go_ret
    exact ⟨by rw [HB.out]; rfl, hb1⟩

open Classical in
noncomputable def combAll (r : Int) (ll : List (List (Int × Int))) (c : List Int) : List Int × Bool :=
  if 1 ≤ allI r ll c ∧ allI r ll c ≤ 24 then (match allO r ll c with | some S => (combTo 61 (needSL r ll S ll.length), true) | none => ([], false)) else ([], false)
theorem combAll_no {r : Int} {ll : List (List (Int × Int))} {c : List Int} (h : ¬ (1 ≤ allI r ll c ∧ allI r ll c ≤ 24)) : combAll r ll c = ([], false) := if_neg h
theorem combAll_yes {r : Int} {ll : List (List (Int × Int))} {c : List Int} {S : Nat} (h : 1 ≤ allI r ll c ∧ allI r ll c ≤ 24) (hS : allO r ll c = some S) : combAll r ll c = (combTo 61 (needSL r ll S ll.length), true) := by
  unfold combAll; rw [if_pos h, hS]
theorem allO_of {r : Int} {ll : List (List (Int × Int))} {c : List Int} (h : 1 ≤ allI r ll c) : ∃ S, allO r ll c = some S := by
  cases hs : allO r ll c with
  | none => rw [allI_none hs] at h; omega
  | some S => exact ⟨S, rfl⟩
theorem allO_none_of {r : Int} {ll : List (List (Int × Int))} {c : List Int} {S : Nat} (h : allO r ll c = some S) : S < 256 :=
  setTo_lt (by have := (progB_true.1 (allO_some h).1).2.1; omega) (allO_some h).2

set_option maxHeartbeats 4000000 in
set_option maxRecDepth 100000 in
theorem comball_any {w : World} {v vc : Value} {us : List Value} {ll : List (List (Int × Int))} {c : List Int} (r : Int) (h : RdN w v us ll) (hc : Rd1 w vc c) :
    Calls Try.prog 25 #[v, vc, .int .i64 r] w (NewIntsB w (combAll r ll c).1 (combAll r ll c).2) := by
  obtain ⟨i0, hi, hz0, hz1, hz2⟩ := info_parts infoInt
  obtain ⟨a1, cap1, rfl⟩ := h.slice
  have hm := h.len
  unfold maxLen at hm
  have hown0 : (w.alloc (.cells #[] 3)).ownsRow w.heap.size 3 1 (.slice (some ⟨w.heap.size, 0, none⟩) 0 0) 0 [] := World.ownsRow_made w #[] 0 (Nat.le_refl _) (by simp) rfl
  have hb0 : Below w.heap.size w (w.alloc (.cells #[] 3)) := (Below.refl _ _).alloc (Nat.le_refl _) _
  go_enter Try.func25, Try.ntmps25
  go_wp2_with fail
  refine (forall_any r (h.below hb0) (Rd.below hc hb0)).mono ?_
  rintro e w1 ⟨rfl, hb1⟩
  have ho1 := ownS_below hown0 hb1
  have g1 := bstep hb0 hb1
  clear hb1 hown0 hb0
  by_cases hin : 1 ≤ allI r ll c ∧ allI r ll c ≤ 24
  · obtain ⟨S, hs⟩ := allO_of hin.1
    have HM := Lib.hid (combAll_yes hin hs)
    have hS := allO_none_of hs
    have HP := Lib.hid (allO_some hs)
    have hl8 := (progB_true.1 HP.out.1).2.1
    have HI := Lib.hid hs
    clear hs
    go_wp2_with fail
    refine (in_yes _ _ _ hin _).mono ?_
    rintro e w2 ⟨rfl, rfl⟩
    clear hin
    have ew : IntKind.i64.wrap ((ll.length : Int) - 1) = (ll.length : Int) - 1 := IntWalk.i64_in _ (by omega)
    go_wp2_with fail
    refine (l09set_any ((ll.length : Int) - 1) (by omega) (Rd.below hc g1)).mono ?_
    rintro e w2 ⟨rfl, hb2⟩
    rw [setI_some HP.out.2]
    have ho2 := ownS_below ho1 hb2
    have g2 := bstep g1 hb2
    clear hb2 g1 ho1
    go_wp2_with fail
    refine (l09needs_any r S hS HP.out.1 (h.below g2)).mono ?_
    rintro e w3 ⟨vn, rfl, hon, hb3⟩
    rw [needSL_len] at hon
    have hw12 := g2.size
    have hgl := (World.ownsRow.lt ho2 w.heap.size rfl).2
    have hon1 := ownS_mono hon g2.size
    have hne : Hid (∀ g, vn.ownBlock = some g → w.heap.size < g) := Lib.hid fun g hg => by
      have := (World.ownsRow.lt hon g hg).1
      omega
    have ho3 := ownS_below ho2 hb3
    have g3 := bstep g2 hb3
    have HB := Lib.hid (needSL_le (S := S) HP.out.1)
    have hnl := needSL_len r ll S ll.length
    clear hon hb3 ho2 g2
    generalize needSL r ll S ll.length = n at *
    obtain ⟨an, capn, rfl⟩ := ownS_slice hon1
    have HCL : Hid (∀ p, p ≤ 61 → (combTo p n).length ≤ 2440) := Lib.hid fun p hp => by
      have h1 := combTo_le (n := n) (m := 40) (fun x hx => (HB.out x hx).2) p
      have : p * 40 ≤ 61 * 40 := Nat.mul_le_mul_right _ (by omega)
      omega
    go_wp2_with fail
    go_loopw [8, 10] (fun v8 v10 wr => ∃ p : Nat, p ≤ 61 ∧ v10 = .int .i64 (p : Int) ∧ wr.ownsRow w.heap.size 3 1 v8 (combTo p n).length ((combTo p n).map intV) ∧ wr.ownsRow w.heap.size 3 1 (.slice an 61 capn) 61 (n.map intV) ∧ Hid (∀ g, (Value.slice an 61 capn).ownBlock = some g → v8.ownBlock ≠ some g) ∧ Below w.heap.size w wr) (fun _ v10 _ => 61 - (intOf v10).toNat)
    case atStart => exact ⟨0, Nat.zero_le _, rfl, ho3, hon1, Lib.hid (fun g hg e => by have := hne.out g hg; simp [Value.ownBlock] at e; omega), g3⟩
    case round =>
      obtain ⟨p, hp, rfl, hown, hon, HAP, hbr⟩ := hrel
      clear ho3 hon1 g3
      by_cases hlt : p < 61
      · obtain ⟨x, hx⟩ : ∃ x, n[p]? = some x := ⟨_, List.getElem?_eq_getElem (by omega)⟩
        obtain ⟨hx0, hx40⟩ := HB.out x (List.mem_of_getElem? hx)
        obtain ⟨m, rfl⟩ := Int.eq_ofNat_of_zero_le hx0
        have HX := Lib.hid hx
        have HC := Lib.hid (combTo_succ p n)
        have hgd : n.getD p 0 = (m : Int) := by rw [List.getD_eq_getElem?_getD, hx]; rfl
        rw [hgd, Int.toNat_natCast] at HC
        have hcl := HCL.out p (by omega)
        have hdk : decide ((p : Int) ≤ 60) = true := decide_eq_true (by omega)
        have hp61i : (p : Int) < 61 := by omega
        clear hx hgd
        go_wp2_with fail
        go_loopw [8, 11] (fun v8 v11 wx => ∃ j : Nat, j ≤ m ∧ v11 = .int .i64 (j : Int) ∧ wx.ownsRow w.heap.size 3 1 v8 ((combTo p n).length + j) ((combTo p n ++ List.replicate j (p : Int)).map intV) ∧ wx.ownsRow w.heap.size 3 1 (.slice an 61 capn) 61 (n.map intV) ∧ Hid (∀ g, (Value.slice an 61 capn).ownBlock = some g → v8.ownBlock ≠ some g) ∧ Below w.heap.size w wx) (fun _ v11 _ => m - (intOf v11).toNat)
        case atStart => exact ⟨0, Nat.zero_le _, rfl, by simpa using hown, hon, HAP, hbr⟩
        case round =>
          obtain ⟨j, hj, rfl, hown, hon, HAP, hbr⟩ := hrel
          obtain ⟨b1, o1, c1, hv1, x1⟩ := Rd1.cell (Rd.of_own (hnl.symm ▸ hon) : Rd1 wr _ n) HX.out
          rw [hnl] at hv1
          simp only [Value.slice.injEq, true_and] at hv1
          obtain ⟨rfl, rfl⟩ := hv1
          by_cases hjm : j < m
          · obtain ⟨v', w4, e4, ho4, hg4, hbl4⟩ := app_int hown (p : Int) (by omega) hbr.size
            have hn4 := (hon.alloc (.cells #[.int .i64 (p : Int)] 3)).kept hg4 (by
              cases hb : (Value.slice (some ⟨b1, o1, none⟩) 61 capn).ownBlock with
              | none => exact Or.inl rfl
              | some g => exact Or.inr fun e => HAP.out g hb e.symm)
            have hb4 := (hbr.alloc hbr.size (.cells #[.int .i64 (p : Int)] 3)).grown hg4 (by rw [size_alloc]; have := hbr.size; omega) (fun x hx => (hown.lt x hx).1)
            have HAP4 : Hid (∀ g, (Value.slice (some ⟨b1, o1, none⟩) 61 capn).ownBlock = some g → v'.ownBlock ≠ some g) := Lib.hid fun g hg e => by
              rcases hbl4 g e with h | h
              · exact HAP.out g hg h
              · have := (World.ownsRow.lt hon g hg).2
                omega
            have ho5 : Hid (w4.ownsRow w.heap.size 3 1 v' ((combTo p n).length + (j + 1)) ((combTo p n ++ List.replicate (j + 1) (p : Int)).map intV)) := Lib.hid (by
              rw [List.replicate_succ', ← List.append_assoc, List.map_append]; exact ho4)
            have HN4 := Lib.hid hn4
            clear hown hon hbr hg4 hbl4 ho4 hn4
            go_wp2_with (at_builtin; refine wpList_append_eq rfl _ _ _ rfl _ _ _ rfl rfl e4 ?_)
            go_roundw
            case rel => exact ⟨j + 1, by omega, by go_num, ho5.out, HN4.out, HAP4, hb4⟩
            case measure => simp [intOf]; omega
          · obtain rfl : j = m := by omega
            have ho5 : Hid (wr.ownsRow w.heap.size 3 1 u8 (combTo (p + 1) n).length ((combTo (p + 1) n).map intV)) := Lib.hid (by
              rw [HC.out, List.length_append, List.length_replicate]; exact hown)
            clear hown
            go_wp2
            go_roundw
            case rel => exact ⟨p + 1, by omega, by go_num, ho5.out, hon, HAP, hbr⟩
            case measure => simp [intOf]; omega
      · obtain rfl : p = 61 := by omega
        go_wp2
        go_ret2
        rw [HM.out]
        exact ⟨_, rfl, hown, hbr⟩
  · have HM := Lib.hid (combAll_no hin)
    go_wp2_with fail
    refine (in_no _ _ _ hin _).mono ?_
    rintro e w2 ⟨rfl, rfl⟩
    go_wp2
    go_ret2
    rw [HM.out]
    exact ⟨_, rfl, ho1, g1⟩
end Go.Proofs.Ytdmjfdigaiokfaa
