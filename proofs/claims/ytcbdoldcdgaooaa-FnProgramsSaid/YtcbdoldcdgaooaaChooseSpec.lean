/- The contracts of chapter 9's model: l09Ok, l09Sum, l09Needs. No condition. -/
import Derived.Test.YtcbdoldcdgaooaaChooseMath
import Derived.Test.YtcbdoldcdgaooaaNestKit
import Derived.StillTailTactics
namespace Go.Proofs.Ytcbdoldcdgaooaa
open Go.ChangeShapes Go.WideShapes Go.ChangeAt Go.RowKit

set_option maxHeartbeats 1000000 in
theorem l09ok_any {w : World} {v : Value} {us : List Value} {ll : List (List (Int × Int))} (r : Int) (h : RdN w v us ll) :
    Calls Try.prog 124 #[v, .int .i64 r] w fun e w' => e = .returned (.bool (progB ll r)) ∧ Below w.heap.size w w' := by
  obtain ⟨a1, cap1, rfl⟩ := h.slice
  have hm := h.len
  unfold maxLen at hm
  go_enter Try.func124, Try.ntmps124
  go_wp2
  go_loopw [5] (fun v5 wr => ∃ j : Nat, j ≤ ll.length ∧ v5 = .int .i64 (j : Int) ∧ Below w.heap.size w wr ∧ Hid (∀ t ∈ ll.take j, tuneB t = true)) (fun v5 _ => ll.length - (intOf v5).toNat)
  case atStart => exact ⟨0, Nat.zero_le _, rfl, Below.refl _ _, Lib.hid (by simp)⟩
  case round =>
    obtain ⟨j, hj, rfl, hbr, HT⟩ := hrel
    by_cases hlt : j < ll.length
    · obtain ⟨l, hl⟩ : ∃ l, ll[j]? = some l := ⟨_, List.getElem?_eq_getElem hlt⟩
      have HL := Lib.hid hl
      obtain ⟨b1, o1, c1, u1, -, hv1, x1, hr1⟩ := (h.below hbr).cell hl
      simp only [Value.slice.injEq, true_and] at hv1
      obtain ⟨rfl, rfl⟩ := hv1
      clear hl
      by_cases tl : tuneB l = true
      · have HT2 : Hid (∀ t ∈ ll.take (j + 1), tuneB t = true) := Lib.hid (by
          rw [List.take_add_one, HL.out]
          intro t ht
          rcases List.mem_append.1 ht with h1 | h1
          · exact HT.out t h1
          · obtain rfl : t = l := by simpa using h1
            exact tl)
        go_wp2_with fail
        refine (tuneok_yes hr1 tl).mono ?_
        rintro e w1 ⟨rfl, hb1⟩
        have hb2 := bstep hbr hb1
        clear hb1 hbr x1 hr1
        go_wp2
        go_roundw
        case rel => exact ⟨j + 1, by omega, by go_num, hb2, HT2⟩
        case measure => simp [intOf]; omega
      · have HF := Lib.hid (progB_false.2 fun k : (∀ t ∈ ll, tuneB t = true) ∧ ll.length ≤ 8 ∧ (1 ≤ r ∧ r ≤ 100) => tl (k.1 l (List.mem_of_getElem? HL.out)))
        go_wp2_with fail
        refine (tuneok_no hr1 (by simpa using tl)).mono ?_
        rintro e w1 ⟨rfl, hb1⟩
        have hb2 := bstep hbr hb1
        clear hb1 hbr x1 hr1
        go_wp2
        go_ret
        exact ⟨by rw [HF.out]; rfl, hb2⟩
    · obtain rfl : j = ll.length := by omega
      rw [List.take_length] at HT
      by_cases h8 : ll.length ≤ 8
      · have hd8 : decide ((ll.length : Int) ≤ 8) = true := decide_eq_true (by omega)
        by_cases hr : 1 ≤ r ∧ r ≤ 100
        · have HF := Lib.hid (progB_true.2 ⟨HT.out, h8, hr⟩)
          go_wp2_with fail
          refine (in_yes' _ _ _ hr _).mono ?_
          rintro e w1 ⟨rfl, rfl⟩
          go_wp2
          go_ret
          exact ⟨by rw [HF.out]; rfl, hbr⟩
        · have HF := Lib.hid (progB_false.2 fun k : (∀ t ∈ ll, tuneB t = true) ∧ ll.length ≤ 8 ∧ (1 ≤ r ∧ r ≤ 100) => hr k.2.2)
          go_wp2_with fail
          refine (in_no _ _ _ hr _).mono ?_
          rintro e w1 ⟨rfl, rfl⟩
          go_wp2
          go_ret
          exact ⟨by rw [HF.out]; rfl, hbr⟩
      · have hd8 : decide ((ll.length : Int) ≤ 8) = false := decide_eq_false (by omega)
        have HF := Lib.hid (progB_false.2 fun k : (∀ t ∈ ll, tuneB t = true) ∧ ll.length ≤ 8 ∧ (1 ≤ r ∧ r ≤ 100) => h8 k.2.1)
        go_wp2
        go_ret
        exact ⟨by rw [HF.out]; rfl, hbr⟩

theorem sum_take {l : List Int} {k : Nat} {x : Int} (h : l[k]? = some x) : (l.take (k + 1)).sum = (l.take k).sum + x := by
  rw [List.take_add_one, h]; simp
theorem l09sum_any {w : World} {v : Value} {l : List Int} (h : Rd1 w v l) (hl : l.length ≤ 61) (hb : ∀ x ∈ l, 0 ≤ x ∧ x ≤ 40) :
    Calls Try.prog 92 #[v] w fun e w' => e = .returned (.int .i64 l.sum) ∧ w' = w := by
  obtain ⟨a1, cap1, rfl⟩ := Rd.slice h
  have HB := Lib.hid hb
  clear hb
  go_enter Try.func92, Try.ntmps92
  go_wp2
  go_loopw [3, 4] (fun v3 v4 wr => ∃ (j : Nat) (N : Int), j ≤ l.length ∧ v4 = .int .i64 (j : Int) ∧ v3 = .int .i64 N ∧ Hid (N = (l.take j).sum) ∧ wr = w) (fun _ v4 _ => l.length - (intOf v4).toNat)
  case atStart => exact ⟨0, 0, Nat.zero_le _, rfl, rfl, Lib.hid (by simp), rfl⟩
  case round =>
    obtain ⟨j, N, hj, rfl, rfl, HN, rfl⟩ := hrel
    by_cases hlt : j < l.length
    · obtain ⟨x, hx⟩ : ∃ x, l[j]? = some x := ⟨_, List.getElem?_eq_getElem hlt⟩
      have hxb := HB.out x (List.mem_of_getElem? hx)
      have hN := sum_le40 (l.take j) fun y hy => HB.out y (List.mem_of_mem_take hy)
      rw [← HN.out, List.length_take] at hN
      have ew : IntKind.i64.wrap (N + x) = N + x := IntWalk.i64_in _ (by omega)
      have HN2 : Hid (N + x = (l.take (j + 1)).sum) := Lib.hid (by rw [sum_take hx, HN.out])
      obtain ⟨b1, o1, c1, hv1, x1⟩ := Rd1.cell h hx
      simp only [Value.slice.injEq, true_and] at hv1
      obtain ⟨rfl, rfl⟩ := hv1
      clear hx
      go_wp2
      go_roundw
      case rel => exact ⟨j + 1, N + x, by omega, by go_num, rfl, HN2, trivial⟩
      case measure => simp [intOf]; omega
    · obtain rfl : j = l.length := by omega
      have HN2 : Hid (N = l.sum) := Lib.hid (by have := HN.out; rwa [List.take_length] at this)
      go_wp2
      go_ret
      exact ⟨by rw [← HN2.out]; rfl, rfl⟩

theorem bits_all : ∀ S : Fin 256, ∀ k : Fin 9, bits .and .i64 ((S.1 : Int) / 2 ^ k.1) 1 = if S.1.testBit k.1 then 1 else 0 := by decide +kernel
theorem bits_eq {S k : Nat} (hS : S < 256) (hk : k < 9) : bits .and .i64 ((S : Int) / 2 ^ k) 1 = if S.testBit k then 1 else 0 := bits_all ⟨S, hS⟩ ⟨k, hk⟩
theorem needM_prog {r : Int} {t : List (Int × Int)} (h1 : tuneB t = true) (h2 : 1 ≤ r ∧ r ≤ 100) : needM r t = needL r t t.length := if_pos ⟨h1, decide_eq_true h2⟩

set_option maxHeartbeats 4000000 in
set_option maxRecDepth 100000 in
theorem l09needs_any {w : World} {v : Value} {us : List Value} {ll : List (List (Int × Int))} (r : Int) (S : Nat) (hS : S < 256) (hok : progB ll r = true) (h : RdN w v us ll) :
    Calls Try.prog 93 #[v, .int .i64 (S : Int), .int .i64 r] w (NewInts w (needSL r ll S ll.length)) := by
  obtain ⟨i0, hi, hz0, hz1, hz2⟩ := info_parts infoInt
  obtain ⟨a1, cap1, rfl⟩ := h.slice
  have HOK := Lib.hid (progB_true.1 hok)
  have hl8 := (progB_true.1 hok).2.1
  clear hok
  go_enter Try.func93, Try.ntmps93
  go_wp2_with (at_make; refine wpList_make_full _ rfl _ _ 33 rfl w.heap.size 3 i0 (.int .i64 0) 1 Try.underlying33 hi hz0 hz1 _ _ _ _ 61 rfl rfl (by omega) (by omega) (by rw [hz2]; omega) (by unfold maxLen; omega) (Nat.le_refl _) ?_)
  intro w1 hown hgrow
  have hb1 : Below w.heap.size w w1 := (Below.refl _ _).grown hgrow (Nat.le_refl _) (by intro k hk; cases hk)
  have e0 : ((madeCells #[Value.int .i64 0] 61).toList) = (needSL r ll S 0).map intV := by rw [needSL_zero]; kernel_rfl
  rw [e0] at hown
  clear e0
  generalize hg0 : w.heap.size = g0 at *
  have HG := Lib.hid hg0
  clear hg0
  go_wp2
  go_loopw [8] (fun v8 wr => ∃ k : Nat, k ≤ ll.length ∧ v8 = .int .i64 (k : Int) ∧ wr.ownsRow g0 3 1 (.slice (some ⟨g0, 0, none⟩) 61 61) 61 ((needSL r ll S k).map intV) ∧ Below g0 w wr) (fun v8 _ => ll.length - (intOf v8).toNat)
  case atStart => exact ⟨0, Nat.zero_le _, rfl, hown, hb1⟩
  case round =>
    obtain ⟨k, hk, rfl, hownk, hbr⟩ := hrel
    clear hown hb1 hgrow
    by_cases hlt : k < ll.length
    · obtain ⟨t, ht⟩ : ∃ t, ll[k]? = some t := ⟨_, List.getElem?_eq_getElem hlt⟩
      have HT := Lib.hid ht
      obtain ⟨b1, o1, c1, u1, -, hv1, x1, hr1⟩ := (h.below (HG.out ▸ hbr)).cell ht
      simp only [Value.slice.injEq, true_and] at hv1
      obtain ⟨rfl, rfl⟩ := hv1
      clear ht
      have hbit := bits_eq hS (k := k) (by omega)
      by_cases hb : S.testBit k = true
      · rw [if_pos hb] at hbit
        have hbit2 : (bits .and .i64 ((S : Int) / 2 ^ k) 1 == 0) = false := by rw [hbit]; rfl
        have HN : Hid (∀ p : Int, needSet r ll S (k + 1) p = max (needSet r ll S k p) (needTo r t t.length p)) := Lib.hid (needSet_in HT.out hb)
        have HM := Lib.hid (needM_prog (HOK.out.1 t (List.mem_of_getElem? HT.out)) HOK.out.2.2)
        have h40 : t.length ≤ 40 := (tuneB_true.1 (HOK.out.1 t (List.mem_of_getElem? HT.out))).1
        go_wp2_with fail
        refine (needed_any r hr1).mono ?_
        rintro e w2 ⟨v9, rfl, hown9, hb2⟩
        rw [HM.out, needL_len] at hown9
        obtain ⟨g9, cap9, rfl, hg9, -⟩ := hown9.form (by omega)
        have hgl := (World.ownsRow.lt hownk g0 rfl).2
        have hownk2 := ownS_below hownk hb2
        have hbr2 := hbr.trans (hb2.mono (Nat.le_of_lt hgl))
        rw [← needMid_zero] at hownk2
        clear hb2 hr1 x1 hownk hbr hbit hbit2
        generalize wr.heap.size = g1 at *
        go_wp2_with fail
        go_loopw [10] (fun v10 wx => ∃ p : Nat, p ≤ 61 ∧ v10 = .int .i64 (p : Int) ∧ wx.ownsRow g0 3 1 (.slice (some ⟨g0, 0, none⟩) 61 61) 61 ((needMid r ll S k p).map intV) ∧ wx.ownsRow g1 3 1 (.slice (some ⟨g9, 0, none⟩) 61 cap9) 61 ((needL r t t.length).map intV) ∧ Below g0 w wx) (fun v10 _ => 61 - (intOf v10).toNat)
        case atStart => exact ⟨0, Nat.zero_le _, rfl, hownk2, hown9, hbr2⟩
        case round =>
          obtain ⟨p, hp, rfl, howx, ho9, hbx⟩ := hrel
          clear hownk2 hown9 hbr2
          by_cases hp61 : p < 61
          · have hd : decide ((p : Int) ≤ 60) = true := decide_eq_true (by omega)
            have hm1 : Hid ((needMid r ll S k p)[p]? = some ((needSet r ll S k (p : Int) : Nat) : Int)) := Lib.hid (needMid_at _ _ _ _ hp61)
            have hm2 : Hid ((needL r t t.length)[p]? = some ((needTo r t t.length (p : Int) : Nat) : Int)) := Lib.hid (needL_at _ _ _ hp61)
            have HP := Lib.hid (needMid_succ r ll S k hp61)
            have HQ := Lib.hid (HN.out (p : Int))
            have hc0 : wr.cell? ⟨g0, p, none⟩ = some (.int .i64 ((needSet r ll S k (p : Int) : Nat) : Int)) := by
              rw [howx.cellAt _ (by omega), List.getElem?_map, hm1.out]; rfl
            have hc9 : wr.cell? ⟨g9, p, none⟩ = some (.int .i64 ((needTo r t t.length (p : Int) : Nat) : Int)) := by
              rw [ho9.cellAt _ (by omega), List.getElem?_map, hm2.out]; rfl
            have hf0 := howx.frozenAt p
            have hnl := needTo_le r t t.length (p : Int)
            have hns := needSet_le (r := r) (S := S) (fun t ht => (tuneB_true.1 (HOK.out.1 t ht)).1) k (p : Int)
            have hp61i : (p : Int) < 61 := by omega
            have hp0i : (0 : Int) ≤ (p : Int) := by omega
            go_wp2_with fail
            have hc0d : ({ heap := wr.heap, tape := wr.tape, drawn := wr.drawn + 1, os := wr.os, output := wr.output } : World).cell? ⟨g0, p, none⟩ = some (.int .i64 ((needSet r ll S k (p : Int) : Nat) : Int)) := hc0
            have hc9d : ({ heap := wr.heap, tape := wr.tape, drawn := wr.drawn + 1, os := wr.os, output := wr.output } : World).cell? ⟨g9, p, none⟩ = some (.int .i64 ((needTo r t t.length (p : Int) : Nat) : Int)) := hc9
            go_still_tail 12, (by kernel_rfl)
            change wpList _ _ _ _ _ wr.drew
            have how2 := howx.drew
            have ho92 := ho9.drew
            have hbx2 := hbx.drew
            have hc02 : wr.drew.cell? ⟨g0, p, none⟩ = some (.int .i64 ((needSet r ll S k (p : Int) : Nat) : Int)) := hc0
            have hf02 : wr.drew.frozen? ⟨g0, p, none⟩ = false := hf0
            clear hc0d hc9d hc0 hc9 hf0 howx ho9 hbx
            generalize wr.drew = W2 at *
            have hst := how2.stored p (.int .i64 ((max (needSet r ll S k (p : Int)) (needTo r t t.length (p : Int)) : Nat) : Int))
            have HST : Hid ((W2.setCell ⟨g0, p, none⟩ (.int .i64 ((max (needSet r ll S k (p : Int)) (needTo r t t.length (p : Int)) : Nat) : Int))).ownsRow g0 3 1 (.slice (some ⟨g0, 0, none⟩) 61 61) 61 ((needMid r ll S k (p + 1)).map intV)) := Lib.hid (by rw [HP.out, HQ.out, List.map_set]; exact hst.1)
            have ho94 := ownsRow_setCell_below ho92 (a := ⟨g0, p, none⟩) hgl (.int .i64 ((max (needSet r ll S k (p : Int)) (needTo r t t.length (p : Int)) : Nat) : Int))
            have hb4 : Below g0 w (W2.setCell ⟨g0, p, none⟩ (.int .i64 ((max (needSet r ll S k (p : Int)) (needTo r t t.length (p : Int)) : Nat) : Int))) := hbx2.setCell (Nat.le_refl _) _
            clear hst how2 hbx2 ho92
            generalize needSet r ll S k (p : Int) = na at *
            generalize needTo r t t.length (p : Int) = nb at *
            have emx : (if na < nb then (nb : Int) else (na : Int)) = ((max na nb : Nat) : Int) := by split <;> omega
            go_wp2
            exact ⟨⟨p + 1, by omega, by go_num, HST.out, ho94, hb4⟩, by simp [intOf]; omega⟩
          · obtain rfl : p = 61 := by omega
            rw [needMid_all] at howx
            go_wp2
            go_roundw
            case rel => exact ⟨k + 1, by omega, by go_num, howx, hbx⟩
            case measure => simp [intOf]; omega
      · have hbf : S.testBit k = false := by simpa using hb
        rw [if_neg hb] at hbit
        have hbit2 : (bits .and .i64 ((S : Int) / 2 ^ k) 1 == 0) = true := by rw [hbit]; rfl
        have HE : Hid (needSL r ll S (k + 1) = needSL r ll S k) := Lib.hid (by unfold needSL; simp only [needSet_out HT.out hbf])
        go_wp2
        go_roundw
        case rel => exact ⟨k + 1, by omega, by go_num, by rw [HE.out]; exact hownk, hbr⟩
        case measure => simp [intOf]; omega
    · obtain rfl : k = ll.length := by omega
      go_wp2
      go_ret
      exact ⟨_, rfl, by rw [needSL_len, HG.out]; exact hownk, by rw [HG.out]; exact hbr⟩
end Go.Proofs.Ytcbdoldcdgaooaa
