/- The contracts of the program's needs: chosenOk, together, teeth, needsOf. No condition. -/
import Derived.Test.YtcbdoldcdgaooaaNeedRows
import Derived.Test.YtcbdoldcdgaooaaImplNeed
import Derived.Test.YtcbdoldcdgaooaaRdCapN
namespace Go.Proofs.Ytcbdoldcdgaooaa
open Go.ChangeShapes Go.WideShapes Go.ChangeAt Go.RowKit

set_option maxHeartbeats 2000000 in
theorem chosen_any {w : World} {v vc : Value} {us : List Value} {ns : List (List Int)} {c : List Int} (h : RdV w v us ns) (hc : Rd1 w vc c) :
    Calls Try.prog 85 #[v, vc] w fun e w' => e = .returned (.bool (okC ns.length c)) ∧ w = w' := by
  obtain ⟨a1, cap1, rfl⟩ := h.slice
  obtain ⟨a2, cap2, rfl⟩ := Rd.slice hc
  have hm := hc.2.1
  unfold maxLen at hm
  have HY : Hid (∀ S, setTo ((ns.length : Int) - 1) c c.length = some S → okC ns.length c = true) := Lib.hid fun S q => okC_yes q
  have HN : Hid (setTo ((ns.length : Int) - 1) c c.length = none → okC ns.length c = false) := Lib.hid okC_no
  clear h
  generalize okC ns.length c = B at *
  generalize ns.length = n at *
  go_enter Try.func85, Try.ntmps85
  go_wp2
  go_loopw [5, 10] (fun v5 v10 wr => ∃ (j : Nat) (last : Int), j ≤ c.length ∧ v10 = .int .i64 (j : Int) ∧ v5 = .int .i64 last ∧ wr = w ∧ -1 ≤ last ∧ Hid (∃ S, setTo ((n : Int) - 1) c j = some S) ∧ Hid ((j = 0 → last = -1) ∧ ∀ y, j ≠ 0 → c[j - 1]? = some y → y = last) ∧ Hid (j ≠ 0 → ∃ y, c[j - 1]? = some y)) (fun _ v10 _ => c.length - (intOf v10).toNat)
  case atStart => exact ⟨0, -1, Nat.zero_le _, rfl, rfl, rfl, by omega, Lib.hid ⟨0, rfl⟩, Lib.hid ⟨fun _ => rfl, fun y h0 => absurd rfl h0⟩, Lib.hid fun h0 => absurd rfl h0⟩
  case round =>
    obtain ⟨j, last, hj, rfl, rfl, rfl, hlast, HS, HL, HE⟩ := hrel
    by_cases hlt : j < c.length
    · obtain ⟨p, hp⟩ : ∃ p, c[j]? = some p := ⟨_, List.getElem?_eq_getElem hlt⟩
      have HP := Lib.hid hp
      obtain ⟨b1, o1, c1, hv1, x1⟩ := Rd1.cell hc hp
      simp only [Value.slice.injEq, true_and] at hv1
      obtain ⟨rfl, rfl⟩ := hv1
      clear hp
      have hj1 : j + 1 ≤ c.length := hlt
      by_cases c1 : p ≤ last
      · have HB : Hid (B = false) := Lib.hid (by
          obtain ⟨S, hS⟩ := HS.out
          refine HN.out (setTo_end (setTo_bad HP.out hS fun k => ?_) hj1)
          by_cases h0 : j = 0
          · have := HL.out.1 h0; omega
          · obtain ⟨y, hy⟩ := HE.out h0
            have := HL.out.2 y h0 hy
            have := k.2 y h0 hy
            omega)
        go_wp2
        go_ret
        exact ⟨by rw [HB.out]; rfl, rfl⟩
      · by_cases c2 : p < (n : Int)
        · have hp0 : 0 ≤ p := by omega
          have hpn : p ≤ (n : Int) - 1 := by omega
          have HSN : Hid (∃ S, setTo ((n : Int) - 1) c (j + 1) = some S) := Lib.hid (by
            obtain ⟨S, hS⟩ := HS.out
            exact ⟨_, setTo_step HP.out hS ⟨hp0, hpn⟩ fun y h0 hy => by have := HL.out.2 y h0 hy; omega⟩)
          have HLN : Hid ((j + 1 = 0 → p = -1) ∧ ∀ y, j + 1 ≠ 0 → c[j + 1 - 1]? = some y → y = p) := Lib.hid ⟨fun h0 => absurd h0 (by omega), fun y _ hy => by
            rw [Nat.add_sub_cancel, HP.out] at hy
            exact (Option.some.inj hy).symm⟩
          have HEN : Hid (j + 1 ≠ 0 → ∃ y, c[j + 1 - 1]? = some y) := Lib.hid fun _ => ⟨p, by rw [Nat.add_sub_cancel]; exact HP.out⟩
          have hp1 : -1 ≤ p := by omega
          have c2' : ¬ (n : Int) ≤ p := by omega
          go_wp2
          go_roundw
          case rel => exact ⟨j + 1, p, hj1, by go_num, rfl, trivial, hp1, HSN, HLN, HEN⟩
          case measure => simp [intOf]; omega
        · have HB : Hid (B = false) := Lib.hid (by
            obtain ⟨S, hS⟩ := HS.out
            exact HN.out (setTo_end (setTo_bad HP.out hS fun k => by have := k.1.2; omega) hj1))
          have c2' : (n : Int) ≤ p := by omega
          go_wp2
          go_ret
          exact ⟨by rw [HB.out]; rfl, rfl⟩
    · obtain rfl : j = c.length := by omega
      have HB : Hid (B = true) := Lib.hid (by
        obtain ⟨S, hS⟩ := HS.out
        exact HY.out S hS)
      go_wp2
      go_ret
      exact ⟨by rw [HB.out]; rfl, rfl⟩

set_option maxHeartbeats 4000000 in
set_option maxRecDepth 100000 in
theorem together_any {w : World} {v vc : Value} {us : List Value} {ll : List (List (Int × Int))} {c : List Int} (r : Int) (hok : progB ll r = true) (hcs : ∀ x ∈ c, 0 ≤ x ∧ x < (ll.length : Int)) (h : RdV w v us (ll.map (needM r))) (hc : Rd1 w vc c) :
    Calls Try.prog 88 #[v, vc] w (NewInts w (needSL r ll (unionL c) ll.length)) := by
  obtain ⟨i0, hi, hz0, hz1, hz2⟩ := info_parts infoInt
  have HRD := Lib.hid h
  obtain ⟨a1, cap1, rfl⟩ := h.slice
  obtain ⟨a2, cap2, rfl⟩ := Rd.slice hc
  have hm := hc.2.1
  unfold maxLen at hm
  have HOK := Lib.hid (progB_true.1 hok)
  have HCS := Lib.hid hcs
  have hl8 := (progB_true.1 hok).2.1
  rw [List.length_map] at *
  clear hok hcs h
  go_enter Try.func88, Try.ntmps88
  go_wp2_with (at_make; refine wpList_make_full _ rfl _ _ 33 rfl w.heap.size 3 i0 (.int .i64 0) 1 Try.underlying33 hi hz0 hz1 _ _ _ _ 61 rfl rfl (by omega) (by omega) (by rw [hz2]; omega) (by unfold maxLen; omega) (Nat.le_refl _) ?_)
  intro w1 hown hgrow
  have hb1 : Below w.heap.size w w1 := (Below.refl _ _).grown hgrow (Nat.le_refl _) (by intro k hk; cases hk)
  have e0 : ((madeCells #[Value.int .i64 0] 61).toList) = (needSL r ll (unionL (c.take 0)) ll.length).map intV := by
    rw [List.take_zero, show unionL [] = 0 from rfl, needSL_none]; kernel_rfl
  rw [e0] at hown
  clear e0
  generalize hg0 : w.heap.size = g0 at *
  have HG := Lib.hid hg0
  clear hg0
  go_wp2
  go_loopw [13] (fun v13 wr => ∃ k : Nat, k ≤ c.length ∧ v13 = .int .i64 (k : Int) ∧ wr.ownsRow g0 3 1 (.slice (some ⟨g0, 0, none⟩) 61 61) 61 ((needSL r ll (unionL (c.take k)) ll.length).map intV) ∧ Below g0 w wr) (fun v13 _ => c.length - (intOf v13).toNat)
  case atStart => exact ⟨0, Nat.zero_le _, rfl, hown, hb1⟩
  case round =>
    obtain ⟨k, hk, rfl, hownk, hbr⟩ := hrel
    clear hown hb1 hgrow
    by_cases hlt : k < c.length
    · obtain ⟨x, hx⟩ : ∃ x, c[k]? = some x := ⟨_, List.getElem?_eq_getElem hlt⟩
      obtain ⟨hx0, hxn⟩ := HCS.out x (List.mem_of_getElem? hx)
      obtain ⟨y, rfl⟩ := Int.eq_ofNat_of_zero_le hx0
      have hyn : y < ll.length := by omega
      obtain ⟨t, ht⟩ : ∃ t, ll[y]? = some t := ⟨_, List.getElem?_eq_getElem hyn⟩
      have HM := Lib.hid (needM_prog (HOK.out.1 t (List.mem_of_getElem? ht)) HOK.out.2.2)
      have hrow : (ll.map (needM r))[y]? = some (needL r t t.length) := by rw [List.getElem?_map, ht, Option.map_some, HM.out]
      have hbg : Below w.heap.size w wr := by rw [HG.out]; exact hbr
      obtain ⟨b1, o1, c1, u1, hus, hv1, x1, -⟩ := (HRD.out.below hbg).cell hrow
      have hr1 := HRD.out.2.2 y _ _ hus hrow
      rw [List.length_map] at hv1
      simp only [Value.slice.injEq, true_and] at hv1
      obtain ⟨rfl, rfl⟩ := hv1
      obtain ⟨b2, o2, c2, hv2, x2⟩ := Rd1.cell (Rd.below hc hbg) hx
      simp only [Value.slice.injEq, true_and] at hv2
      obtain ⟨rfl, rfl⟩ := hv2
      have HU : Hid (unionL (c.take (k + 1)) = unionL (c.take k) ||| 2 ^ y) := Lib.hid (by have := unionL_take hx; simpa using this)
      have HN : Hid (∀ p : Int, needSet r ll (unionL (c.take k) ||| 2 ^ y) ll.length p = max (needSet r ll (unionL (c.take k)) ll.length p) (needTo r t t.length p)) := Lib.hid (needSet_more ht)
      have h40 : t.length ≤ 40 := (tuneB_true.1 (HOK.out.1 t (List.mem_of_getElem? ht))).1
      obtain ⟨a9, cap9, rfl⟩ := Rd.slice hr1
      rw [needL_len] at *
      have HR1 := Lib.hid hr1
      clear ht hx hrow hbg hus hr1
      generalize unionL (c.take k) = S at *
      have hgl := (World.ownsRow.lt hownk g0 rfl).2
      rw [← mixL_zero (needSL r ll (S ||| 2 ^ y) ll.length) (needSL r ll S ll.length)] at hownk
      go_wp2_with fail
      go_loopw [22] (fun v22 wx => ∃ p : Nat, p ≤ 61 ∧ v22 = .int .i64 (p : Int) ∧ wx.ownsRow g0 3 1 (.slice (some ⟨g0, 0, none⟩) 61 61) 61 ((mixL (needSL r ll (S ||| 2 ^ y) ll.length) (needSL r ll S ll.length) p).map intV) ∧ Below g0 w wx) (fun v22 _ => 61 - (intOf v22).toNat)
      case atStart => exact ⟨0, Nat.zero_le _, rfl, hownk, hbr⟩
      case round =>
        obtain ⟨p, hp, rfl, howx, hbx⟩ := hrel
        clear hownk hbr
        by_cases hp61 : p < 61
        · have hm1 : Hid ((mixL (needSL r ll (S ||| 2 ^ y) ll.length) (needSL r ll S ll.length) p)[p]? = some ((needSet r ll S ll.length (p : Int) : Nat) : Int)) := Lib.hid (by rw [mixL_at (needSL_len _ _ _ _) hp61]; exact needSL_at _ _ _ _ hp61)
          have hm2 := needL_at r t t.length hp61
          have HP := Lib.hid (mixL_succ (needSL_len r ll (S ||| 2 ^ y) ll.length) (needSL_len r ll S ll.length) hp61 (needSL_at r ll (S ||| 2 ^ y) ll.length hp61))
          have HQ := Lib.hid (HN.out (p : Int))
          have hc0 : wr.cell? ⟨g0, p, none⟩ = some (.int .i64 ((needSet r ll S ll.length (p : Int) : Nat) : Int)) := by
            rw [howx.cellAt _ (by omega), List.getElem?_map, hm1.out]; rfl
          obtain ⟨b9, o9, c9, hv9, hc9⟩ := Rd1.cell (Rd.below HR1.out (show Below w.heap.size w wr by rw [HG.out]; exact hbx)) hm2
          rw [needL_len] at hv9
          simp only [Value.slice.injEq, true_and] at hv9
          obtain ⟨rfl, rfl⟩ := hv9
          have hf0 := howx.frozenAt p
          have hnl := needTo_le r t t.length (p : Int)
          have hns := needSet_le (r := r) (S := S) (fun t ht => (tuneB_true.1 (HOK.out.1 t ht)).1) ll.length (p : Int)
          have hp61i : (p : Int) < 61 := by omega
          have hp0i : (0 : Int) ≤ (p : Int) := by omega
          have hst := howx.stored p (.int .i64 ((max (needSet r ll S ll.length (p : Int)) (needTo r t t.length (p : Int)) : Nat) : Int))
          have HST : Hid ((wr.setCell ⟨g0, p, none⟩ (.int .i64 ((max (needSet r ll S ll.length (p : Int)) (needTo r t t.length (p : Int)) : Nat) : Int))).ownsRow g0 3 1 (.slice (some ⟨g0, 0, none⟩) 61 61) 61 ((mixL (needSL r ll (S ||| 2 ^ y) ll.length) (needSL r ll S ll.length) (p + 1)).map intV)) := Lib.hid (by rw [HP.out, HQ.out, List.map_set]; exact hst.1)
          have hb4 : Below g0 w (wr.setCell ⟨g0, p, none⟩ (.int .i64 ((max (needSet r ll S ll.length (p : Int)) (needTo r t t.length (p : Int)) : Nat) : Int))) := hbx.setCell (Nat.le_refl _) _
          clear hst hbx howx hm2
          generalize needSet r ll S ll.length (p : Int) = na at *
          generalize needTo r t t.length (p : Int) = nb at *
          have emx : (if na < nb then (nb : Int) else (na : Int)) = ((max na nb : Nat) : Int) := by split <;> omega
          go_wp2
          go_roundw
          case rel => exact ⟨p + 1, by omega, by go_num, HST.out, hb4⟩
          case measure => simp [intOf]; omega
        · obtain rfl : p = 61 := by omega
          rw [mixL_all (needSL_len _ _ _ _) (needSL_len _ _ _ _), ← HU.out] at howx
          go_wp2
          go_roundw
          case rel => exact ⟨k + 1, by omega, by go_num, howx, hbx⟩
          case measure => simp [intOf]; omega
    · obtain rfl : k = c.length := by omega
      rw [List.take_length] at hownk
      go_wp2
      go_ret
      exact ⟨_, rfl, by rw [needSL_len, HG.out]; exact hownk, by rw [HG.out]; exact hbr⟩

set_option maxHeartbeats 2000000 in
theorem nteeth_any {w : World} {v vc : Value} {us : List Value} {ll : List (List (Int × Int))} {c : List Int} (r : Int) (hok : progB ll r = true) (hcs : ∀ x ∈ c, 0 ≤ x ∧ x < (ll.length : Int)) (h : RdV w v us (ll.map (needM r))) (hc : Rd1 w vc c) :
    Calls Try.prog 84 #[v, vc] w fun e w' => e = .returned (.int .i64 (allS r ll (unionL c))) ∧ Below w.heap.size w w' := by
  have HT := Lib.hid (together_any r hok hcs h hc)
  have HB : Hid (∀ x ∈ needSL r ll (unionL c) ll.length, 0 ≤ x ∧ x ≤ 40) := Lib.hid (needSL_le hok)
  have HA : Hid (allS r ll (unionL c) = (needSL r ll (unionL c) ll.length).sum) := Lib.hid rfl
  have hl := needSL_len r ll (unionL c) ll.length
  clear hok hcs h hc
  generalize allS r ll (unionL c) = A at *
  generalize needSL r ll (unionL c) ll.length = n at *
  have HSB : Hid (∀ j, 0 ≤ (n.take j).sum ∧ (n.take j).sum ≤ 2440) := Lib.hid fun j => by
    have := sum_le40 (n.take j) fun x hx => HB.out x (List.mem_of_mem_take hx)
    rw [List.length_take] at this
    omega
  go_enter Try.func84, Try.ntmps84
  go_wp2_with fail
  refine HT.out.mono ?_
  rintro e w1 ⟨v1, rfl, ho1, hb1⟩
  obtain ⟨a1, c1, rfl⟩ := ownS_slice ho1
  have HR := Lib.hid (Rd.of_own ho1 : Rd1 w1 _ n)
  clear ho1
  go_wp2_with fail
  go_loopw [5, 12] (fun v5 v12 wr => ∃ (j : Nat) (s : Int), j ≤ n.length ∧ v12 = .int .i64 (j : Int) ∧ v5 = .int .i64 s ∧ wr = w1 ∧ Hid (s = (n.take j).sum)) (fun _ v12 _ => n.length - (intOf v12).toNat)
  case atStart => exact ⟨0, 0, Nat.zero_le _, rfl, rfl, rfl, Lib.hid (by simp)⟩
  case round =>
    obtain ⟨j, s, hj, rfl, rfl, rfl, HS⟩ := hrel
    by_cases hlt : j < n.length
    · obtain ⟨p, hp⟩ : ∃ p, n[j]? = some p := ⟨_, List.getElem?_eq_getElem hlt⟩
      obtain ⟨b2, o2, c2, hv2, x2⟩ := Rd1.cell HR.out hp
      simp only [Value.slice.injEq, true_and] at hv2
      obtain ⟨rfl, rfl⟩ := hv2
      have HN := Lib.hid (show s + p = (n.take (j + 1)).sum by rw [HS.out, sum_take hp])
      have hb := HSB.out (j + 1)
      rw [← HN.out] at hb
      have ew : IntKind.i64.wrap (s + p) = s + p := IntWalk.i64_in _ (by omega)
      clear hp
      go_wp2
      go_roundw
      case rel => exact ⟨j + 1, s + p, by omega, by go_num, by go_num, trivial, HN⟩
      case measure => simp [intOf]; omega
    · obtain rfl : j = n.length := by omega
      have HN : Hid (s = A) := Lib.hid (by rw [HS.out, List.take_length, HA.out])
      go_wp2
      go_ret
      exact ⟨by rw [← HN.out]; rfl, hb1⟩

/-- The answer of needsOf: the table of the teeth that each tune needs, if all is in order. -/
def TabOf (w : World) (r : Int) (ll : List (List (Int × Int))) (e : Ending) (w' : World) : Prop :=
  ∃ v us, e = .returned (.tuple #[v, .bool (progB ll r)]) ∧ (progB ll r = true → RdV w' v us (ll.map (needM r))) ∧ Below w.heap.size w w'

set_option maxHeartbeats 4000000 in
set_option maxRecDepth 100000 in
theorem needsof_any {w : World} {v : Value} {us : List Value} {ll : List (List (Int × Int))} (r : Int) (hrc : RcN w v us ll) :
    Calls Try.prog 82 #[v, .int .i64 r] w (TabOf w r ll) := by
  obtain ⟨i0, hi, hz0, hz1, hz2⟩ := info_parts infoNS
  have h := hrc.1
  have HCP := Lib.hid hrc.2
  obtain ⟨a1, cap1, rfl⟩ := h.slice
  have hm := h.len
  unfold maxLen at hm
  clear hrc
  by_cases h8 : ll.length ≤ 8
  · have h8' : decide (8 < (ll.length : Int)) = false := decide_eq_false (by omega)
    by_cases hr : 1 ≤ r ∧ r ≤ 100
    · go_enter Try.func82, Try.ntmps82
      go_wp2_with fail
      refine (irest_yes hr _).mono ?_
      rintro e w1 ⟨rfl, rfl⟩
      have HR := Lib.hid hr
      clear hr
      go_wp2_with fail
      go_loopw [6, 19] (fun v6 v19 wr => ∃ (k : Nat) (ts : List Value), k ≤ ll.length ∧ v19 = .int .i64 (k : Int) ∧ OwV w.heap.size wr v6 ts ((ll.take k).map (needM r)) ∧ Below w.heap.size w wr ∧ Hid (∀ (i : Nat) (t : List (Int × Int)), i < k → ll[i]? = some t → tuneB t = true)) (fun _ v19 _ => ll.length - (intOf v19).toNat)
      case atStart => exact ⟨0, [], Nat.zero_le _, rfl, OwV.nil _ _, Below.refl _ _, Lib.hid fun i t hi => by omega⟩
      case round =>
        obtain ⟨k, ts, hk, rfl, hO, hbr, HA⟩ := hrel
        by_cases hlt : k < ll.length
        · obtain ⟨t, ht⟩ : ∃ t, ll[k]? = some t := ⟨_, List.getElem?_eq_getElem hlt⟩
          have HT := Lib.hid ht
          obtain ⟨b1, o1, c1, u, hu, hv1, x1, hr2⟩ := (h.below hbr).cell ht
          simp only [Value.slice.injEq, true_and] at hv1
          obtain ⟨rfl, rfl⟩ := hv1
          have hcu := HCP.out k u hu
          clear ht hu
          by_cases tt : tuneB t = true
          · have TT := Lib.hid tt
            have HA2 : Hid (∀ (i : Nat) (t : List (Int × Int)), i < k + 1 → ll[i]? = some t → tuneB t = true) := Lib.hid fun i t' hi' ht' => by
              by_cases e : i = k
              · subst e
                rw [HT.out] at ht'
                obtain rfl := Option.some.inj ht'
                exact TT.out
              · exact HA.out i t' (by omega) ht'
            have HK : Hid ((ll.take (k + 1)).map (needM r) = (ll.take k).map (needM r) ++ [needM r t]) := Lib.hid (by rw [List.take_add_one, HT.out, Option.toList_some, List.map_append]; rfl)
            clear tt
            go_wp2_with fail
            refine (itune_yes hr2 TT.out).mono ?_
            rintro e w2 ⟨rfl, hb2⟩
            have hbr2 := bstep hbr hb2
            have hO2 := hO.below hb2
            have hr3 : Rc2 w2 u t := ⟨Rd.below hr2 hb2, hcu⟩
            clear hb2 hbr hO hr2 x1
            go_wp2_with fail
            refine (ineeded_any r hr3).mono ?_
            rintro e w3 ⟨v3, rfl, ho3, hb3⟩
            have hlen : Hid (ts.length = k) := Lib.hid (by have := hO2.1; rw [List.length_map, List.length_take] at this; omega)
            have hO3 : w3.ownsRow w.heap.size 33 1 u6 ts.length ts := ownS_below hO2.2.1 hb3
            have hbr3 := bstep hbr2 hb3
            obtain ⟨a3, c3, rfl⟩ := ownS_slice ho3
            go_wp2_with (at_builtin; refine wpList_append_own_at _ rfl _ _ 104 rfl w.heap.size 33 i0 (.slice none 0 0) 1 24 Try.underlying104 hi hz0 hz1 hz2 rfl (by decide) _ ts.length _ rfl (hO3.alloc _) ⟨w3.heap.size, 0, none⟩ 1 1 [.slice a3 (needM r t).length c3] rfl rfl ?c1 ?c2 ?c3 ?c4 ?c5 ?_)
            case c1 => exact cell_one_new _ _ _
            case c2 => simp [Value.oneCell']
            case c3 => have := hlen.out; unfold maxLen; omega
            case c4 => have := hlen.out; omega
            case c5 => have := hbr3.size; simp; omega
            intro v' w4 hown4 hgrow _ hat
            have hO4 := hO2.push hbr2.size (hb3.alloc hb3.size _) (ho3.alloc _) hown4 hgrow (by rw [size_alloc]; exact hat)
            rw [← HK.out] at hO4
            have hb5 : Below w.heap.size w w4 := (hbr3.alloc hbr3.size _).grown hgrow (by have := hbr3.size; simp; omega) (fun q hq => (hO3.lt q hq).1)
            clear hown4 hgrow hat hO2 hO3 hbr2 hbr3 ho3 hb3 hr3
            go_wp2
            go_roundw
            case rel => exact ⟨k + 1, _, by omega, by go_num, hO4, hb5, HA2⟩
            case measure => simp [intOf]; omega
          · have TT := Lib.hid (show tuneB t = false by simpa using tt)
            have HP := Lib.hid (prog_none (r := r) HT.out TT.out)
            clear tt
            go_wp2_with fail
            refine (itune_no hr2 TT.out).mono ?_
            rintro e w2 ⟨rfl, hb2⟩
            have hbr2 := bstep hbr hb2
            go_wp2
            go_ret2
            exact ⟨_, [], by rw [HP.out]; rfl, (fun q => by rw [HP.out] at q; cases q), hbr2⟩
        · obtain rfl : k = ll.length := by omega
          have HP := Lib.hid (prog_all (r := r) (fun i t => HA.out i t) h8 HR.out)
          rw [List.take_length] at hO
          go_wp2
          go_ret2
          exact ⟨_, ts, by rw [HP.out]; rfl, fun _ => hO.rd, hbr⟩
    · have HP := Lib.hid (prog_rest (ll := ll) hr)
      go_enter Try.func82, Try.ntmps82
      go_wp2_with fail
      refine (irest_no hr _).mono ?_
      rintro e w1 ⟨rfl, rfl⟩
      go_wp2
      go_ret2
      exact ⟨_, [], by rw [HP.out]; rfl, (fun q => by rw [HP.out] at q; cases q), Below.refl _ _⟩
  · have HP := Lib.hid (prog_many (ll := ll) (r := r) (by omega))
    have h8' : decide (8 < (ll.length : Int)) = true := decide_eq_true (by omega)
    go_enter Try.func82, Try.ntmps82
    go_wp2
    go_ret2
    exact ⟨_, [], by rw [HP.out]; rfl, (fun q => by rw [HP.out] at q; cases q), Below.refl _ _⟩
end Go.Proofs.Ytcbdoldcdgaooaa
