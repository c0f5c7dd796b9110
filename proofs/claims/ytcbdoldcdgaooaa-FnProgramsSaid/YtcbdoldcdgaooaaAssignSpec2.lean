/- The contract of chapter 5's model: AssignTeeth. No condition. -/
import Derived.Test.YtcbdoldcdgaooaaAssignSpec
import Derived.Test.YtcbdoldcdgaooaaCombForInt
namespace Go.Proofs.Ytcbdoldcdgaooaa
open Go.ChangeShapes Go.WideShapes Go.ChangeAt Go.RowKit

/-- The tooth that is taken so far, -1 where none is. -/
def optI (o : Option Nat) : Int := match o with | some j => (j : Int) | none => -1

set_option maxHeartbeats 8000000 in
set_option maxRecDepth 100000 in
theorem assign_any {w : World} {vc vt : Value} {c : List Int} {t : List (Int × Int)} (r : Int) (hc : Rd1 w vc c) (ht : Rd2 w vt t) :
    Calls Try.prog 38 #[vc, vt, .int .i64 r] w (NewIntsB w (assignM c t r).1 (assignM c t r).2) := by
  obtain ⟨i0, hi, hz0, hz1, hz2⟩ := info_parts infoInt
  obtain ⟨a1, cap1, rfl⟩ := Rd.slice hc
  obtain ⟨a2, cap2, rfl⟩ := Rd.slice ht
  have hown0 : (w.alloc (.cells #[] 3)).ownsRow w.heap.size 3 1 (.slice (some ⟨w.heap.size, 0, none⟩) 0 0) 0 [] := World.ownsRow_made w #[] 0 (Nat.le_refl _) (by simp) rfl
  have hb0 : Below w.heap.size w (w.alloc (.cells #[] 3)) := (Below.refl _ _).alloc (Nat.le_refl _) _
  by_cases tc : combB c = true
  · have TC := Lib.hid tc
    by_cases tt : tuneB t = true
    · have TT := Lib.hid tt
      by_cases hr : 1 ≤ r ∧ r ≤ 100
      · have hr' : inB r 1 100 = true := decide_eq_true hr
        have HA := Lib.hid (fun (last out : List Int) (h : assignTo c t r t.length = some (last, out)) => assignM_some tc tt hr' h)
        have HN := Lib.hid (fun (h : assignTo c t r t.length = none) => assignM_none h)
        have h40 := (tuneB_true.1 tt).1
        have h24 := (combB_true.1 tc).1.2
        have HR : Hid (∀ (k : Nat) (q : Int × Int), t[k]? = some q → (0 ≤ q.1 ∧ q.1 ≤ 1000) ∧ (0 ≤ q.2 ∧ q.2 ≤ 60)) := Lib.hid fun k q hq => ⟨((tuneB_true.1 tt).2 k q hq).1, ((tuneB_true.1 tt).2 k q hq).2.1⟩
        have hr1 := hr.1
        have hr2 := hr.2
        clear tc tt hr'
        go_enter Try.func38, Try.ntmps38
        go_wp2_with fail
        refine (combok_yes (Rd.below hc hb0) TC.out).mono ?_
        rintro e w1 ⟨rfl, hb1⟩
        go_wp2_with fail
        refine (tuneok_yes (Rd.below ht (bstep hb0 hb1)) TT.out).mono ?_
        rintro e w2 ⟨rfl, hb2⟩
        have g2 := bstep (bstep hb0 hb1) hb2
        have ho2 := ownS_below (ownS_below hown0 hb1) hb2
        have hlt2 : w.heap.size < w2.heap.size := (World.ownsRow.lt ho2 w.heap.size rfl).2
        clear hb1 hb2 hown0 hb0
        go_wp2_with fail
        refine (in_yes _ _ _ hr _).mono ?_
        rintro e w3 ⟨rfl, rfl⟩
        clear hr
        obtain ⟨w3, hrun, hown, hgrow⟩ := run_make_full (P := Try.prog) (w := w2) w.heap.size 33 3 i0 (.int .i64 0) 1 Try.underlying33 hi hz0 hz1 .i64 .i64 c.length (by rw [hz2]; omega) (by unfold maxLen; omega) g2.size
        have g3 : Below w.heap.size w w3 := g2.grown hgrow g2.size (fun k hk => by cases hk)
        have ho3 := ho2.kept hgrow (Or.inr (by simp [Value.ownBlock]))
        have hl3 : w3.ownsRow w.heap.size 3 1 (.slice (some ⟨w2.heap.size, 0, none⟩) c.length c.length) c.length ((fillL c.length 0).map intV) := by
          rw [fillL_zero, ← made_ints]; exact hown
        have hge : w.heap.size ≤ w2.heap.size := g2.size
        clear hown hgrow g2 ho2
        generalize w2.heap.size = g at *
        go_wp2_with fail
        go_loopw [10] (fun v10 wr => ∃ k : Nat, k ≤ c.length ∧ v10 = .int .i64 (k : Int) ∧ wr.ownsRow w.heap.size 3 1 (.slice (some ⟨w.heap.size, 0, none⟩) 0 0) 0 [] ∧ wr.ownsRow w.heap.size 3 1 (.slice (some ⟨g, 0, none⟩) c.length c.length) c.length ((fillL c.length k).map intV) ∧ Below w.heap.size w wr) (fun v10 _ => c.length - (intOf v10).toNat)
        case atStart => exact ⟨0, Nat.zero_le _, rfl, ho3, hl3, g3⟩
        case round =>
          obtain ⟨k, hk, rfl, hown, hlast, hbr⟩ := hrel
          clear hl3 g3 ho3 hrun
          by_cases hlt : k < c.length
          · obtain ⟨u0, hu0⟩ : ∃ u, ((fillL c.length k).map intV)[k]? = some u := ⟨_, List.getElem?_eq_getElem (by rw [List.length_map, fillL_len]; exact hlt)⟩
            have hc0 : wr.cell? ⟨g, k, none⟩ = some u0 := by rw [hlast.cellAt _ (by omega)]; exact hu0
            have hf0 := hlast.frozenAt k
            have hst := hlast.stored k (.int .i64 (-1000))
            have HST : Hid ((wr.setCell ⟨g, k, none⟩ (.int .i64 (-1000))).ownsRow w.heap.size 3 1 (.slice (some ⟨g, 0, none⟩) c.length c.length) c.length ((fillL c.length (k + 1)).map intV)) := Lib.hid (by rw [fillL_succ, List.map_set]; exact hst.1)
            have HOW := Lib.hid (hown.kept hst.2 (Or.inr (by simp [Value.ownBlock]; omega)))
            have hb4 : Below w.heap.size w (wr.setCell ⟨g, k, none⟩ (.int .i64 (-1000))) := hbr.setCell hge _
            clear hst hlast hown hu0 hbr
            go_wp2
            go_roundw
            case rel => exact ⟨k + 1, by omega, by go_num, HOW.out, HST.out, hb4⟩
            case measure => simp [intOf]; omega
          · obtain rfl : k = c.length := by omega
            rw [fillL_all] at hlast
            go_wp2_with fail
            go_loopw [8, 11] (fun v8 v11 wr => ∃ (k : Nat) (last out : List Int), k ≤ t.length ∧ v11 = .int .i64 (k : Int) ∧ Hid (assignTo c t r k = some (last, out)) ∧ Hid (∀ x ∈ last, -1000 ≤ x ∧ x ≤ 1000) ∧ wr.ownsRow w.heap.size 3 1 v8 k (out.map intV) ∧ wr.ownsRow w.heap.size 3 1 (.slice (some ⟨g, 0, none⟩) c.length c.length) c.length (last.map intV) ∧ Hid (v8.ownBlock ≠ some g) ∧ Below w.heap.size w wr) (fun _ v11 _ => t.length - (intOf v11).toNat)
            case atStart => exact ⟨0, _, [], Nat.zero_le _, rfl, Lib.hid rfl, Lib.hid (fun x hx => by have := (List.mem_replicate.1 hx).2; omega), hown, hlast, Lib.hid (by simp [Value.ownBlock]; omega), hbr⟩
            case round =>
              obtain ⟨k, last, out, hk, rfl, HS, HBD, hown, hlast, HAP, hbr⟩ := hrel
              by_cases hltk : k < t.length
              · obtain ⟨q, hq⟩ : ∃ q, t[k]? = some q := ⟨_, List.getElem?_eq_getElem hltk⟩
                have HQ := Lib.hid hq
                obtain ⟨⟨hq1, hq2⟩, hq3, hq4⟩ := HR.out k q hq
                have hdk : decide ((k : Int) < (t.length : Int)) = true := decide_eq_true (by omega)
                have HLL := Lib.hid (assignTo_len HS.out).1
                clear hq
                go_wp2_with fail
                go_loopw [12, 13] (fun v12 v13 wx => ∃ (i : Nat) (o : Option Nat), i ≤ c.length ∧ v13 = .int .i64 (i : Int) ∧ v12 = .int .i64 (optI o) ∧ Hid (freeTo i c last q r = o) ∧ wx.ownsRow w.heap.size 3 1 u8 k (out.map intV) ∧ wx.ownsRow w.heap.size 3 1 (.slice (some ⟨g, 0, none⟩) c.length c.length) c.length (last.map intV) ∧ Below w.heap.size w wx) (fun _ v13 _ => c.length - (intOf v13).toNat)
                case atStart => exact ⟨0, none, Nat.zero_le _, rfl, rfl, Lib.hid rfl, hown, hlast, hbr⟩
                case round =>
                  obtain ⟨i, o, hi', rfl, rfl, HO, hown, hlast, hbr⟩ := hrel
                  cases o with
                  | some j =>
                    have hj0 : ¬ ((j : Int) < 0) := by omega
                    have hj0' : (0 : Int) ≤ (j : Int) := by omega
                    have hoj : optI (some j) = (j : Int) := rfl
                    rw [hoj]
                    by_cases hil : i < c.length
                    · have hjc : j < c.length := Nat.lt_of_lt_of_le (freeTo_lt HO.out).1 hi'
                      have HF := Lib.hid (freeTo_mono HO.out hi')
                      have hlen : last.length = c.length := HLL.out
                      obtain ⟨b1, o1, c1, hv1, x1, y1⟩ := Rd2.cells (Rd.below ht hbr) HQ.out
                      simp only [Value.slice.injEq, true_and] at hv1
                      obtain ⟨rfl, rfl⟩ := hv1
                      obtain ⟨u0, hu0⟩ : ∃ u, (last.map intV)[j]? = some u := ⟨_, List.getElem?_eq_getElem (by rw [List.length_map]; omega)⟩
                      have hc0 : wr.cell? ⟨g, j, none⟩ = some u0 := by rw [hlast.cellAt _ (by omega)]; exact hu0
                      have hf0 := hlast.frozenAt j
                      have hst := hlast.stored j (.int .i64 q.1)
                      have hown5 := hown.kept hst.2 (Or.inr HAP.out)
                      have hb5 : Below w.heap.size w (wr.setCell ⟨g, j, none⟩ (.int .i64 q.1)) := hbr.setCell hge _
                      have hl5 : (wr.setCell ⟨g, j, none⟩ (.int .i64 q.1)).ownsRow w.heap.size 3 1 (.slice (some ⟨g, 0, none⟩) c.length c.length) c.length ((last.set j q.1).map intV) := by rw [List.map_set]; exact hst.1
                      obtain ⟨v6, w6, e6, ho6, hg6, hbl6⟩ := app_int hown5 (j : Int) (by omega) hb5.size
                      have hsz : (wr.setCell ⟨g, j, none⟩ (.int .i64 q.1)).heap.size = wr.heap.size := by simp
                      rw [hsz] at e6
                      clear hsz
                      have hl6 := (hl5.alloc (.cells #[.int .i64 (j : Int)] 3)).kept hg6 (Or.inr (fun e => HAP.out e.symm))
                      have hb6 := (hb5.alloc hb5.size (.cells #[.int .i64 (j : Int)] 3)).grown hg6 (by rw [size_alloc]; have := hb5.size; omega) (fun x hx => (hown5.lt x hx).1)
                      have HAP6 : Hid (v6.ownBlock ≠ some g) := Lib.hid fun e => by
                        rcases hbl6 g e with h | h
                        · exact HAP.out h
                        · have := (World.ownsRow.lt hl5 g rfl).2
                          omega
                      have HS6 := Lib.hid (assignTo_next HS.out HQ.out HF.out)
                      have HB6 : Hid (∀ x ∈ last.set j q.1, -1000 ≤ x ∧ x ≤ 1000) := Lib.hid fun x hx => by
                        rcases List.mem_or_eq_of_mem_set hx with h | h
                        · exact HBD.out x h
                        · omega
                      have ho7 : Hid (w6.ownsRow w.heap.size 3 1 v6 (k + 1) ((out ++ [(j : Int)]).map intV)) := Lib.hid (by rw [List.map_append]; exact ho6)
                      have HL6 := Lib.hid hl6
                      have HBB6 := Lib.hid hb6
                      clear hst hown5 hb5 hl5 ho6 hg6 hbl6 hl6 hb6 hu0 y1 hown hlast hbr hlen
                      go_wp2_with (at_builtin; refine wpList_append_eq rfl _ _ _ rfl _ _ _ rfl rfl e6 ?_)
                      go_roundw
                      case rel => exact ⟨k + 1, _, _, by omega, by go_num, HS6, HB6, ho7.out, HL6.out, HAP6, HBB6.out⟩
                      case measure => simp [intOf]; omega
                    · have hjc : j < c.length := Nat.lt_of_lt_of_le (freeTo_lt HO.out).1 hi'
                      have HF := Lib.hid (freeTo_mono HO.out hi')
                      have hlen : last.length = c.length := HLL.out
                      obtain ⟨b1, o1, c1, hv1, x1, y1⟩ := Rd2.cells (Rd.below ht hbr) HQ.out
                      simp only [Value.slice.injEq, true_and] at hv1
                      obtain ⟨rfl, rfl⟩ := hv1
                      obtain ⟨u0, hu0⟩ : ∃ u, (last.map intV)[j]? = some u := ⟨_, List.getElem?_eq_getElem (by rw [List.length_map]; omega)⟩
                      have hc0 : wr.cell? ⟨g, j, none⟩ = some u0 := by rw [hlast.cellAt _ (by omega)]; exact hu0
                      have hf0 := hlast.frozenAt j
                      have hst := hlast.stored j (.int .i64 q.1)
                      have hown5 := hown.kept hst.2 (Or.inr HAP.out)
                      have hb5 : Below w.heap.size w (wr.setCell ⟨g, j, none⟩ (.int .i64 q.1)) := hbr.setCell hge _
                      have hl5 : (wr.setCell ⟨g, j, none⟩ (.int .i64 q.1)).ownsRow w.heap.size 3 1 (.slice (some ⟨g, 0, none⟩) c.length c.length) c.length ((last.set j q.1).map intV) := by rw [List.map_set]; exact hst.1
                      obtain ⟨v6, w6, e6, ho6, hg6, hbl6⟩ := app_int hown5 (j : Int) (by omega) hb5.size
                      have hsz : (wr.setCell ⟨g, j, none⟩ (.int .i64 q.1)).heap.size = wr.heap.size := by simp
                      rw [hsz] at e6
                      clear hsz
                      have hl6 := (hl5.alloc (.cells #[.int .i64 (j : Int)] 3)).kept hg6 (Or.inr (fun e => HAP.out e.symm))
                      have hb6 := (hb5.alloc hb5.size (.cells #[.int .i64 (j : Int)] 3)).grown hg6 (by rw [size_alloc]; have := hb5.size; omega) (fun x hx => (hown5.lt x hx).1)
                      have HAP6 : Hid (v6.ownBlock ≠ some g) := Lib.hid fun e => by
                        rcases hbl6 g e with h | h
                        · exact HAP.out h
                        · have := (World.ownsRow.lt hl5 g rfl).2
                          omega
                      have HS6 := Lib.hid (assignTo_next HS.out HQ.out HF.out)
                      have HB6 : Hid (∀ x ∈ last.set j q.1, -1000 ≤ x ∧ x ≤ 1000) := Lib.hid fun x hx => by
                        rcases List.mem_or_eq_of_mem_set hx with h | h
                        · exact HBD.out x h
                        · omega
                      have ho7 : Hid (w6.ownsRow w.heap.size 3 1 v6 (k + 1) ((out ++ [(j : Int)]).map intV)) := Lib.hid (by rw [List.map_append]; exact ho6)
                      have HL6 := Lib.hid hl6
                      have HBB6 := Lib.hid hb6
                      clear hst hown5 hb5 hl5 ho6 hg6 hbl6 hl6 hb6 hu0 y1 hown hlast hbr hlen
                      go_wp2_with (at_builtin; refine wpList_append_eq rfl _ _ _ rfl _ _ _ rfl rfl e6 ?_)
                      go_roundw
                      case rel => exact ⟨k + 1, _, _, by omega, by go_num, HS6, HB6, ho7.out, HL6.out, HAP6, HBB6.out⟩
                      case measure => simp [intOf]; omega
                  | none =>
                    have hon : optI none = -1 := rfl
                    rw [hon]
                    by_cases hil : i < c.length
                    · obtain ⟨p, hp⟩ : ∃ p, c[i]? = some p := ⟨_, List.getElem?_eq_getElem hil⟩
                      have hlen : last.length = c.length := HLL.out
                      obtain ⟨l, hl⟩ : ∃ l, last[i]? = some l := ⟨_, List.getElem?_eq_getElem (by omega)⟩
                      obtain ⟨hl1, hl2⟩ := HBD.out l (List.mem_of_getElem? hl)
                      obtain ⟨b1, o1, c1, hv1, x1, y1⟩ := Rd2.cells (Rd.below ht hbr) HQ.out
                      simp only [Value.slice.injEq, true_and] at hv1
                      obtain ⟨rfl, rfl⟩ := hv1
                      obtain ⟨b2, o2, c2, hv2, x2⟩ := Rd1.cell (Rd.below hc hbr) hp
                      simp only [Value.slice.injEq, true_and] at hv2
                      obtain ⟨rfl, rfl⟩ := hv2
                      have x3 : wr.cell? ⟨g, i, none⟩ = some (.int .i64 l) := by
                        rw [hlast.cellAt _ (by omega), List.getElem?_map, hl]; rfl
                      have HSU := Lib.hid (freeTo_succ i c last q r)
                      have hgd : last.getD i 0 = l := by rw [List.getD_eq_getElem?_getD, hl]; rfl
                      rw [hp, HO.out, hgd] at HSU
                      clear hp hl hgd hlen
                      by_cases hpq : p = q.2
                      · by_cases hfree : r ≤ q.1 - l
                        · have HS2 : Hid (freeTo (i + 1) c last q r = some i) := Lib.hid (by rw [HSU.out, if_pos ⟨by rw [hpq], hfree⟩]; rfl)
                          have hpb : (p == q.2) = true := by simpa using hpq
                          go_wp2_with fail
                          go_quiet (fail)
                          go_wp2
                          go_roundw
                          case rel => exact ⟨i + 1, some i, by omega, by go_num, rfl, HS2, ownS_below hown (below_drewN (Below.refl _ _) _), ownS_below hlast (below_drewN (Below.refl _ _) _), below_drewN hbr _⟩
                          case measure => simp [intOf]; omega
                        · have HS2 : Hid (freeTo (i + 1) c last q r = none) := Lib.hid (by rw [HSU.out, if_neg (fun hh => hfree hh.2)]; rfl)
                          have hpb : (p == q.2) = true := by simpa using hpq
                          go_wp2_with fail
                          go_quiet (fail)
                          go_wp2
                          go_roundw
                          case rel => exact ⟨i + 1, none, by omega, by go_num, rfl, HS2, ownS_below hown (below_drewN (Below.refl _ _) _), ownS_below hlast (below_drewN (Below.refl _ _) _), below_drewN hbr _⟩
                          case measure => simp [intOf]; omega
                      · have HS2 : Hid (freeTo (i + 1) c last q r = none) := Lib.hid (by rw [HSU.out, if_neg (fun hh => hpq (Option.some.inj hh.1))]; rfl)
                        have hpb : (p == q.2) = false := by simpa using hpq
                        go_wp2_with fail
                        go_quiet (fail)
                        go_wp2
                        go_roundw
                        case rel => exact ⟨i + 1, none, by omega, by go_num, rfl, HS2, ownS_below hown (below_drewN (Below.refl _ _) _), ownS_below hlast (below_drewN (Below.refl _ _) _), below_drewN hbr _⟩
                        case measure => simp [intOf]; omega
                    · obtain rfl : i = c.length := by omega
                      have HM := Lib.hid (HN.out (assignTo_none (assignTo_stop HS.out HQ.out HO.out) (by omega)))
                      have ho9 : (wr.alloc (.cells #[] 3)).ownsRow w.heap.size 3 1 (.slice (some ⟨wr.heap.size, 0, none⟩) 0 0) 0 [] := World.ownsRow_made wr #[] 0 hbr.size (by simp) rfl
                      have g9 : Below w.heap.size w (wr.alloc (.cells #[] 3)) := hbr.alloc hbr.size _
                      go_wp2
                      go_ret2
                      rw [HM.out]
                      exact ⟨_, rfl, ho9, g9⟩
              · obtain rfl : k = t.length := by omega
                have HM := Lib.hid (HA.out last out HS.out)
                have hol := (assignTo_len HS.out).2
                have HOW : Hid (wr.ownsRow w.heap.size 3 1 u8 out.length (out.map intV)) := Lib.hid (by rw [hol]; exact hown)
                clear hol
                go_wp2
                go_ret2
                rw [HM.out]
                exact ⟨_, rfl, HOW.out, hbr⟩
      · have HM := Lib.hid (assignM_no (c := c) (t := t) (r := r) fun k => hr (of_decide_eq_true k.2.2))
        clear tc tt
        go_enter Try.func38, Try.ntmps38
        go_wp2_with fail
        refine (combok_yes (Rd.below hc hb0) TC.out).mono ?_
        rintro e w1 ⟨rfl, hb1⟩
        go_wp2_with fail
        refine (tuneok_yes (Rd.below ht (bstep hb0 hb1)) TT.out).mono ?_
        rintro e w2 ⟨rfl, hb2⟩
        have g2 := bstep (bstep hb0 hb1) hb2
        have ho2 := ownS_below (ownS_below hown0 hb1) hb2
        go_wp2_with fail
        refine (in_no _ _ _ hr _).mono ?_
        rintro e w3 ⟨rfl, rfl⟩
        go_wp2
        go_ret2
        rw [HM.out]
        exact ⟨_, rfl, ho2, g2⟩
    · have TT := Lib.hid (show tuneB t = false by simpa using tt)
      have HM := Lib.hid (assignM_no (c := c) (t := t) (r := r) fun k => tt k.2.1)
      clear tc tt
      go_enter Try.func38, Try.ntmps38
      go_wp2_with fail
      refine (combok_yes (Rd.below hc hb0) TC.out).mono ?_
      rintro e w1 ⟨rfl, hb1⟩
      go_wp2_with fail
      refine (tuneok_no (Rd.below ht (bstep hb0 hb1)) TT.out).mono ?_
      rintro e w2 ⟨rfl, hb2⟩
      have g2 := bstep (bstep hb0 hb1) hb2
      have ho2 := ownS_below (ownS_below hown0 hb1) hb2
      go_wp2
      go_ret2
      rw [HM.out]
      exact ⟨_, rfl, ho2, g2⟩
  · have TC := Lib.hid (show combB c = false by simpa using tc)
    have HM := Lib.hid (assignM_no (c := c) (t := t) (r := r) fun k => tc k.1)
    clear tc
    go_enter Try.func38, Try.ntmps38
    go_wp2_with fail
    refine (combok_no (Rd.below hc hb0) TC.out).mono ?_
    rintro e w1 ⟨rfl, hb1⟩
    have g2 := bstep hb0 hb1
    have ho2 := ownS_below hown0 hb1
    go_wp2
    go_ret2
    rw [HM.out]
    exact ⟨_, rfl, ho2, g2⟩
end Go.Proofs.Ytcbdoldcdgaooaa
