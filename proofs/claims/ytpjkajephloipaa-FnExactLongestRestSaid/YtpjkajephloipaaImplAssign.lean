/- The contract of the program's AssignTeeth. No condition. -/
import Derived.Test.YtpjkajephloipaaImplTooth
import Derived.Test.YtpjkajephloipaaCombForInt
import Derived.Test.YtpjkajephloipaaRdCap
namespace Go.Proofs.Ytpjkajephloipaa
open Go.ChangeShapes Go.WideShapes Go.ChangeAt Go.RowKit

set_option maxHeartbeats 8000000 in
set_option maxRecDepth 100000 in
theorem iassign_any {w : World} {vc vt : Value} {c : List Int} {t : List (Int × Int)} (r : Int) (hc : Rd1 w vc c) (ht : Rd2 w vt t) :
    Calls Try.prog 19 #[vc, vt, .int .i64 r] w (NewIntsB w (assignM c t r).1 (assignM c t r).2) := by
  obtain ⟨i0, hi, hz0, hz1, hz2⟩ := info_parts infoInt
  obtain ⟨a1, cap1, rfl⟩ := Rd.slice hc
  obtain ⟨a2, cap2, rfl⟩ := Rd.slice ht
  by_cases tc : combB c = true
  · have TC := Lib.hid tc
    by_cases tt : tuneB t = true
    · have TT := Lib.hid tt
      by_cases hr : 1 ≤ r ∧ r ≤ 100
      · have hr' : inB r 1 100 = true := decide_eq_true hr
        have HA := Lib.hid (fun (last out : List Int) (h : assignTo c t r t.length = some (last, out)) => assignM_some tc tt hr' h)
        have HN := Lib.hid (fun (h : assignTo c t r t.length = none) => assignM_none (c := c) (t := t) (r := r) h)
        have h40 := (tuneB_true.1 tt).1
        have h24 := (combB_true.1 tc).1.2
        have HR : Hid (∀ (k : Nat) (q : Int × Int), t[k]? = some q → 0 ≤ q.1 ∧ q.1 ≤ 1000) := Lib.hid fun k q hq => ((tuneB_true.1 tt).2 k q hq).1
        have HRR := Lib.hid hr
        clear tc tt hr'
        go_enter Try.func19, Try.ntmps19
        go_wp2_with fail
        refine (icomb_yes hc TC.out).mono ?_
        rintro e w1 ⟨rfl, hb1⟩
        go_wp2_with fail
        refine (itune_yes (Rd.below ht hb1) TT.out).mono ?_
        rintro e w2 ⟨rfl, hb2⟩
        have g2 := bstep hb1 hb2
        clear hb1 hb2
        go_wp2_with fail
        refine (irest_yes hr _).mono ?_
        rintro e w3 ⟨rfl, rfl⟩
        clear hr
        go_wp2_with fail
        refine (finder_any r (Rd.below hc g2) (by omega)).mono ?_
        rintro e w4 ⟨pc, pr, pm, g, rfl, hF, hb4, hg4⟩
        have hFW : Finder w4 w.heap.size pc pr pm g (.slice a1 c.length cap1) r (restL r (List.replicate c.length (-1000))) := by
          rw [restL_start]
          obtain ⟨k1, k2, k3, k4, k5⟩ := hF
          exact ⟨k1, k2, k3, ownS_mono k4 g2.size, k5⟩
        have g4 := bstep g2 hb4
        have hge : w.heap.size ≤ g := Nat.le_trans g2.size hg4
        have hx1 := World.block_lt_of_cell? _ _ hF.1
        have hx2 := World.block_lt_of_cell? _ _ hF.2.1
        have hx3 := World.block_lt_of_cell? _ _ hF.2.2.1
        have hx4 := (World.ownsRow.lt hF.2.2.2.1 g (by simp [Value.ownBlock])).2
        simp only at hx1 hx2 hx3
        obtain ⟨M, hM1, hM2⟩ : ∃ M, w4.heap.size ≤ M ∧ M ≤ w4.heap.size := ⟨_, Nat.le_refl _, Nat.le_refl _⟩
        replace hx1 := Nat.lt_of_lt_of_le hx1 hM1
        replace hx2 := Nat.lt_of_lt_of_le hx2 hM1
        replace hx3 := Nat.lt_of_lt_of_le hx3 hM1
        replace hx4 := Nat.lt_of_lt_of_le hx4 hM1
        clear hF hb4 hg4 g2 hM1
        go_wp2_with fail
        go_loopw [9, 32] (fun v9 v32 wr => ∃ (k : Nat) (last out : List Int), k ≤ t.length ∧ v32 = .int .i64 (k : Int) ∧ Hid (assignTo c t r k = some (last, out)) ∧ Hid (LastOk last) ∧ wr.ownsRow w.heap.size 3 1 v9 k (out.map intV) ∧ Hid (Finder wr w.heap.size pc pr pm g (.slice a1 c.length cap1) r (restL r last)) ∧ Hid (∀ b, v9.ownBlock = some b → M ≤ b) ∧ Below w.heap.size w wr ∧ M ≤ wr.heap.size) (fun _ v32 _ => t.length - (intOf v32).toNat)
        case atStart => exact ⟨0, _, [], Nat.zero_le _, rfl, Lib.hid rfl, Lib.hid (lastOk_start _), World.ownsRow_nil _ _ _ _, Lib.hid hFW, Lib.hid (fun b hb => by simp [Value.ownBlock] at hb), g4, hM2⟩
        case round =>
          obtain ⟨k, last, out, hk, rfl, HS, HLO, hown, HF, HM, hbr, hMw⟩ := hrel
          clear hFW g4 hM2
          by_cases hlt : k < t.length
          · obtain ⟨q, hq⟩ : ∃ q, t[k]? = some q := ⟨_, List.getElem?_eq_getElem hlt⟩
            have hqb := HR.out k q hq
            have hll := (assignTo_len HS.out).1
            obtain ⟨b2, o2, c2, hv2, x1, y1⟩ := Rd2.cells (Rd.below ht hbr) hq
            simp only [Value.slice.injEq, true_and] at hv2
            obtain ⟨rfl, rfl⟩ := hv2
            have HQ := Lib.hid hq
            have HLL := Lib.hid hll
            clear hq hll
            have hFA := HF.out.below ((Below.refl wr.heap.size wr).alloc (Nat.le_refl _) (.cells #[.int .i64 q.1, .int .i64 q.2] 54))
            have hbA : Below w.heap.size w (wr.alloc (.cells #[.int .i64 q.1, .int .i64 q.2] 54)) := hbr.alloc hbr.size _
            have hoA := hown.alloc (.cells #[.int .i64 q.1, .int .i64 q.2] 54)
            have hMA : M ≤ (wr.alloc (.cells #[.int .i64 q.1, .int .i64 q.2] 54)).heap.size := by rw [size_alloc]; omega
            have HFA := Lib.hid hFA
            clear hFA HF hown
            go_wp2_with fail
            refine (tooth_any q HFA.out (Rd.below hc hbA) HLL.out HLO.out HRR.out hqb).mono ?_
            rintro e w5 ⟨hg5, (⟨j, hj, rfl, hF5⟩ | ⟨hn, rfl⟩)⟩
            · have HJ := Lib.hid (assignTo_next HS.out HQ.out hj)
              have HLO2 := Lib.hid (LastOk.set HLO.out (j := j) hqb)
              have hb5 := hbA.grown hg5 hbA.size (fun b hb => by cases hb; exact hge)
              have hM5 := Nat.le_trans hMA hg5.size
              have hown5 := hoA.kept hg5 (Or.inr (fun e => by have := HM.out g e; omega))
              obtain ⟨v6, w6, e6, ho6, hg6, hbl6⟩ := app_int hown5 (j : Int) (by omega) hb5.size
              have HF6 := Lib.hid ((hF5.below ((Below.refl w5.heap.size w5).alloc (Nat.le_refl _) (.cells #[.int .i64 (j : Int)] 3))).kept hg6 (fun b e => by have := HM.out b e; omega))
              have hb6 := (hb5.alloc hb5.size (.cells #[.int .i64 (j : Int)] 3)).grown hg6 (by rw [size_alloc]; have := hb5.size; omega) (fun x hx => (hown5.lt x hx).1)
              have HM6 : Hid (∀ b, v6.ownBlock = some b → M ≤ b) := Lib.hid fun b e => by
                rcases hbl6 b e with h | h
                · exact HM.out b h
                · omega
              have ho7 : Hid (w6.ownsRow w.heap.size 3 1 v6 (k + 1) ((out ++ [(j : Int)]).map intV)) := Lib.hid (by rw [List.map_append]; exact ho6)
              have hM6 : M ≤ w6.heap.size := Nat.le_trans hM5 (Nat.le_trans (by rw [size_alloc]; omega) hg6.size)
              clear hj hF5 hg5 hbA hMA hoA hown5 ho6 hg6 hbl6 HFA HM x1 y1 hb5 hM5
              go_wp2_with (at_builtin; refine wpList_append_eq rfl _ _ _ rfl _ _ _ rfl rfl e6 ?_)
              go_roundw
              case rel => exact ⟨k + 1, _, _, by omega, by go_num, HJ, HLO2, ho7.out, HF6, HM6, hb6, hM6⟩
              case measure => simp [intOf]; omega
            · have HM2 := Lib.hid (HN.out (assignTo_none (assignTo_stop HS.out HQ.out hn) (by omega)))
              have hb5 := hbA.grown hg5 hbA.size (fun b hb => by cases hb; exact hge)
              clear hn hg5 hbA hMA hoA HFA HM x1 y1
              go_wp2
              go_ret2
              rw [HM2.out]
              exact ⟨_, rfl, World.ownsRow_nil _ _ _ _, hb5⟩
          · obtain rfl : k = t.length := by omega
            have HM2 := Lib.hid (HA.out last out HS.out)
            have hol := (assignTo_len HS.out).2
            obtain ⟨av, cpv, rfl⟩ := ownS_slice hown
            have HOW : Hid (wr.ownsRow w.heap.size 3 1 (.slice av t.length cpv) out.length (out.map intV)) := Lib.hid (by rw [hol]; exact hown)
            clear hol hown HF HM
            go_wp2
            go_ret2
            rw [HM2.out]
            exact ⟨_, rfl, HOW.out, hbr⟩
      · have HM := Lib.hid (assignM_no (c := c) (t := t) (r := r) fun k => hr (of_decide_eq_true k.2.2))
        clear tc tt
        go_enter Try.func19, Try.ntmps19
        go_wp2_with fail
        refine (icomb_yes hc TC.out).mono ?_
        rintro e w1 ⟨rfl, hb1⟩
        go_wp2_with fail
        refine (itune_yes (Rd.below ht hb1) TT.out).mono ?_
        rintro e w2 ⟨rfl, hb2⟩
        have g2 := bstep hb1 hb2
        go_wp2_with fail
        refine (irest_no hr _).mono ?_
        rintro e w3 ⟨rfl, rfl⟩
        go_wp2
        go_ret2
        rw [HM.out]
        exact ⟨_, rfl, World.ownsRow_nil _ _ _ _, g2⟩
    · have TT := Lib.hid (show tuneB t = false by simpa using tt)
      have HM := Lib.hid (assignM_no (c := c) (t := t) (r := r) fun k => tt k.2.1)
      clear tc tt
      go_enter Try.func19, Try.ntmps19
      go_wp2_with fail
      refine (icomb_yes hc TC.out).mono ?_
      rintro e w1 ⟨rfl, hb1⟩
      go_wp2_with fail
      refine (itune_no (Rd.below ht hb1) TT.out).mono ?_
      rintro e w2 ⟨rfl, hb2⟩
      have g2 := bstep hb1 hb2
      go_wp2
      go_ret2
      rw [HM.out]
      exact ⟨_, rfl, World.ownsRow_nil _ _ _ _, g2⟩
  · have TC := Lib.hid (show combB c = false by simpa using tc)
    have HM := Lib.hid (assignM_no (c := c) (t := t) (r := r) fun k => tc k.1)
    clear tc
    go_enter Try.func19, Try.ntmps19
    go_wp2_with fail
    refine (icomb_no hc TC.out).mono ?_
    rintro e w1 ⟨rfl, hb1⟩
    go_wp2
    go_ret2
    rw [HM.out]
    exact ⟨_, rfl, World.ownsRow_nil _ _ _ _, hb1⟩
end Go.Proofs.Ytpjkajephloipaa
