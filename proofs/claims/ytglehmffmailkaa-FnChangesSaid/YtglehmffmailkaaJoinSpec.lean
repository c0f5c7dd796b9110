/- The contract of chapter 3's model: JoinTunes. No condition. -/
import Derived.Test.YtglehmffmailkaaSortSpec
namespace Go.Proofs.Ytglehmffmailkaa
open Go.ChangeShapes Go.WideShapes Go.ChangeAt Go.RowKit

def hasB (l : List (Int × Int)) (x : Int × Int) : Bool := decide (x ∈ l)
theorem hasB_succ {l : List (Int × Int)} {i : Nat} {q : Int × Int} (p : Int × Int) (h : l[i]? = some q) : hasB (l.take (i + 1)) p = (hasB (l.take i) p || decide (q = p)) := by
  unfold hasB; rw [List.take_add_one, h]
  by_cases hq : q = p
  · subst hq; simp
  · have hq' : ¬ p = q := fun e => hq e.symm
    simp [hq, hq']
/-- a, and of l what a does not hold. -/
def joinL (a l : List (Int × Int)) : List (Int × Int) := a ++ l.filter fun p => !hasB a p
theorem joinL_nil (a : List (Int × Int)) : joinL a [] = a := by unfold joinL; simp
theorem joinL_yes {a l : List (Int × Int)} {k : Nat} {p : Int × Int} (h : l[k]? = some p) (hp : hasB a p = true) : joinL a (l.take (k + 1)) = joinL a (l.take k) := by
  unfold joinL; rw [List.take_add_one, h, List.filter_append]; simp [hp]
theorem joinL_no {a l : List (Int × Int)} {k : Nat} {p : Int × Int} (h : l[k]? = some p) (hp : hasB a p = false) : joinL a (l.take (k + 1)) = joinL a (l.take k) ++ [p] := by
  unfold joinL; rw [List.take_add_one, h, List.filter_append]; simp [hp]
theorem joinL_len (a l : List (Int × Int)) : (joinL a l).length ≤ a.length + l.length := by
  unfold joinL; rw [List.length_append]; have := List.length_filter_le (fun p => !hasB a p) l; omega
open Classical in
noncomputable def joinM (a b : List (Int × Int)) : List (Int × Int) × Bool := if tuneB a = true ∧ tuneB b = true ∧ (joinL a b).length ≤ 40 then (sortM (joinL a b), true) else ([], false)
theorem joinM_yes {a b : List (Int × Int)} (h1 : tuneB a = true) (h2 : tuneB b = true) (h3 : (joinL a b).length ≤ 40) : joinM a b = (sortM (joinL a b), true) := if_pos ⟨h1, h2, h3⟩
theorem joinM_no {a b : List (Int × Int)} (h : ¬ (tuneB a = true ∧ tuneB b = true ∧ (joinL a b).length ≤ 40)) : joinM a b = ([], false) := if_neg h

set_option maxHeartbeats 4000000 in
theorem join_any {w : World} {va vb : Value} {la lb : List (Int × Int)} (ha : Rd2 w va la) (hb : Rd2 w vb lb) :
    Calls Try.prog 50 #[va, vb] w (NewNotesB w (joinM la lb).1 (joinM la lb).2) := by
  obtain ⟨a1, cap1, rfl⟩ := Rd.slice ha
  obtain ⟨a2, cap2, rfl⟩ := Rd.slice hb
  obtain ⟨i0, hi, hz0, hz1, hz2⟩ := info_parts infoNote
  have hown0 : (w.alloc (.cells #[] 39)).ownsRow w.heap.size 39 2 (.slice (some ⟨w.heap.size, 0, none⟩) 0 0) 0 (flat2 []) := World.ownsRow_made w #[] 0 (Nat.le_refl _) (by simp) rfl
  have hb0 : Below w.heap.size w (w.alloc (.cells #[] 39)) := (Below.refl _ _).alloc (Nat.le_refl _) _
  by_cases hta : tuneB la = true
  · have HTA := Lib.hid hta
    have h40a := (tuneB_true.1 hta).1
    by_cases htb : tuneB lb = true
    · have HTB := Lib.hid htb
      have h40b := (tuneB_true.1 htb).1
      clear hta htb
      go_enter Try.func50, Try.ntmps50
      go_wp2_with fail
      refine (tuneok_yes (Rd.below ha hb0) HTA.out).mono ?_
      rintro e w1 ⟨rfl, hb1⟩
      have g1 := bstep hb0 hb1
      clear hb1 hown0 hb0
      go_wp2_with fail
      refine (tuneok_yes (Rd.below hb g1) HTB.out).mono ?_
      rintro e w2 ⟨rfl, hb2⟩
      have g2 := bstep g1 hb2
      clear hb2 g1
      go_wp2_with fail
      refine (copy_any (Rd.below ha g2) (by omega)).mono ?_
      rintro e w3 ⟨v3, rfl, ho3, hb3⟩
      have g3 := bstep g2 hb3
      have hown3 := ownS_mono ho3 g2.size
      clear ho3 hb3 g2
      go_wp2_with fail
      go_loopw [6, 7] (fun v6 v7 wr => ∃ (k : Nat) (o : List (Int × Int)), k ≤ lb.length ∧ v7 = .int .i64 k ∧ Hid (o = joinL la (lb.take k)) ∧ o.length ≤ 80 ∧ wr.ownsRow w.heap.size 39 2 v6 o.length (flat2 o) ∧ Below w.heap.size w wr) (fun _ v7 _ => lb.length - (intOf v7).toNat)
      case atStart => exact ⟨0, la, Nat.zero_le _, rfl, Lib.hid (by rw [List.take_zero, joinL_nil]), by omega, hown3, g3⟩
      case round =>
        obtain ⟨k, o, hk, rfl, ho, hol, hown, hbr⟩ := hrel
        clear hown3 g3
        by_cases hlt : k < lb.length
        · obtain ⟨p, hp⟩ : ∃ p, lb[k]? = some p := ⟨_, List.getElem?_eq_getElem hlt⟩
          have HP := Lib.hid hp
          obtain ⟨b2, o2, c2, hv2, x2, y2⟩ := Rd2.cells hb hp
          simp only [Value.slice.injEq, true_and] at hv2
          obtain ⟨rfl, rfl⟩ := hv2
          clear hp
          go_wp2_with fail
          go_loopw [8, 9] (fun v8 v9 wi => ∃ (i : Nat) (f : Bool), i ≤ la.length ∧ v8 = .bool f ∧ Hid (f = hasB (la.take i) p) ∧ v9 = .int .i64 i ∧ Below wr.heap.size wr wi) (fun _ v9 _ => la.length - (intOf v9).toNat)
          case atStart => exact ⟨0, false, Nat.zero_le _, rfl, Lib.hid (by unfold hasB; simp), rfl, Below.refl _ _⟩
          case round =>
            obtain ⟨i, f, hil, rfl, hf, rfl, hbi⟩ := hrel
            have gi := bstep hbr hbi
            by_cases hlt2 : i < la.length
            · obtain ⟨q, hq⟩ : ∃ q, la[i]? = some q := ⟨_, List.getElem?_eq_getElem hlt2⟩
              have HQ := Lib.hid (hasB_succ p hq)
              obtain ⟨b1, o1, c1, hv1, x1, y1⟩ := Rd2.cells ha hq
              simp only [Value.slice.injEq, true_and] at hv1
              obtain ⟨rfl, rfl⟩ := hv1
              clear hq
              have z1 := kept_b gi x1
              have z2 := kept_b gi y1
              have z3 := kept_b gi x2
              have z4 := kept_b gi y2
              clear hown
              by_cases hqp : q = p
              · have hE := eql_yes hqp
                have HD := Lib.hid (decide_eq_true hqp)
                rw [HD.out, Bool.or_true] at HQ
                clear hqp
                cases f
                all_goals
                  go_wp2_with fail
                  go_quiet (fail)
                  go_wp2
                  go_roundw
                  case rel => exact ⟨i + 1, true, by omega, rfl, Lib.hid HQ.out.symm, by go_num, below_drewN hbi _⟩
                  case measure => simp [intOf]; omega
              · have hE := eql_no hqp
                have HD := Lib.hid (decide_eq_false hqp)
                rw [HD.out, Bool.or_false, ← hf.out] at HQ
                clear hqp
                cases f
                all_goals
                  go_wp2_with fail
                  go_quiet (fail)
                  go_wp2
                  go_roundw
                  case rel => exact ⟨i + 1, _, by omega, rfl, Lib.hid HQ.out.symm, by go_num, below_drewN hbi _⟩
                  case measure => simp [intOf]; omega
            · obtain rfl : i = la.length := by omega
              rw [List.take_length] at hf
              have hown1 := ownS_below hown hbi
              have hnl : o.length + 1 ≤ 10000 := by omega
              clear hown hbi
              have z3 := kept_b gi x2
              have z4 := kept_b gi y2
              cases f
              · have HN := Lib.hid (joinL_no HP.out hf.out.symm)
                rw [← ho.out] at HN
                go_wp2_with (at_builtin; refine wpList_append_own _ rfl _ _ 24 rfl w.heap.size 39 i0 _ 2 16 Try.underlying24 hi hz0 hz1 hz2 rfl (by decide) _ o.length (flat2 o) rfl (hown1.alloc _) ⟨wr.heap.size, 0, none⟩ 1 1 (flat2 [p]) rfl rfl ?c2 (flat2_one _) ?c3 ?c4 ?c5 ?_)
                case c2 => exact (one_row0 gi p).cells (by rfl)
                case c3 => unfold maxLen; omega
                case c4 => omega
                case c5 => have := gi.size; simp; omega
                intro v' w4 hown4 hgrow _
                have hb4 := (gi.alloc gi.size _).grown hgrow (by have := gi.size; simp; omega) (fun q hq => (hown1.lt q hq).1)
                rw [← flat2_append] at hown4
                clear hown1 hgrow gi z3 z4
                go_wp2
                go_roundw
                case rel => exact ⟨k + 1, o ++ [p], by omega, by go_num, Lib.hid HN.out.symm, by have h1 := joinL_len la (lb.take (k + 1)); rw [HN.out] at h1; have h2 := List.length_take_le (k + 1) lb; omega, by rw [List.length_append]; exact hown4, hb4⟩
                case measure => simp [intOf]; omega
              · have HN := Lib.hid (joinL_yes HP.out hf.out.symm)
                rw [← ho.out] at HN
                go_wp2_with fail
                go_roundw
                case rel => exact ⟨k + 1, o, by omega, by go_num, Lib.hid HN.out.symm, by omega, hown1, gi⟩
                case measure => simp [intOf]; omega
        · obtain rfl : k = lb.length := by omega
          rw [List.take_length] at ho
          have hR : Rd2 wr u6 o := Rd.of_own hown
          by_cases h40 : o.length ≤ 40
          · have HM := Lib.hid (joinM_yes HTA.out HTB.out (by rw [← ho.out]; exact h40))
            rw [← ho.out] at HM
            have hlt4 : ¬ 40 < o.length := by omega
            have hlt5 : ¬ (40 : Int) < (o.length : Int) := by omega
            obtain ⟨ag, capg, rfl⟩ := ownS_slice hown
            go_wp2_with fail
            refine (sort_any hR).mono ?_
            rintro e w7 ⟨v7, rfl, ho8, hb8⟩
            go_wp2
            go_ret2
            rw [HM.out]
            exact newB hbr ho8 hb8
          · have HM := Lib.hid (joinM_no (a := la) (b := lb) (fun hh => by have := hh.2.2; rw [← ho.out] at this; exact h40 this))
            have hlt4 : 40 < o.length := by omega
            have hlt5 : (40 : Int) < (o.length : Int) := by omega
            obtain ⟨ag, capg, rfl⟩ := ownS_slice hown
            go_wp2
            go_ret2
            rw [HM.out]
            exact ⟨_, rfl, World.ownsRow_made wr #[] 0 hbr.size (by simp) rfl, hbr.alloc hbr.size _⟩
    · have htb' : tuneB lb = false := by simpa using htb
      have HTB := Lib.hid htb'
      have HM := Lib.hid (joinM_no (a := la) (b := lb) (fun hh => by rw [htb'] at hh; cases hh.2.1))
      clear hta htb htb'
      go_enter Try.func50, Try.ntmps50
      go_wp2_with fail
      refine (tuneok_yes (Rd.below ha hb0) HTA.out).mono ?_
      rintro e w1 ⟨rfl, hb1⟩
      have g1 := bstep hb0 hb1
      have hown1 := ownS_below hown0 hb1
      clear hb1 hown0 hb0
      go_wp2_with fail
      refine (tuneok_no (Rd.below hb g1) HTB.out).mono ?_
      rintro e w2 ⟨rfl, hb2⟩
      have g2 := bstep g1 hb2
      have hown2 := ownS_below hown1 hb2
      clear hb2 g1 hown1
      go_wp2
      go_ret2
      rw [HM.out]
      exact ⟨_, rfl, hown2, g2⟩
  · have hta' : tuneB la = false := by simpa using hta
    have HTA := Lib.hid hta'
    have HM := Lib.hid (joinM_no (a := la) (b := lb) (fun hh => by rw [hta'] at hh; cases hh.1))
    clear hta hta'
    go_enter Try.func50, Try.ntmps50
    go_wp2_with fail
    refine (tuneok_no (Rd.below ha hb0) HTA.out).mono ?_
    rintro e w1 ⟨rfl, hb1⟩
    have g1 := bstep hb0 hb1
    have hown1 := ownS_below hown0 hb1
    clear hb1 hown0 hb0
    go_wp2
    go_ret2
    rw [HM.out]
    exact ⟨_, rfl, hown1, g1⟩
end Go.Proofs.Ytglehmffmailkaa
