/- The contracts of chapter 4's model: MissingPitches, CanPlay. No condition. -/
import Derived.Test.YtkciolegfonabaaCombSpec
namespace Go.Proofs.Ytkciolegfonabaa
open Go.ChangeShapes Go.WideShapes Go.ChangeAt Go.RowKit

def hasP (t : List (Int × Int)) (x : Int) : Bool := t.any fun p => decide (p.2 = x)
theorem hasP_succ {t : List (Int × Int)} {k : Nat} {p : Int × Int} (x : Int) (h : t[k]? = some p) : hasP (t.take (k + 1)) x = (hasP (t.take k) x || decide (p.2 = x)) := by
  unfold hasP; rw [List.take_add_one, h]; simp
theorem hasP_iff {t : List (Int × Int)} {x : Int} : hasP t x = true ↔ ∃ p ∈ t, p.2 = x := by unfold hasP; simp
def missTo (k : Nat) (c : List Int) (t : List (Int × Int)) : List Int := ((List.range k).filter fun (p : Nat) => hasP t (p : Int) && !(decide ((p : Int) ∈ c))).map Int.ofNat
noncomputable def missM (c : List Int) (t : List (Int × Int)) : List Int := if combB c = true ∧ tuneB t = true then missTo 61 c t else []
theorem missTo_yes {k : Nat} {c : List Int} {t : List (Int × Int)} (h1 : hasP t (k : Int) = true) (h2 : (k : Int) ∉ c) : missTo (k + 1) c t = missTo k c t ++ [(k : Int)] := by
  unfold missTo; rw [List.range_succ, List.filter_append, List.map_append]; simp [h1, h2]
theorem missTo_no {k : Nat} {c : List Int} {t : List (Int × Int)} (h : ¬ (hasP t (k : Int) = true ∧ (k : Int) ∉ c)) : missTo (k + 1) c t = missTo k c t := by
  unfold missTo; rw [List.range_succ, List.filter_append, List.map_append]
  have : (hasP t (k : Int) && !(decide ((k : Int) ∈ c))) = false := by
    rw [← Bool.not_eq_true]; intro hh; simp at hh; exact h hh
  simp [this]
theorem missTo_len (k : Nat) (c : List Int) (t : List (Int × Int)) : (missTo k c t).length ≤ k := by
  unfold missTo; rw [List.length_map]; exact Nat.le_trans (List.length_filter_le _ _) (by simp)
theorem missM_len (c : List Int) (t : List (Int × Int)) : (missM c t).length ≤ 61 := by
  unfold missM; split
  · exact missTo_len 61 c t
  · simp

set_option maxHeartbeats 2000000 in
set_option maxRecDepth 100000 in
theorem missing_any {w : World} {vc vt : Value} {c : List Int} {t : List (Int × Int)} (hc : Rd1 w vc c) (ht : Rd2 w vt t) :
    Calls Try.prog 37 #[vc, vt] w (NewInts w (missM c t)) := by
  obtain ⟨i0, hi, hz0, hz1, hz2⟩ := info_parts infoInt
  obtain ⟨a1, cap1, rfl⟩ := Rd.slice hc
  obtain ⟨a2, cap2, rfl⟩ := Rd.slice ht
  have hm2 := ht.2.1
  unfold maxLen at hm2
  have hown0 : (w.alloc (.cells #[] 3)).ownsRow w.heap.size 3 1 (.slice (some ⟨w.heap.size, 0, none⟩) 0 0) 0 [] := World.ownsRow_made w #[] 0 (Nat.le_refl _) (by simp) rfl
  have hb0 : Below w.heap.size w (w.alloc (.cells #[] 3)) := (Below.refl _ _).alloc (Nat.le_refl _) _
  by_cases tc : combB c = true
  · have TC := Lib.hid tc
    by_cases tt : tuneB t = true
    · have TT := Lib.hid tt
      have HL := Lib.hid (show missM c t = missTo 61 c t by unfold missM; rw [if_pos ⟨tc, tt⟩])
      have h40 := (tuneB_true.1 tt).1
      have HT := Lib.hid (fun x => show teethM c x = teethTo c.length c x by unfold teethM; rw [if_pos tc])
      clear tc tt
      go_enter Try.func37, Try.ntmps37
      go_wp2_with fail
      refine (combok_yes (Rd.below hc hb0) TC.out).mono ?_
      rintro e w1 ⟨rfl, hb1⟩
      go_wp2_with fail
      refine (tuneok_yes (Rd.below ht (bstep hb0 hb1)) TT.out).mono ?_
      rintro e w2 ⟨rfl, hb2⟩
      have g2 := bstep (bstep hb0 hb1) hb2
      have ho2 := ownS_below (ownS_below hown0 hb1) hb2
      clear hb1 hb2 hown0 hb0
      go_wp2_with fail
      go_loopw [5, 6] (fun v5 v6 wr => ∃ p : Nat, p ≤ 61 ∧ v6 = .int .i64 p ∧ wr.ownsRow w.heap.size 3 1 v5 (missTo p c t).length ((missTo p c t).map intV) ∧ Below w.heap.size w wr) (fun _ v6 _ => 61 - (intOf v6).toNat)
      case atStart => exact ⟨0, by omega, rfl, ho2, g2⟩
      case round =>
        obtain ⟨p, hp, rfl, hown, hbr⟩ := hrel
        clear ho2 g2
        by_cases hp60 : p ≤ 60
        · go_wp2_with fail
          go_loopw [7, 8] (fun v7 v8 ws => ∃ k : Nat, k ≤ t.length ∧ v8 = .int .i64 k ∧ v7 = .bool (hasP (t.take k) (p : Int)) ∧ ws = wr) (fun _ v8 _ => t.length - (intOf v8).toNat)
          case atStart => exact ⟨0, Nat.zero_le _, rfl, rfl, rfl⟩
          case round =>
            obtain ⟨k, hk, rfl, rfl, rfl⟩ := hrel
            by_cases hlt : k < t.length
            · obtain ⟨q, hq⟩ : ∃ q, t[k]? = some q := ⟨_, List.getElem?_eq_getElem hlt⟩
              obtain ⟨b1, o1, c1, hv1, x1, y1⟩ := Rd2.cells (Rd.below ht hbr) hq
              simp only [Value.slice.injEq, true_and] at hv1
              obtain ⟨rfl, rfl⟩ := hv1
              have HS := Lib.hid (hasP_succ (p : Int) hq)
              clear hq
              generalize hasP (t.take k) (p : Int) = hb at *
              cases hb
              · go_wp2
                go_roundw
                case rel => exact ⟨k + 1, by omega, by go_num, by rw [HS.out]; by_cases h : q.2 = (p : Int) <;> simp [h], trivial⟩
                case measure => simp [intOf]; omega
              · go_wp2
                go_roundw
                case rel => exact ⟨k + 1, by omega, by go_num, by rw [HS.out]; by_cases h : q.2 = (p : Int) <;> simp [h], trivial⟩
                case measure => simp [intOf]; omega
            · obtain rfl : k = t.length := by omega
              have hfull : t.take t.length = t := List.take_length
              rw [hfull]
              clear hfull
              by_cases hu : hasP t (p : Int) = true
              · rw [hu]
                have hiff := teethTo_nil (l := c) (x := (p : Int))
                rw [← HT.out] at hiff
                go_wp2_with fail
                refine (teethof_any (p : Int) (Rd.below hc hbr)).mono ?_
                rintro e w3 ⟨v3, rfl, ho3, hb3⟩
                have hbr3 := bstep hbr hb3
                have hown3 := ownS_below hown hb3
                obtain ⟨a3, cap3, rfl⟩ := ownS_slice ho3
                have hml := missTo_len p c t
                clear ho3 hb3 hbr hown
                generalize (teethM c (p : Int)).length = ln at *
                by_cases hin : (p : Int) ∈ c
                · have HN := Lib.hid (missTo_no (k := p) (c := c) (t := t) (fun hh => hh.2 hin))
                  have hne : ((ln : Int) == 0) = false := by
                    have : ¬ ln = 0 := fun e => (hiff.1 e) hin
                    simp; omega
                  clear hiff hin
                  go_wp2
                  go_roundw
                  case rel => exact ⟨p + 1, by omega, by go_num, by rw [HN.out]; exact hown3, hbr3⟩
                  case measure => simp [intOf]; omega
                · have HA := Lib.hid (missTo_yes hu hin)
                  have hl0 := hiff.2 hin
                  subst hl0
                  clear hiff hin hu
                  go_wp2_with (at_builtin; refine wpList_append_own _ rfl _ _ 40 rfl w.heap.size 3 i0 (.int .i64 0) 1 8 Try.underlying40 hi hz0 hz1 hz2 rfl (by decide) _ (missTo p c t).length _ rfl (hown3.alloc _) ⟨w3.heap.size, 0, none⟩ 1 1 [.int .i64 (p : Int)] rfl rfl ?c1 ?c2 ?c3 ?c4 ?c5 ?_)
                  case c1 => first | exact World.news_of_block (heap_alloc_new w3 _) | exact fun _ _ h => h
                  case c2 => simp [Value.oneCell']
                  case c3 => unfold maxLen; omega
                  case c4 => omega
                  case c5 => have := hbr3.size; simp; omega
                  intro v' w4 hown4 hgrow _
                  have hb4 := (hbr3.alloc hbr3.size _).grown hgrow (by have := hbr3.size; simp; omega) (fun q hq => (hown3.lt q hq).1)
                  have hown5 : w4.ownsRow w.heap.size 3 1 v' (missTo (p + 1) c t).length ((missTo (p + 1) c t).map intV) := by
                    rw [HA.out, List.map_append, List.length_append]; exact hown4
                  clear hown3 hown4 hgrow hbr3 hml
                  go_wp2
                  go_roundw
                  case rel => exact ⟨p + 1, by omega, by go_num, hown5, hb4⟩
                  case measure => simp [intOf]; omega
              · have hu' : hasP t (p : Int) = false := by simpa using hu
                have HN := Lib.hid (missTo_no (k := p) (c := c) (t := t) (fun hh => hu hh.1))
                rw [hu']
                clear hu hu'
                go_wp2
                go_roundw
                case rel => exact ⟨p + 1, by omega, by go_num, by rw [HN.out]; exact hown, hbr⟩
                case measure => simp [intOf]; omega
        · obtain rfl : p = 61 := by omega
          go_wp2
          go_ret
          exact ⟨_, rfl, by rw [HL.out]; exact hown, hbr⟩
    · have TT := Lib.hid (show tuneB t = false by simpa using tt)
      have HL := Lib.hid (show missM c t = [] by unfold missM; rw [if_neg fun k => tt k.2])
      clear tc tt
      go_enter Try.func37, Try.ntmps37
      go_wp2_with fail
      refine (combok_yes (Rd.below hc hb0) TC.out).mono ?_
      rintro e w1 ⟨rfl, hb1⟩
      go_wp2_with fail
      refine (tuneok_no (Rd.below ht (bstep hb0 hb1)) TT.out).mono ?_
      rintro e w2 ⟨rfl, hb2⟩
      have g2 := bstep (bstep hb0 hb1) hb2
      have ho2 := ownS_below (ownS_below hown0 hb1) hb2
      clear hb1 hb2 hown0 hb0
      go_wp2
      go_ret
      exact ⟨_, rfl, by rw [HL.out]; exact ho2, g2⟩
  · have TC := Lib.hid (show combB c = false by simpa using tc)
    have HL := Lib.hid (show missM c t = [] by unfold missM; rw [if_neg fun k => tc k.1])
    clear tc
    go_enter Try.func37, Try.ntmps37
    go_wp2_with fail
    refine (combok_no (Rd.below hc hb0) TC.out).mono ?_
    rintro e w1 ⟨rfl, hb1⟩
    have g2 := bstep hb0 hb1
    have ho2 := ownS_below hown0 hb1
    clear hb1 hown0 hb0
    go_wp2
    go_ret
    exact ⟨_, rfl, by rw [HL.out]; exact ho2, g2⟩

noncomputable def playM (c : List Int) (t : List (Int × Int)) : Bool := combB c && tuneB t && decide ((missM c t).length = 0)
set_option maxHeartbeats 1000000 in
set_option maxRecDepth 100000 in
theorem canplay_any {w : World} {vc vt : Value} {c : List Int} {t : List (Int × Int)} (hc : Rd1 w vc c) (ht : Rd2 w vt t) :
    Calls Try.prog 42 #[vc, vt] w fun e w' => e = .returned (.bool (playM c t)) ∧ Below w.heap.size w w' := by
  obtain ⟨a1, cap1, rfl⟩ := Rd.slice hc
  obtain ⟨a2, cap2, rfl⟩ := Rd.slice ht
  by_cases tc : combB c = true
  · have TC := Lib.hid tc
    by_cases tt : tuneB t = true
    · have TT := Lib.hid tt
      have HM := Lib.hid (show playM c t = decide ((missM c t).length = 0) by unfold playM; rw [tc, tt]; rfl)
      clear tc tt
      go_enter Try.func42, Try.ntmps42
      go_wp2_with fail
      refine (combok_yes hc TC.out).mono ?_
      rintro e w1 ⟨rfl, hb1⟩
      go_wp2_with fail
      refine (tuneok_yes (Rd.below ht hb1) TT.out).mono ?_
      rintro e w2 ⟨rfl, hb2⟩
      have g2 := bstep hb1 hb2
      clear hb1 hb2
      go_wp2_with fail
      refine (missing_any (Rd.below hc g2) (Rd.below ht g2)).mono ?_
      rintro e w3 ⟨v3, rfl, ho3, hb3⟩
      have g3 := bstep g2 hb3
      obtain ⟨a3, cap3, rfl⟩ := ownS_slice ho3
      clear ho3 hb3 g2
      generalize (missM c t).length = ln at *
      by_cases h0 : ln = 0
      · subst h0
        go_wp2
        go_ret
        exact ⟨by rw [HM.out]; rfl, g3⟩
      · have hne : ((ln : Int) == 0) = false := by simp; omega
        have hd : decide (ln = 0) = false := decide_eq_false h0
        go_wp2
        go_ret
        exact ⟨by rw [HM.out, hd]; rfl, g3⟩
    · have TT := Lib.hid (show tuneB t = false by simpa using tt)
      have HM := Lib.hid (show playM c t = false by unfold playM; rw [TT.out]; simp)
      clear tc tt
      go_enter Try.func42, Try.ntmps42
      go_wp2_with fail
      refine (combok_yes hc TC.out).mono ?_
      rintro e w1 ⟨rfl, hb1⟩
      go_wp2_with fail
      refine (tuneok_no (Rd.below ht hb1) TT.out).mono ?_
      rintro e w2 ⟨rfl, hb2⟩
      have g2 := bstep hb1 hb2
      go_wp2
      go_ret
      exact ⟨by rw [HM.out]; rfl, g2⟩
  · have TC := Lib.hid (show combB c = false by simpa using tc)
    have HM := Lib.hid (show playM c t = false by unfold playM; rw [TC.out]; rfl)
    clear tc
    go_enter Try.func42, Try.ntmps42
    go_wp2_with fail
    refine (combok_no hc TC.out).mono ?_
    rintro e w1 ⟨rfl, hb1⟩
    go_wp2
    go_ret
    exact ⟨by rw [HM.out]; rfl, hb1⟩
end Go.Proofs.Ytkciolegfonabaa
