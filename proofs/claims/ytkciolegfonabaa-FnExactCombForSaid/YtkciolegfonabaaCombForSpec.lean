/- The contract of chapter 4's model: CombFor. No condition. -/
import Derived.Test.YtkciolegfonabaaMissSpec
import Derived.Test.YtkciolegfonabaaNestKit
import Derived.Test.YtkciolegfonabaaCombForInt
namespace Go.Proofs.Ytkciolegfonabaa
open Go.ChangeShapes Go.WideShapes Go.ChangeAt Go.RowKit

def usedN (ll : List (List (Int × Int))) (x : Int) : Bool := ll.any fun t => hasP t x
theorem usedN_succ {ll : List (List (Int × Int))} {k : Nat} {t : List (Int × Int)} (x : Int) (h : ll[k]? = some t) : usedN (ll.take (k + 1)) x = (usedN (ll.take k) x || hasP t x) := by
  unfold usedN; rw [List.take_add_one, h]; simp
theorem usedN_iff {ll : List (List (Int × Int))} {x : Int} : usedN ll x = true ↔ ∃ t ∈ ll, hasP t x = true := by unfold usedN; simp
def forTo (k : Nat) (ll : List (List (Int × Int))) : List Int := ((List.range k).filter fun (p : Nat) => usedN ll (p : Int)).map Int.ofNat
theorem forTo_yes {k : Nat} {ll : List (List (Int × Int))} (h : usedN ll (k : Int) = true) : forTo (k + 1) ll = forTo k ll ++ [(k : Int)] := by
  unfold forTo; rw [List.range_succ, List.filter_append, List.map_append]; simp [h]
theorem forTo_no {k : Nat} {ll : List (List (Int × Int))} (h : usedN ll (k : Int) = false) : forTo (k + 1) ll = forTo k ll := by
  unfold forTo; rw [List.range_succ, List.filter_append, List.map_append]; simp [h]
theorem forTo_len (k : Nat) (ll : List (List (Int × Int))) : (forTo k ll).length ≤ k := by
  unfold forTo; rw [List.length_map]; exact Nat.le_trans (List.length_filter_le _ _) (by simp)
open Classical in
noncomputable def forM (ll : List (List (Int × Int))) : List Int × Bool := if (∀ t ∈ ll, tuneB t = true) ∧ combB (forTo 61 ll) = true then (forTo 61 ll, true) else ([], false)
theorem forM_yes {ll : List (List (Int × Int))} (h : ∀ t ∈ ll, tuneB t = true) (h2 : combB (forTo 61 ll) = true) : forM ll = (forTo 61 ll, true) := if_pos ⟨h, h2⟩
theorem forM_no {ll : List (List (Int × Int))} (h : ¬ ((∀ t ∈ ll, tuneB t = true) ∧ combB (forTo 61 ll) = true)) : forM ll = ([], false) := if_neg h
theorem forM_len (ll : List (List (Int × Int))) : (forM ll).1.length ≤ 61 := by
  unfold forM; split
  · exact forTo_len 61 ll
  · simp

set_option maxHeartbeats 4000000 in
set_option maxRecDepth 100000 in
theorem combfor_any {w : World} {v : Value} {us : List Value} {ll : List (List (Int × Int))} (h : RdN w v us ll) :
    Calls Try.prog 45 #[v] w (NewIntsB w (forM ll).1 (forM ll).2) := by
  obtain ⟨i0, hi, hz0, hz1, hz2⟩ := info_parts infoInt
  obtain ⟨a1, cap1, rfl⟩ := h.slice
  have hm := h.len
  unfold maxLen at hm
  have hown0 : (w.alloc (.cells #[] 3)).ownsRow w.heap.size 3 1 (.slice (some ⟨w.heap.size, 0, none⟩) 0 0) 0 [] := World.ownsRow_made w #[] 0 (Nat.le_refl _) (by simp) rfl
  have hb0 : Below w.heap.size w (w.alloc (.cells #[] 3)) := (Below.refl _ _).alloc (Nat.le_refl _) _
  go_enter Try.func45, Try.ntmps45
  go_wp2_with fail
  go_loopw [5] (fun v5 wr => ∃ k : Nat, k ≤ ll.length ∧ v5 = .int .i64 (k : Int) ∧ wr.ownsRow w.heap.size 3 1 (.slice (some ⟨w.heap.size, 0, none⟩) 0 0) 0 [] ∧ Below w.heap.size w wr ∧ Hid (∀ (i : Nat) (t : List (Int × Int)), i < k → ll[i]? = some t → tuneB t = true)) (fun v5 _ => ll.length - (intOf v5).toNat)
  case atStart => exact ⟨0, Nat.zero_le _, rfl, hown0, hb0, Lib.hid fun i t hi => by omega⟩
  case round =>
    obtain ⟨k, hk, rfl, hown, hbr, HT⟩ := hrel
    clear hown0 hb0
    by_cases hlt : k < ll.length
    · obtain ⟨t, ht⟩ : ∃ t, ll[k]? = some t := ⟨_, List.getElem?_eq_getElem hlt⟩
      have HTT := Lib.hid ht
      obtain ⟨b1, o1, c1, u, -, hv1, x1, hu⟩ := (h.below hbr).cell ht
      simp only [Value.slice.injEq, true_and] at hv1
      obtain ⟨rfl, rfl⟩ := hv1
      clear ht
      by_cases tt : tuneB t = true
      · have HN : Hid (∀ (i : Nat) (t : List (Int × Int)), i < k + 1 → ll[i]? = some t → tuneB t = true) := Lib.hid fun i s hi hs => by
          by_cases hik : i < k
          · exact HT.out i s hik hs
          · obtain rfl : i = k := by omega
            rw [HTT.out] at hs
            obtain rfl := Option.some.inj hs
            exact tt
        have TT := Lib.hid tt
        clear tt
        go_wp2_with fail
        refine (tuneok_yes hu TT.out).mono ?_
        rintro e w2 ⟨rfl, hb2⟩
        have hown2 := ownS_below hown hb2
        have hbr2 := bstep hbr hb2
        clear hown hb2 hbr x1 hu
        go_wp2
        go_roundw
        case rel => exact ⟨k + 1, by omega, by go_num, hown2, hbr2, HN⟩
        case measure => simp [intOf]; omega
      · have TT := Lib.hid (show tuneB t = false by simpa using tt)
        have HM := Lib.hid (forM_no (ll := ll) fun hh => tt (hh.1 t (List.mem_of_getElem? HTT.out)))
        clear tt
        go_wp2_with fail
        refine (tuneok_no hu TT.out).mono ?_
        rintro e w2 ⟨rfl, hb2⟩
        have hown2 := ownS_below hown hb2
        have hbr2 := bstep hbr hb2
        clear hown hb2 hbr x1 hu
        go_wp2
        go_ret2
        rw [HM.out]
        exact ⟨_, rfl, hown2, hbr2⟩
    · obtain rfl : k = ll.length := by omega
      have HALL : Hid (∀ t ∈ ll, tuneB t = true) := Lib.hid fun t ht => by
        obtain ⟨i, hi⟩ := List.mem_iff_getElem?.1 ht
        exact HT.out i t (List.getElem?_eq_some_iff.1 hi).1 hi
      clear HT
      go_wp2_with fail
      go_loopw [4, 6] (fun v4 v6 ws => ∃ p : Nat, p ≤ 61 ∧ v6 = .int .i64 (p : Int) ∧ ws.ownsRow w.heap.size 3 1 v4 (forTo p ll).length ((forTo p ll).map intV) ∧ Below w.heap.size w ws) (fun _ v6 _ => 61 - (intOf v6).toNat)
      case atStart => exact ⟨0, by omega, rfl, hown, hbr⟩
      case round =>
        obtain ⟨p, hp, rfl, hown, hbr⟩ := hrel
        by_cases hp60 : p ≤ 60
        · have hd60 : decide ((p : Int) ≤ 60) = true := decide_eq_true (by omega)
          go_wp2_with fail
          go_loopw [7, 8] (fun v7 v8 wx => ∃ k : Nat, k ≤ ll.length ∧ v8 = .int .i64 (k : Int) ∧ v7 = .bool (usedN (ll.take k) (p : Int)) ∧ wx = wr) (fun _ v8 _ => ll.length - (intOf v8).toNat)
          case atStart => exact ⟨0, Nat.zero_le _, rfl, rfl, rfl⟩
          case round =>
            obtain ⟨k, hk, rfl, rfl, rfl⟩ := hrel
            by_cases hltk : k < ll.length
            · obtain ⟨t, ht⟩ : ∃ t, ll[k]? = some t := ⟨_, List.getElem?_eq_getElem hltk⟩
              obtain ⟨b1, o1, c1, u, -, hv1, x1, hu⟩ := (h.below hbr).cell ht
              simp only [Value.slice.injEq, true_and] at hv1
              obtain ⟨rfl, rfl⟩ := hv1
              have HS := Lib.hid (usedN_succ (p : Int) ht)
              have ht40 := (tuneB_true.1 (HALL.out t (List.mem_of_getElem? ht))).1
              obtain ⟨a2, cap2, rfl⟩ := Rd.slice hu
              have hdk : decide ((k : Int) < (ll.length : Int)) = true := decide_eq_true (by omega)
              clear ht
              generalize usedN (ll.take k) (p : Int) = ub at *
              go_wp2_with fail
              go_loopw [7, 9] (fun v7 v9 wx => ∃ i : Nat, i ≤ t.length ∧ v9 = .int .i64 (i : Int) ∧ v7 = .bool (ub || hasP (t.take i) (p : Int)) ∧ wx = wr) (fun _ v9 _ => t.length - (intOf v9).toNat)
              case atStart => exact ⟨0, Nat.zero_le _, rfl, by simp [hasP], rfl⟩
              case round =>
                obtain ⟨i, hi', rfl, rfl, rfl⟩ := hrel
                by_cases hlti : i < t.length
                · obtain ⟨q, hq⟩ : ∃ q, t[i]? = some q := ⟨_, List.getElem?_eq_getElem hlti⟩
                  obtain ⟨b2, o2, c2, hv2, x2, y2⟩ := Rd2.cells hu hq
                  simp only [Value.slice.injEq, true_and] at hv2
                  obtain ⟨rfl, rfl⟩ := hv2
                  have HS2 := Lib.hid (hasP_succ (p : Int) hq)
                  clear hq
                  generalize hasP (t.take i) (p : Int) = hb at *
                  cases hub : (ub || hb)
                  · go_wp2
                    go_roundw
                    case rel => exact ⟨i + 1, by omega, by go_num, by rw [HS2.out, ← Bool.or_assoc, hub]; by_cases h : q.2 = (p : Int) <;> simp [h], trivial⟩
                    case measure => simp [intOf]; omega
                  · go_wp2
                    go_roundw
                    case rel => exact ⟨i + 1, by omega, by go_num, by rw [HS2.out, ← Bool.or_assoc, hub]; simp, trivial⟩
                    case measure => simp [intOf]; omega
                · obtain rfl : i = t.length := by omega
                  have hfull : t.take t.length = t := List.take_length
                  rw [hfull, ← HS.out]
                  clear hfull
                  go_wp2
                  go_roundw
                  case rel => exact ⟨k + 1, by omega, by go_num, rfl, trivial⟩
                  case measure => simp [intOf]; omega
            · obtain rfl : k = ll.length := by omega
              have hfull : ll.take ll.length = ll := List.take_length
              rw [hfull]
              clear hfull
              by_cases hu : usedN ll (p : Int) = true
              · have HA := Lib.hid (forTo_yes hu)
                have hml := forTo_len p ll
                rw [hu]
                clear hu
                go_wp2_with (at_builtin; refine wpList_append_own _ rfl _ _ 40 rfl w.heap.size 3 i0 (.int .i64 0) 1 8 Try.underlying40 hi hz0 hz1 hz2 rfl (by decide) _ (forTo p ll).length _ rfl (hown.alloc _) ⟨wr.heap.size, 0, none⟩ 1 1 [.int .i64 (p : Int)] rfl rfl ?c1 ?c2 ?c3 ?c4 ?c5 ?_)
                case c1 => first | exact World.news_of_block (heap_alloc_new wr _) | exact fun _ _ h => h
                case c2 => simp [Value.oneCell']
                case c3 => unfold maxLen; omega
                case c4 => omega
                case c5 => have := hbr.size; simp; omega
                intro v' w4 hown4 hgrow _
                have hb4 := (hbr.alloc hbr.size _).grown hgrow (by have := hbr.size; simp; omega) (fun q hq => (hown.lt q hq).1)
                have hown5 : w4.ownsRow w.heap.size 3 1 v' (forTo (p + 1) ll).length ((forTo (p + 1) ll).map intV) := by
                  rw [HA.out, List.map_append, List.length_append]; exact hown4
                clear hown hown4 hgrow hbr hml
                go_wp2
                go_roundw
                case rel => exact ⟨p + 1, by omega, by go_num, hown5, hb4⟩
                case measure => simp [intOf]; omega
              · have hu' : usedN ll (p : Int) = false := by simpa using hu
                have HN := Lib.hid (forTo_no hu')
                rw [hu']
                clear hu hu'
                go_wp2
                go_roundw
                case rel => exact ⟨p + 1, by omega, by go_num, by rw [HN.out]; exact hown, hbr⟩
                case measure => simp [intOf]; omega
        · obtain rfl : p = 61 := by omega
          have HR := Lib.hid (Rd.of_own hown : Rd1 wr u4 (forTo 61 ll))
          by_cases hc : combB (forTo 61 ll) = true
          · have HC := Lib.hid hc
            have HM := Lib.hid (forM_yes HALL.out hc)
            clear hc
            go_wp2_with fail
            refine (combok_yes HR.out HC.out).mono ?_
            rintro e w2 ⟨rfl, hb2⟩
            have ho2 := ownS_below hown hb2
            have g2 := bstep hbr hb2
            go_wp2
            go_ret2
            rw [HM.out]
            exact ⟨_, rfl, ho2, g2⟩
          · have HC := Lib.hid (show combB (forTo 61 ll) = false by simpa using hc)
            have HM := Lib.hid (forM_no (ll := ll) fun k => hc k.2)
            clear hc
            go_wp2_with fail
            refine (combok_no HR.out HC.out).mono ?_
            rintro e w2 ⟨rfl, hb2⟩
            have g2 := bstep hbr hb2
            have ho3 : (w2.alloc (.cells #[] 3)).ownsRow w.heap.size 3 1 (.slice (some ⟨w2.heap.size, 0, none⟩) 0 0) 0 [] := World.ownsRow_made w2 #[] 0 g2.size (by simp) rfl
            have g3 : Below w.heap.size w (w2.alloc (.cells #[] 3)) := g2.alloc g2.size _
            go_wp2
            go_ret2
            rw [HM.out]
            exact ⟨_, rfl, ho3, g3⟩
end Go.Proofs.Ytkciolegfonabaa
