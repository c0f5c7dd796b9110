/- The contracts of chapter 16's program: IsSweet (a package-level array), isSweetWith, IsChord, HarshPairs, SweetFor. No condition. Made by gen_chord.py. -/
import Derived.Test.YtceebblokibapaaDoorStepSpec
import Derived.Test.YtceebblokibapaaDoorImplTune
import Derived.Test.YtceebblokibapaaDoorIntRows
import Derived.Test.YtceebblokibapaaDoorRdCap
import Derived.Test.YtceebblokibapaaDoorArrAt
import Derived.Test.YtceebblokibapaaDoorChordSpec
namespace Go.Proofs.YtceebblokibapaaDoor
open Go.ChangeShapes Go.WideShapes Go.ChangeAt Go.RowKit

theorem sweetI_any {w : World} (hE : TabAt w) (a b : Int) :
    Calls Tryd.prog 13 #[.int .i64 a, .int .i64 b] w fun e w' => e = .returned (.bool (sweetB a b)) ∧ w = w' := by
  obtain ⟨s, hs⟩ : ∃ s, stepsI a b = s := ⟨_, rfl⟩
  have HT := stepI_any (w := w) a b
  rw [hs] at HT
  replace HT := Lib.hid HT
  by_cases h0 : 0 ≤ s
  · obtain ⟨n, rfl⟩ := Int.eq_ofNat_of_zero_le h0
    have h6 : n ≤ 6 := by have := (stepsI_range a b).2; omega
    have hx := sweetL_is (a := a) (b := b) (by rw [hs]; omega)
    rw [hs, Int.toNat_natCast] at hx
    have hc : w.cell? ⟨0, n, none⟩ = some (.bool (sweetB a b)) := hE.flag hx
    generalize sweetB a b = c at *
    clear hs hx hE
    go_enter Tryd.func13, Tryd.ntmps13
    go_wp2_with fail
    refine HT.out.mono ?_
    rintro e w1 ⟨rfl, rfl⟩
    go_wp2
    go_ret
    exact ⟨rfl, rfl⟩
  · have hc : Hid (sweetB a b = false) := Lib.hid (sweetB_no (by rw [hs]; have := (stepsI_range a b).1; omega))
    clear hs hE
    go_enter Tryd.func13, Tryd.ntmps13
    go_wp2_with fail
    refine HT.out.mono ?_
    rintro e w1 ⟨rfl, rfl⟩
    go_wp2
    go_ret
    exact ⟨by rw [hc.out]; rfl, rfl⟩
theorem sweetI_is {w : World} {a b : Int} {c : Bool} (hE : TabAt w) (h : sweetB a b = c) :
    Calls Tryd.prog 13 #[.int .i64 a, .int .i64 b] w fun e w' => e = .returned (.bool c) ∧ w = w' :=
  (sweetI_any hE a b).mono fun _ _ ⟨he, hw⟩ => ⟨by rw [he, h], hw⟩

theorem withI_any {w : World} {v : Value} {l : List Int} (hE : TabAt w) (p : Int) (h : Rd1 w v l) :
    Calls Tryd.prog 33 #[.int .i64 p, v] w fun e w' => e = .returned (.bool (swAll p l)) ∧ w = w' := by
  obtain ⟨a1, cap1, rfl⟩ := Rd.slice h
  have hm := h.2.1
  unfold maxLen at hm
  have HE := Lib.hid hE
  clear hE
  go_enter Tryd.func33, Tryd.ntmps33
  go_wp2_with fail
  go_loopw [9] (fun v9 wr => ∃ j : Nat, j ≤ l.length ∧ v9 = .int .i64 j ∧ w = wr ∧ Hid (∀ (k : Nat) (a : Int), k < j → l[k]? = some a → sweetB p a = true)) (fun v9 _ => l.length - (intOf v9).toNat)
  case atStart => exact ⟨0, Nat.zero_le _, rfl, rfl, Lib.hid (fun k a hk => by omega)⟩
  case round =>
    obtain ⟨j, hj, rfl, rfl, HI⟩ := hrel
    by_cases hlt : j < l.length
    · obtain ⟨q, hq⟩ : ∃ q, l[j]? = some q := ⟨_, List.getElem?_eq_getElem hlt⟩
      have HQ := Lib.hid hq
      obtain ⟨b1, o1, c1, hv1, x1⟩ := Rd1.cell h hq
      simp only [Value.slice.injEq, true_and] at hv1
      obtain ⟨rfl, rfl⟩ := hv1
      clear hq
      by_cases hs : sweetB p q = true
      · have HK : Hid (∀ (k : Nat) (a : Int), k < j + 1 → l[k]? = some a → sweetB p a = true) := Lib.hid (fun k a hk ha => by
          by_cases hkj : k < j
          · exact HI.out k a hkj ha
          · obtain rfl : k = j := by omega
            have := HQ.out; rw [this] at ha
            obtain rfl := Option.some.inj ha
            exact hs)
        have HS := Lib.hid hs
        clear hs
        go_wp2_with fail
        refine (sweetI_is HE.out HS.out).mono ?_
        rintro e w1 ⟨rfl, rfl⟩
        go_wp2
        go_roundw
        case rel => exact ⟨j + 1, by omega, by go_num, by first | trivial | rfl, HK⟩
        case measure => simp [intOf]; omega
      · have HS : Hid (sweetB p q = false) := Lib.hid (by simpa using hs)
        have HB := Lib.hid (swAll_false HQ.out HS.out)
        clear hs
        go_wp2_with fail
        refine (sweetI_is HE.out HS.out).mono ?_
        rintro e w1 ⟨rfl, rfl⟩
        go_wp2
        go_ret
        exact ⟨by rw [HB.out]; rfl, rfl⟩
    · obtain rfl : j = l.length := by omega
      have HB : Hid (swAll p l = true) := Lib.hid (swAll_true.2 fun k a hk => HI.out k a (List.getElem?_eq_some_iff.1 hk).1 hk)
      go_wp2
      go_ret
      exact ⟨by rw [HB.out]; rfl, rfl⟩
theorem withI_is {w : World} {v : Value} {l : List Int} {p : Int} {c : Bool} (hE : TabAt w) (h : Rd1 w v l) (hc : swAll p l = c) :
    Calls Tryd.prog 33 #[.int .i64 p, v] w fun e w' => e = .returned (.bool c) ∧ w = w' :=
  (withI_any hE p h).mono fun _ _ ⟨he, hw⟩ => ⟨by rw [he, hc], hw⟩

set_option maxHeartbeats 1000000 in
theorem chordI_any {w : World} {v : Value} {l : List Int} (hE : TabAt w) (hc : Rc1 w v l) :
    Calls Tryd.prog 18 #[v] w fun e w' => e = .returned (.bool (chordB l)) ∧ w = w' := by
  have h := hc.1
  obtain ⟨a1, cap1, rfl⟩ := Rd.slice h
  have hcap := hc.2.le
  have hm := h.2.1
  unfold maxLen at hm
  have HE := Lib.hid hE
  clear hE hc
  by_cases h0 : l.length = 0
  · have HC : Hid (chordB l = false) := Lib.hid (chordB_false.2 fun k => k.1 (List.length_eq_zero_iff.1 h0))
    have hz : ((l.length : Int) == 0) = true := by rw [beq_iff_eq]; omega
    go_enter Tryd.func18, Tryd.ntmps18
    go_wp2
    go_ret
    exact ⟨by rw [HC.out]; rfl, rfl⟩
  · have hz : ((l.length : Int) == 0) = false := by rw [beq_eq_false_iff_ne]; omega
    by_cases ht : togB l = true
    · have HT := Lib.hid ht
      have h8 : l.length ≤ 8 := (togB_true.1 ht).1
      clear ht
      go_enter Tryd.func18, Tryd.ntmps18
      go_wp2_with fail
      refine (togI_any h).mono ?_
      rintro e w1 ⟨rfl, rfl⟩
      rw [HT.out]
      go_wp2_with fail
      go_loopw [15] (fun v15 wr => ∃ i : Nat, i ≤ l.length ∧ v15 = .int .i64 i ∧ w = wr ∧ Hid (∀ (p : Nat) (a : Int), p < i → l[p]? = some a → ∀ (k : Nat) (b : Int), k < p → l[k]? = some b → sweetB a b = true)) (fun v15 _ => l.length - (intOf v15).toNat)
      case atStart => exact ⟨0, Nat.zero_le _, rfl, rfl, Lib.hid (fun p a hp => by omega)⟩
      case round =>
        obtain ⟨i, hi, rfl, rfl, HI⟩ := hrel
        by_cases hlt : i < l.length
        · obtain ⟨a, ha⟩ : ∃ a, l[i]? = some a := ⟨_, List.getElem?_eq_getElem hlt⟩
          have HA := Lib.hid ha
          obtain ⟨b1, o1, c1, hv1, x1⟩ := Rd1.cell h ha
          simp only [Value.slice.injEq, true_and] at hv1
          obtain ⟨rfl, rfl⟩ := hv1
          clear ha
          have hci : i ≤ cap1 := by omega
          have HP := Lib.hid (fun c2 => rd1_pre (c2 := c2) h (k := i) (by omega))
          by_cases hs : swAll a (l.take i) = true
          · have HK : Hid (∀ (p : Nat) (a : Int), p < i + 1 → l[p]? = some a → ∀ (k : Nat) (b : Int), k < p → l[k]? = some b → sweetB a b = true) := Lib.hid (fun p c hp hc k b hk hb => by
              by_cases hpi : p < i
              · exact HI.out p c hpi hc k b hk hb
              · obtain rfl : p = i := by omega
                have := HA.out; rw [this] at hc
                obtain rfl := Option.some.inj hc
                exact swAll_true.1 hs k b (by rw [List.getElem?_take, if_pos hk]; exact hb))
            have HS := Lib.hid hs
            clear hs
            go_wp2_with fail
            refine (withI_is HE.out (HP.out _) HS.out).mono ?_
            rintro e w1 ⟨rfl, rfl⟩
            go_wp2
            go_roundw
            case rel => exact ⟨i + 1, by omega, by go_num, by first | trivial | rfl, HK⟩
            case measure => simp [intOf]; omega
          · have HS : Hid (swAll a (l.take i) = false) := Lib.hid (by simpa using hs)
            have HC : Hid (chordB l = false) := Lib.hid (chordB_false.2 fun k => hs (swAll_true.2 fun q b hb => by
              rw [List.getElem?_take] at hb
              split at hb
              · exact k.2.2 i a HA.out q b (by assumption) hb
              · cases hb))
            clear hs
            go_wp2_with fail
            refine (withI_is HE.out (HP.out _) HS.out).mono ?_
            rintro e w1 ⟨rfl, rfl⟩
            go_wp2
            go_ret
            exact ⟨by rw [HC.out]; rfl, rfl⟩
        · obtain rfl : i = l.length := by omega
          have HC : Hid (chordB l = true) := Lib.hid (chordB_true.2 ⟨fun k => by rw [k] at h0; exact h0 rfl, togB_true.1 HT.out, fun p a hp => HI.out p a (List.getElem?_eq_some_iff.1 hp).1 hp⟩)
          go_wp2
          go_ret
          exact ⟨by rw [HC.out]; rfl, rfl⟩
    · have HT : Hid (togB l = false) := Lib.hid (by simpa using ht)
      have HC : Hid (chordB l = false) := Lib.hid (chordB_false.2 fun k => togB_false.1 HT.out k.2.1)
      clear ht
      go_enter Tryd.func18, Tryd.ntmps18
      go_wp2_with fail
      refine (togI_any h).mono ?_
      rintro e w1 ⟨rfl, rfl⟩
      rw [HT.out]
      go_wp2
      go_ret
      exact ⟨by rw [HC.out]; rfl, rfl⟩

theorem chordI_below {w : World} {v : Value} {l : List Int} (hE : TabAt w) (hc : Rc1 w v l) :
    Calls Tryd.prog 18 #[v] w fun e w' => e = .returned (.bool (chordB l)) ∧ Below w.heap.size w w' :=
  (chordI_any hE hc).mono fun _ _ ⟨he, hw⟩ => ⟨he, by rw [← hw]; exact Below.refl _ _⟩

set_option maxHeartbeats 2000000 in
theorem sfI_any {w : World} {v : Value} {l : List Int} (hE : TabAt w) (lo hi : Int) (h : Rd1 w v l) :
    Calls Tryd.prog 11 #[v, .int .i64 lo, .int .i64 hi] w (NewInts w (sweetForL l lo hi)) := by
  obtain ⟨a1, cap1, rfl⟩ := Rd.slice h
  have hm := h.2.1
  unfold maxLen at hm
  obtain ⟨i0, hi0, hz0, hz1, hz2⟩ := info_parts infoInt
  have HE := Lib.hid hE
  clear hE
  by_cases ht : togB l = true
  · have HT := Lib.hid ht
    by_cases hlo : 0 ≤ lo ∧ lo ≤ 60
    · have HLO := Lib.hid hlo
      by_cases hhi : 0 ≤ hi ∧ hi ≤ 60
      · have HR := Lib.hid (sweetForL_yes ⟨togB_true.1 ht, hlo, hhi⟩)
        have HHI := Lib.hid hhi
        have h8 : l.length ≤ 8 := (togB_true.1 ht).1
        clear ht
        go_enter Tryd.func11, Tryd.ntmps11
        go_wp2_with fail
        refine (togI_any h).mono ?_
        rintro e w1 ⟨rfl, rfl⟩
        rw [HT.out]
        go_wp2_with fail
        refine (pitI_yes _ HLO.out _).mono ?_
        rintro e w1 ⟨rfl, rfl⟩
        go_wp2_with fail
        refine (pitI_yes _ HHI.out _).mono ?_
        rintro e w1 ⟨rfl, rfl⟩
        go_wp2_with fail
        go_loopw [7, 8] (fun v7 v8 wr => ∃ n : Nat, n ≤ (hi - lo + 1).toNat ∧ v8 = .int .i64 (lo + (n : Int)) ∧ wr.ownsRow w.heap.size 3 1 v7 (sfL l lo n).length ((sfL l lo n).map intV) ∧ Below w.heap.size w wr) (fun _ v8 _ => (hi + 1 - intOf v8).toNat)
        case atStart => exact ⟨0, Nat.zero_le _, by simp, ⟨rfl, Or.inl ⟨rfl, rfl⟩⟩, Below.refl _ _⟩
        case round =>
          obtain ⟨n, hn, rfl, hown, hbr⟩ := hrel
          by_cases hlt : lo + (n : Int) ≤ hi
          · have hw1 : IntKind.i64.wrap (lo + (n : Int) + 1) = lo + (n : Int) + 1 := IntWalk.i64_in _ (by omega)
            have hlen := sfL_len l lo n
            have HY := Lib.hid (sfL_yes (l := l) (lo := lo) (n := n))
            have HN := Lib.hid (sfL_no (l := l) (lo := lo) (n := n))
            obtain ⟨p, hp⟩ : ∃ p, p = lo + (n : Int) := ⟨_, rfl⟩
            rw [← hp] at HY HN hw1 hlt ⊢
            have HP := Lib.hid hp
            clear hp
            have HW := Lib.hid (withI_any (w := wr) (HE.out.below hbr) p (Rd.below h hbr))
            generalize swAll p l = c at HY HN HW
            go_wp2_with fail
            refine HW.out.mono ?_
            rintro e w1 ⟨rfl, rfl⟩
            clear HW
            cases c with
            | true =>
              have HA := Lib.hid (HY.out rfl)
              go_wp2_with (at_builtin; refine wpList_append_own _ rfl _ _ 26 rfl w.heap.size 3 i0 (.int .i64 0) 1 8 Tryd.underlying26 hi0 hz0 hz1 hz2 rfl (by decide) _ (sfL l lo n).length _ rfl (hown.alloc _) ⟨wr.heap.size, 0, none⟩ 1 1 [.int .i64 p] rfl rfl ?c1 ?c2 ?c3 ?c4 ?c5 ?_)
              try (case c1 => first | exact World.news_of_block (heap_alloc_new wr _) | exact fun _ _ h => h)
              case c2 => simp [Value.oneCell']
              case c3 => unfold maxLen; omega
              case c4 => omega
              case c5 => have := hbr.size; simp; omega
              intro v' w2 hown2 hgrow _
              have hb2 := (hbr.alloc hbr.size _).grown hgrow (by have := hbr.size; simp; omega) (fun q hq => (hown.lt q hq).1)
              have hown3 : w2.ownsRow w.heap.size 3 1 v' (sfL l lo (n + 1)).length ((sfL l lo (n + 1)).map intV) := by
                rw [HA.out, List.map_append, List.length_append]; exact hown2
              clear hown hown2 hgrow hbr
              go_wp2
              go_roundw
              case rel => exact ⟨n + 1, by have hp := HP.out; omega, by have hp := HP.out; clear HP HY HN; subst hp; go_num, hown3, hb2⟩
              case measure => have hp := HP.out; simp [intOf]; omega
            | false =>
              have HA := Lib.hid (HN.out rfl)
              have hown3 : wr.ownsRow w.heap.size 3 1 u7 (sfL l lo (n + 1)).length ((sfL l lo (n + 1)).map intV) := by
                rw [HA.out]; exact hown
              clear hown
              go_wp2
              go_roundw
              case rel => exact ⟨n + 1, by have hp := HP.out; omega, by have hp := HP.out; clear HP HY HN; subst hp; go_num, hown3, hbr⟩
              case measure => have hp := HP.out; simp [intOf]; omega
          · obtain rfl : n = (hi - lo + 1).toNat := by omega
            go_wp2
            go_ret
            exact ⟨_, rfl, by rw [HR.out]; exact hown, hbr⟩
      · have HHI := Lib.hid hhi
        clear ht
        have HR := Lib.hid (sweetForL_no (l := l) (lo := lo) (hi := hi) fun k => hhi k.2.2)
        go_enter Tryd.func11, Tryd.ntmps11
        go_wp2_with fail
        refine (togI_any h).mono ?_
        rintro e w1 ⟨rfl, rfl⟩
        rw [HT.out]
        go_wp2_with fail
        refine (pitI_yes _ HLO.out _).mono ?_
        rintro e w1 ⟨rfl, rfl⟩
        go_wp2_with fail
        refine (pitI_no _ HHI.out _).mono ?_
        rintro e w1 ⟨rfl, rfl⟩
        go_wp2
        go_ret
        exact ⟨_, rfl, by rw [HR.out]; exact ⟨rfl, Or.inl ⟨rfl, rfl⟩⟩, Below.refl _ _⟩
    · have HLO := Lib.hid hlo
      clear ht
      have HR := Lib.hid (sweetForL_no (l := l) (lo := lo) (hi := hi) fun k => hlo k.2.1)
      go_enter Tryd.func11, Tryd.ntmps11
      go_wp2_with fail
      refine (togI_any h).mono ?_
      rintro e w1 ⟨rfl, rfl⟩
      rw [HT.out]
      go_wp2_with fail
      refine (pitI_no _ HLO.out _).mono ?_
      rintro e w1 ⟨rfl, rfl⟩
      go_wp2
      go_ret
      exact ⟨_, rfl, by rw [HR.out]; exact ⟨rfl, Or.inl ⟨rfl, rfl⟩⟩, Below.refl _ _⟩
  · have HT : Hid (togB l = false) := Lib.hid (by simpa using ht)
    clear ht
    have HR := Lib.hid (sweetForL_no (l := l) (lo := lo) (hi := hi) fun k => togB_false.1 HT.out k.1)
    go_enter Tryd.func11, Tryd.ntmps11
    go_wp2_with fail
    refine (togI_any h).mono ?_
    rintro e w1 ⟨rfl, rfl⟩
    rw [HT.out]
    go_wp2
    go_ret
    exact ⟨_, rfl, by rw [HR.out]; exact ⟨rfl, Or.inl ⟨rfl, rfl⟩⟩, Below.refl _ _⟩

set_option maxHeartbeats 2000000 in
theorem harshI_any {w : World} {v : Value} {l : List (Int × Int)} (hE : TabAt w) (hc : Rc2 w v l) :
    Calls Tryd.prog 15 #[v] w fun e w' => e = .returned (.int .i64 (harshI l)) ∧ Below w.heap.size w w' := by
  have h := hc.1
  obtain ⟨a1, cap1, rfl⟩ := Rd.slice h
  have hcap := hc.2.le
  have hm := h.2.1
  unfold maxLen at hm
  have HE := Lib.hid hE
  clear hE hc
  by_cases ht : tuneB l = true
  · have HT := Lib.hid ht
    have h40 : l.length ≤ 40 := (tuneB_true.1 ht).1
    have HR : Hid (harshI l = (harshN l l.length : Int)) := Lib.hid (by unfold harshI; rw [if_pos HT.out])
    clear ht
    go_enter Tryd.func15, Tryd.ntmps15
    go_wp2_with fail
    refine (itune_yes h HT.out).mono ?_
    rintro e w1 ⟨rfl, hb1⟩
    go_wp2_with fail
    go_loopw [3, 13] (fun v3 v13 wr => ∃ i : Nat, i ≤ l.length ∧ v13 = .int .i64 i ∧ v3 = .int .i64 (harshN l i : Int) ∧ Below w.heap.size w wr) (fun _ v13 _ => l.length - (intOf v13).toNat)
    case atStart => exact ⟨0, Nat.zero_le _, rfl, rfl, hb1⟩
    case round =>
      obtain ⟨i, hi, rfl, rfl, hbr⟩ := hrel
      clear hb1
      by_cases hlt : i < l.length
      · obtain ⟨a, ha⟩ : ∃ a, l[i]? = some a := ⟨_, List.getElem?_eq_getElem hlt⟩
        have HA := Lib.hid ha
        have HN := Lib.hid (harshN_step ha)
        have hle := harshN_le l i (by omega)
        obtain ⟨b1, o1, c1, hv1, x1, y1⟩ := Rd2.cells (Rd.below h hbr) ha
        simp only [Value.slice.injEq, true_and] at hv1
        obtain ⟨rfl, rfl⟩ := hv1
        clear ha
        have hci : i ≤ cap1 := by omega
        generalize hg : harshN l i = n0 at *
        clear hg
        obtain ⟨k1, k2, kb, kw⟩ : (wr.alloc (.cells #[.int .i64 a.1, .int .i64 a.2] 37)).cell? ⟨wr.heap.size, 0, none⟩ = some (.int .i64 a.1) ∧ (wr.alloc (.cells #[.int .i64 a.1, .int .i64 a.2] 37)).cell? ⟨wr.heap.size, 1, none⟩ = some (.int .i64 a.2) ∧
          Below w.heap.size w (wr.alloc (.cells #[.int .i64 a.1, .int .i64 a.2] 37)) ∧ Below wr.heap.size wr (wr.alloc (.cells #[.int .i64 a.1, .int .i64 a.2] 37)) := ⟨cell0 _ _ _ _, cell0 _ _ _ _, hbr.alloc hbr.size _, (Below.refl _ _).alloc (Nat.le_refl _) _⟩
        go_wp2_with fail
        generalize wr.alloc (.cells #[.int .i64 a.1, .int .i64 a.2] 37) = W1 at *
        generalize wr.heap.size = bA at *
        clear x1 y1
        go_loopw [3, 22] (fun v3 v22 wx => ∃ j : Nat, j ≤ i ∧ v22 = .int .i64 j ∧ v3 = .int .i64 ((n0 + harshRow l a j : Nat) : Int) ∧ Below W1.heap.size W1 wx) (fun _ v22 _ => i - (intOf v22).toNat)
        case atStart => exact ⟨0, Nat.zero_le _, rfl, rfl, Below.refl _ _⟩
        case round =>
          obtain ⟨j, hj, rfl, rfl, hbx⟩ := hrel
          by_cases hlj : j < i
          · obtain ⟨b, hb⟩ : ∃ b, l[j]? = some b := ⟨_, List.getElem?_eq_getElem (by omega)⟩
            have HB := Lib.hid hb
            have hjl : j < l.length := by omega
            have hle2 := harshRow_le l a j
            have g1 := bstep kb hbx
            obtain ⟨b2, o2, c2, hv2, x2, y2⟩ := Rd2.cells (Rd.below h g1) hb
            simp only [Value.slice.injEq, true_and, Option.some.injEq, Addr.mk.injEq, and_true] at hv2
            obtain ⟨⟨rfl, rfl⟩, rfl⟩ := hv2
            have hw1 : IntKind.i64.wrap (((n0 + harshRow l a j : Nat) : Int) + 1) = ((n0 + harshRow l a j : Nat) : Int) + 1 := IntWalk.i64_in _ (by omega)
            have HY := Lib.hid (harshRow_yes (a := a) hb)
            have HX := Lib.hid (harshRow_no (a := a) hb)
            generalize hgr : harshRow l a j = m at *
            clear hgr hb
            have z1 := Lib.cell?_alloc_some (.cells #[.int .i64 b.1, .int .i64 b.2] 37) (kept_b hbx k1)
            have z2 := Lib.cell?_alloc_some (.cells #[.int .i64 b.1, .int .i64 b.2] 37) (kept_b hbx k2)
            have z3 := cell0 wr #[.int .i64 b.1, .int .i64 b.2] 37 0
            have z4 := cell0 wr #[.int .i64 b.1, .int .i64 b.2] 37 1
            have g2 := hbx.alloc hbx.size (.cells #[.int .i64 b.1, .int .i64 b.2] 37)
            have HT2 := Lib.hid (HE.out.below (bstep kb g2))
            obtain ⟨a0, ap⟩ := a
            obtain ⟨b0, bp⟩ := b
            simp only at x2 y2 z1 z2 z3 z4 g2 HT2
            by_cases he : a0 = b0
            · subst he
              have he' : (a0 == a0) = true := beq_self_eq_true _
              by_cases hs : sweetB ap bp = true
              · have HS := Lib.hid hs
                have HZ := Lib.hid (HX.out fun k => by rw [hs] at k; exact absurd k.2 (by decide))
                clear hs HY HX hw1 hbx g1
                go_wp2_with fail
                refine (sweetI_is HT2.out HS.out).mono ?_
                rintro e w2 ⟨rfl, rfl⟩
                generalize wr.alloc (.cells #[.int .i64 a0, .int .i64 bp] 37) = W2 at *
                clear x2 y2 z1 z2 z3 z4
                go_wp2
                go_roundw
                case rel => exact ⟨j + 1, by omega, by go_num, by simp only [HZ.out] <;> first | rfl | go_num, g2⟩
                case measure => simp [intOf]; omega
              · have HS : Hid (sweetB ap bp = false) := Lib.hid (by simpa using hs)
                have HZ := Lib.hid (HY.out rfl HS.out)
                clear hs HY HX hbx g1
                go_wp2_with fail
                refine (sweetI_is HT2.out HS.out).mono ?_
                rintro e w2 ⟨rfl, rfl⟩
                generalize wr.alloc (.cells #[.int .i64 a0, .int .i64 bp] 37) = W2 at *
                clear x2 y2 z1 z2 z3 z4
                go_wp2
                go_roundw
                case rel => exact ⟨j + 1, by omega, by go_num, by rw [HZ.out]; first | go_num | rfl, g2⟩
                case measure => simp [intOf]; omega
            · have he' : (a0 == b0) = false := by rw [beq_eq_false_iff_ne]; exact he
              have HZ := Lib.hid (HX.out fun k => he k.1)
              clear HY HX hw1 he hbx g1
              go_wp2
              go_roundw
              case rel => exact ⟨j + 1, by omega, by go_num, by simp only [HZ.out] <;> first | rfl | go_num, g2⟩
              case measure => simp [intOf]; omega
          · obtain rfl : j = i := by omega
            have g1 := bstep kb hbx
            go_wp2
            go_roundw
            case rel => exact ⟨j + 1, by omega, by go_num, by simp only [HN.out] <;> first | rfl | go_num, g1⟩
            case measure => simp [intOf]; omega
      · obtain rfl : i = l.length := by omega
        go_wp2
        go_ret
        exact ⟨by rw [HR.out]; rfl, hbr⟩
  · have HT : Hid (tuneB l = false) := Lib.hid (by simpa using ht)
    have HR : Hid (harshI l = -1) := Lib.hid (by unfold harshI; rw [HT.out]; rfl)
    clear ht
    go_enter Tryd.func15, Tryd.ntmps15
    go_wp2_with fail
    refine (itune_no h HT.out).mono ?_
    rintro e w1 ⟨rfl, hb1⟩
    go_wp2
    go_ret
    exact ⟨by rw [HR.out]; rfl, hb1⟩
end Go.Proofs.YtceebblokibapaaDoor
