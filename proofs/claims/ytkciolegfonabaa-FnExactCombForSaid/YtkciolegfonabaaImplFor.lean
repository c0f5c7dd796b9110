/- The contract of the program's CombFor, at tunes of at most 1048576 notes together. -/
import Derived.Test.YtkciolegfonabaaCombForSpec
import Derived.Test.YtkciolegfonabaaNestOps
import Derived.Test.YtkciolegfonabaaImplMiss
namespace Go.Proofs.Ytkciolegfonabaa
open Go.ChangeShapes Go.WideShapes Go.ChangeAt Go.RowKit

theorem for_asc_any (k : Nat) (ll : List (List (Int × Int))) : (forTo k ll).Pairwise fun a b => a < b := by
  unfold forTo
  exact List.pairwise_map.2 ((List.pairwise_lt_range (n := k)).filter _ |>.imp fun h => Int.ofNat_lt.2 h)
theorem for_is {ll : List (List (Int × Int))} {ss : List Int} (ht : ∀ t ∈ ll, tuneB t = true) (h1 : ss.Pairwise fun a b => a < b) (h2 : ∀ x, x ∈ ss ↔ usedN ll x = true) : ss = forTo 61 ll := by
  refine asc_ext h1 (for_asc_any _ _) fun x => ?_
  rw [h2]
  unfold forTo
  rw [List.mem_map]
  constructor
  · intro h
    obtain ⟨t, hm, hh⟩ := usedN_iff.1 h
    obtain ⟨b1, b2⟩ := has_bd (ht t hm) hh
    have e : ((x.toNat : Nat) : Int) = x := by omega
    exact ⟨x.toNat, List.mem_filter.2 ⟨List.mem_range.2 (by omega), by rw [e]; exact h⟩, e⟩
  · rintro ⟨p, hp, rfl⟩
    exact (List.mem_filter.1 hp).2

set_option maxHeartbeats 4000000 in
set_option maxRecDepth 100000 in
theorem ifor_any {w : World} {v : Value} {us : List Value} {ll : List (List (Int × Int))} (h : RdN w v us ll) (hl : lensN ll ≤ 1048576) :
    Calls Try.prog 35 #[v] w (NewIntsB w (forM ll).1 (forM ll).2) := by
  obtain ⟨a1, cap1, rfl⟩ := h.slice
  have hm := h.len
  unfold maxLen at hm
  have hmm := @run_makeMap Try.prog
  have HS0 := Lib.hid (pset_eq (q := fun x => usedN (ll.take 0) x) (m := lensN (ll.take 0)) (pset_made w) (by omega) (fun x => by simp [usedN]))
  have hb0 : Below w.heap.size w (w.alloc (.map #[] 0)) := (Below.refl _ _).alloc (Nat.le_refl _) _
  go_enter Try.func35, Try.ntmps35
  go_wp2_with fail
  go_loopw [11] (fun v11 wr => ∃ k : Nat, k ≤ ll.length ∧ v11 = .int .i64 (k : Int) ∧ Below w.heap.size w wr ∧ Hid (PSet wr w.heap.size (lensN (ll.take k)) (fun x => usedN (ll.take k) x)) ∧ Hid (∀ (i : Nat) (t : List (Int × Int)), i < k → ll[i]? = some t → tuneB t = true)) (fun v11 _ => ll.length - (Go.RowKit.intOf v11).toNat)
  case atStart => exact ⟨0, Nat.zero_le _, rfl, hb0, HS0, Lib.hid fun i t hi => by omega⟩
  case round =>
    obtain ⟨k, hk, rfl, hbr, HS, HT⟩ := hrel
    clear hb0 HS0
    by_cases hlt : k < ll.length
    · obtain ⟨t, ht⟩ : ∃ t, ll[k]? = some t := ⟨_, List.getElem?_eq_getElem hlt⟩
      have HTT := Lib.hid ht
      obtain ⟨b1, o1, c1, u, hus, hv1, x1, hu⟩ := (h.below hbr).cell ht
      have hu0 : Rd2 w u t := h.2.2 k u t hus ht
      simp only [Value.slice.injEq, true_and] at hv1
      obtain ⟨rfl, rfl⟩ := hv1
      have hlen : lensN (ll.take k) + t.length ≤ 2000000 := by have h1 := lensN_succ ht; have h2 := lensN_le ll (k + 1); omega
      have HLN := Lib.hid (lensN_succ ht)
      have HU := Lib.hid (fun x => usedN_succ x ht)
      clear ht hus
      by_cases tt : tuneB t = true
      · have HN : Hid (∀ (i : Nat) (t : List (Int × Int)), i < k + 1 → ll[i]? = some t → tuneB t = true) := Lib.hid fun i s hi hs => by
          by_cases hik : i < k
          · exact HT.out i s hik hs
          · obtain rfl : i = k := by omega
            rw [HTT.out] at hs
            obtain rfl := Option.some.inj hs
            exact tt
        have TT := Lib.hid tt
        clear tt
        go_wp2_with fail
        refine (itune_yes hu TT.out).mono ?_
        rintro e w2 ⟨rfl, hb2⟩
        have hbr2 := bstep hbr hb2
        have HS2 := Lib.hid (pset_below HS.out hb2)
        clear hb2 hbr x1 hu HS
        go_wp2_with fail
        refine (add_any hu0 hbr2 (Nat.le_refl _) HS2.out hlen (tune_wf TT.out)).mono ?_
        rintro e w3 ⟨rfl, hs3, g3⟩
        have HS3 := Lib.hid (pset_eq (q := fun x => usedN (ll.take (k + 1)) x) (m := lensN (ll.take (k + 1))) hs3 (by rw [HLN.out]; exact Nat.le_refl _) (fun x => (HU.out x).symm))
        clear hs3 HS2 hbr2
        go_wp2
        go_roundw
        case rel => exact ⟨k + 1, by omega, by go_num, g3, HS3, HN⟩
        case measure => simp [Go.RowKit.intOf]; omega
      · have TT := Lib.hid (show tuneB t = false by simpa using tt)
        have HM := Lib.hid (forM_no (ll := ll) fun hh => tt (hh.1 t (List.mem_of_getElem? HTT.out)))
        clear tt
        go_wp2_with fail
        refine (itune_no hu TT.out).mono ?_
        rintro e w2 ⟨rfl, hb2⟩
        have hbr2 := bstep hbr hb2
        clear hb2 hbr x1 hu
        go_wp2
        go_ret2
        rw [HM.out]
        exact ⟨_, rfl, World.ownsRow_nil _ _ _ _, hbr2⟩
    · obtain rfl : k = ll.length := by omega
      have HALL : Hid (∀ t ∈ ll, tuneB t = true) := Lib.hid fun t ht => by
        obtain ⟨i, hi⟩ := List.mem_iff_getElem?.1 ht
        exact HT.out i t (List.getElem?_eq_some_iff.1 hi).1 hi
      have hle := lensN_le ll ll.length
      have hfull : ll.take ll.length = ll := List.take_length
      rw [hfull] at HS
      clear HT hfull
      go_wp2_with fail
      refine (sorted_any HS.out (by rw [List.take_length] at hle; omega)).mono ?_
      rintro e w5 ⟨v5, ss, rfl, hr, hb5, hp, hmem⟩
      have g5 := bstep hbr hb5
      have hr5 := ownsRow_base_a hr hbr.size
      have hss := for_is HALL.out hp hmem
      subst hss
      clear HS hbr hb5 hr hp hmem hle
      go_wp2_with fail
      by_cases tc : combB (forTo 61 ll) = true
      · have HM := Lib.hid (forM_yes HALL.out tc)
        refine (icomb_yes (Rd.of_own hr5) tc).mono ?_
        rintro e w6 ⟨rfl, hb6⟩
        have hr6 := ownS_below hr5 hb6
        have g6 := bstep g5 hb6
        clear tc hb6 g5 hr5
        go_wp2
        go_ret2
        rw [HM.out]
        exact ⟨_, rfl, hr6, g6⟩
      · have HM := Lib.hid (forM_no (ll := ll) fun hh => tc hh.2)
        refine (icomb_no (Rd.of_own hr5) (by simpa using tc)).mono ?_
        rintro e w6 ⟨rfl, hb6⟩
        have g6 := bstep g5 hb6
        clear tc hb6 g5 hr5
        go_wp2
        go_ret2
        rw [HM.out]
        exact ⟨_, rfl, World.ownsRow_nil _ _ _ _, g6⟩
theorem iforT_any {w : World} {v : Value} {ll : List (List (Int × Int))} (h : RdT w v ll) (hl : bulkN ll ≤ 1048576) :
    Calls Try.prog 35 #[v] w (NewIntsB w (forM ll).1 (forM ll).2) := by
  obtain ⟨us, k⟩ := h
  exact ifor_any k (bulk_parts hl).1
end Go.Proofs.Ytkciolegfonabaa
