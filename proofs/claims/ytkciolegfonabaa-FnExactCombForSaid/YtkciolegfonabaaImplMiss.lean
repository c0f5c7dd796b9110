/- The contracts of the program's MissingPitches and CanPlay. No condition. -/
import Derived.Test.YtkciolegfonabaaImplSet
import Derived.Test.YtkciolegfonabaaImplComb
import Derived.Test.YtkciolegfonabaaImplTune
namespace Go.Proofs.Ytkciolegfonabaa
open Go.ChangeShapes Go.WideShapes Go.ChangeAt Go.RowKit

/-- Two rising lists with the same members are one. -/
theorem asc_ext {a b : List Int} (ha : a.Pairwise fun x y => x < y) (hb : b.Pairwise fun x y => x < y) (h : ∀ x, x ∈ a ↔ x ∈ b) : a = b := by
  have hp : a.Perm b := (List.perm_ext_iff_of_nodup (ha.imp fun {x y} k => by omega) (hb.imp fun {x y} k => by omega)).2 h
  refine List.Perm.eq_of_pairwise (le := fun x y => x ≤ y) (fun x y _ _ h1 h2 => Int.le_antisymm h1 h2) (ha.imp fun {x y} k => by omega) (hb.imp fun {x y} k => by omega) hp
theorem i64_small {x : Int} (h : 0 ≤ x ∧ x ≤ 60) : (Lit.int .i64 x).wf = true := by
  obtain ⟨n, rfl⟩ : ∃ n : Nat, x = (n : Int) := ⟨x.toNat, by omega⟩
  exact WalkArith.wf_i64 (by omega)
theorem tune_wf {t : List (Int × Int)} (h : tuneB t = true) : ∀ q ∈ t, (Lit.int .i64 q.2).wf = true := fun q hq => by
  obtain ⟨k, hk⟩ := List.mem_iff_getElem?.1 hq
  exact i64_small (((tuneB_true.1 h).2 _ _ hk).2.1)
theorem comb_wf {c : List Int} (h : combB c = true) : ∀ x ∈ c, (Lit.int .i64 x).wf = true := fun x hx => by
  obtain ⟨k, hk⟩ := List.mem_iff_getElem?.1 hx
  exact i64_small (((combB_true.1 h).2 _ _ hk).1)
theorem has_bd {t : List (Int × Int)} {x : Int} (h : tuneB t = true) (hx : hasP t x = true) : 0 ≤ x ∧ x ≤ 60 := by
  obtain ⟨q, hq, rfl⟩ := hasP_iff.1 hx
  obtain ⟨k, hk⟩ := List.mem_iff_getElem?.1 hq
  exact ((tuneB_true.1 h).2 _ _ hk).2.1
theorem miss_asc (k : Nat) (c : List Int) (t : List (Int × Int)) : (missTo k c t).Pairwise fun a b => a < b := by
  unfold missTo
  exact List.pairwise_map.2 ((List.pairwise_lt_range (n := k)).filter _ |>.imp fun h => Int.ofNat_lt.2 h)
theorem miss_is {c : List Int} {t : List (Int × Int)} {ss : List Int} (ht : tuneB t = true) (h1 : ss.Pairwise fun a b => a < b) (h2 : ∀ x, x ∈ ss ↔ ((false || hasP t x) && !(decide (x ∈ c))) = true) : ss = missTo 61 c t := by
  refine asc_ext h1 (miss_asc _ _ _) fun x => ?_
  rw [h2, Bool.false_or]
  unfold missTo
  rw [List.mem_map]
  constructor
  · intro h
    have hh : hasP t x = true := by rw [Bool.and_eq_true] at h; exact h.1
    obtain ⟨b1, b2⟩ := has_bd ht hh
    have e : ((x.toNat : Nat) : Int) = x := by omega
    exact ⟨x.toNat, List.mem_filter.2 ⟨List.mem_range.2 (by omega), by rw [e]; exact h⟩, e⟩
  · rintro ⟨p, hp, rfl⟩
    exact (List.mem_filter.1 hp).2

set_option maxHeartbeats 1000000 in
theorem imiss_any {w : World} {vc vt : Value} {c : List Int} {t : List (Int × Int)} (hc : Rd1 w vc c) (ht : Rd2 w vt t) :
    Calls Try.prog 29 #[vc, vt] w (NewInts w (missM c t)) := by
  obtain ⟨a1, cap1, rfl⟩ := Rd.slice hc
  obtain ⟨a2, cap2, rfl⟩ := Rd.slice ht
  by_cases tc : combB c = true
  · have TC := Lib.hid tc
    by_cases tt : tuneB t = true
    · have TT := Lib.hid tt
      have HL := Lib.hid (show missM c t = missTo 61 c t by unfold missM; rw [if_pos ⟨tc, tt⟩])
      have h40 := (tuneB_true.1 tt).1
      clear tc tt
      have hmm := @run_makeMap Try.prog
      go_enter Try.func29, Try.ntmps29
      go_wp2_with fail
      refine (icomb_yes hc TC.out).mono ?_
      rintro e w1 ⟨rfl, g1⟩
      go_wp2_with fail
      refine (itune_yes (Rd.below ht g1) TT.out).mono ?_
      rintro e w2 ⟨rfl, hb2⟩
      have g2 := bstep g1 hb2
      clear g1 hb2
      go_wp2_with fail
      refine (add_any ht (g2.alloc g2.size _) g2.size (pset_made w2) (by omega) (tune_wf TT.out)).mono ?_
      rintro e w3 ⟨rfl, hs3, g3⟩
      go_wp2_with fail
      refine (remove_any hc g3 g2.size hs3 (comb_wf TC.out)).mono ?_
      rintro e w4 ⟨rfl, hs4, g4⟩
      clear hs3 g3
      go_wp2_with fail
      refine (sorted_any hs4 (by omega)).mono ?_
      rintro e w5 ⟨v5, ss, rfl, hr, hb5, hp, hmem⟩
      have g5 := bstep g4 hb5
      have hr5 := ownsRow_base_a hr g4.size
      have hss := miss_is TT.out hp hmem
      subst hss
      clear hs4 g4 hb5 hr hp hmem
      go_wp2
      go_ret
      exact ⟨_, rfl, by rw [HL.out]; exact hr5, g5⟩
    · have TT := Lib.hid (show tuneB t = false by simpa using tt)
      have HL := Lib.hid (show missM c t = [] by unfold missM; rw [if_neg fun k => tt k.2])
      clear tc tt
      go_enter Try.func29, Try.ntmps29
      go_wp2_with fail
      refine (icomb_yes hc TC.out).mono ?_
      rintro e w1 ⟨rfl, g1⟩
      go_wp2_with fail
      refine (itune_no (Rd.below ht g1) TT.out).mono ?_
      rintro e w2 ⟨rfl, hb2⟩
      have g2 := bstep g1 hb2
      go_wp2
      go_ret
      exact ⟨_, rfl, by rw [HL.out]; exact World.ownsRow_nil _ _ _ _, g2⟩
  · have TC := Lib.hid (show combB c = false by simpa using tc)
    have HL := Lib.hid (show missM c t = [] by unfold missM; rw [if_neg fun k => tc k.1])
    clear tc
    go_enter Try.func29, Try.ntmps29
    go_wp2_with fail
    refine (icomb_no hc TC.out).mono ?_
    rintro e w1 ⟨rfl, g1⟩
    go_wp2
    go_ret
    exact ⟨_, rfl, by rw [HL.out]; exact World.ownsRow_nil _ _ _ _, g1⟩

set_option maxHeartbeats 1000000 in
theorem iplay_any {w : World} {vc vt : Value} {c : List Int} {t : List (Int × Int)} (hc : Rd1 w vc c) (ht : Rd2 w vt t) :
    Calls Try.prog 31 #[vc, vt] w fun e w' => e = .returned (.bool (playM c t)) ∧ Below w.heap.size w w' := by
  obtain ⟨a1, cap1, rfl⟩ := Rd.slice hc
  obtain ⟨a2, cap2, rfl⟩ := Rd.slice ht
  by_cases tc : combB c = true
  · have TC := Lib.hid tc
    by_cases tt : tuneB t = true
    · have TT := Lib.hid tt
      have HM := Lib.hid (show playM c t = decide ((missM c t).length = 0) by unfold playM; rw [tc, tt]; rfl)
      clear tc tt
      go_enter Try.func31, Try.ntmps31
      go_wp2_with fail
      refine (icomb_yes hc TC.out).mono ?_
      rintro e w1 ⟨rfl, hb1⟩
      go_wp2_with fail
      refine (itune_yes (Rd.below ht hb1) TT.out).mono ?_
      rintro e w2 ⟨rfl, hb2⟩
      have g2 := bstep hb1 hb2
      clear hb1 hb2
      go_wp2_with fail
      refine (imiss_any (Rd.below hc g2) (Rd.below ht g2)).mono ?_
      rintro e w3 ⟨v3, rfl, ho3, hb3⟩
      have g3 := bstep g2 hb3
      obtain ⟨a3, cap3, rfl⟩ := ownS_slice ho3
      clear ho3 hb3 g2
      generalize (missM c t).length = ln at *
      by_cases h0 : ln = 0
      · subst h0
        go_wp2
        go_ret
        exact ⟨by rw [HM.out]; rfl, g3⟩
      · have hne : ((ln : Int) == 0) = false := by rw [beq_eq_false_iff_ne]; omega
        have hd : decide (ln = 0) = false := decide_eq_false h0
        go_wp2
        go_ret
        exact ⟨by rw [HM.out, hd]; rfl, g3⟩
    · have TT := Lib.hid (show tuneB t = false by simpa using tt)
      have HM := Lib.hid (show playM c t = false by unfold playM; rw [TT.out]; simp)
      clear tc tt
      go_enter Try.func31, Try.ntmps31
      go_wp2_with fail
      refine (icomb_yes hc TC.out).mono ?_
      rintro e w1 ⟨rfl, hb1⟩
      go_wp2_with fail
      refine (itune_no (Rd.below ht hb1) TT.out).mono ?_
      rintro e w2 ⟨rfl, hb2⟩
      have g2 := bstep hb1 hb2
      go_wp2
      go_ret
      exact ⟨by rw [HM.out]; rfl, g2⟩
  · have TC := Lib.hid (show combB c = false by simpa using tc)
    have HM := Lib.hid (show playM c t = false by unfold playM; rw [TC.out]; rfl)
    clear tc
    go_enter Try.func31, Try.ntmps31
    go_wp2_with fail
    refine (icomb_no hc TC.out).mono ?_
    rintro e w1 ⟨rfl, hb1⟩
    go_wp2
    go_ret
    exact ⟨by rw [HM.out]; rfl, hb1⟩
end Go.Proofs.Ytkciolegfonabaa
