/- The contract of the program's JoinTunes. No condition. -/
import Derived.Test.YtglehmffmailkaaImplConcat
import Derived.Test.YtglehmffmailkaaImplTune
import Derived.Test.YtglehmffmailkaaChangeMath
namespace Go.Proofs.Ytglehmffmailkaa
open Go.ChangeShapes Go.WideShapes Go.ChangeAt Go.RowKit

/-- The notes of both tunes, sorted, each once: as many as the model joins. -/
theorem join_all {a b : List (Int × Int)} (ha : tuneB a = true) (hb : tuneB b = true) : dedM (mergeM (a ++ b)) = (joinL a b).foldl insM [] ∧ (dedM (mergeM (a ++ b))).length = (joinL a b).length ∧ SS (dedM (mergeM (a ++ b))) ∧ ∀ p ∈ dedM (mergeM (a ++ b)), (0 ≤ p.1 ∧ p.1 ≤ 1000) ∧ (0 ≤ p.2 ∧ p.2 ≤ 60) := by
  have mem : ∀ (x : Int × Int), x ∈ joinL a b ↔ x ∈ a ∨ x ∈ b := fun x => by
    unfold joinL hasB
    rw [List.mem_append, List.mem_filter]
    by_cases hx : x ∈ a <;> simp [hx]
  have nd : (joinL a b).Nodup := by
    unfold joinL hasB
    refine List.nodup_append.2 ⟨ss_nodup (tune_parts ha).2.1, (ss_nodup (tune_parts hb).2.1).filter _, ?_⟩
    intro x hx y hy e
    subst e
    simp at hy
    exact hy.2 hx
  obtain ⟨h1, h2⟩ := dedM_ss (mergeM_pw (a ++ b))
  have hm : ∀ x, x ∈ dedM (mergeM (a ++ b)) ↔ x ∈ a ∨ x ∈ b := fun x => by
    rw [h2, ← List.mem_append]; exact List.mem_mergeSort
  have e : dedM (mergeM (a ++ b)) = (joinL a b).foldl insM [] := ss_unique h1 (fold_ss _ [] List.Pairwise.nil) fun x => by
    rw [hm, fold_mem, mem]; simp
  refine ⟨e, ?_, h1, fun p hp => ?_⟩
  · rw [e, fold_nodup_len _ [] nd (fun _ _ => by simp)]; simp
  · rcases (hm p).1 hp with h | h
    · exact (tune_parts ha).2.2 p h
    · exact (tune_parts hb).2.2 p h
theorem join_yes {a b : List (Int × Int)} (ha : tuneB a = true) (hb : tuneB b = true) (h : tuneB (dedM (mergeM (a ++ b))) = true) : joinM a b = (dedM (mergeM (a ++ b)), true) := by
  obtain ⟨e, el, -, -⟩ := join_all ha hb
  have h40 := (tuneB_true.1 h).1
  rw [joinM_yes ha hb (by omega), e]
  unfold sortM; rw [if_pos (by omega)]
theorem join_no {a b : List (Int × Int)} (ha : tuneB a = true) (hb : tuneB b = true) (h : ¬ tuneB (dedM (mergeM (a ++ b))) = true) : joinM a b = ([], false) := by
  obtain ⟨e, el, hs, hr⟩ := join_all ha hb
  exact joinM_no fun k => h (tune_of (by omega) hs hr)

set_option maxHeartbeats 2000000 in
set_option maxRecDepth 100000 in
theorem ijoin_any {w : World} {va vb : Value} {la lb : List (Int × Int)} (ha : Rd2 w va la) (hb : Rd2 w vb lb) :
    Calls Try.prog 44 #[va, vb] w (NewNotesB w (joinM la lb).1 (joinM la lb).2) := by
  obtain ⟨a1, cap1, rfl⟩ := Rd.slice ha
  obtain ⟨a2, cap2, rfl⟩ := Rd.slice hb
  by_cases ta : tuneB la = true
  · have TA := Lib.hid ta
    by_cases tb : tuneB lb = true
    · have TB := Lib.hid tb
      have h1 := (tuneB_true.1 ta).1
      have h2 := (tuneB_true.1 tb).1
      have hlen : (la ++ lb).length ≤ 1048576 := by rw [List.length_append]; omega
      have HLEN := Lib.hid hlen
      clear ta tb hlen
      go_enter Try.func44, Try.ntmps44
      go_wp2_with fail
      refine (itune_yes ha TA.out).mono ?_
      rintro e w1 ⟨rfl, hb1⟩
      go_wp2_with fail
      refine (itune_yes (Rd.below hb hb1) TB.out).mono ?_
      rintro e w2 ⟨rfl, hb2⟩
      have g2 := bstep hb1 hb2
      clear hb1 hb2
      have g3 : Below w.heap.size w (w2.alloc (.cells #[.slice a1 la.length cap1, .slice a2 lb.length cap2] 24)) := g2.alloc g2.size _
      have c0 : (w2.alloc (.cells #[.slice a1 la.length cap1, .slice a2 lb.length cap2] 24)).cell? ⟨w2.heap.size, 0, none⟩ = some (.slice a1 la.length cap1) := cell0 w2 _ _ 0
      have c1 : (w2.alloc (.cells #[.slice a1 la.length cap1, .slice a2 lb.length cap2] 24)).cell? ⟨w2.heap.size, 1, none⟩ = some (.slice a2 lb.length cap2) := cell0 w2 _ _ 1
      go_wp2_with fail
      refine (concat_any c0 c1 (Rd.below ha g3) (Rd.below hb g3) (by omega) (by omega)).mono ?_
      rintro e w4 ⟨v4, rfl, ho4, hb4⟩
      have g4 := bstep g3 hb4
      clear c0 c1 hb4
      go_wp2_with fail
      refine (once_any (Rd.of_own ho4) HLEN.out).mono ?_
      rintro e w5 ⟨v5, rfl, ho5, hb5⟩
      have g5 := bstep g4 hb5
      have ho5' := ownS_mono ho5 g4.size
      clear g3 g2 ho4 hb5 ho5 g4
      by_cases hs : tuneB (dedM (mergeM (la ++ lb))) = true
      · have HS := Lib.hid hs
        have HM := Lib.hid (join_yes TA.out TB.out hs)
        clear hs
        go_wp2_with fail
        refine (itune_yes (Rd.of_own ho5') HS.out).mono ?_
        rintro e w6 ⟨rfl, hb6⟩
        have g6 := bstep g5 hb6
        have ho6 := ownS_below ho5' hb6
        clear g5 hb6 ho5'
        go_wp2
        go_ret2
        rw [HM.out]
        exact ⟨v5, rfl, ho6, g6⟩
      · have HS := Lib.hid (show tuneB (dedM (mergeM (la ++ lb))) = false by simpa using hs)
        have HM := Lib.hid (join_no TA.out TB.out hs)
        clear hs
        go_wp2_with fail
        refine (itune_no (Rd.of_own ho5') HS.out).mono ?_
        rintro e w6 ⟨rfl, hb6⟩
        have g6 := bstep g5 hb6
        clear g5 hb6 ho5'
        go_wp2
        go_ret2
        rw [HM.out]
        exact ⟨_, rfl, World.ownsRow_nil _ _ _ _, g6⟩
    · have TB := Lib.hid (show tuneB lb = false by simpa using tb)
      have HM := Lib.hid (joinM_no (a := la) (b := lb) fun k => tb k.2.1)
      clear ta tb
      go_enter Try.func44, Try.ntmps44
      go_wp2_with fail
      refine (itune_yes ha TA.out).mono ?_
      rintro e w1 ⟨rfl, hb1⟩
      go_wp2_with fail
      refine (itune_no (Rd.below hb hb1) TB.out).mono ?_
      rintro e w2 ⟨rfl, hb2⟩
      have g2 := bstep hb1 hb2
      go_wp2
      go_ret2
      rw [HM.out]
      exact ⟨_, rfl, World.ownsRow_nil _ _ _ _, g2⟩
  · have TA := Lib.hid (show tuneB la = false by simpa using ta)
    have HM := Lib.hid (joinM_no (a := la) (b := lb) fun k => ta k.1)
    clear ta
    go_enter Try.func44, Try.ntmps44
    go_wp2_with fail
    refine (itune_no ha TA.out).mono ?_
    rintro e w1 ⟨rfl, hb1⟩
    go_wp2
    go_ret2
    rw [HM.out]
    exact ⟨_, rfl, World.ownsRow_nil _ _ _ _, hb1⟩
end Go.Proofs.Ytglehmffmailkaa
