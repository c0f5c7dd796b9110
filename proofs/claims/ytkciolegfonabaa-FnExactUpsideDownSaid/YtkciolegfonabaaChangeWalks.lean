/- The walks of the laws FnExactHigher, FnExactLater, FnExactSlower, FnExactBackward, FnExactUpsideDown: THE PROGRAM'S OWN CONTRACT IS A PREMISE (hI). -/
import Derived.Test.YtkciolegfonabaaChangeSpec2
import Derived.Test.YtkciolegfonabaaFlipSpec
import Derived.Test.YtkciolegfonabaaWalkKit
namespace Go.Proofs.Ytkciolegfonabaa
open Go.ChangeShapes Go.WideShapes Go.ChangeAt Go.RowKit

set_option maxHeartbeats 2000000 in
theorem exactup_walk {w : World} {v : Value} {l : List (Int × Int)} (hI : ∀ (W : World) (V : Value), Rd2 W V l → l.length ≤ 1048576 → Calls Try.prog 19 #[V] W (NewNotes W (upM l))) (h : Rd2 w v l) :
    Calls Try.prog 5 #[v] w fun e w' => e = .returned (.bool true) ∧ Below w.heap.size w w' := by
  obtain ⟨a, cap, rfl⟩ := Rd.slice h
  have hm := h.2.1
  unfold maxLen at hm
  by_cases hs : l.length ≤ 1048576
  · have hbd : (upM l).length ≤ 1048576 := by
      unfold upM
      refine Nat.le_trans (sortM_len _) ?_
      split
      · rw [flipL_len]; exact hs
      · simp
    have CI := Lib.hid (fun (W : World) (V : Value) (hV : Rd2 W V l) => hI W V hV hs)
    have CS := Lib.hid (fun (W : World) (V : Value) (hV : Rd2 W V l) => up_any hV)
    clear hI
    generalize upM l = R at *
    go_enter Try.func5, Try.ntmps5
    go_wp2_with fail
    refine (sz0_yes hs).mono ?_
    rintro e w0 ⟨x, hx, rfl, rfl⟩
    go_wp2_with fail
    refine (toNotes_any h hs).mono ?_
    rintro e w1 ⟨v1, rfl, ho1, hb1⟩
    go_wp2_with fail
    refine (CS.out _ _ (Rd.of_own ho1)).mono ?_
    rintro e w2 ⟨vs, rfl, hos2, hb2⟩
    have g2 := bstep hb1 hb2
    clear hb1 hb2 ho1
    go_wp2_with fail
    refine (toNotes_any (Rd.below h g2) hs).mono ?_
    rintro e w3 ⟨v3, rfl, ho3, hb3⟩
    have g3 := bstep g2 hb3
    have hos3 := ownS_below hos2 hb3
    have ap1 := apartS hos2 ho3
    clear hb3
    go_wp2_with fail
    refine (CI.out _ _ (Rd.of_own ho3)).mono ?_
    rintro e w4 ⟨vi, rfl, hoi4, hb4⟩
    have g4 := bstep g3 hb4
    have hos4 := ownS_below hos3 hb4
    have ho4 := ownS_below ho3 hb4
    have ap2 := apartS' ho3 hoi4
    have ap3 := apartS hos3 hoi4
    have hoi4b := hoi4
    clear hb4 hos3 ho3
    go_wp2_with fail
    refine (eqNotes_same (Rd.of_own hoi4) (Rd.of_own hos4)).mono ?_
    rintro e w5 ⟨rfl, hb5⟩
    have g5 := bstep g4 hb5
    have hos5 := ownS_below hos4 hb5
    have ho5 := ownS_below ho4 hb5
    have hoi5 := ownS_below hoi4 hb5
    clear hb5 hos4 ho4 hoi4
    go_wp2_with fail
    refine (toNotes_any (Rd.below h g5) hs).mono ?_
    rintro e w6 ⟨v6, rfl, ho6, hb6⟩
    have g6 := bstep g5 hb6
    have hos6 := ownS_below hos5 hb6
    have ho6b := ownS_below ho5 hb6
    have hoi6 := ownS_below hoi5 hb6
    clear hb6 hos5 ho5 hoi5
    go_wp2_with fail
    refine (eqNotes_same (Rd.of_own ho6b) (Rd.of_own ho6)).mono ?_
    rintro e w7 ⟨rfl, hb7⟩
    have g7 := bstep g6 hb7
    have hos7 := ownS_below hos6 hb7
    have ho7 := ownS_below ho6b hb7
    have hoi7 := ownS_below hoi6 hb7
    clear hb7 hos6 ho6 ho6b hoi6
    go_wp2_with fail
    refine (markNotes_any 1 (by omega) ho7).mono ?_
    rintro e w8 ⟨rfl, hg8, _⟩
    have hos8 := hos7.kept hg8 ap1
    have hoi8 := hoi7.kept hg8 ap2
    have g8 := g7.grown hg8 g7.size (fun k hk => Nat.le_trans g2.size (ho7.lt k hk).1)
    clear hg8 ho7 hos7 hoi7
    go_wp2_with fail
    refine (eqNotes_same (Rd.of_own hoi8) (Rd.of_own hos8)).mono ?_
    rintro e w9 ⟨rfl, hb9⟩
    have g9 := bstep g8 hb9
    have hos9 := ownS_below hos8 hb9
    have hoi9 := ownS_below hoi8 hb9
    clear hb9 hos8 hoi8
    go_wp2_with fail
    refine (markNotes_any 1 (by omega) hoi9).mono ?_
    rintro e wa ⟨rfl, hga, ys, hya, hmk⟩
    have hosa := hos9.kept hga ap3
    have ga := g9.grown hga g9.size (fun k hk => Nat.le_trans g3.size (hoi9.lt k hk).1)
    have HMK := Lib.hid hmk
    clear hga hos9 hoi9 hmk
    go_wp2_with fail
    refine (heldNotes_any 1 (by omega) (Rd.of_own hya) HMK.out).mono ?_
    rintro e wb ⟨rfl, hbb⟩
    have gb := bstep ga hbb
    have hosb := ownS_below hosa hbb
    have hyb := ownS_below hya hbb
    clear hbb hosa hya
    go_wp2_with fail
    refine (toNotes_any (Rd.below h gb) hs).mono ?_
    rintro e wc ⟨vc, rfl, hoc, hbc⟩
    have gc := bstep gb hbc
    have hosc := ownS_below hosb hbc
    have hyc := ownS_below hyb hbc
    clear hbc hosb hyb
    go_wp2_with fail
    refine (CI.out _ _ (Rd.of_own hoc)).mono ?_
    rintro e wd ⟨vd, rfl, hod, hbd'⟩
    have gd := bstep gc hbd'
    have hosd := ownS_below hosc hbd'
    have hyd := ownS_below hyc hbd'
    clear hbd' hosc hyc hoc
    go_wp2_with fail
    refine (eqNotes_same (Rd.of_own hod) (Rd.of_own hosd)).mono ?_
    rintro e we ⟨rfl, hbe⟩
    have ge := bstep gd hbe
    have hye := ownS_below hyd hbe
    clear hbe hosd hyd hod
    go_wp2_with fail
    refine (heldNotes_any 1 (by omega) (Rd.of_own hye) HMK.out).mono ?_
    rintro e wf ⟨rfl, hbf⟩
    have gf := bstep ge hbf
    clear hbf hye
    go_wp2
    go_ret
    exact ⟨rfl, gf⟩
  · go_enter Try.func5, Try.ntmps5
    go_wp2_with fail
    refine (sz0_no hs hm).mono ?_
    rintro e w0 ⟨rfl, rfl⟩
    go_wp2
    go_ret
    exact ⟨rfl, Below.refl _ _⟩

end Go.Proofs.Ytkciolegfonabaa
