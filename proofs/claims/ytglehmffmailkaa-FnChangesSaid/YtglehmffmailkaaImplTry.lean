/- The contract of the program's tryChange, for whatever change of a note. No condition. -/
import Derived.Test.YtglehmffmailkaaImplChg
import Derived.Test.YtglehmffmailkaaImplTune
namespace Go.Proofs.Ytglehmffmailkaa
open Go.ChangeShapes Go.WideShapes Go.ChangeAt Go.RowKit

theorem Chg.below {w w' : World} {g : FuncId} {caps : Array Value} {f : Int × Int → Int × Int} {l : List (Int × Int)} (h : Chg w g caps f l) (hb : Below w.heap.size w w') : Chg w' g caps f l :=
  fun p hp W hW => h p hp W (bstep hb hW)
open Classical in
noncomputable def tryM (ok : Bool) (f : Int × Int → Int × Int) (l : List (Int × Int)) : List (Int × Int) × Bool := if ok = true ∧ tuneB l = true ∧ tuneB (dedM (mergeM (l.map f))) = true then (dedM (mergeM (l.map f)), true) else (l, false)
theorem tryM_yes {ok : Bool} {f : Int × Int → Int × Int} {l : List (Int × Int)} (h1 : ok = true) (h2 : tuneB l = true) (h3 : tuneB (dedM (mergeM (l.map f))) = true) : tryM ok f l = (dedM (mergeM (l.map f)), true) := if_pos ⟨h1, h2, h3⟩
theorem tryM_no {ok : Bool} {f : Int × Int → Int × Int} {l : List (Int × Int)} (h : ¬ (ok = true ∧ tuneB l = true ∧ tuneB (dedM (mergeM (l.map f))) = true)) : tryM ok f l = (l, false) := if_neg h

set_option maxHeartbeats 2000000 in
theorem try_any {w : World} {v : Value} {l : List (Int × Int)} {g : FuncId} {caps : Array Value} {f : Int × Int → Int × Int} (ok : Bool) (h : Rd2 w v l) (hl : l.length ≤ 1048576) (eg : ∀ args w, (callFunc g args).run Try.prog w = .ok (.enter g args) w) (hc : ok = true → tuneB l = true → Chg w g caps f l) :
    Calls Try.prog 68 #[v, .bool ok, .func (.func g) #[] caps] w (NewNotesB w (tryM ok f l).1 (tryM ok f l).2) := by
  obtain ⟨a1, cap1, rfl⟩ := Rd.slice h
  cases ok with
  | false =>
    have HM := Lib.hid (tryM_no (ok := false) (f := f) (l := l) (fun h => by cases h.1))
    clear hc
    go_enter Try.func68, Try.ntmps68
    go_wp2_with fail
    refine (clone_any h hl).mono ?_
    rintro e w1 ⟨v1, rfl, ho1, hb1⟩
    go_wp2
    go_ret2
    rw [HM.out]
    exact ⟨v1, rfl, ho1, hb1⟩
  | true =>
    by_cases ht : tuneB l = true
    · have HT := Lib.hid ht
      have HC := Lib.hid (hc rfl ht)
      clear hc ht
      go_enter Try.func68, Try.ntmps68
      go_wp2_with fail
      refine (itune_yes h HT.out).mono ?_
      rintro e w1 ⟨rfl, hb1⟩
      go_wp2_with fail
      refine (chg_any (Rd.below h hb1) hl eg (HC.out.below hb1)).mono ?_
      rintro e w2 ⟨v2, rfl, ho2, hb2⟩
      have ho2' := ownS_mono ho2 hb1.size
      have hb2' := bstep hb1 hb2
      clear ho2 hb2 hb1
      by_cases hs : tuneB (dedM (mergeM (l.map f))) = true
      · have HS := Lib.hid hs
        have HM := Lib.hid (tryM_yes (ok := true) rfl HT.out hs)
        clear hs
        go_wp2_with fail
        refine (itune_yes (Rd.of_own ho2') HS.out).mono ?_
        rintro e w3 ⟨rfl, hb3⟩
        have ho3 := ownS_below ho2' hb3
        have hb3' := bstep hb2' hb3
        clear ho2' hb2' hb3
        go_wp2
        go_ret2
        rw [HM.out]
        exact ⟨v2, rfl, ho3, hb3'⟩
      · have HS := Lib.hid (show tuneB (dedM (mergeM (l.map f))) = false by simpa using hs)
        have HM := Lib.hid (tryM_no (ok := true) (f := f) (l := l) (fun h => hs h.2.2))
        clear hs
        go_wp2_with fail
        refine (itune_no (Rd.of_own ho2') HS.out).mono ?_
        rintro e w3 ⟨rfl, hb3⟩
        have hb3' := bstep hb2' hb3
        clear ho2' hb2' hb3
        go_wp2_with fail
        refine (clone_any (Rd.below h hb3') hl).mono ?_
        rintro e w4 ⟨v4, rfl, ho4, hb4⟩
        have ho5 := ownS_mono ho4 hb3'.size
        have hb5 := bstep hb3' hb4
        clear ho4 hb4 hb3'
        go_wp2
        go_ret2
        rw [HM.out]
        exact ⟨v4, rfl, ho5, hb5⟩
    · have HT := Lib.hid (show tuneB l = false by simpa using ht)
      have HM := Lib.hid (tryM_no (ok := true) (f := f) (l := l) (fun h => ht h.2.1))
      clear hc ht
      go_enter Try.func68, Try.ntmps68
      go_wp2_with fail
      refine (itune_no h HT.out).mono ?_
      rintro e w1 ⟨rfl, hb1⟩
      go_wp2_with fail
      refine (clone_any (Rd.below h hb1) hl).mono ?_
      rintro e w4 ⟨v4, rfl, ho4, hb4⟩
      have ho5 := ownS_mono ho4 hb1.size
      have hb5 := bstep hb1 hb4
      clear ho4 hb4 hb1
      go_wp2
      go_ret2
      rw [HM.out]
      exact ⟨v4, rfl, ho5, hb5⟩
end Go.Proofs.Ytglehmffmailkaa
