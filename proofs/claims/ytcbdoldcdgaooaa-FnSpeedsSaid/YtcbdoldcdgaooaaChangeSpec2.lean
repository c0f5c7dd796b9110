/- The contracts of chapter 3's model: Higher, Later, Slower. No condition. -/
import Derived.Test.YtcbdoldcdgaooaaChangeSpec
namespace Go.Proofs.Ytcbdoldcdgaooaa
open Go.ChangeShapes Go.WideShapes Go.ChangeAt Go.RowKit

theorem changeM_off (a b c : Int) (l : List (Int × Int)) : changeM false a b c l = (l, false) := changeM_no fun h => by cases h.1
noncomputable def higherM (by' : Int) (l : List (Int × Int)) : List (Int × Int) × Bool := changeM (inB by' (-60) 60) 1 0 by' l
noncomputable def laterM (by' : Int) (l : List (Int × Int)) : List (Int × Int) × Bool := changeM (inB by' (-1000) 1000) 1 by' 0 l
noncomputable def slowerM (times : Int) (l : List (Int × Int)) : List (Int × Int) × Bool := changeM (inB times 1 100) times 0 0 l
theorem newB_below {w w1 w' : World} {l : List (Int × Int)} {b : Bool} {e : Ending} (hb : Below w.heap.size w w1) (h : NewNotesB w1 l b e w') : NewNotesB w l b e w' := by
  obtain ⟨v, rfl, ho, hb'⟩ := h
  exact newB hb ho hb'

set_option maxHeartbeats 2000000 in
theorem later_any {w : World} {v : Value} {l : List (Int × Int)} (n : Int) (h : Rd2 w v l) (hl : l.length ≤ 1048576) :
    Calls Try.prog 48 #[v, .int .i64 n] w (NewNotesB w (laterM n l).1 (laterM n l).2) := by
  obtain ⟨a1, cap1, rfl⟩ := Rd.slice h
  by_cases hin : (-1000) ≤ n ∧ n ≤ 1000
  · have HM := Lib.hid (show laterM n l = changeM true 1 n 0 l by unfold laterM; rw [inB_true hin])
    go_enter Try.func48, Try.ntmps48
    go_wp2_with fail
    refine (in_yes _ _ _ hin _).mono ?_
    rintro e w1 ⟨rfl, rfl⟩
    go_wp2_with fail
    refine (l03move_any 1 n 0 (by omega) (by omega) (by omega) h hl).mono ?_
    rintro e w7 ⟨v7, rfl, ho8, hb8⟩
    go_wp2
    go_ret2
    rw [HM.out]
    exact ⟨_, rfl, ho8, hb8⟩
  · have HM := Lib.hid (show laterM n l = (l, false) by unfold laterM; rw [inB_false hin]; exact changeM_off _ _ _ _)
    go_enter Try.func48, Try.ntmps48
    go_wp2_with fail
    refine (in_no _ _ _ hin _).mono ?_
    rintro e w1 ⟨rfl, rfl⟩
    go_wp2_with fail
    refine (copy_any h hl).mono ?_
    rintro e w7 ⟨v7, rfl, ho8, hb8⟩
    go_wp2
    go_ret2
    rw [HM.out]
    exact ⟨_, rfl, ho8, hb8⟩

set_option maxHeartbeats 2000000 in
theorem slower_any {w : World} {v : Value} {l : List (Int × Int)} (n : Int) (h : Rd2 w v l) (hl : l.length ≤ 1048576) :
    Calls Try.prog 47 #[v, .int .i64 n] w (NewNotesB w (slowerM n l).1 (slowerM n l).2) := by
  obtain ⟨a1, cap1, rfl⟩ := Rd.slice h
  by_cases hin : 1 ≤ n ∧ n ≤ 100
  · have HM := Lib.hid (show slowerM n l = changeM true n 0 0 l by unfold slowerM; rw [inB_true hin])
    go_enter Try.func47, Try.ntmps47
    go_wp2_with fail
    refine (in_yes _ _ _ hin _).mono ?_
    rintro e w1 ⟨rfl, rfl⟩
    go_wp2_with fail
    refine (l03move_any n 0 0 (by omega) (by omega) (by omega) h hl).mono ?_
    rintro e w7 ⟨v7, rfl, ho8, hb8⟩
    go_wp2
    go_ret2
    rw [HM.out]
    exact ⟨_, rfl, ho8, hb8⟩
  · have HM := Lib.hid (show slowerM n l = (l, false) by unfold slowerM; rw [inB_false hin]; exact changeM_off _ _ _ _)
    go_enter Try.func47, Try.ntmps47
    go_wp2_with fail
    refine (in_no _ _ _ hin _).mono ?_
    rintro e w1 ⟨rfl, rfl⟩
    go_wp2_with fail
    refine (copy_any h hl).mono ?_
    rintro e w7 ⟨v7, rfl, ho8, hb8⟩
    go_wp2
    go_ret2
    rw [HM.out]
    exact ⟨_, rfl, ho8, hb8⟩
end Go.Proofs.Ytcbdoldcdgaooaa
