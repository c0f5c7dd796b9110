/- Both GapArounds, angleOk, wayAround, turnRestOk: their contracts. No condition. -/
import Derived.Test.YtemhmbaacpfnaaaSeamMath2
import Derived.Test.YtemhmbaacpfnaaaTuneSpec
namespace Go.Proofs.Ytemhmbaacpfnaaa
open Go.ChangeShapes Go.WideShapes Go.ChangeAt Go.RowKit

theorem gapM_yes {a b s : Int} (h1 : 1 ≤ s ∧ s ≤ 1000) (h2 : 0 ≤ a ∧ a ≤ s - 1) (h3 : 0 ≤ b ∧ b ≤ s - 1) : gapM a b s = gapG s a b := if_pos ⟨h1, h2, h3⟩
theorem gapM_no {a b s : Int} (h : ¬ ((1 ≤ s ∧ s ≤ 1000) ∧ (0 ≤ a ∧ a ≤ s - 1) ∧ (0 ≤ b ∧ b ≤ s - 1))) : gapM a b s = -1 := if_neg h

set_option maxHeartbeats 1000000 in
theorem sgap_any (a b s : Int) (w : World) :
    Calls Try.prog 55 #[.int .i64 a, .int .i64 b, .int .i64 s] w fun e w' => e = .returned (.int .i64 (gapM a b s)) ∧ w' = w := by
  by_cases h1 : 1 ≤ s ∧ s ≤ 1000
  · have es : IntKind.i64.wrap (s - 1) = s - 1 := IntWalk.i64_in _ (by omega)
    by_cases h2 : 0 ≤ a ∧ a ≤ s - 1
    · by_cases h3 : 0 ≤ b ∧ b ≤ s - 1
      · have HG := Lib.hid (show gapM a b s = min (max (a - b) (b - a)) (s - max (a - b) (b - a)) from gapM_yes h1 h2 h3)
        have e1 : IntKind.i64.wrap (a - b) = a - b := IntWalk.i64_in _ (by omega)
        have e2 : IntKind.i64.wrap (b - a) = b - a := IntWalk.i64_in _ (by omega)
        have e3 : IntKind.i64.wrap (s - max (a - b) (b - a)) = s - max (a - b) (b - a) := IntWalk.i64_in _ (by omega)
        go_enter Try.func55, Try.ntmps55
        go_wp2_with fail
        refine (in_yes' _ _ _ h1 _).mono ?_
        rintro e w1 ⟨rfl, rfl⟩
        go_wp2_with fail
        refine (in_yes' _ _ _ h2 _).mono ?_
        rintro e w1 ⟨rfl, rfl⟩
        go_wp2_with fail
        refine (in_yes' _ _ _ h3 _).mono ?_
        rintro e w1 ⟨rfl, rfl⟩
        go_wp2
        all_goals
          go_ret
          refine ⟨?_, rfl⟩
          rw [HG.out]
          refine congrArg (fun z => Ending.returned (.int .i64 z)) (a₁ := ?_) ?_
          rotate_left
          omega
      · have HG := Lib.hid (gapM_no (a := a) (b := b) (s := s) (fun k => h3 k.2.2))
        go_enter Try.func55, Try.ntmps55
        go_wp2_with fail
        refine (in_yes' _ _ _ h1 _).mono ?_
        rintro e w1 ⟨rfl, rfl⟩
        go_wp2_with fail
        refine (in_yes' _ _ _ h2 _).mono ?_
        rintro e w1 ⟨rfl, rfl⟩
        go_wp2_with fail
        refine (in_no' _ _ _ h3 _).mono ?_
        rintro e w1 ⟨rfl, rfl⟩
        go_wp2
        go_ret
        exact ⟨by rw [HG.out]; rfl, rfl⟩
    · have HG := Lib.hid (gapM_no (a := a) (b := b) (s := s) (fun k => h2 k.2.1))
      go_enter Try.func55, Try.ntmps55
      go_wp2_with fail
      refine (in_yes' _ _ _ h1 _).mono ?_
      rintro e w1 ⟨rfl, rfl⟩
      go_wp2_with fail
      refine (in_no' _ _ _ h2 _).mono ?_
      rintro e w1 ⟨rfl, rfl⟩
      go_wp2
      go_ret
      exact ⟨by rw [HG.out]; rfl, rfl⟩
  · have HG := Lib.hid (gapM_no (a := a) (b := b) (s := s) (fun k => h1 k.1))
    go_enter Try.func55, Try.ntmps55
    go_wp2_with fail
    refine (in_no' _ _ _ h1 _).mono ?_
    rintro e w1 ⟨rfl, rfl⟩
    go_wp2
    go_ret
    exact ⟨by rw [HG.out]; rfl, rfl⟩

theorem gap_ways {s a b : Int} (h2 : 0 ≤ a ∧ a ≤ s - 1) (h3 : 0 ≤ b ∧ b ≤ s - 1) : min ((b - a + s) % s) ((a - b + s) % s) = gapG s a b := by
  have hs : 0 < s := by omega
  rw [Int.add_emod_right, Int.add_emod_right]
  have a1 := emod_two (s := s) (x := b - a) hs (by omega) (by omega)
  have a2 := emod_two (s := s) (x := a - b) hs (by omega) (by omega)
  have b1 := Int.emod_nonneg (b - a) (show s ≠ 0 by omega)
  have b2 := Int.emod_lt_of_pos (b - a) hs
  have b3 := Int.emod_nonneg (a - b) (show s ≠ 0 by omega)
  have b4 := Int.emod_lt_of_pos (a - b) hs
  unfold gapG
  generalize (b - a) % s = x at *
  generalize (a - b) % s = y at *
  omega
/-- The steps onward from a to b. -/
def wayG (s a b : Int) : Int := (b - a + s) % s
theorem wayG_bd {s a b : Int} (hs : 0 < s) : 0 ≤ wayG s a b ∧ wayG s a b < s := ⟨Int.emod_nonneg _ (by omega), Int.emod_lt_of_pos _ hs⟩

set_option maxHeartbeats 1000000 in
theorem way_on (a b s : Int) (h1 : 1 ≤ s ∧ s ≤ 1000) (h2 : 0 ≤ a ∧ a ≤ s - 1) (h3 : 0 ≤ b ∧ b ≤ s - 1) (w : World) :
    Calls Try.prog 64 #[.int .i64 a, .int .i64 b, .int .i64 s, .int .i64 0] w fun e w' => e = .returned (.int .i64 (wayG s a b)) ∧ w' = w := by
  have e1 : IntKind.i64.wrap (b - a) = b - a := IntWalk.i64_in _ (by omega)
  have e2 : IntKind.i64.wrap (b - a + s) = b - a + s := IntWalk.i64_in _ (by omega)
  have e3 : (b - a + s).tmod s = wayG s a b := Int.tmod_eq_emod_of_nonneg (by omega)
  have hw := wayG_bd (s := s) (a := a) (b := b) (by omega)
  have e4 : IntKind.i64.wrap (wayG s a b) = wayG s a b := IntWalk.i64_in _ (by omega)
  have hz : (s == 0) = false := by rw [beq_eq_false_iff_ne]; omega
  have hz' : ¬ s = 0 := by omega
  go_enter Try.func64, Try.ntmps64
  go_wp2
  go_ret
  exact ⟨by first | rfl | simp [e3], rfl⟩
set_option maxHeartbeats 1000000 in
theorem way_back (a b s : Int) (h1 : 1 ≤ s ∧ s ≤ 1000) (h2 : 0 ≤ a ∧ a ≤ s - 1) (h3 : 0 ≤ b ∧ b ≤ s - 1) (w : World) :
    Calls Try.prog 64 #[.int .i64 a, .int .i64 b, .int .i64 s, .int .i64 1] w fun e w' => e = .returned (.int .i64 (wayG s b a)) ∧ w' = w := by
  have e1 : IntKind.i64.wrap (a - b) = a - b := IntWalk.i64_in _ (by omega)
  have e2 : IntKind.i64.wrap (a - b + s) = a - b + s := IntWalk.i64_in _ (by omega)
  have e3 : (a - b + s).tmod s = wayG s b a := Int.tmod_eq_emod_of_nonneg (by omega)
  have hw := wayG_bd (s := s) (a := b) (b := a) (by omega)
  have e4 : IntKind.i64.wrap (wayG s b a) = wayG s b a := IntWalk.i64_in _ (by omega)
  have hz : (s == 0) = false := by rw [beq_eq_false_iff_ne]; omega
  have hz' : ¬ s = 0 := by omega
  go_enter Try.func64, Try.ntmps64
  go_wp2
  go_ret
  exact ⟨by first | rfl | simp [e3], rfl⟩

def angB (a s : Int) : Bool := decide (0 ≤ a ∧ a ≤ s - 1)
theorem angle_any (a s : Int) (w : World) : Calls Try.prog 63 #[.int .i64 a, .int .i64 s] w fun e w' => e = .returned (.bool (angB a s)) ∧ w' = w := by
  by_cases h1 : 0 ≤ a <;> by_cases h2 : a < s
  all_goals
    have h2' : (a ≤ s - 1) = (a < s) := by simp only [eq_iff_iff]; omega
    have e := (rfl : angB a s = angB a s)
    conv at e => rhs; unfold angB
    simp only [h2', h1, h2, and_true, and_false, true_and, false_and, and_self, decide_true, decide_false] at e
    have HE := Lib.hid e; clear e h2'
    go_enter Try.func63, Try.ntmps63
    go_wp2
    go_ret
    exact ⟨by rw [HE.out]; rfl, rfl⟩
theorem angle_yes {a s : Int} (h : 0 ≤ a ∧ a ≤ s - 1) (w : World) : Calls Try.prog 63 #[.int .i64 a, .int .i64 s] w fun e w' => e = .returned (.bool true) ∧ w' = w :=
  (angle_any a s w).mono fun _ _ ⟨he, hb⟩ => ⟨by rw [he, show angB a s = true from decide_eq_true h], hb⟩
theorem angle_no {a s : Int} (h : ¬ (0 ≤ a ∧ a ≤ s - 1)) (w : World) : Calls Try.prog 63 #[.int .i64 a, .int .i64 s] w fun e w' => e = .returned (.bool false) ∧ w' = w :=
  (angle_any a s w).mono fun _ _ ⟨he, hb⟩ => ⟨by rw [he, show angB a s = false from decide_eq_false h], hb⟩
def restB (d : Int) : Bool := decide (1 ≤ d ∧ d ≤ 96)
theorem trest_any (d : Int) (w : World) : Calls Try.prog 42 #[.int .i64 d] w fun e w' => e = .returned (.bool (restB d)) ∧ w' = w := by
  by_cases h1 : 1 ≤ d <;> by_cases h2 : d ≤ 96
  all_goals try (exfalso; omega)
  all_goals
    have e := (rfl : restB d = restB d)
    conv at e => rhs; unfold restB
    simp only [h1, h2, and_true, and_false, true_and, false_and, and_self, decide_true, decide_false] at e
    have HE := Lib.hid e; clear e
    go_enter Try.func42, Try.ntmps42
    go_wp2
    go_ret
    exact ⟨by rw [HE.out]; rfl, rfl⟩
theorem trest_yes {d : Int} (h : 1 ≤ d ∧ d ≤ 96) (w : World) : Calls Try.prog 42 #[.int .i64 d] w fun e w' => e = .returned (.bool true) ∧ w' = w :=
  (trest_any d w).mono fun _ _ ⟨he, hb⟩ => ⟨by rw [he, show restB d = true from decide_eq_true h], hb⟩
theorem trest_no {d : Int} (h : ¬ (1 ≤ d ∧ d ≤ 96)) (w : World) : Calls Try.prog 42 #[.int .i64 d] w fun e w' => e = .returned (.bool false) ∧ w' = w :=
  (trest_any d w).mono fun _ _ ⟨he, hb⟩ => ⟨by rw [he, show restB d = false from decide_eq_false h], hb⟩

set_option maxHeartbeats 1000000 in
theorem igap_any (a b s : Int) (w : World) :
    Calls Try.prog 43 #[.int .i64 a, .int .i64 b, .int .i64 s] w fun e w' => e = .returned (.int .i64 (gapM a b s)) ∧ w' = w := by
  by_cases h0 : s < 1
  · have HG := Lib.hid (gapM_no (a := a) (b := b) (s := s) (fun k => by omega))
    go_enter Try.func43, Try.ntmps43
    go_wp2
    go_ret
    exact ⟨by rw [HG.out]; rfl, rfl⟩
  by_cases h1 : 1000 < s
  · have HG := Lib.hid (gapM_no (a := a) (b := b) (s := s) (fun k => by omega))
    go_enter Try.func43, Try.ntmps43
    go_wp2
    go_ret
    exact ⟨by rw [HG.out]; rfl, rfl⟩
  by_cases h2 : 0 ≤ a ∧ a ≤ s - 1
  · by_cases h3 : 0 ≤ b ∧ b ≤ s - 1
    · have HG := Lib.hid (show gapM a b s = min (wayG s a b) (wayG s b a) from (gapM_yes (by omega) h2 h3).trans (gap_ways h2 h3).symm)
      have hs : 1 ≤ s ∧ s ≤ 1000 := by omega
      go_enter Try.func43, Try.ntmps43
      go_wp2_with fail
      refine (angle_yes h2 _).mono ?_
      rintro e w1 ⟨rfl, rfl⟩
      go_wp2_with fail
      refine (angle_yes h3 _).mono ?_
      rintro e w1 ⟨rfl, rfl⟩
      go_wp2_with fail
      refine (way_on a b s hs h2 h3 _).mono ?_
      rintro e w1 ⟨rfl, rfl⟩
      go_wp2_with fail
      refine (way_back a b s hs h2 h3 _).mono ?_
      rintro e w1 ⟨rfl, rfl⟩
      generalize wayG s a b = x at *
      generalize wayG s b a = y at *
      go_wp2
      all_goals
        go_ret
        refine ⟨?_, rfl⟩
        rw [HG.out]
        refine congrArg (fun z => Ending.returned (.int .i64 z)) (a₁ := ?_) ?_
        rotate_left
        omega
    · have HG := Lib.hid (gapM_no (a := a) (b := b) (s := s) (fun k => h3 k.2.2))
      go_enter Try.func43, Try.ntmps43
      go_wp2_with fail
      refine (angle_yes h2 _).mono ?_
      rintro e w1 ⟨rfl, rfl⟩
      go_wp2_with fail
      refine (angle_no h3 _).mono ?_
      rintro e w1 ⟨rfl, rfl⟩
      go_wp2
      go_ret
      exact ⟨by rw [HG.out]; rfl, rfl⟩
  · have HG := Lib.hid (gapM_no (a := a) (b := b) (s := s) (fun k => h2 k.2.1))
    go_enter Try.func43, Try.ntmps43
    go_wp2_with fail
    refine (angle_no h2 _).mono ?_
    rintro e w1 ⟨rfl, rfl⟩
    go_wp2
    go_ret
    exact ⟨by rw [HG.out]; rfl, rfl⟩

end Go.Proofs.Ytemhmbaacpfnaaa
