/- Chapter 16: the distances of pitches: the model's and the program's StepsOf, IsSweet; pitchOk, togetherOk, l16Ok. No condition. -/
import Derived.Test.YtceebblokibapaaDoorChordMath
import Derived.Test.YtceebblokibapaaDoorSortSpec
namespace Go.Proofs.YtceebblokibapaaDoor
open Go.ChangeShapes Go.WideShapes Go.ChangeAt Go.RowKit

theorem pitI_any (x : Int) (w : World) :
    Calls Tryd.prog 31 #[.int .i64 x] w fun e w' => e = .returned (.bool (inB x 0 60)) ∧ w = w' := by
  by_cases h1 : 0 ≤ x <;> by_cases h2 : x ≤ 60
  all_goals
    go_enter Tryd.func31, Tryd.ntmps31
    go_wp2
    go_ret
    exact ⟨by unfold inB; simp; omega, rfl⟩
theorem pitI_yes (x : Int) (h : 0 ≤ x ∧ x ≤ 60) (w : World) :
    Calls Tryd.prog 31 #[.int .i64 x] w fun e w' => e = .returned (.bool true) ∧ w = w' :=
  (pitI_any x w).mono fun _ _ ⟨he, hw⟩ => ⟨by rw [he, inB_true h], hw⟩
theorem pitI_no (x : Int) (h : ¬ (0 ≤ x ∧ x ≤ 60)) (w : World) :
    Calls Tryd.prog 31 #[.int .i64 x] w fun e w' => e = .returned (.bool false) ∧ w = w' :=
  (pitI_any x w).mono fun _ _ ⟨he, hw⟩ => ⟨by rw [he, inB_false h], hw⟩

theorem stepG_any {w : World} (a b : Int) :
    Calls Tryd.prog 42 #[.int .i64 a, .int .i64 b] w fun e w' => e = .returned (.int .i64 (stepsI a b)) ∧ w = w' := by
  by_cases ha : 0 ≤ a ∧ a ≤ 60
  · have HA := Lib.hid ha
    by_cases hb : 0 ≤ b ∧ b ≤ 60
    · have HS := Lib.hid (stepsI_yes ⟨ha, hb⟩)
      have HB := Lib.hid hb
      have e1 : IntKind.i64.wrap (a - b) = a - b := IntWalk.i64_in _ (by omega)
      have e2 : IntKind.i64.wrap (b - a) = b - a := IntWalk.i64_in _ (by omega)
      go_enter Tryd.func42, Tryd.ntmps42
      go_wp2_with fail
      refine (in_yes _ _ _ HA.out _).mono ?_
      rintro e w1 ⟨rfl, rfl⟩
      go_wp2_with fail
      refine (in_yes _ _ _ HB.out _).mono ?_
      rintro e w1 ⟨rfl, rfl⟩
      go_wp2
      all_goals
        go_ret
        refine ⟨congrArg (fun z => Ending.returned (Value.int .i64 z)) (?_ : _ = stepsI a b), rfl⟩
        rw [HS.out]
        unfold distI
        repeat' split
        all_goals omega
    · have HS := Lib.hid (stepsI_no (a := a) (b := b) fun k => hb k.2)
      have HB := Lib.hid hb
      clear ha hb
      go_enter Tryd.func42, Tryd.ntmps42
      go_wp2_with fail
      refine (in_yes _ _ _ HA.out _).mono ?_
      rintro e w1 ⟨rfl, rfl⟩
      go_wp2_with fail
      refine (in_no _ _ _ HB.out _).mono ?_
      rintro e w1 ⟨rfl, rfl⟩
      go_wp2
      go_ret
      exact ⟨by rw [HS.out]; rfl, rfl⟩
  · have HS := Lib.hid (stepsI_no (a := a) (b := b) fun k => ha k.1)
    have HA := Lib.hid ha
    clear ha
    go_enter Tryd.func42, Tryd.ntmps42
    go_wp2_with fail
    refine (in_no _ _ _ HA.out _).mono ?_
    rintro e w1 ⟨rfl, rfl⟩
    go_wp2
    go_ret
    exact ⟨by rw [HS.out]; rfl, rfl⟩

theorem stepI_any {w : World} (a b : Int) :
    Calls Tryd.prog 10 #[.int .i64 a, .int .i64 b] w fun e w' => e = .returned (.int .i64 (stepsI a b)) ∧ w = w' := by
  by_cases ha : 0 ≤ a ∧ a ≤ 60
  · have HA := Lib.hid ha
    by_cases hb : 0 ≤ b ∧ b ≤ 60
    · have HS := Lib.hid (stepsI_yes ⟨ha, hb⟩)
      have HB := Lib.hid hb
      have e1 : IntKind.i64.wrap (a - b) = a - b := IntWalk.i64_in _ (by omega)
      have e2 : IntKind.i64.wrap (b - a) = b - a := IntWalk.i64_in _ (by omega)
      go_enter Tryd.func10, Tryd.ntmps10
      go_wp2_with fail
      refine (pitI_yes _ HA.out _).mono ?_
      rintro e w1 ⟨rfl, rfl⟩
      go_wp2_with fail
      refine (pitI_yes _ HB.out _).mono ?_
      rintro e w1 ⟨rfl, rfl⟩
      go_wp2
      all_goals
        go_ret
        refine ⟨congrArg (fun z => Ending.returned (Value.int .i64 z)) (?_ : _ = stepsI a b), rfl⟩
        rw [HS.out]
        unfold distI
        repeat' split
        all_goals omega
    · have HS := Lib.hid (stepsI_no (a := a) (b := b) fun k => hb k.2)
      have HB := Lib.hid hb
      clear ha hb
      go_enter Tryd.func10, Tryd.ntmps10
      go_wp2_with fail
      refine (pitI_yes _ HA.out _).mono ?_
      rintro e w1 ⟨rfl, rfl⟩
      go_wp2_with fail
      refine (pitI_no _ HB.out _).mono ?_
      rintro e w1 ⟨rfl, rfl⟩
      go_wp2
      go_ret
      exact ⟨by rw [HS.out]; rfl, rfl⟩
  · have HS := Lib.hid (stepsI_no (a := a) (b := b) fun k => ha k.1)
    have HA := Lib.hid ha
    clear ha
    go_enter Tryd.func10, Tryd.ntmps10
    go_wp2_with fail
    refine (pitI_no _ HA.out _).mono ?_
    rintro e w1 ⟨rfl, rfl⟩
    go_wp2
    go_ret
    exact ⟨by rw [HS.out]; rfl, rfl⟩

theorem sweetG_any {w : World} (a b : Int) :
    Calls Tryd.prog 20 #[.int .i64 a, .int .i64 b] w fun e w' => e = .returned (.bool (sweetB a b)) ∧ w = w' := by
  obtain ⟨s, hs⟩ : ∃ s, stepsI a b = s := ⟨_, rfl⟩
  have HS := Lib.hid (sweetB_of hs)
  have HT := stepG_any (w := w) a b
  rw [hs] at HT
  replace HT := Lib.hid HT
  clear hs
  go_enter Tryd.func20, Tryd.ntmps20
  go_wp2_with fail
  refine HT.out.mono ?_
  rintro e w1 ⟨rfl, rfl⟩
  by_cases h0 : s = 0
  · subst h0
    go_wp2
    go_ret
    exact ⟨by rw [HS.out]; rfl, rfl⟩
  · have h0' : (s == 0) = false := by rw [beq_eq_false_iff_ne]; exact h0
    go_wp2_with fail
    refine (in_any _ _ _ _).mono ?_
    rintro e w1 ⟨rfl, rfl⟩
    have HE : Hid (decide (s = 0 ∨ (3 ≤ s ∧ s ≤ 5)) = inB s 3 5) := Lib.hid (by unfold inB; simp [h0])
    go_wp2
    go_ret
    exact ⟨by rw [HS.out, HE.out]; rfl, rfl⟩
/-- l16Ok: a row of pitches, at least some, at most 8. -/
theorem okG_any {w : World} {v : Value} {l : List Int} (n : Nat) (hn : n ≤ 8) (h : Rd1 w v l) :
    Calls Tryd.prog 43 #[v, .int .i64 (n : Int)] w fun e w' => e = .returned (.bool (decide (n ≤ l.length) && togB l)) ∧ w = w' := by
  obtain ⟨a1, cap1, rfl⟩ := Rd.slice h
  have hm := h.2.1
  unfold maxLen at hm
  go_enter Tryd.func43, Tryd.ntmps43
  go_wp2_with fail
  go_loopw [5] (fun v5 wr => ∃ j : Nat, j ≤ l.length ∧ v5 = .int .i64 j ∧ w = wr ∧ Hid (∀ (k : Nat) (a : Int), k < j → l[k]? = some a → 0 ≤ a ∧ a ≤ 60)) (fun v5 _ => l.length - (intOf v5).toNat)
  case atStart => exact ⟨0, Nat.zero_le _, rfl, rfl, Lib.hid (fun k a hk => by omega)⟩
  case round =>
    obtain ⟨j, hj, rfl, rfl, HI⟩ := hrel
    by_cases hlt : j < l.length
    · obtain ⟨p, hp⟩ : ∃ p, l[j]? = some p := ⟨_, List.getElem?_eq_getElem hlt⟩
      have HP := Lib.hid hp
      obtain ⟨b1, o1, c1, hv1, x1⟩ := Rd1.cell h hp
      simp only [Value.slice.injEq, true_and] at hv1
      obtain ⟨rfl, rfl⟩ := hv1
      clear hp
      go_wp2_with fail
      by_cases hp : 0 ≤ p ∧ p ≤ 60
      · have HK : Hid (∀ (k : Nat) (a : Int), k < j + 1 → l[k]? = some a → 0 ≤ a ∧ a ≤ 60) := Lib.hid (fun k a hk ha => by
          by_cases hkj : k < j
          · exact HI.out k a hkj ha
          · obtain rfl : k = j := by omega
            have := HP.out; rw [this] at ha
            obtain rfl := Option.some.inj ha
            exact hp)
        refine (in_yes _ _ _ hp _).mono ?_
        rintro e w1 ⟨rfl, rfl⟩
        clear HP HI
        go_wp2
        go_roundw
        case rel => exact ⟨j + 1, by omega, by go_num, by first | trivial | rfl, HK⟩
        case measure => simp [intOf]; omega
      · have HB : Hid (togB l = false) := Lib.hid (togB_false.2 fun k => hp (k.2 j p HP.out))
        refine (in_no _ _ _ hp _).mono ?_
        rintro e w1 ⟨rfl, rfl⟩
        go_wp2
        go_ret
        exact ⟨by rw [HB.out, Bool.and_false]; rfl, rfl⟩
    · obtain rfl : j = l.length := by omega
      have HE : Hid ((decide (n ≤ l.length) && togB l) = inB (l.length : Int) (n : Int) 8) := Lib.hid (by
        rw [Bool.eq_iff_iff, Bool.and_eq_true, togB_true, decide_eq_true_iff]
        unfold inB TogP
        rw [decide_eq_true_iff]
        constructor
        · rintro ⟨h1, h2, -⟩; omega
        · rintro ⟨h1, h2⟩
          exact ⟨by omega, by omega, fun k a hk => HI.out k a (List.getElem?_eq_some_iff.1 hk).1 hk⟩)
      go_wp2_with fail
      refine (in_any _ _ _ _).mono ?_
      rintro e w1 ⟨rfl, rfl⟩
      go_wp2
      go_ret
      exact ⟨by rw [HE.out]; rfl, rfl⟩
theorem togI_any {w : World} {v : Value} {l : List Int} (h : Rd1 w v l) :
    Calls Tryd.prog 32 #[v] w fun e w' => e = .returned (.bool (togB l)) ∧ w = w' := by
  obtain ⟨a1, cap1, rfl⟩ := Rd.slice h
  have hm := h.2.1
  unfold maxLen at hm
  by_cases h8 : l.length ≤ 8
  · go_enter Tryd.func32, Tryd.ntmps32
    go_wp2_with fail
    go_loopw [10] (fun v10 wr => ∃ j : Nat, j ≤ l.length ∧ v10 = .int .i64 j ∧ w = wr ∧ Hid (∀ (k : Nat) (a : Int), k < j → l[k]? = some a → 0 ≤ a ∧ a ≤ 60)) (fun v10 _ => l.length - (intOf v10).toNat)
    case atStart => exact ⟨0, Nat.zero_le _, rfl, rfl, Lib.hid (fun k a hk => by omega)⟩
    case round =>
      obtain ⟨j, hj, rfl, rfl, HI⟩ := hrel
      by_cases hlt : j < l.length
      · obtain ⟨p, hp⟩ : ∃ p, l[j]? = some p := ⟨_, List.getElem?_eq_getElem hlt⟩
        have HP := Lib.hid hp
        obtain ⟨b1, o1, c1, hv1, x1⟩ := Rd1.cell h hp
        simp only [Value.slice.injEq, true_and] at hv1
        obtain ⟨rfl, rfl⟩ := hv1
        clear hp
        go_wp2_with fail
        by_cases hp : 0 ≤ p ∧ p ≤ 60
        · have HK : Hid (∀ (k : Nat) (a : Int), k < j + 1 → l[k]? = some a → 0 ≤ a ∧ a ≤ 60) := Lib.hid (fun k a hk ha => by
            by_cases hkj : k < j
            · exact HI.out k a hkj ha
            · obtain rfl : k = j := by omega
              have := HP.out; rw [this] at ha
              obtain rfl := Option.some.inj ha
              exact hp)
          refine (pitI_yes _ hp _).mono ?_
          rintro e w1 ⟨rfl, rfl⟩
          clear HP HI
          go_wp2
          go_roundw
          case rel => exact ⟨j + 1, by omega, by go_num, by first | trivial | rfl, HK⟩
          case measure => simp [intOf]; omega
        · have HB : Hid (togB l = false) := Lib.hid (togB_false.2 fun k => hp (k.2 j p HP.out))
          refine (pitI_no _ hp _).mono ?_
          rintro e w1 ⟨rfl, rfl⟩
          go_wp2
          go_ret
          exact ⟨by rw [HB.out]; rfl, rfl⟩
      · obtain rfl : j = l.length := by omega
        have HE : Hid (togB l = true) := Lib.hid (togB_true.2 ⟨h8, fun k a hk => HI.out k a (List.getElem?_eq_some_iff.1 hk).1 hk⟩)
        go_wp2
        go_ret
        exact ⟨by rw [HE.out]; rfl, rfl⟩
  · have HB : Hid (togB l = false) := Lib.hid (togB_false.2 fun k => h8 k.1)
    go_enter Tryd.func32, Tryd.ntmps32
    go_wp2
    go_ret
    exact ⟨by rw [HB.out]; rfl, rfl⟩
end Go.Proofs.YtceebblokibapaaDoor
