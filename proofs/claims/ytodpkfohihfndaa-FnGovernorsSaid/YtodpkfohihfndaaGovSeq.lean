/- The speeds that are sent behind the first one; what follows from their list for SpeedAfter and StepsUntilSteady. Pure. No condition. -/
import Derived.Test.YtodpkfohihfndaaGovMath
namespace Go.Proofs.Ytodpkfohihfndaa
open Go.ChangeShapes Go.WideShapes Go.ChangeAt Go.RowKit

/-- At most m further speeds; none behind one that stays. -/
def seqL (f b : Int) : Nat → Int → List Int
  | 0, _ => []
  | m + 1, x => if nxtQ x f b = x then [] else stpQ x f b :: seqL f b m (stpQ x f b)
theorem seqL_zero (f b x : Int) : seqL f b 0 x = [] := rfl
theorem seqL_stay {f b x : Int} (h : nxtQ x f b = x) : ∀ m, seqL f b m x = []
  | 0 => rfl
  | _ + 1 => if_pos h
theorem seqL_move {f b x : Int} (h : ¬ nxtQ x f b = x) (m : Nat) : seqL f b (m + 1) x = stpQ x f b :: seqL f b m (stpQ x f b) := if_neg h
/-- What SpeedAfter keeps of a list of speeds: the last one. -/
def lastI : Int → List Int → Int
  | a, [] => a
  | _, x :: l => lastI x l
theorem last_seq {f b : Int} : ∀ {m : Nat} {x : Int}, GovP x f b → lastI x (seqL f b m x) = aftQ f b m x
  | 0, _, _ => rfl
  | m + 1, x, h => by
    by_cases q : nxtQ x f b = x
    · rw [seqL_stay q, aft_same q h.1.2]; rfl
    · rw [seqL_move q]
      exact last_seq (m := m) (stp_gov h)
/-- The number of further speeds: the steps till the speed stays, if it stays within m steps. -/
theorem unt_seq {f b : Int} : ∀ {m : Nat} {x : Int}, GovP x f b → (∀ k, untQ f b m x = some k → (seqL f b m x).length = k ∧ nxtQ (aftQ f b m x) f b = aftQ f b m x) ∧ (untQ f b m x = none → ¬ nxtQ (aftQ f b m x) f b = aftQ f b m x)
  | 0, x, _ => by
    by_cases q : nxtQ x f b = x
    · exact ⟨fun k hk => (by rw [unt_yes q] at hk; obtain rfl := Option.some.inj hk; exact ⟨rfl, q⟩), fun hn => (by rw [unt_yes q] at hn; cases hn)⟩
    · exact ⟨fun k hk => (by rw [unt_end q] at hk; cases hk), fun _ => q⟩
  | m + 1, x, h => by
    by_cases q : nxtQ x f b = x
    · have e : aftQ f b (m + 1) x = x := aft_same q h.1.2 (m + 1)
      refine ⟨fun k hk => ?_, fun hn => ?_⟩
      · rw [unt_yes q] at hk
        obtain rfl := Option.some.inj hk
        exact ⟨by rw [seqL_stay q]; rfl, by rw [e]; exact q⟩
      · rw [unt_yes q] at hn; cases hn
    · obtain ⟨i1, i2⟩ := unt_seq (m := m) (stp_gov h)
      have e : aftQ f b (m + 1) x = aftQ f b m (stpQ x f b) := rfl
      refine ⟨fun k hk => ?_, fun hn => ?_⟩
      · rw [unt_no q] at hk
        cases hu : untQ f b m (stpQ x f b) with
        | none => rw [hu] at hk; cases hk
        | some r =>
          rw [hu] at hk
          obtain rfl : r + 1 = k := Option.some.inj hk
          obtain ⟨j1, j2⟩ := i1 r hu
          exact ⟨by rw [seqL_move q, List.length_cons, j1], by rw [e]; exact j2⟩
      · rw [unt_no q] at hn
        cases hu : untQ f b m (stpQ x f b) with
        | none => rw [e]; exact i2 hu
        | some r => rw [hu] at hn; cases hn
theorem seqL_len (f b : Int) : ∀ (m : Nat) (x : Int), (seqL f b m x).length ≤ m
  | 0, _ => Nat.le_refl _
  | m + 1, x => by
    by_cases q : nxtQ x f b = x
    · rw [seqL_stay q]; exact Nat.zero_le _
    · rw [seqL_move q, List.length_cons]
      have := seqL_len f b m (stpQ x f b)
      omega
end Go.Proofs.Ytodpkfohihfndaa
