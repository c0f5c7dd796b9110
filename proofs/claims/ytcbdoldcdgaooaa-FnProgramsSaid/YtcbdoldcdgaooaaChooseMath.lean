/- Words for chapter 9's answers: sets of tunes as bits, the teeth that a set needs. No program. -/
import Derived.Test.YtcbdoldcdgaooaaTeethSpec
namespace Go.Proofs.Ytcbdoldcdgaooaa
open Go.ChangeShapes Go.WideShapes Go.ChangeAt Go.RowKit

/-! ### bits -/
def bitI (S k : Nat) : Int := IntKind.i64.wrap ((BitVec.ofInt 64 ((S : Int).fdiv (2 ^ k)) &&& BitVec.ofInt 64 1).toNat : Int)
theorem bit_all : ∀ S : Fin 256, ∀ k : Fin 9, bitI S.1 k.1 = if S.1.testBit k.1 then 1 else 0 := by decide +kernel
theorem bit_eq {S k : Nat} (hS : S < 256) (hk : k < 9) : bitI S k = if S.testBit k then 1 else 0 := bit_all ⟨S, hS⟩ ⟨k, hk⟩
def orBit (S k : Nat) : Int := IntKind.i64.wrap ((BitVec.ofInt 64 (S : Int) ||| BitVec.ofInt 64 (IntKind.i64.wrap (1 * 2 ^ k))).toNat : Int)
theorem or_all : ∀ S : Fin 256, ∀ k : Fin 8, orBit S.1 k.1 = ((S.1 ||| 2 ^ k.1 : Nat) : Int) := by decide +kernel
theorem or_eq {S k : Nat} (hS : S < 256) (hk : k < 8) : orBit S k = ((S ||| 2 ^ k : Nat) : Int) := or_all ⟨S, hS⟩ ⟨k, hk⟩
theorem or_lt {S k : Nat} (hS : S < 256) (hk : k < 8) : S ||| 2 ^ k < 256 := Nat.or_lt_two_pow (n := 8) hS (Nat.pow_lt_pow_right (by omega) hk)
theorem or_bit (S k i : Nat) : (S ||| 2 ^ k).testBit i = (S.testBit i || decide (k = i)) := by rw [Nat.testBit_or, Nat.testBit_two_pow]

/-! ### the teeth that a set of tunes needs at a pitch -/
def needSet (r : Int) (ll : List (List (Int × Int))) (S : Nat) : Nat → Int → Nat
  | 0, _ => 0
  | k + 1, p => match ll[k]? with
    | none => needSet r ll S k p
    | some t => if S.testBit k then max (needSet r ll S k p) (needTo r t t.length p) else needSet r ll S k p
theorem needSet_in {r : Int} {ll : List (List (Int × Int))} {S k : Nat} {t : List (Int × Int)} (h : ll[k]? = some t) (hb : S.testBit k = true) (p : Int) : needSet r ll S (k + 1) p = max (needSet r ll S k p) (needTo r t t.length p) := by
  conv => lhs; unfold needSet
  rw [h]; simp [hb]
theorem needSet_out {r : Int} {ll : List (List (Int × Int))} {S k : Nat} {t : List (Int × Int)} (h : ll[k]? = some t) (hb : S.testBit k = false) (p : Int) : needSet r ll S (k + 1) p = needSet r ll S k p := by
  conv => lhs; unfold needSet
  rw [h]; simp [hb]
theorem needSet_le {r : Int} {ll : List (List (Int × Int))} {S : Nat} (hl : ∀ t ∈ ll, t.length ≤ 40) : ∀ (k : Nat) (p : Int), needSet r ll S k p ≤ 40
  | 0, _ => by simp [needSet]
  | k + 1, p => by
    have ih := needSet_le (r := r) (S := S) hl k p
    unfold needSet
    cases h : ll[k]? with
    | none => exact ih
    | some t =>
      have h1 := needTo_le r t t.length p
      have h2 := hl t (List.mem_of_getElem? h)
      simp only
      split
      · omega
      · exact ih
def needSL (r : Int) (ll : List (List (Int × Int))) (S k : Nat) : List Int := (List.range 61).map fun (p : Nat) => ((needSet r ll S k (p : Int) : Nat) : Int)
theorem needSL_len (r : Int) (ll : List (List (Int × Int))) (S k : Nat) : (needSL r ll S k).length = 61 := by unfold needSL; simp
theorem needSL_at (r : Int) (ll : List (List (Int × Int))) (S k : Nat) {p : Nat} (hp : p < 61) : (needSL r ll S k)[p]? = some ((needSet r ll S k (p : Int) : Nat) : Int) := by unfold needSL; simp [hp]
theorem needSL_zero (r : Int) (ll : List (List (Int × Int))) (S : Nat) : needSL r ll S 0 = List.replicate 61 0 := by
  refine List.ext_getElem? fun p => ?_
  by_cases hp : p < 61
  · rw [needSL_at r ll S 0 hp, List.getElem?_replicate, if_pos hp]; simp [needSet]
  · rw [List.getElem?_eq_none (by rw [needSL_len]; omega), List.getElem?_eq_none (by simp; omega)]
/-- The row while pitch p is at hand: those ahead of p have taken tune k in. -/
def needMid (r : Int) (ll : List (List (Int × Int))) (S k p : Nat) : List Int := (needSL r ll S (k + 1)).take p ++ (needSL r ll S k).drop p
theorem needMid_len (r : Int) (ll : List (List (Int × Int))) (S k : Nat) {p : Nat} (hp : p ≤ 61) : (needMid r ll S k p).length = 61 := by
  unfold needMid; rw [List.length_append, List.length_take, List.length_drop, needSL_len, needSL_len]; omega
theorem needMid_zero (r : Int) (ll : List (List (Int × Int))) (S k : Nat) : needMid r ll S k 0 = needSL r ll S k := by unfold needMid; simp
theorem needMid_all (r : Int) (ll : List (List (Int × Int))) (S k : Nat) : needMid r ll S k 61 = needSL r ll S (k + 1) := by
  unfold needMid
  rw [List.take_of_length_le (by rw [needSL_len]; omega), List.drop_of_length_le (by rw [needSL_len]; omega), List.append_nil]
theorem needMid_at (r : Int) (ll : List (List (Int × Int))) (S k : Nat) {p : Nat} (hp : p < 61) : (needMid r ll S k p)[p]? = some ((needSet r ll S k (p : Int) : Nat) : Int) := by
  unfold needMid
  rw [List.getElem?_append_right (by rw [List.length_take, needSL_len]; omega), List.length_take, needSL_len, List.getElem?_drop, show p + (p - min p 61) = p by omega]
  exact needSL_at r ll S k hp
theorem needMid_succ (r : Int) (ll : List (List (Int × Int))) (S k : Nat) {p : Nat} (hp : p < 61) : needMid r ll S k (p + 1) = (needMid r ll S k p).set p ((needSet r ll S (k + 1) (p : Int) : Nat) : Int) := by
  refine List.ext_getElem? fun i => ?_
  have hl1 := needMid_len r ll S k (p := p + 1) (by omega)
  have hl2 := needMid_len r ll S k (p := p) (by omega)
  by_cases hi : i < 61
  · by_cases he : p = i
    · subst he
      rw [List.getElem?_set_self (by omega)]
      unfold needMid
      rw [List.getElem?_append_left (by rw [List.length_take, needSL_len]; omega), List.getElem?_take_of_lt (by omega)]
      exact needSL_at r ll S (k + 1) hp
    · rw [List.getElem?_set_ne he]
      unfold needMid
      by_cases hlt : i < p
      · rw [List.getElem?_append_left (by rw [List.length_take, needSL_len]; omega), List.getElem?_append_left (by rw [List.length_take, needSL_len]; omega), List.getElem?_take_of_lt (by omega), List.getElem?_take_of_lt hlt]
      · rw [List.getElem?_append_right (by rw [List.length_take, needSL_len]; omega), List.getElem?_append_right (by rw [List.length_take, needSL_len]; omega), List.getElem?_drop, List.getElem?_drop, List.length_take, List.length_take, needSL_len]
        congr 1; omega
  · rw [List.getElem?_eq_none (by omega), List.getElem?_eq_none (by rw [List.length_set]; omega)]
theorem sum_le40 : ∀ (l : List Int), (∀ x ∈ l, 0 ≤ x ∧ x ≤ 40) → 0 ≤ l.sum ∧ l.sum ≤ 40 * (l.length : Int)
  | [], _ => by simp
  | x :: l, h => by
    have h1 := h x (by simp)
    have h2 := sum_le40 l fun y hy => h y (List.mem_cons_of_mem _ hy)
    rw [List.sum_cons, List.length_cons]; omega
/-- All tunes valid, at most eight, the rest in its range. -/
noncomputable def progB (ll : List (List (Int × Int))) (r : Int) : Bool := ll.all tuneB && decide (ll.length ≤ 8) && decide (1 ≤ r ∧ r ≤ 100)
theorem progB_true {ll : List (List (Int × Int))} {r : Int} : progB ll r = true ↔ (∀ t ∈ ll, tuneB t = true) ∧ ll.length ≤ 8 ∧ (1 ≤ r ∧ r ≤ 100) := by
  unfold progB; rw [Bool.and_eq_true, Bool.and_eq_true, List.all_eq_true, decide_eq_true_eq, decide_eq_true_eq, and_assoc]
theorem progB_false {ll : List (List (Int × Int))} {r : Int} : progB ll r = false ↔ ¬ ((∀ t ∈ ll, tuneB t = true) ∧ ll.length ≤ 8 ∧ (1 ≤ r ∧ r ≤ 100)) := by rw [← progB_true]; simp
open Classical in
/-- The set of strictly ascending indices up to n. -/
noncomputable def setTo (n : Int) (c : List Int) : Nat → Option Nat
  | 0 => some 0
  | k + 1 => match c[k]?, setTo n c k with
    | some x, some S => if (0 ≤ x ∧ x ≤ n) ∧ (∀ y, k ≠ 0 → c[k - 1]? = some y → y < x) then some (S ||| 2 ^ x.toNat) else none
    | _, _ => none
theorem setTo_step {n : Int} {c : List Int} {k S : Nat} {x : Int} (hx : c[k]? = some x) (hS : setTo n c k = some S) (h1 : 0 ≤ x ∧ x ≤ n) (h2 : ∀ y, k ≠ 0 → c[k - 1]? = some y → y < x) : setTo n c (k + 1) = some (S ||| 2 ^ x.toNat) := by
  unfold setTo; rw [hx, hS]; exact if_pos ⟨h1, h2⟩
theorem setTo_bad {n : Int} {c : List Int} {k S : Nat} {x : Int} (hx : c[k]? = some x) (hS : setTo n c k = some S) (h : ¬ ((0 ≤ x ∧ x ≤ n) ∧ (∀ y, k ≠ 0 → c[k - 1]? = some y → y < x))) : setTo n c (k + 1) = none := by
  unfold setTo; rw [hx, hS]; exact if_neg h
theorem setTo_dead {n : Int} {c : List Int} {k : Nat} (h : setTo n c k = none) : setTo n c (k + 1) = none := by
  unfold setTo; rw [h]; cases c[k]? <;> rfl
theorem setTo_end {n : Int} {c : List Int} {k : Nat} (h : setTo n c k = none) : ∀ {m : Nat}, k ≤ m → setTo n c m = none
  | 0, hm => by obtain rfl : k = 0 := by omega
                exact h
  | m + 1, hm => by
    by_cases e : m + 1 = k
    · rw [e]; exact h
    · exact setTo_dead (setTo_end h (by omega))
theorem setTo_lt {n : Int} {c : List Int} (hn : n ≤ 7) : ∀ {k S : Nat}, setTo n c k = some S → S < 256
  | 0, S, h => by
    obtain rfl := Option.some.inj h; omega
  | k + 1, S, h => by
    unfold setTo at h
    cases hx : c[k]? with
    | none => rw [hx] at h; cases h
    | some x =>
      cases hS : setTo n c k with
      | none => rw [hx, hS] at h; cases h
      | some T =>
        rw [hx, hS] at h
        simp only at h
        split at h
        · rename_i q
          obtain rfl := Option.some.inj h
          exact or_lt (setTo_lt hn hS) (by omega)
        · cases h
end Go.Proofs.Ytcbdoldcdgaooaa
