/- Chapter 17, pure: scales as sets of bits (rotN, majN, useN), wrong notes, the best scale, symmetries. No condition. -/
import Derived.Test.YthggdckldcfakaaTuneSpec2
namespace Go.Proofs.Ythggdckldcfakaa
open Go.ChangeShapes Go.WideShapes Go.ChangeAt Go.RowKit

theorem bits_or2 {a b : Nat} (ha : a < 2 ^ 62) (hb : b < 2 ^ 62) : bits BinOp.or IntKind.i64 (a : Int) (b : Int) = ((a ||| b : Nat) : Int) := by
  have hl : a ||| b < 2 ^ 62 := Nat.or_lt_two_pow ha hb
  unfold bits
  simp only [BitVec.ofInt_natCast, BitVec.toNat_or, BitVec.toNat_ofNat]
  rw [Nat.mod_eq_of_lt (show a < 2 ^ IntKind.i64.bits from Nat.lt_of_lt_of_le ha (by decide)), Nat.mod_eq_of_lt (show b < 2 ^ IntKind.i64.bits from Nat.lt_of_lt_of_le hb (by decide))]
  exact IntWalk.i64_in _ (by omega)
theorem bits_and2 {a b : Nat} (ha : a < 2 ^ 62) (hb : b < 2 ^ 62) : bits BinOp.and IntKind.i64 (a : Int) (b : Int) = ((a &&& b : Nat) : Int) := by
  have hl : a &&& b < 2 ^ 62 := Nat.and_lt_two_pow a hb
  unfold bits
  simp only [BitVec.ofInt_natCast, BitVec.toNat_and, BitVec.toNat_ofNat]
  rw [Nat.mod_eq_of_lt (show a < 2 ^ IntKind.i64.bits from Nat.lt_of_lt_of_le ha (by decide)), Nat.mod_eq_of_lt (show b < 2 ^ IntKind.i64.bits from Nat.lt_of_lt_of_le hb (by decide))]
  exact IntWalk.i64_in _ (by omega)
theorem pow12_lt {s : Nat} (hs : s < 12) : 2 ^ s < 4096 := (Nat.pow_lt_pow_right (by omega) hs : 2 ^ s < 2 ^ 12)
theorem or12_lt {a b : Nat} (ha : a < 4096) (hb : b < 4096) : a ||| b < 4096 := Nat.or_lt_two_pow (n := 12) ha hb
theorem bit_high {s i : Nat} (hs : s < 4096) (hi : 12 ≤ i) : s.testBit i = false :=
  Nat.testBit_lt_two_pow (Nat.lt_of_lt_of_le hs (Nat.pow_le_pow_right (by omega) hi : 2 ^ 12 ≤ 2 ^ i))

/-- A scale turned by b. -/
def rotN (s b : Nat) : Nat := ((s <<< b) &&& 4095) ||| (s >>> (12 - b))
theorem bit_4095 (i : Nat) : (4095 : Nat).testBit i = decide (i < 12) := Nat.testBit_two_pow_sub_one 12 i
theorem rot_bit {s b : Nat} (hs : s < 4096) (hb : b < 12) (i : Nat) : (rotN s b).testBit i = (decide (i < 12) && s.testBit ((i + 12 - b) % 12)) := by
  unfold rotN
  rw [Nat.testBit_or, Nat.testBit_and, Nat.testBit_shiftLeft, Nat.testBit_shiftRight, bit_4095]
  by_cases hi : i < 12
  · rw [decide_eq_true hi, Bool.and_true, Bool.true_and]
    by_cases hib : b ≤ i
    · rw [decide_eq_true hib, Bool.true_and, bit_high hs (show 12 ≤ 12 - b + i by omega), Bool.or_false]
      congr 1; omega
    · rw [decide_eq_false hib, Bool.false_and, Bool.false_or]
      congr 1; omega
  · rw [decide_eq_false hi, Bool.and_false, Bool.false_and, Bool.false_or]
    exact bit_high hs (by omega)
theorem rot_lt {s : Nat} (hs : s < 4096) (b : Nat) : rotN s b < 4096 := by
  refine Nat.or_lt_two_pow (n := 12) (Nat.and_lt_two_pow _ (by decide)) ?_
  rw [Nat.shiftRight_eq_div_pow]
  exact Nat.lt_of_le_of_lt (Nat.div_le_self _ _) hs
theorem rot_zero {s : Nat} (hs : s < 4096) : rotN s 0 = s := by
  apply Nat.eq_of_testBit_eq
  intro i
  rw [rot_bit hs (by omega)]
  by_cases hi : i < 12
  · rw [decide_eq_true hi, Bool.true_and]; congr 1; omega
  · rw [decide_eq_false hi, Bool.false_and, bit_high hs (by omega)]
theorem rot_rot {s a b : Nat} (hs : s < 4096) (ha : a < 12) (hb : b < 12) : rotN (rotN s a) b = rotN s ((a + b) % 12) := by
  apply Nat.eq_of_testBit_eq
  intro i
  rw [rot_bit (rot_lt hs a) hb, rot_bit hs ha, rot_bit hs (Nat.mod_lt _ (by omega))]
  by_cases hi : i < 12
  · rw [decide_eq_true hi, Bool.true_and, Bool.true_and, decide_eq_true (Nat.mod_lt _ (by omega)), Bool.true_and]
    congr 1; omega
  · rw [decide_eq_false hi, Bool.false_and, Bool.false_and]
theorem rot_back {s b : Nat} (hs : s < 4096) (hb : b < 12) : rotN (rotN s b) ((12 - b) % 12) = s := by
  rw [rot_rot hs hb (Nat.mod_lt _ (by omega)), show (b + (12 - b) % 12) % 12 = 0 by omega, rot_zero hs]
theorem rot_same {s a b : Nat} (hs : s < 4096) (ha : a < 12) (hb : b < 12) : rotN (rotN s a) b = rotN s a ↔ rotN s b = s := by
  have h1 : rotN (rotN s a) b = rotN (rotN s b) a := by rw [rot_rot hs ha hb, rot_rot hs hb ha, Nat.add_comm]
  rw [h1]
  constructor
  · intro h
    have h2 : rotN (rotN (rotN s b) a) ((12 - a) % 12) = rotN (rotN s a) ((12 - a) % 12) := by rw [h]
    rwa [rot_back (rot_lt hs b) ha, rot_back hs ha] at h2
  · intro h; rw [h]
/-- As the program turns it. -/
theorem rot_prog {s b : Nat} (hs : s < 4096) (hb : b < 12) : bits .and .i64 (bits .or .i64 (wrap64 ((s : Int) * 2 ^ b)) ((s : Int) / 2 ^ (12 - b))) 4095 = ((rotN s b : Nat) : Int) := by
  have hp := pow12_lt hb
  have hm : s * 2 ^ b < 4096 * 4096 := Nat.mul_lt_mul_of_lt_of_le hs (Nat.le_of_lt hp) (by omega)
  have e1 : (s : Int) * 2 ^ b = ((s * 2 ^ b : Nat) : Int) := by simp
  have e2 : (s : Int) / 2 ^ (12 - b) = ((s / 2 ^ (12 - b) : Nat) : Int) := by simp
  have e3 : wrap64 ((s * 2 ^ b : Nat) : Int) = ((s * 2 ^ b : Nat) : Int) := by unfold wrap64; omega
  have hd : s / 2 ^ (12 - b) < 4096 := Nat.lt_of_le_of_lt (Nat.div_le_self _ _) hs
  have ho : s * 2 ^ b ||| s / 2 ^ (12 - b) < 2 ^ 62 := Nat.or_lt_two_pow (Nat.lt_trans hm (by decide)) (Nat.lt_trans hd (by decide))
  rw [e1, e2, e3, bits_or2 (Nat.lt_trans hm (by decide)) (Nat.lt_trans hd (by decide)), show (4095 : Int) = ((4095 : Nat) : Int) from rfl, bits_and2 ho (by decide)]
  congr 1
  rw [← Nat.shiftLeft_eq, ← Nat.shiftRight_eq_div_pow]
  unfold rotN
  rw [Nat.and_or_distrib_right]
  congr 1
  apply Nat.eq_of_testBit_eq
  intro i
  rw [Nat.testBit_and, bit_4095]
  by_cases hi : i < 12
  · rw [decide_eq_true hi, Bool.and_true]
  · rw [decide_eq_false hi, Bool.and_false, Nat.testBit_shiftRight, bit_high hs (by omega)]
/-- As the model turns it. -/
theorem rot_model {s b : Nat} (hs : s < 4096) (hb : b < 12) : bits .or .i64 (bits .and .i64 (wrap64 ((s : Int) * 2 ^ b)) 4095) (wrap64 ((s : Int) * 2 ^ b) / 4096) = ((rotN s b : Nat) : Int) := by
  have hp := pow12_lt hb
  have hm : s * 2 ^ b < 4096 * 4096 := Nat.mul_lt_mul_of_lt_of_le hs (Nat.le_of_lt hp) (by omega)
  have e1 : (s : Int) * 2 ^ b = ((s * 2 ^ b : Nat) : Int) := by simp
  have e3 : wrap64 ((s * 2 ^ b : Nat) : Int) = ((s * 2 ^ b : Nat) : Int) := by unfold wrap64; omega
  have e2 : ((s * 2 ^ b : Nat) : Int) / 4096 = ((s * 2 ^ b / 2 ^ 12 : Nat) : Int) := by omega
  have hd : s * 2 ^ b / 2 ^ 12 < 4096 := by omega
  have ha : s * 2 ^ b &&& 4095 < 2 ^ 62 := Nat.and_lt_two_pow _ (by decide)
  rw [e1, e3, e2, show (4095 : Int) = ((4095 : Nat) : Int) from rfl, bits_and2 (Nat.lt_trans hm (by decide)) (by decide), bits_or2 ha (Nat.lt_trans hd (by decide))]
  congr 1
  rw [← Nat.shiftLeft_eq, ← Nat.shiftRight_eq_div_pow]
  unfold rotN
  congr 1
  apply Nat.eq_of_testBit_eq
  intro i
  rw [Nat.testBit_shiftRight, Nat.testBit_shiftLeft, Nat.testBit_shiftRight, decide_eq_true (by omega : 12 + i ≥ b), Bool.true_and]
  congr 1; omega

def rotI (s b : Int) : Int := if (0 ≤ s ∧ s ≤ 4095) ∧ (0 ≤ b ∧ b ≤ 11) then ((rotN s.toNat b.toNat : Nat) : Int) else -1
theorem rotI_yes {s b : Nat} (hs : s < 4096) (hb : b < 12) : rotI s b = ((rotN s b : Nat) : Int) := by
  unfold rotI
  rw [if_pos (by omega), Int.toNat_natCast, Int.toNat_natCast]
theorem rotI_no {s b : Int} (h : ¬ ((0 ≤ s ∧ s ≤ 4095) ∧ (0 ≤ b ∧ b ≤ 11))) : rotI s b = -1 := if_neg h
def majN (r : Nat) : Nat := rotN 2741 r
theorem maj_lt (r : Nat) : majN r < 4096 := rot_lt (by omega) r
theorem majI_yes {r : Nat} (hr : r < 12) : rotI 2741 r = ((majN r : Nat) : Int) := rotI_yes (s := 2741) (by omega) hr

/-- The step of a pitch. -/
def stepN (p : Int × Int) : Nat := (p.2 % 12).toNat
theorem stepN_lt (p : Int × Int) : stepN p < 12 := by unfold stepN; omega
theorem stepN_cast (p : Int × Int) : p.2 % 12 = ((stepN p : Nat) : Int) := by unfold stepN; omega
def useN (l : List (Int × Int)) : Nat := l.foldl (fun u p => u ||| 2 ^ stepN p) 0
theorem take_snoc {α : Type} {l : List α} {j : Nat} {p : α} (h : l[j]? = some p) : l.take (j + 1) = l.take j ++ [p] := by
  rw [List.take_add_one, h]; rfl
theorem use_step {l : List (Int × Int)} {j : Nat} {p : Int × Int} (h : l[j]? = some p) : useN (l.take (j + 1)) = useN (l.take j) ||| 2 ^ stepN p := by
  unfold useN
  rw [take_snoc h, List.foldl_append]; rfl
theorem use_bit_from (l : List (Int × Int)) : ∀ (u i : Nat), (l.foldl (fun u p => u ||| 2 ^ stepN p) u).testBit i = (u.testBit i || l.any fun p => stepN p == i) := by
  induction l with
  | nil => intro u i; simp
  | cons p l ih =>
    intro u i
    rw [List.foldl_cons, ih, Nat.testBit_or, Nat.testBit_two_pow, List.any_cons, Bool.or_assoc]
    congr 1
theorem use_bit (l : List (Int × Int)) (i : Nat) : (useN l).testBit i = l.any fun p => stepN p == i := by
  unfold useN
  rw [use_bit_from, Nat.zero_testBit, Bool.false_or]
theorem use_lt_from (l : List (Int × Int)) : ∀ u, u < 4096 → l.foldl (fun u p => u ||| 2 ^ stepN p) u < 4096 := by
  induction l with
  | nil => intro u hu; exact hu
  | cons p l ih => intro u hu; exact ih _ (or12_lt hu (pow12_lt (stepN_lt p)))
theorem use_lt (l : List (Int × Int)) : useN l < 4096 := use_lt_from l 0 (by omega)
noncomputable def stepsM (l : List (Int × Int)) : Int := if tuneB l then ((useN l : Nat) : Int) else -1
theorem stepsM_yes {l : List (Int × Int)} (h : tuneB l = true) : stepsM l = ((useN l : Nat) : Int) := by unfold stepsM; rw [h]; rfl
theorem stepsM_no {l : List (Int × Int)} (h : tuneB l = false) : stepsM l = -1 := by unfold stepsM; rw [h]; rfl

/-- Notes that are not in a scale. -/
def wrongN (l : List (Int × Int)) (m : Nat) : Nat := l.countP fun p => !(m.testBit (stepN p))
theorem wrong_le (l : List (Int × Int)) (m : Nat) : wrongN l m ≤ l.length := List.countP_le_length
theorem wrong_in {l : List (Int × Int)} {m j : Nat} {p : Int × Int} (h : l[j]? = some p) (hb : m.testBit (stepN p) = true) : wrongN (l.take (j + 1)) m = wrongN (l.take j) m := by
  unfold wrongN
  rw [take_snoc h, List.countP_append, List.countP_singleton, hb]; rfl
theorem wrong_out {l : List (Int × Int)} {m j : Nat} {p : Int × Int} (h : l[j]? = some p) (hb : m.testBit (stepN p) = false) : wrongN (l.take (j + 1)) m = wrongN (l.take j) m + 1 := by
  unfold wrongN
  rw [take_snoc h, List.countP_append, List.countP_singleton, hb]; rfl
theorem wrong_zero {l : List (Int × Int)} {m : Nat} : wrongN l m = 0 ↔ ∀ p ∈ l, m.testBit (stepN p) = true := by
  unfold wrongN
  rw [List.countP_eq_zero]
  refine forall_congr' fun p => forall_congr' fun _ => ?_
  simp
theorem use_or {l : List (Int × Int)} {m : Nat} : useN l ||| m = m ↔ wrongN l m = 0 := by
  rw [wrong_zero]
  constructor
  · intro h p hp
    rw [← h, Nat.testBit_or, use_bit, List.any_eq_true.2 ⟨p, hp, by simp⟩, Bool.true_or]
  · intro h
    apply Nat.eq_of_testBit_eq
    intro i
    rw [Nat.testBit_or, use_bit]
    cases ha : l.any (fun p => stepN p == i) with
    | false => rw [Bool.false_or]
    | true =>
      obtain ⟨p, hp, he⟩ := List.any_eq_true.1 ha
      rw [beq_iff_eq] at he
      rw [Bool.true_or, ← he, h p hp]
noncomputable def wrongI (l : List (Int × Int)) (r : Int) : Int := if tuneB l = true ∧ (0 ≤ r ∧ r ≤ 11) then ((wrongN l (majN r.toNat) : Nat) : Int) else -1
theorem wrongI_yes {l : List (Int × Int)} {r : Nat} (h : tuneB l = true) (hr : r < 12) : wrongI l r = ((wrongN l (majN r) : Nat) : Int) := by
  unfold wrongI
  rw [if_pos ⟨h, by omega⟩, Int.toNat_natCast]
theorem wrongI_no {l : List (Int × Int)} {r : Int} (h : ¬ (tuneB l = true ∧ (0 ≤ r ∧ r ≤ 11))) : wrongI l r = -1 := if_neg h

/-- The roots below n whose major scale holds all. -/
def scL (l : List (Int × Int)) : Nat → List Int
  | 0 => []
  | n + 1 => if wrongN l (majN n) = 0 then scL l n ++ [(n : Int)] else scL l n
theorem scL_yes {l : List (Int × Int)} {n : Nat} (h : wrongN l (majN n) = 0) : scL l (n + 1) = scL l n ++ [(n : Int)] := if_pos h
theorem scL_no {l : List (Int × Int)} {n : Nat} (h : ¬ wrongN l (majN n) = 0) : scL l (n + 1) = scL l n := if_neg h
theorem scL_len (l : List (Int × Int)) : ∀ n, (scL l n).length ≤ n
  | 0 => Nat.le_refl _
  | n + 1 => by
    have h := scL_len l n
    by_cases hw : wrongN l (majN n) = 0
    · rw [scL_yes hw, List.length_append]; simp; omega
    · rw [scL_no hw]; omega
theorem scL_mem (l : List (Int × Int)) (r : Nat) : ∀ n, (r : Int) ∈ scL l n ↔ r < n ∧ wrongN l (majN r) = 0
  | 0 => by simp [scL]
  | n + 1 => by
    have ih := scL_mem l r n
    by_cases hw : wrongN l (majN n) = 0
    · rw [scL_yes hw, List.mem_append, ih, List.mem_singleton]
      constructor
      · rintro (⟨h1, h2⟩ | h)
        · exact ⟨by omega, h2⟩
        · obtain rfl : r = n := by omega
          exact ⟨by omega, hw⟩
      · rintro ⟨h1, h2⟩
        by_cases hr : r < n
        · exact Or.inl ⟨hr, h2⟩
        · exact Or.inr (by omega)
    · rw [scL_no hw, ih]
      constructor
      · rintro ⟨h1, h2⟩; exact ⟨by omega, h2⟩
      · rintro ⟨h1, h2⟩
        refine ⟨?_, h2⟩
        by_cases hr : r < n
        · exact hr
        · obtain rfl : r = n := by omega
          exact absurd h2 hw
noncomputable def scalesM (l : List (Int × Int)) : List Int := if tuneB l then scL l 12 else []
theorem scalesM_yes {l : List (Int × Int)} (h : tuneB l = true) : scalesM l = scL l 12 := by unfold scalesM; rw [h]; rfl
theorem scalesM_no {l : List (Int × Int)} (h : tuneB l = false) : scalesM l = [] := by unfold scalesM; rw [h]; rfl
theorem scalesM_len (l : List (Int × Int)) : (scalesM l).length ≤ 12 := by
  unfold scalesM
  cases tuneB l with
  | true => exact scL_len l 12
  | false => exact Nat.zero_le _

/-- The first of the roots below n with the fewest wrong notes. -/
def bestN (l : List (Int × Int)) : Nat → Nat
  | 0 => 0
  | n + 1 => if wrongN l (majN n) < wrongN l (majN (bestN l n)) then n else bestN l n
theorem bestN_yes {l : List (Int × Int)} {n : Nat} (h : wrongN l (majN n) < wrongN l (majN (bestN l n))) : bestN l (n + 1) = n := if_pos h
theorem bestN_no {l : List (Int × Int)} {n : Nat} (h : ¬ wrongN l (majN n) < wrongN l (majN (bestN l n))) : bestN l (n + 1) = bestN l n := if_neg h
theorem bestN_one (l : List (Int × Int)) : bestN l 1 = 0 := by
  show (if wrongN l (majN 0) < wrongN l (majN 0) then 0 else 0) = 0
  rw [if_neg (Nat.lt_irrefl _)]
theorem bestN_lt (l : List (Int × Int)) : ∀ n, bestN l (n + 1) < n + 1
  | 0 => by rw [bestN_one]; omega
  | n + 1 => by
    have h := bestN_lt l n
    by_cases hw : wrongN l (majN (n + 1)) < wrongN l (majN (bestN l (n + 1)))
    · rw [bestN_yes hw]; omega
    · rw [bestN_no hw]; omega
theorem bestN_is (l : List (Int × Int)) : ∀ n r, r < n → wrongN l (majN (bestN l n)) ≤ wrongN l (majN r) ∧ (r < bestN l n → wrongN l (majN (bestN l n)) < wrongN l (majN r))
  | 0, r, h => by omega
  | n + 1, r, h => by
    have ih := bestN_is l n r
    by_cases hw : wrongN l (majN n) < wrongN l (majN (bestN l n))
    · rw [bestN_yes hw]
      by_cases hr : r < n
      · have := (ih hr).1
        exact ⟨by omega, fun _ => by omega⟩
      · obtain rfl : r = n := by omega
        exact ⟨Nat.le_refl _, fun h => by omega⟩
    · rw [bestN_no hw]
      by_cases hr : r < n
      · exact ih hr
      · obtain rfl : r = n := by omega
        refine ⟨by omega, fun h2 => ?_⟩
        cases r with
        | zero => simp [bestN] at h2
        | succ m => have := bestN_lt l m; omega
noncomputable def bestI (l : List (Int × Int)) : Int := if tuneB l then ((bestN l 12 : Nat) : Int) else -1
theorem bestI_yes {l : List (Int × Int)} (h : tuneB l = true) : bestI l = ((bestN l 12 : Nat) : Int) := by unfold bestI; rw [h]; rfl
theorem bestI_no {l : List (Int × Int)} (h : tuneB l = false) : bestI l = -1 := by unfold bestI; rw [h]; rfl

/-- By how many numbers below n a scale can be turned to itself. -/
def symN (s : Nat) : Nat → Nat
  | 0 => 0
  | n + 1 => symN s n + if rotN s n = s then 1 else 0
theorem symN_yes {s n : Nat} (h : rotN s n = s) : symN s (n + 1) = symN s n + 1 := by show _ + (if _ then 1 else 0) = _; rw [if_pos h]
theorem symN_no {s n : Nat} (h : ¬ rotN s n = s) : symN s (n + 1) = symN s n := by show _ + (if _ then 1 else 0) = _; rw [if_neg h]; rfl
theorem symN_le (s : Nat) : ∀ n, symN s n ≤ n
  | 0 => Nat.le_refl _
  | n + 1 => by
    have h := symN_le s n
    by_cases hw : rotN s n = s
    · rw [symN_yes hw]; omega
    · rw [symN_no hw]; omega
theorem symN_pos {s : Nat} (hs : s < 4096) : ∀ n, 1 ≤ symN s (n + 1)
  | 0 => by rw [symN_yes (rot_zero hs)]; omega
  | n + 1 => by
    have h := symN_pos hs n
    have e : symN s (n + 1 + 1) = symN s (n + 1) + if rotN s (n + 1) = s then 1 else 0 := rfl
    omega
theorem symN_rot {s a : Nat} (hs : s < 4096) (ha : a < 12) : ∀ n, n ≤ 12 → symN (rotN s a) n = symN s n
  | 0, _ => rfl
  | n + 1, h => by
    have ih := symN_rot hs ha n (by omega)
    by_cases hw : rotN s n = s
    · rw [symN_yes hw, symN_yes ((rot_same hs ha (by omega)).2 hw), ih]
    · rw [symN_no hw, symN_no (fun e => hw ((rot_same hs ha (by omega)).1 e)), ih]
theorem symN_divs : ((List.range 4096).all fun s => 12 % symN s 12 == 0) = true := by decide +kernel
theorem symN_div {s : Nat} (hs : s < 4096) : 12 % symN s 12 = 0 := by
  have h := List.all_eq_true.1 symN_divs s (List.mem_range.2 hs)
  rwa [beq_iff_eq] at h
theorem symN_1365 : symN 1365 12 = 6 := by decide +kernel
def symI (s : Int) : Int := if 0 ≤ s ∧ s ≤ 4095 then ((symN s.toNat 12 : Nat) : Int) else -1
theorem symI_yes {s : Nat} (hs : s < 4096) : symI s = ((symN s 12 : Nat) : Int) := by
  unfold symI
  rw [if_pos (by omega), Int.toNat_natCast]
theorem symI_no {s : Int} (h : ¬ (0 ≤ s ∧ s ≤ 4095)) : symI s = -1 := if_neg h

/-- Two steps higher. -/
theorem use_up {l : List (Int × Int)} {f : Int × Int → Int × Int} {d : Nat} (hd : d < 12) (hf : ∀ p, stepN (f p) = (stepN p + d) % 12) : useN (l.map f) = rotN (useN l) d := by
  apply Nat.eq_of_testBit_eq
  intro i
  rw [use_bit, rot_bit (use_lt l) hd, List.any_map, use_bit]
  by_cases hi : i < 12
  · rw [decide_eq_true hi, Bool.true_and]
    congr 1
    funext p
    have := stepN_lt p
    show (stepN (f p) == i) = _
    rw [hf, Bool.eq_iff_iff, beq_iff_eq, beq_iff_eq]
    omega
  · rw [decide_eq_false hi, Bool.false_and, List.any_eq_false]
    intro p _
    show ¬ (stepN (f p) == i) = true
    rw [hf, beq_iff_eq]
    omega
/-- The bit of a step, as the model tests it and as the program does. -/
theorem bit_model {m k : Nat} (hm : m < 4096) : bits .and .i64 ((m : Int) / 2 ^ k) 1 = if m.testBit k then 1 else 0 := by
  have e : (m : Int) / 2 ^ k = ((m / 2 ^ k : Nat) : Int) := by simp
  have hd : m / 2 ^ k < 4096 := Nat.lt_of_le_of_lt (Nat.div_le_self _ _) hm
  rw [e, show (1 : Int) = ((1 : Nat) : Int) from rfl, bits_and2 (Nat.lt_trans hd (by decide)) (by decide), Nat.testBit_eq_decide_div_mod_eq, Nat.and_one_is_mod]
  by_cases h : m / 2 ^ k % 2 = 1
  · rw [h]; rfl
  · have h0 : m / 2 ^ k % 2 = 0 := by omega
    rw [h0]; rfl
theorem wrap_pow {s : Nat} (hs : s < 12) : wrap64 ((2 : Int) ^ s) = ((2 ^ s : Nat) : Int) := by
  have h := pow12_lt hs
  have e : ((2 ^ s : Nat) : Int) = (2 : Int) ^ s := by simp
  rw [← e]
  generalize 2 ^ s = m at h
  unfold wrap64; omega
theorem bit_prog {m k : Nat} (hm : m < 4096) (hk : k < 12) : bits .and .i64 (m : Int) ((2 ^ k : Nat) : Int) = ((if m.testBit k then 2 ^ k else 0 : Nat) : Int) := by
  have hp := pow12_lt hk
  rw [bits_and2 (Nat.lt_trans hm (by decide)) (Nat.lt_trans hp (by decide))]
  congr 1
  apply Nat.eq_of_testBit_eq
  intro i
  rw [Nat.testBit_and, Nat.testBit_two_pow]
  by_cases hi : k = i
  · subst hi
    rw [decide_eq_true rfl, Bool.and_true]
    cases h : m.testBit k with
    | true => rw [if_pos rfl, Nat.testBit_two_pow, decide_eq_true rfl]
    | false => rw [if_neg (by simp), Nat.zero_testBit]
  · rw [decide_eq_false hi, Bool.and_false]
    cases h : m.testBit k with
    | true => rw [if_pos rfl, Nat.testBit_two_pow, decide_eq_false hi]
    | false => rw [if_neg (by simp), Nat.zero_testBit]
end Go.Proofs.Ythggdckldcfakaa
