/- Plain facts on decimal numerals: of no program. -/
import Derived.Test.YtidfeffpfcnnlaaDoorKit
import Derived.Lib.ItoaLen
import Derived.Lib.ItoaMem
import Derived.Lib.AtoiTie
import Derived.Lib.AtoiAllCases
namespace Go.Proofs.YtidfeffpfcnnlaaDoor
open Go.Lib

theorem digitVal_fig {d : Nat} (h : d < 10) : digitVal (UInt8.ofNat (48 + d)) = some d := by
  have e : (UInt8.ofNat (48 + d)).toNat = 48 + d := by rw [UInt8.toNat_ofNat']; omega
  unfold digitVal; rw [e, if_pos (by omega)]; congr 1; omega
theorem decFrom_snoc : ∀ (l : List UInt8) (acc n d : Nat) (c : UInt8), decFrom acc l = some n → digitVal c = some d → decFrom acc (l ++ [c]) = some (n * 10 + d)
  | [], acc, n, d, c, h, hc => by
    simp only [decFrom, Option.some.injEq] at h
    subst h
    simp [decFrom, hc]
  | b :: r, acc, n, d, c, h, hc => by
    simp only [List.cons_append]
    unfold decFrom at h ⊢
    cases hb : digitVal b with
    | none => rw [hb] at h; cases h
    | some x => rw [hb] at h; exact decFrom_snoc r _ n d c h hc
theorem decDigits_big {u : Nat} (h : ¬ u < 10) : decDigits u = decDigits (u / 10) ++ [UInt8.ofNat (48 + u % 10)] := by rw [decDigits, dif_neg h]
theorem decDigits_val (u : Nat) : decFrom 0 (decDigits u) = some u := by
  induction u using Nat.strongRecOn with
  | ind u ih =>
    by_cases h : u < 10
    · rw [decDigits_one h]; unfold decFrom; rw [digitVal_fig h]; simp [decFrom]
    · rw [decDigits_big h, decFrom_snoc _ 0 (u / 10) (u % 10) _ (ih _ (by omega)) (digitVal_fig (by omega))]
      congr 1; omega
theorem decFrom_all : ∀ (l : List UInt8) (acc n : Nat), decFrom acc l = some n → ∀ c ∈ l, 48 ≤ c.toNat ∧ c.toNat ≤ 57
  | [], _, _, _, c, hc => by cases hc
  | b :: r, acc, n, h, c, hc => by
    unfold decFrom at h
    cases hb : digitVal b with
    | none => rw [hb] at h; cases h
    | some x =>
      rw [hb] at h
      rcases List.mem_cons.1 hc with rfl | hc
      · unfold digitVal at hb; split at hb
        · assumption
        · cases hb
      · exact decFrom_all r _ n h c hc
theorem decDigits_len_le : ∀ (k u : Nat), u < 10 ^ (k + 1) → (decDigits u).length ≤ k + 1
  | 0, u, h => by rw [decDigits_one (by simpa using h)]; simp
  | k + 1, u, h => by
    by_cases h10 : u < 10
    · rw [decDigits_one h10]; simp
    · rw [decDigits_big h10, List.length_append]
      have := decDigits_len_le k (u / 10) (by rw [Nat.pow_succ] at h; omega)
      simp only [List.length_cons, List.length_nil]; omega
theorem decDigits_ne (u : Nat) : decDigits u ≠ [] := by
  by_cases h : u < 10
  · rw [decDigits_one h]; simp
  · rw [decDigits_big h]; simp

/-- s is the numeral of n, and n is from 0 to 1000000000. -/
def Numeral (s : ByteArray) (n : Int) : Prop := 0 ≤ n ∧ n ≤ 1000000000 ∧ s.data.toList = itoa n
theorem Numeral.digits {s : ByteArray} {n : Int} (h : Numeral s n) : decFrom 0 s.data.toList = some n.toNat ∧ s.data.toList.length ≤ 10 ∧ s.data.toList ≠ [] := by
  obtain ⟨h0, h1, h2⟩ := h
  obtain ⟨m, rfl⟩ := Int.eq_ofNat_of_zero_le h0
  rw [h2, itoa_nonneg]
  exact ⟨decDigits_val m, decDigits_len_le 9 m (by omega), decDigits_ne m⟩
theorem Numeral.unique {s : ByteArray} {n m : Int} (h : Numeral s n) (k : Numeral s m) : n = m := by
  have a := h.digits.1
  have b := k.digits.1
  rw [a] at b
  have := Option.some.inj b
  have := h.1
  have := k.1
  omega
theorem Numeral.atoi {s : ByteArray} {n : Int} (h : Numeral s n) : atoiAll s.data.toList = .ok n := by
  obtain ⟨h1, h2, h3⟩ := h.digits
  have h0 := h.1
  rw [atoiAll_short _ (by omega)]
  have hall := decFrom_all _ _ _ h1
  cases hl : s.data.toList with
  | nil => exact absurd hl h3
  | cons b r =>
    rw [hl] at h1 hall
    have hb := hall b (List.mem_cons.2 (Or.inl rfl))
    have n45 : (b == 45) = false := by
      rw [beq_eq_false_iff_ne]; intro e; rw [e] at hb; exact absurd hb.1 (by decide)
    have n43 : (b == 43) = false := by
      rw [beq_eq_false_iff_ne]; intro e; rw [e] at hb; exact absurd hb.1 (by decide)
    simp only [Lib.atoi, n45, n43, decNat, List.isEmpty_cons, h1, Bool.false_eq_true, if_false, Option.map_some, NumEnd.ofOption]
    rw [Int.toNat_of_nonneg h0]
open Classical in
noncomputable def parseR (s : ByteArray) : Int × Bool := if h : ∃ n, Numeral s n then (h.choose, true) else (0, false)
theorem parseR_ok {s : ByteArray} {n : Int} (h : Numeral s n) : parseR s = (n, true) := by
  have hx : ∃ n, Numeral s n := ⟨n, h⟩
  unfold parseR
  rw [dif_pos hx, hx.choose_spec.unique h]
theorem parseR_no {s : ByteArray} (h : ¬ ∃ n, Numeral s n) : parseR s = (0, false) := by
  unfold parseR; rw [dif_neg h]
theorem itoa_head_neg {n : Int} (h : n < 0) : ∃ r, itoa n = 45 :: r := ⟨_, by unfold itoa; rw [if_pos h]⟩
theorem numeral_of_itoa {s : ByteArray} {n v : Int} (hs : s.data.toList = itoa n) (h : Numeral s v) : n = v := by
  by_cases hn : n < 0
  · obtain ⟨r, hr⟩ := itoa_head_neg hn
    have := decFrom_all _ _ _ h.digits.1 45 (by rw [hs, hr]; exact List.mem_cons.2 (Or.inl rfl))
    exact absurd this.1 (by decide)
  · obtain ⟨m, rfl⟩ := Int.eq_ofNat_of_zero_le (show 0 ≤ n by omega)
    have h1 := h.digits.1
    rw [hs, itoa_nonneg, decDigits_val] at h1
    have := Option.some.inj h1
    have := h.1
    omega
theorem itoa_ne (n : Int) : itoa n ≠ [] := by
  unfold itoa
  split
  · simp
  · exact decDigits_ne _
end Go.Proofs.YtidfeffpfcnnlaaDoor
