/- Pure facts of chapter 16: chords. No condition. -/
import Derived.Test.YtceebblokibapaaDoorTuneSpec2
namespace Go.Proofs.YtceebblokibapaaDoor
open Go.ChangeShapes Go.WideShapes Go.ChangeAt Go.RowKit

def distI (a b : Int) : Int := if a ≤ b then (b - a) % 12 else (a - b) % 12
/-- StepsOf. -/
def stepsI (a b : Int) : Int :=
  if (0 ≤ a ∧ a ≤ 60) ∧ (0 ≤ b ∧ b ≤ 60) then (if 2 * distI a b ≤ 12 then distI a b else 12 - distI a b) else -1
theorem stepsI_no {a b : Int} (h : ¬ ((0 ≤ a ∧ a ≤ 60) ∧ (0 ≤ b ∧ b ≤ 60))) : stepsI a b = -1 := by unfold stepsI; rw [if_neg h]
theorem stepsI_yes {a b : Int} (h : (0 ≤ a ∧ a ≤ 60) ∧ (0 ≤ b ∧ b ≤ 60)) : stepsI a b = if 2 * distI a b ≤ 12 then distI a b else 12 - distI a b := by unfold stepsI; rw [if_pos h]
theorem stepsI_range (a b : Int) : -1 ≤ stepsI a b ∧ stepsI a b ≤ 6 := by
  by_cases h : (0 ≤ a ∧ a ≤ 60) ∧ (0 ≤ b ∧ b ≤ 60)
  · rw [stepsI_yes h]; unfold distI; split <;> (split <;> omega)
  · rw [stepsI_no h]; omega
theorem stepsI_pos {a b : Int} (h : (0 ≤ a ∧ a ≤ 60) ∧ (0 ≤ b ∧ b ≤ 60)) : 0 ≤ stepsI a b := by rw [stepsI_yes h]; unfold distI; split <;> (split <;> omega)
theorem stepsI_comm (a b : Int) : stepsI a b = stepsI b a := by
  by_cases h : (0 ≤ a ∧ a ≤ 60) ∧ (0 ≤ b ∧ b ≤ 60)
  · rw [stepsI_yes h, stepsI_yes h.symm]
    have : distI a b = distI b a := by unfold distI; split <;> (split <;> omega)
    rw [this]
  · rw [stepsI_no h, stepsI_no fun k => h k.symm]
theorem stepsI_up {a b : Int} (ha : 0 ≤ a ∧ a ≤ 48) (hb : 0 ≤ b ∧ b ≤ 60) : stepsI (a + 12) b = stepsI a b := by
  rw [stepsI_yes (a := a) ⟨by omega, hb⟩, stepsI_yes (a := a + 12) ⟨by omega, hb⟩]
  unfold distI
  split <;> split <;> (split <;> (split <;> omega))
/-- IsSweet. -/
def sweetB (a b : Int) : Bool := decide (stepsI a b = 0 ∨ (3 ≤ stepsI a b ∧ stepsI a b ≤ 5))
theorem sweetB_of {a b s : Int} (h : stepsI a b = s) : sweetB a b = decide (s = 0 ∨ (3 ≤ s ∧ s ≤ 5)) := by subst h; rfl
theorem sweetB_comm (a b : Int) : sweetB a b = sweetB b a := by unfold sweetB; rw [stepsI_comm]
theorem sweetB_up {a b : Int} (ha : 0 ≤ a ∧ a ≤ 48) (hb : 0 ≤ b ∧ b ≤ 48) : sweetB (a + 12) (b + 12) = sweetB a b := by
  unfold sweetB
  rw [stepsI_up ha ⟨by omega, by omega⟩, stepsI_comm, stepsI_up hb ⟨ha.1, by omega⟩, stepsI_comm]
theorem sweetB_self {a : Int} (h : 0 ≤ a ∧ a ≤ 60) : sweetB a a = true := by
  unfold sweetB
  have : stepsI a a = 0 := by rw [stepsI_yes ⟨h, h⟩]; unfold distI; split <;> (split <;> omega)
  rw [this]; decide
theorem sweetB_no {a b : Int} (h : stepsI a b = -1) : sweetB a b = false := by unfold sweetB; rw [h]; decide
/-- The table of the program. -/
def sweetL : List Bool := [true, false, false, true, true, true, false]
theorem sweetL_at : ∀ k : Fin 7, sweetL[k.1]? = some (decide ((k.1 : Int) = 0 ∨ (3 ≤ (k.1 : Int) ∧ (k.1 : Int) ≤ 5))) := by decide
theorem sweetL_is {a b : Int} (h : 0 ≤ stepsI a b) : sweetL[(stepsI a b).toNat]? = some (sweetB a b) := by
  have h6 := (stepsI_range a b).2
  unfold sweetB
  generalize stepsI a b = s at *
  obtain ⟨n, rfl⟩ := Int.eq_ofNat_of_zero_le h
  exact sweetL_at ⟨n, by omega⟩
/-- The pitches together are valid: at most 8, all in the range. -/
def TogP (l : List Int) : Prop := l.length ≤ 8 ∧ ∀ (k : Nat) (a : Int), l[k]? = some a → 0 ≤ a ∧ a ≤ 60
def togB (l : List Int) : Bool := decide (l.length ≤ 8) && l.all fun a => inB a 0 60
theorem all_iff {l : List Int} {p : Int → Bool} : l.all p = true ↔ ∀ (k : Nat) (a : Int), l[k]? = some a → p a = true := by
  rw [List.all_eq_true]
  constructor
  · intro h k a hk; exact h a (List.mem_of_getElem? hk)
  · intro h a ha
    obtain ⟨k, hk⟩ := List.getElem?_of_mem ha
    exact h k a hk
theorem togB_true {l : List Int} : togB l = true ↔ TogP l := by
  unfold togB TogP
  rw [Bool.and_eq_true, decide_eq_true_iff, all_iff]
  constructor
  · rintro ⟨h1, h2⟩; exact ⟨h1, fun k a hk => of_decide_eq_true (h2 k a hk)⟩
  · rintro ⟨h1, h2⟩; exact ⟨h1, fun k a hk => decide_eq_true (h2 k a hk)⟩
theorem togB_false {l : List Int} : togB l = false ↔ ¬ TogP l := by rw [← togB_true]; simp
/-- A pitch is sweet with all of a list. -/
def swAll (p : Int) (l : List Int) : Bool := l.all (sweetB p)
theorem swAll_true {p : Int} {l : List Int} : swAll p l = true ↔ ∀ (k : Nat) (a : Int), l[k]? = some a → sweetB p a = true := all_iff
theorem swAll_false {p : Int} {l : List Int} {k : Nat} {a : Int} (hk : l[k]? = some a) (h : sweetB p a = false) : swAll p l = false := by
  cases hs : swAll p l with
  | false => rfl
  | true => rw [swAll_true.1 hs k a hk] at h; cases h
def ChordP (l : List Int) : Prop := l ≠ [] ∧ TogP l ∧ ∀ (i : Nat) (a : Int), l[i]? = some a → ∀ (k : Nat) (b : Int), k < i → l[k]? = some b → sweetB a b = true
/-- IsChord. -/
def chordB (l : List Int) : Bool := decide (1 ≤ l.length) && togB l && (List.range l.length).all fun i => swAll (l.getD i 0) (l.take i)
theorem chordB_true {l : List Int} : chordB l = true ↔ ChordP l := by
  unfold chordB ChordP
  rw [Bool.and_eq_true, Bool.and_eq_true, decide_eq_true_iff, togB_true, List.all_eq_true]
  have hne : 1 ≤ l.length ↔ l ≠ [] := by cases l <;> simp
  rw [hne]
  constructor
  · rintro ⟨⟨h1, h2⟩, h3⟩
    refine ⟨h1, h2, fun i a hi k b hk hb => ?_⟩
    have hil := (List.getElem?_eq_some_iff.1 hi).1
    have h4 := swAll_true.1 (h3 i (List.mem_range.2 hil)) k b (by rw [List.getElem?_take, if_pos hk]; exact hb)
    rw [List.getD_eq_getElem?_getD, hi] at h4
    exact h4
  · rintro ⟨h1, h2, h3⟩
    refine ⟨⟨h1, h2⟩, fun i hi => swAll_true.2 fun k b hb => ?_⟩
    rw [List.mem_range] at hi
    rw [List.getElem?_take] at hb
    split at hb
    · rename_i hk
      have hi' : l[i]? = some (l.getD i 0) := by rw [List.getD_eq_getElem?_getD, List.getElem?_eq_getElem hi]; rfl
      exact h3 i _ hi' k b hk hb
    · cases hb
theorem chordB_false {l : List Int} : chordB l = false ↔ ¬ ChordP l := by rw [← chordB_true]; simp
/-- Of note a and the first k of a tune: how many are harsh with it. -/
def harshRow (t : List (Int × Int)) (a : Int × Int) : Nat → Nat
  | 0 => 0
  | k + 1 => harshRow t a k + match t[k]? with | some q => if a.1 = q.1 ∧ sweetB a.2 q.2 = false then 1 else 0 | none => 0
def harshN (t : List (Int × Int)) : Nat → Nat
  | 0 => 0
  | i + 1 => harshN t i + match t[i]? with | some a => harshRow t a i | none => 0
theorem harshRow_yes {t : List (Int × Int)} {a q : Int × Int} {k : Nat} (hk : t[k]? = some q) (h1 : a.1 = q.1) (h2 : sweetB a.2 q.2 = false) : harshRow t a (k + 1) = harshRow t a k + 1 := by
  show _ + (match t[k]? with | some q => _ | none => 0) = _
  rw [hk]; show _ + (if _ then 1 else 0) = _; rw [if_pos ⟨h1, h2⟩]
theorem harshRow_no {t : List (Int × Int)} {a q : Int × Int} {k : Nat} (hk : t[k]? = some q) (h : ¬ (a.1 = q.1 ∧ sweetB a.2 q.2 = false)) : harshRow t a (k + 1) = harshRow t a k := by
  show _ + (match t[k]? with | some q => _ | none => 0) = _
  rw [hk]; show _ + (if _ then 1 else 0) = _; rw [if_neg h]; rfl
theorem harshN_step {t : List (Int × Int)} {a : Int × Int} {i : Nat} (hi : t[i]? = some a) : harshN t (i + 1) = harshN t i + harshRow t a i := by
  show _ + (match t[i]? with | some a => _ | none => 0) = _
  rw [hi]
theorem harshRow_le (t : List (Int × Int)) (a : Int × Int) : ∀ k, harshRow t a k ≤ k
  | 0 => Nat.le_refl _
  | k + 1 => by
    show harshRow t a k + (match t[k]? with | some q => if a.1 = q.1 ∧ sweetB a.2 q.2 = false then 1 else 0 | none => 0) ≤ _
    have h := harshRow_le t a k
    split
    · split <;> omega
    · omega
theorem harshN_le (t : List (Int × Int)) : ∀ i, i ≤ 1000 → harshN t i ≤ i * 1000
  | 0, _ => Nat.zero_le _
  | i + 1, hi => by
    have h := harshN_le t i (by omega)
    cases hk : t[i]? with
    | none =>
      have e : harshN t (i + 1) = harshN t i := by
        show _ + (match t[i]? with | some a => harshRow t a i | none => 0) = _
        rw [hk]; rfl
      rw [e]; exact Nat.le_trans h (Nat.mul_le_mul_right _ (Nat.le_succ i))
    | some a =>
      rw [harshN_step hk, Nat.succ_mul]
      exact Nat.add_le_add h (Nat.le_trans (harshRow_le t a i) (by omega))
/-- HarshPairs. -/
noncomputable def harshI (t : List (Int × Int)) : Int := if tuneB t then (harshN t t.length : Int) else -1
def up12 (p : Int × Int) : Int × Int := (p.1, p.2 + 12)
theorem harshRow_up {t : List (Int × Int)} (ht : ∀ (k : Nat) (q : Int × Int), t[k]? = some q → 0 ≤ q.2 ∧ q.2 ≤ 48) {a : Int × Int} (ha : 0 ≤ a.2 ∧ a.2 ≤ 48) : ∀ k, harshRow (t.map up12) (up12 a) k = harshRow t a k
  | 0 => rfl
  | k + 1 => by
    have h := harshRow_up ht ha k
    cases hk : t[k]? with
    | none =>
      show _ + (match (t.map up12)[k]? with | some q => _ | none => 0) = _ + (match t[k]? with | some q => _ | none => 0)
      rw [List.getElem?_map, hk]
      show harshRow (t.map up12) (up12 a) k + 0 = harshRow t a k + 0
      rw [h]
    | some q =>
      have hk' : (t.map up12)[k]? = some (up12 q) := by rw [List.getElem?_map, hk]; rfl
      have e : sweetB (up12 a).2 (up12 q).2 = sweetB a.2 q.2 := sweetB_up ha (ht k q hk)
      by_cases hc : a.1 = q.1 ∧ sweetB a.2 q.2 = false
      · rw [harshRow_yes hk hc.1 hc.2, harshRow_yes (a := up12 a) hk' hc.1 (e.trans hc.2), h]
      · rw [harshRow_no hk hc, harshRow_no (a := up12 a) hk' (fun k => hc ⟨k.1, e.symm.trans k.2⟩), h]
theorem harshN_up {t : List (Int × Int)} (ht : ∀ (k : Nat) (q : Int × Int), t[k]? = some q → 0 ≤ q.2 ∧ q.2 ≤ 48) : ∀ i, harshN (t.map up12) i = harshN t i
  | 0 => rfl
  | i + 1 => by
    have h := harshN_up ht i
    cases hk : t[i]? with
    | none =>
      show _ + (match (t.map up12)[i]? with | some q => _ | none => 0) = _ + (match t[i]? with | some q => _ | none => 0)
      rw [List.getElem?_map, hk]
      show harshN (t.map up12) i + 0 = harshN t i + 0
      rw [h]
    | some a =>
      have hk' : (t.map up12)[i]? = some (up12 a) := by rw [List.getElem?_map, hk]; rfl
      rw [harshN_step hk, harshN_step hk', h, harshRow_up ht (ht i a hk)]
/-- The steps that are in a list of pitches. -/
def inSt (l : List Int) (s : Nat) : Bool := l.any fun p => p % 12 == (s : Int)
def triB (l : List Int) (r th : Nat) : Bool := (List.range 12).all fun s => inSt l s == (s == r % 12 || s == (r + th) % 12 || s == (r + 7) % 12)
def rootFrom (l : List Int) : Nat → Nat → Int
  | 0, _ => -1
  | n + 1, r => if triB l r 4 || triB l r 3 then (r : Int) else rootFrom l n (r + 1)
/-- RootOf. -/
def rootI (l : List Int) : Int := if togB l then rootFrom l 12 0 else -1
theorem rootFrom_yes {l : List Int} {n r : Nat} (h : (triB l r 4 || triB l r 3) = true) : rootFrom l (n + 1) r = r := by show (if _ then _ else _) = _; rw [if_pos h]
theorem rootFrom_no {l : List Int} {n r : Nat} (h : (triB l r 4 || triB l r 3) = false) : rootFrom l (n + 1) r = rootFrom l n (r + 1) := by show (if _ then _ else _) = _; rw [if_neg (by rw [h]; decide)]
theorem rootI_nil : rootI [] = -1 := by decide
theorem rootI_no {l : List Int} (h : ¬ TogP l) : rootI l = -1 := by unfold rootI; rw [togB_false.2 h]; rfl
theorem rootI_yes {l : List Int} (h : TogP l) : rootI l = rootFrom l 12 0 := by unfold rootI; rw [togB_true.2 h]; rfl
theorem triB_true {l : List Int} {r th : Nat} : triB l r th = true ↔ ∀ s < 12, inSt l s = (s == r % 12 || s == (r + th) % 12 || s == (r + 7) % 12) := by
  unfold triB
  rw [List.all_eq_true]
  simp only [List.mem_range, beq_iff_eq]
theorem inSt_true {l : List Int} {s : Nat} : inSt l s = true ↔ ∃ (k : Nat) (a : Int), l[k]? = some a ∧ a % 12 = (s : Int) := by
  unfold inSt
  rw [List.any_eq_true]
  constructor
  · rintro ⟨a, ha, h⟩
    obtain ⟨k, hk⟩ := List.getElem?_of_mem ha
    exact ⟨k, a, hk, by simpa using h⟩
  · rintro ⟨k, a, hk, h⟩
    exact ⟨a, List.mem_of_getElem? hk, by simpa using h⟩
theorem inSt_snoc (l : List Int) (a : Int) (s : Nat) : inSt (l ++ [a]) s = (inSt l s || a % 12 == (s : Int)) := by unfold inSt; simp
theorem inSt_step {l : List Int} {j s : Nat} {a : Int} (h : l[j]? = some a) : inSt (l.take (j + 1)) s = (inSt (l.take j) s || a % 12 == (s : Int)) := by
  rw [List.take_add_one, h]; exact inSt_snoc _ _ _
/-- The pitches from lo on that are sweet with all. -/
def sfL (l : List Int) (lo : Int) : Nat → List Int
  | 0 => []
  | n + 1 => if swAll (lo + (n : Int)) l then sfL l lo n ++ [lo + (n : Int)] else sfL l lo n
theorem sfL_yes {l : List Int} {lo : Int} {n : Nat} (h : swAll (lo + (n : Int)) l = true) : sfL l lo (n + 1) = sfL l lo n ++ [lo + (n : Int)] := by show (if _ then _ else _) = _; rw [if_pos h]
theorem sfL_no {l : List Int} {lo : Int} {n : Nat} (h : swAll (lo + (n : Int)) l = false) : sfL l lo (n + 1) = sfL l lo n := by show (if _ then _ else _) = _; rw [if_neg (by rw [h]; decide)]
theorem sfL_len (l : List Int) (lo : Int) : ∀ n, (sfL l lo n).length ≤ n
  | 0 => Nat.le_refl _
  | n + 1 => by
    have h := sfL_len l lo n
    cases hs : swAll (lo + (n : Int)) l with
    | true => rw [sfL_yes hs, List.length_append]; show _ + 1 ≤ _; omega
    | false => rw [sfL_no hs]; omega
theorem sfL_mem (l : List Int) (lo x : Int) : ∀ n, x ∈ sfL l lo n ↔ (lo ≤ x ∧ x < lo + (n : Int)) ∧ swAll x l = true
  | 0 => by show x ∈ [] ↔ _; simp; intro h; omega
  | n + 1 => by
    have h := sfL_mem l lo x n
    cases hs : swAll (lo + (n : Int)) l with
    | true =>
      rw [sfL_yes hs, List.mem_append, h, List.mem_singleton]
      constructor
      · rintro (⟨h1, h2⟩ | rfl)
        · exact ⟨by omega, h2⟩
        · exact ⟨by omega, hs⟩
      · rintro ⟨h1, h2⟩
        by_cases hx : x = lo + (n : Int)
        · exact Or.inr hx
        · exact Or.inl ⟨by omega, h2⟩
    | false =>
      rw [sfL_no hs, h]
      constructor
      · rintro ⟨h1, h2⟩; exact ⟨by omega, h2⟩
      · rintro ⟨h1, h2⟩
        refine ⟨?_, h2⟩
        by_cases hx : x = lo + (n : Int)
        · subst hx; rw [hs] at h2; cases h2
        · omega
/-- SweetFor. -/
def sfOkB (l : List Int) (lo hi : Int) : Bool := togB l && inB lo 0 60 && inB hi 0 60
def sweetForL (l : List Int) (lo hi : Int) : List Int := if sfOkB l lo hi then sfL l lo (hi - lo + 1).toNat else []
theorem sfOkB_true {l : List Int} {lo hi : Int} : sfOkB l lo hi = true ↔ TogP l ∧ (0 ≤ lo ∧ lo ≤ 60) ∧ (0 ≤ hi ∧ hi ≤ 60) := by
  unfold sfOkB
  rw [Bool.and_eq_true, Bool.and_eq_true, togB_true]
  unfold inB
  rw [decide_eq_true_iff, decide_eq_true_iff, and_assoc]
theorem sweetForL_yes {l : List Int} {lo hi : Int} (h : TogP l ∧ (0 ≤ lo ∧ lo ≤ 60) ∧ (0 ≤ hi ∧ hi ≤ 60)) : sweetForL l lo hi = sfL l lo (hi - lo + 1).toNat := by unfold sweetForL; rw [if_pos (sfOkB_true.2 h)]
theorem sweetForL_no {l : List Int} {lo hi : Int} (h : ¬ (TogP l ∧ (0 ≤ lo ∧ lo ≤ 60) ∧ (0 ≤ hi ∧ hi ≤ 60))) : sweetForL l lo hi = [] := by unfold sweetForL; rw [if_neg fun k => h (sfOkB_true.1 k)]
theorem sweetForL_len (l : List Int) (lo hi : Int) : (sweetForL l lo hi).length ≤ 61 := by
  by_cases h : TogP l ∧ (0 ≤ lo ∧ lo ≤ 60) ∧ (0 ≤ hi ∧ hi ≤ 60)
  · rw [sweetForL_yes h]
    have := sfL_len l lo (hi - lo + 1).toNat
    omega
  · rw [sweetForL_no h]; simp
end Go.Proofs.YtceebblokibapaaDoor
