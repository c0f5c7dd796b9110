/- Words for chapter 13's answers: the next speed, the speed after steps, the steady speed; what FnGovernors asks. Pure. No condition. -/
import Derived.Test.YtodpkfohihfndaaInts
namespace Go.Proofs.Ytodpkfohihfndaa
open Go.ChangeShapes Go.WideShapes Go.ChangeAt Go.RowKit

def GovP (v f b : Int) : Prop := (0 ≤ v ∧ v ≤ 100000) ∧ (0 ≤ f ∧ f ≤ 10000) ∧ (0 ≤ b ∧ b ≤ 100)
def govB (v f b : Int) : Bool := decide ((0 ≤ v ∧ v ≤ 100000) ∧ (0 ≤ f ∧ f ≤ 10000) ∧ (0 ≤ b ∧ b ≤ 100))
theorem govB_true {v f b : Int} : govB v f b = true ↔ GovP v f b := by unfold govB GovP; simp
theorem govB_false {v f b : Int} : govB v f b = false ↔ ¬ GovP v f b := by rw [← govB_true]; simp
/-- The brake at a speed. -/
def brkQ (b v : Int) : Int := b * v / 100
def nxtQ (v f b : Int) : Int := max 0 (v + f - brkQ b v)
theorem brk_bounds {v b : Int} (hv : 0 ≤ v ∧ v ≤ 100000) (hb : 0 ≤ b ∧ b ≤ 100) : 0 ≤ b * v ∧ b * v ≤ 10000000 ∧ 0 ≤ brkQ b v ∧ brkQ b v ≤ v := by
  have a0 : 0 ≤ b * v := Int.mul_nonneg hb.1 hv.1
  have a1 : b * v ≤ 100 * v := Int.mul_le_mul_of_nonneg_right hb.2 hv.1
  unfold brkQ
  omega
theorem brk_mono {u v b : Int} (hb : 0 ≤ b) (h : u ≤ v) : brkQ b u ≤ brkQ b v := Int.ediv_le_ediv (by omega) (Int.mul_le_mul_of_nonneg_left h hb)
theorem brk_more {v b c : Int} (hv : 0 ≤ v) (h : b ≤ c) : brkQ b v ≤ brkQ c v := Int.ediv_le_ediv (by omega) (Int.mul_le_mul_of_nonneg_right h hv)
theorem nxt_eq {v f b : Int} (h : GovP v f b) : nxtQ v f b = v + f - brkQ b v := by
  have := (brk_bounds h.1 h.2.2).2.2
  have := h.2.1
  unfold nxtQ; omega
theorem nxt_bounds {v f b : Int} (h : GovP v f b) : 0 ≤ nxtQ v f b ∧ nxtQ v f b ≤ v + f ∧ f ≤ nxtQ v f b := by
  rw [nxt_eq h]
  have := (brk_bounds h.1 h.2.2).2.2
  have := h.2.1
  omega
def nxtM (v f b : Int) : Int := if govB v f b = true then nxtQ v f b else -1
theorem nxtM_yes {v f b : Int} (h : govB v f b = true) : nxtM v f b = nxtQ v f b := if_pos h
theorem nxtM_no {v f b : Int} (h : govB v f b = false) : nxtM v f b = -1 := if_neg (by rw [h]; decide)
/-- One step, never above the limit. -/
def stpQ (v f b : Int) : Int := min 100000 (nxtQ v f b)
theorem stp_gov {v f b : Int} (h : GovP v f b) : GovP (stpQ v f b) f b := by
  have := nxt_bounds h
  refine ⟨?_, h.2⟩
  unfold stpQ; omega
def aftQ (f b : Int) : Nat → Int → Int
  | 0, v => v
  | n + 1, v => aftQ f b n (stpQ v f b)
theorem aft_gov {f b : Int} : ∀ {n : Nat} {v : Int}, GovP v f b → GovP (aftQ f b n v) f b
  | 0, _, h => h
  | n + 1, v, h => aft_gov (n := n) (v := stpQ v f b) (stp_gov h)
theorem aft_last {f b : Int} : ∀ {n : Nat} {v : Int}, aftQ f b (n + 1) v = stpQ (aftQ f b n v) f b
  | 0, _ => rfl
  | n + 1, v => by
    show aftQ f b (n + 1) (stpQ v f b) = stpQ (aftQ f b n (stpQ v f b)) f b
    exact aft_last
open Classical in
noncomputable def aftM (v f b n : Int) : Int := if govB v f b = true ∧ (0 ≤ n ∧ n ≤ 1000) then aftQ f b n.toNat v else -1
theorem aftM_yes {v f b n : Int} (h : govB v f b = true) (hn : 0 ≤ n ∧ n ≤ 1000) : aftM v f b n = aftQ f b n.toNat v := if_pos ⟨h, hn⟩
theorem aftM_no {v f b n : Int} (h : ¬ (govB v f b = true ∧ (0 ≤ n ∧ n ≤ 1000))) : aftM v f b n = -1 := if_neg h
theorem aft_same {f b : Int} {v : Int} (h : nxtQ v f b = v) (hv : v ≤ 100000) : ∀ n, aftQ f b n v = v
  | 0 => rfl
  | n + 1 => by
    have : stpQ v f b = v := by unfold stpQ; omega
    show aftQ f b n (stpQ v f b) = v
    rw [this]; exact aft_same h hv n

/-! ### the steady speed -/
/-- The least speed at which the brake is the force: a witness, none below. -/
def SteadyP (f b s : Int) : Prop := (0 ≤ s ∧ s ≤ 100000) ∧ brkQ b s = f ∧ ∀ u, 0 ≤ u → u < s → brkQ b u ≠ f
open Classical in
noncomputable def stdM (f b : Int) : Int := if h : ((0 ≤ f ∧ f ≤ 10000) ∧ (1 ≤ b ∧ b ≤ 100)) ∧ ∃ s, SteadyP f b s then Classical.choose h.2 else -1
theorem steady_one {f b s u : Int} (h : SteadyP f b s) (k : SteadyP f b u) : s = u := by
  obtain ⟨h1, h2, h3⟩ := h
  obtain ⟨k1, k2, k3⟩ := k
  rcases Int.lt_trichotomy s u with q | q | q
  · exact absurd h2 (k3 s h1.1 q)
  · exact q
  · exact absurd k2 (h3 u k1.1 q)
theorem stdM_yes {f b s : Int} (hf : 0 ≤ f ∧ f ≤ 10000) (hb : 1 ≤ b ∧ b ≤ 100) (h : SteadyP f b s) : stdM f b = s := by
  unfold stdM
  rw [dif_pos ⟨⟨hf, hb⟩, s, h⟩]
  exact steady_one (Classical.choose_spec (⟨s, h⟩ : ∃ s, SteadyP f b s)) h
theorem stdM_no {f b : Int} (h : ∀ s, ¬ SteadyP f b s) : stdM f b = -1 := by
  unfold stdM
  rw [dif_neg]
  rintro ⟨-, s, hs⟩
  exact h s hs
theorem stdM_bad {f b : Int} (h : ¬ ((0 ≤ f ∧ f ≤ 10000) ∧ (1 ≤ b ∧ b ≤ 100))) : stdM f b = -1 := by
  unfold stdM
  rw [dif_neg]
  rintro ⟨k, -⟩
  exact h k
theorem stdM_cases (f b : Int) : stdM f b = -1 ∨ (((0 ≤ f ∧ f ≤ 10000) ∧ (1 ≤ b ∧ b ≤ 100)) ∧ SteadyP f b (stdM f b)) := by
  unfold stdM
  split
  · rename_i h
    exact Or.inr ⟨h.1, Classical.choose_spec h.2⟩
  · exact Or.inl rfl
/-- The brake has passed the force: none from here on. -/
theorem steady_past {f b s : Int} (hb : 0 ≤ b) (h : f < brkQ b s) (hl : ∀ u, 0 ≤ u → u < s → brkQ b u ≠ f) : ∀ u, ¬ SteadyP f b u := fun u ⟨h1, h2, h3⟩ => by
  by_cases q : u < s
  · exact hl u h1.1 q h2
  · have := brk_mono (b := b) hb (show s ≤ u by omega)
    omega
theorem nxt_steady {v f b : Int} (h : GovP v f b) : nxtQ v f b = v ↔ brkQ b v = f := by rw [nxt_eq h]; omega

/-! ### steps until steady -/
/-- After how many steps, n at most, the speed is steady. -/
def untQ (f b : Int) : Nat → Int → Option Nat
  | 0, v => if nxtQ v f b = v then some 0 else none
  | n + 1, v => if nxtQ v f b = v then some 0 else (untQ f b n (stpQ v f b)).map (· + 1)
theorem unt_yes {f b v : Int} (h : nxtQ v f b = v) : ∀ n, untQ f b n v = some 0
  | 0 => if_pos h
  | _ + 1 => if_pos h
theorem unt_no {f b v : Int} (h : ¬ nxtQ v f b = v) (n : Nat) : untQ f b (n + 1) v = (untQ f b n (stpQ v f b)).map (· + 1) := if_neg h
theorem unt_end {f b v : Int} (h : ¬ nxtQ v f b = v) : untQ f b 0 v = none := if_neg h
theorem unt_some {f b : Int} : ∀ {n : Nat} {v : Int} {k : Nat}, untQ f b n v = some k → k ≤ n ∧ nxtQ (aftQ f b k v) f b = aftQ f b k v ∧ ∀ j, j < k → ¬ nxtQ (aftQ f b j v) f b = aftQ f b j v
  | 0, v, k, h => by
    by_cases q : nxtQ v f b = v
    · rw [unt_yes q] at h
      obtain rfl := Option.some.inj h
      exact ⟨Nat.le_refl _, q, fun j hj => by omega⟩
    · rw [unt_end q] at h; cases h
  | n + 1, v, k, h => by
    by_cases q : nxtQ v f b = v
    · rw [unt_yes q] at h
      obtain rfl := Option.some.inj h
      exact ⟨Nat.zero_le _, q, fun j hj => by omega⟩
    · rw [unt_no q] at h
      cases hu : untQ f b n (stpQ v f b) with
      | none => rw [hu] at h; cases h
      | some r =>
        rw [hu] at h
        obtain rfl : r + 1 = k := Option.some.inj h
        obtain ⟨h1, h2, h3⟩ := unt_some hu
        refine ⟨by omega, h2, fun j hj => ?_⟩
        cases j with
        | zero => exact q
        | succ j => exact h3 j (by omega)
open Classical in
noncomputable def untM (v f b : Int) : Int := if govB v f b = true ∧ 1 ≤ b then (match untQ f b 1000 v with | some k => (k : Int) | none => -1) else -1
theorem untM_no {v f b : Int} (h : ¬ (govB v f b = true ∧ 1 ≤ b)) : untM v f b = -1 := if_neg h
theorem untM_some {v f b : Int} {k : Nat} (h : govB v f b = true) (hb : 1 ≤ b) (hk : untQ f b 1000 v = some k) : untM v f b = (k : Int) := by unfold untM; rw [if_pos ⟨h, hb⟩, hk]
theorem untM_none {v f b : Int} (h : govB v f b = true) (hb : 1 ≤ b) (hk : untQ f b 1000 v = none) : untM v f b = -1 := by unfold untM; rw [if_pos ⟨h, hb⟩, hk]

/-! ### even speeds -/
def lowL : Int → List Int → Int
  | a, [] => a
  | a, x :: l => lowL (min a x) l
def highL : Int → List Int → Int
  | a, [] => a
  | a, x :: l => highL (max a x) l
theorem lowL_one : ∀ (l : List Int) (a x : Int), lowL a (l ++ [x]) = min (lowL a l) x
  | [], _, _ => rfl
  | y :: l, a, x => lowL_one l (min a y) x
theorem highL_one : ∀ (l : List Int) (a x : Int), highL a (l ++ [x]) = max (highL a l) x
  | [], _, _ => rfl
  | y :: l, a, x => highL_one l (max a y) x
theorem lowL_take {l : List Int} {k : Nat} {x a : Int} (h : l[k]? = some x) : lowL a (l.take (k + 1)) = min (lowL a (l.take k)) x := by
  rw [List.take_add_one, h, Option.toList_some, lowL_one]
theorem highL_take {l : List Int} {k : Nat} {x a : Int} (h : l[k]? = some x) : highL a (l.take (k + 1)) = max (highL a (l.take k)) x := by
  rw [List.take_add_one, h, Option.toList_some, highL_one]
def SpeedsP (l : List Int) (p : Int) : Prop := (1 ≤ l.length ∧ l.length ≤ 100) ∧ (0 ≤ p ∧ p ≤ 100) ∧ ∀ x ∈ l, 0 ≤ x ∧ x ≤ 100000
open Classical in
noncomputable def evenM (l : List Int) (p : Int) : Bool := decide (SpeedsP l p ∧ highL (l.headD 0) l * 100 ≤ lowL (l.headD 0) l * (100 + p))
theorem evenM_no {l : List Int} {p : Int} (h : ¬ SpeedsP l p) : evenM l p = false := by unfold evenM; simp [h]
theorem evenM_yes {l : List Int} {p : Int} (h : SpeedsP l p) : evenM l p = decide (highL (l.headD 0) l * 100 ≤ lowL (l.headD 0) l * (100 + p)) := by unfold evenM; simp [h]
theorem low_high : ∀ {l : List Int} {a c : Int}, (0 ≤ a ∧ a ≤ 100000) → (0 ≤ c ∧ c ≤ 100000) → (∀ x ∈ l, 0 ≤ x ∧ x ≤ 100000) → (0 ≤ lowL a l ∧ lowL a l ≤ 100000) ∧ (0 ≤ highL c l ∧ highL c l ≤ 100000)
  | [], _, _, ha, hc, _ => ⟨ha, hc⟩
  | x :: l, a, c, ha, hc, h => by
    have hx := h x (by simp)
    exact low_high (l := l) (a := min a x) (c := max c x) (by omega) (by omega) fun y hy => h y (List.mem_cons_of_mem x hy)
theorem even_yes : evenM [100, 110] 10 = true := by
  rw [evenM_yes (by refine ⟨by decide, by decide, by simp⟩)]; decide
theorem even_no : evenM [100, 111] 10 = false := by
  rw [evenM_yes (by refine ⟨by decide, by decide, by simp⟩)]; decide

/-! ### what FnGovernors asks -/
theorem nxt_force {v f b : Int} (h : GovP v f b) (h5 : f + 5 ≤ 10000) : nxtQ v f b ≤ nxtQ v (f + 5) b := by
  rw [nxt_eq h, nxt_eq ⟨h.1, ⟨by have := h.2.1; omega, h5⟩, h.2.2⟩]; omega
theorem nxt_brake {v f b : Int} (h : GovP v f b) (h1 : b + 1 ≤ 100) : nxtQ v f (b + 1) ≤ nxtQ v f b := by
  rw [nxt_eq h, nxt_eq ⟨h.1, h.2.1, ⟨by have := h.2.2; omega, h1⟩⟩]
  have := brk_more (v := v) h.1.1 (show b ≤ b + 1 by omega)
  omega
theorem std_ten : stdM 10 10 = 100 := by
  refine stdM_yes (by decide) (by decide) ⟨by decide, by decide, fun u h0 h1 => ?_⟩
  unfold brkQ
  omega
end Go.Proofs.Ytodpkfohihfndaa
