/- Ways around a circle, pairs of pins too close, the closest pins: what turning leaves as it was. No program. -/
import Derived.Test.YtemhmbaacpfnaaaPinMath
namespace Go.Proofs.Ytemhmbaacpfnaaa
open Go.ChangeShapes Go.WideShapes Go.ChangeAt Go.RowKit

/-- The lesser way around. -/
def gapG (s a b : Int) : Int := min (max (a - b) (b - a)) (s - max (a - b) (b - a))
theorem gapG_symm (s a b : Int) : gapG s a b = gapG s b a := by unfold gapG; rw [Int.max_comm]
theorem gapG_bd {s a b : Int} (ha : 0 ≤ a ∧ a ≤ s - 1) (hb : 0 ≤ b ∧ b ≤ s - 1) : 0 ≤ gapG s a b ∧ gapG s a b * 2 ≤ s := by unfold gapG; omega
theorem gapG_pos {s a b : Int} (ha : 0 ≤ a ∧ a ≤ s - 1) (hb : 0 ≤ b ∧ b ≤ s - 1) (h : a ≠ b) : 1 ≤ gapG s a b := by unfold gapG; omega
theorem emod_two {s x : Int} (hs : 0 < s) (h : -s ≤ x) (h2 : x < 2 * s) : x % s = x ∨ x % s = x - s ∨ x % s = x + s := by
  have h3 := Int.emod_nonneg x (show s ≠ 0 by omega)
  have h4 := Int.emod_lt_of_pos x hs
  have h5 := Int.mul_ediv_add_emod x s
  have hq : x / s = 0 ∨ x / s = 1 ∨ x / s = -1 := by
    have q1 : -1 ≤ x / s := by rw [Int.le_ediv_iff_mul_le hs]; omega
    have q2 : x / s < 2 := by rw [Int.ediv_lt_iff_lt_mul hs]; omega
    omega
  rcases hq with e | e | e <;> rw [e] at h5 <;> omega
theorem gap_rot {s d : Int} {p q : Int × Int} (hs : 4 ≤ s) (hp : 0 ≤ p.2 ∧ p.2 ≤ s - 1) (hq : 0 ≤ q.2 ∧ q.2 ≤ s - 1) : gapG s (rotP s d p).2 (rotP s d q).2 = gapG s p.2 q.2 := by
  show gapG s ((p.2 + d) % s) ((q.2 + d) % s) = _
  have e1 : (p.2 + d) % s = (p.2 + d % s) % s := by rw [Int.add_emod_emod]
  have e2 : (q.2 + d) % s = (q.2 + d % s) % s := by rw [Int.add_emod_emod]
  have h3 := Int.emod_nonneg d (show s ≠ 0 by omega)
  have h4 := Int.emod_lt_of_pos d (show 0 < s by omega)
  rw [e1, e2]
  generalize d % s = r at h3 h4
  have a1 := emod_two (s := s) (x := p.2 + r) (by omega) (by omega) (by omega)
  have a2 := emod_two (s := s) (x := q.2 + r) (by omega) (by omega) (by omega)
  have b1 := Int.emod_nonneg (p.2 + r) (show s ≠ 0 by omega)
  have b2 := Int.emod_lt_of_pos (p.2 + r) (show 0 < s by omega)
  have b3 := Int.emod_nonneg (q.2 + r) (show s ≠ 0 by omega)
  have b4 := Int.emod_lt_of_pos (q.2 + r) (show 0 < s by omega)
  generalize (p.2 + r) % s = x at *
  generalize (q.2 + r) % s = y at *
  unfold gapG
  omega

/-- How many pairs, the earlier one first. -/
def pairsN (f : Int × Int → Int × Int → Bool) : List (Int × Int) → Nat
  | [] => 0
  | x :: r => (r.filter (f x)).length + pairsN f r
theorem pairsN_perm {f : Int × Int → Int × Int → Bool} (hf : ∀ x y, f x y = f y x) {l l' : List (Int × Int)} (h : l.Perm l') : pairsN f l = pairsN f l' := by
  induction h with
  | nil => rfl
  | cons x h ih => unfold pairsN; rw [ih, (h.filter _).length_eq]
  | swap x y l =>
    simp only [pairsN, List.filter_cons]
    rw [hf y x]
    split <;> (try simp only [List.length_cons]) <;> omega
  | trans _ _ ih1 ih2 => rw [ih1, ih2]
theorem pairsN_map {f : Int × Int → Int × Int → Bool} {g : Int × Int → Int × Int} : ∀ {l : List (Int × Int)}, (∀ x ∈ l, ∀ y ∈ l, f (g x) (g y) = f x y) → pairsN f (l.map g) = pairsN f l
  | [], _ => rfl
  | x :: r, h => by
    have ih := pairsN_map (f := f) (g := g) (l := r) fun a ha b hb => h a (List.mem_cons_of_mem _ ha) b (List.mem_cons_of_mem _ hb)
    simp only [List.map_cons, pairsN]
    rw [ih, List.filter_map, List.length_map]
    congr 2
    exact List.filter_congr fun y hy => h x (by simp) y (List.mem_cons_of_mem _ hy)
theorem turn_perm {s t : Int} (d : Int) {l : List (Int × Int)} (h : CylP s t l) : (turnL s d l).Perm (l.map (rotP s d)) := by
  have hm : (l.map (rotP s d)).Nodup := List.pairwise_map.2 ((sp_nodup (cyl_sp h)).imp_of_mem fun {a b} ha hb hne e => hne (rot_inj (cyl_bd h ha).2 (cyl_bd h hb).2 e))
  refine (List.perm_ext_iff_of_nodup (sp_nodup (foldP_sp _ _)) hm).2 fun y => ?_
  rw [foldP_mem, List.mem_map]
  exact ⟨fun ⟨q, hq, e⟩ => ⟨q, hq, e.symm⟩, fun ⟨q, hq, e⟩ => ⟨q, hq, e.symm⟩⟩
def closeF (s r : Int) (p q : Int × Int) : Bool := decide (p.1 = q.1 ∧ gapG s p.2 q.2 < r)
theorem closeF_symm (s r : Int) (p q : Int × Int) : closeF s r p q = closeF s r q p := by
  unfold closeF; rw [gapG_symm]; exact decide_eq_decide.2 ⟨fun ⟨a, b⟩ => ⟨a.symm, b⟩, fun ⟨a, b⟩ => ⟨a.symm, b⟩⟩
theorem close_turn {s t : Int} (d r : Int) {l : List (Int × Int)} (h : CylP s t l) : pairsN (closeF s r) (turnL s d l) = pairsN (closeF s r) l := by
  rw [pairsN_perm (closeF_symm s r) (turn_perm d h)]
  refine pairsN_map fun x hx y hy => ?_
  unfold closeF
  rw [gap_rot h.1.1 (cyl_bd h hx).2 (cyl_bd h hy).2]
  rfl

/-- n is the least way of two pins of one track, or s where there are no two. -/
def Closest (s : Int) (l : List (Int × Int)) (n : Int) : Prop :=
  n ≤ s ∧ (∀ x ∈ l, ∀ y ∈ l, x ≠ y → x.1 = y.1 → n ≤ gapG s x.2 y.2) ∧ (n = s ∨ ∃ x ∈ l, ∃ y ∈ l, x ≠ y ∧ x.1 = y.1 ∧ gapG s x.2 y.2 = n)
theorem closest_unique {s : Int} {l : List (Int × Int)} {n m : Int} (h : Closest s l n) (k : Closest s l m) : n = m := by
  have key : ∀ {n m : Int}, Closest s l n → Closest s l m → n ≤ m := fun {n m} h k => by
    rcases k.2.2 with rfl | ⟨x, hx, y, hy, hne, ht, rfl⟩
    · exact h.1
    · exact h.2.1 x hx y hy hne ht
  exact Int.le_antisymm (key h k) (key k h)
theorem closest_turn {s t : Int} (d : Int) {l : List (Int × Int)} (h : CylP s t l) {n : Int} (hc : Closest s l n) : Closest s (turnL s d l) n := by
  have hm : ∀ y, y ∈ turnL s d l ↔ ∃ q ∈ l, y = rotP s d q := fun y => foldP_mem _ _ _
  refine ⟨hc.1, fun x hx y hy hne ht => ?_, ?_⟩
  · obtain ⟨p, hp, rfl⟩ := (hm x).1 hx
    obtain ⟨q, hq, rfl⟩ := (hm y).1 hy
    rw [gap_rot h.1.1 (cyl_bd h hp).2 (cyl_bd h hq).2]
    exact hc.2.1 p hp q hq (fun e => hne (by rw [e])) ht
  · rcases hc.2.2 with e | ⟨x, hx, y, hy, hne, ht, e⟩
    · exact Or.inl e
    · refine Or.inr ⟨_, (hm _).2 ⟨x, hx, rfl⟩, _, (hm _).2 ⟨y, hy, rfl⟩, fun k => hne (rot_inj (cyl_bd h hx).2 (cyl_bd h hy).2 k), ht, ?_⟩
      rw [gap_rot h.1.1 (cyl_bd h hx).2 (cyl_bd h hy).2]; exact e
theorem closest_pos {s t n : Int} {l : List (Int × Int)} (h : CylP s t l) (hc : Closest s l n) : 1 ≤ n := by
  rcases hc.2.2 with rfl | ⟨x, hx, y, hy, hne, ht, rfl⟩
  · have := h.1.1; omega
  · refine gapG_pos (cyl_bd h hx).2 (cyl_bd h hy).2 fun e => hne ?_
    obtain ⟨a, b⟩ := x; obtain ⟨c, d⟩ := y
    simp only at ht e; rw [ht, e]
theorem closest_half {s t n : Int} {l : List (Int × Int)} (h : CylP s t l) (hc : Closest s l n) (hn : n ≠ s) : n * 2 ≤ s := by
  rcases hc.2.2 with rfl | ⟨x, hx, y, hy, hne, ht, rfl⟩
  · exact absurd rfl hn
  · exact (gapG_bd (cyl_bd h hx).2 (cyl_bd h hy).2).2
theorem pairsN_zero {f : Int × Int → Int × Int → Bool} (hf : ∀ x y, f x y = f y x) : ∀ {l : List (Int × Int)}, l.Nodup → (pairsN f l = 0 ↔ ∀ x ∈ l, ∀ y ∈ l, x ≠ y → f x y = false)
  | [], _ => by simp [pairsN]
  | a :: r, hn => by
    obtain ⟨h1, h2⟩ := List.nodup_cons.1 hn
    unfold pairsN
    rw [Nat.add_eq_zero_iff, List.length_eq_zero_iff, List.filter_eq_nil_iff, pairsN_zero hf h2]
    constructor
    · rintro ⟨k1, k2⟩ x hx y hy hne
      rcases List.mem_cons.1 hx with ex | hx'
      · rcases List.mem_cons.1 hy with ey | hy'
        · exact absurd (ex.trans ey.symm) hne
        · rw [ex]; simpa using k1 y hy'
      · rcases List.mem_cons.1 hy with ey | hy'
        · rw [ey, hf]; simpa using k1 x hx'
        · exact k2 x hx' y hy' hne
    · intro k
      exact ⟨fun y hy => by simp [k a (by simp) y (List.mem_cons_of_mem _ hy) (fun e => h1 (e ▸ hy))], fun x hx y hy hne => k x (List.mem_cons_of_mem _ hx) y (List.mem_cons_of_mem _ hy) hne⟩
theorem close_zero {s t r n : Int} {l : List (Int × Int)} (h : CylP s t l) (hc : Closest s l n) : pairsN (closeF s r) l = 0 ↔ (r ≤ n ∨ n = s) := by
  rw [pairsN_zero (closeF_symm s r) (sp_nodup (cyl_sp h))]
  constructor
  · intro k
    rcases hc.2.2 with e | ⟨x, hx, y, hy, hne, ht, e⟩
    · exact Or.inr e
    · left
      have := k x hx y hy hne
      unfold closeF at this
      have := of_decide_eq_false this
      rw [e] at this
      have : ¬ n < r := fun hh => this ⟨ht, hh⟩
      omega
  · rintro k x hx y hy hne
    unfold closeF
    refine decide_eq_false fun ⟨ht, hg⟩ => ?_
    have h1 := hc.2.1 x hx y hy hne ht
    have h2 := gapG_bd (cyl_bd h hx).2 (cyl_bd h hy).2
    have h3 := closest_pos h hc
    have h4 := h.1.1
    rcases k with k | rfl <;> omega
end Go.Proofs.Ytemhmbaacpfnaaa
