/- Shifted tracks, merged cylinders, parts at a shift, pairs that disturb: words for the model's answers, and what promise 8 asks of them. No program. -/
import Derived.Test.YtemhmbaacpfnaaaSeamMath
namespace Go.Proofs.Ytemhmbaacpfnaaa
open Go.ChangeShapes Go.WideShapes Go.ChangeAt Go.RowKit

/-! ### shifted tracks -/
def shP (d h : Int) (p : Int × Int) : Int × Int := (p.1 * d + h, p.2)
def shiftL (d h : Int) (l : List (Int × Int)) : List (Int × Int) := l.map (shP d h)
theorem shP_less {d h : Int} (hd : 0 < d) (p q : Int × Int) : pless (shP d h p) (shP d h q) = pless p q := by
  rw [Bool.eq_iff_iff, pless_iff, pless_iff]
  show (p.2 < q.2 ∨ p.2 = q.2 ∧ p.1 * d + h < q.1 * d + h) ↔ _
  have e : p.1 * d + h < q.1 * d + h ↔ p.1 < q.1 := by
    constructor
    · intro k
      exact Int.lt_of_mul_lt_mul_right (a := d) (by omega) (by omega)
    · intro k
      have := Int.mul_lt_mul_of_pos_right k hd
      omega
  rw [e]
theorem shift_sp {d h : Int} (hd : 0 < d) {l : List (Int × Int)} (hl : SP l) : SP (shiftL d h l) := by
  rw [sp_pw] at hl ⊢
  exact List.pairwise_map.2 (hl.imp fun {a b} k => by rw [shP_less hd]; exact k)
theorem shift_len (d h : Int) (l : List (Int × Int)) : (shiftL d h l).length = l.length := List.length_map _
theorem shift_mem {d h : Int} {l : List (Int × Int)} {y : Int × Int} : y ∈ shiftL d h l ↔ ∃ p ∈ l, shP d h p = y := List.mem_map
theorem sh_mod {d h : Int} (hh : 0 ≤ h ∧ h < d) (p : Int × Int) : (shP d h p).1 % d = h := by
  show (p.1 * d + h) % d = h
  rw [Int.add_comm, Int.add_mul_emod_self_right]; exact Int.emod_eq_of_lt hh.1 hh.2
theorem sh_div {d h : Int} (hh : 0 ≤ h ∧ h < d) (p : Int × Int) : (shP d h p).1 / d = p.1 := by
  show (p.1 * d + h) / d = p.1
  rw [Int.add_comm, Int.add_mul_ediv_right _ _ (by omega), Int.ediv_eq_zero_of_lt hh.1 hh.2]; omega
/-- Shifted tracks that fit are a cylinder. -/
theorem shift_cyl {s t d h : Int} {l : List (Int × Int)} (hc : CylP s t l) (hd : 1 ≤ d) (hh : 0 ≤ h ∧ h < d) (ht : ∀ p ∈ l, p.1 * d + h ≤ 99) : CylP s 100 (shiftL d h l) := by
  refine cyl_of hc.1 (by omega) (by rw [shift_len]; exact hc.2.2.1) (shift_sp (by omega) (cyl_sp hc)) fun y hy => ?_
  obtain ⟨p, hp, rfl⟩ := shift_mem.1 hy
  have hb := cyl_bd hc hp
  refine ⟨⟨?_, by have := ht p hp; show p.1 * d + h ≤ 100 - 1; omega⟩, hb.2⟩
  have := Int.mul_nonneg hb.1.1 (show 0 ≤ d by omega)
  show 0 ≤ p.1 * d + h
  omega

/-! ### a part at its shift -/
def partL (d h : Int) (l : List (Int × Int)) : List (Int × Int) := (l.filter fun p => decide (p.1 % d = h)).map fun p => (p.1 / d, p.2)
theorem partL_yes {d h : Int} {l : List (Int × Int)} {k : Nat} {p : Int × Int} (hp : l[k]? = some p) (he : p.1 % d = h) : partL d h (l.take (k + 1)) = partL d h (l.take k) ++ [(p.1 / d, p.2)] := by
  unfold partL; rw [List.take_add_one, hp, List.filter_append, List.map_append]; simp [he]
theorem partL_no {d h : Int} {l : List (Int × Int)} {k : Nat} {p : Int × Int} (hp : l[k]? = some p) (he : ¬ p.1 % d = h) : partL d h (l.take (k + 1)) = partL d h (l.take k) := by
  unfold partL; rw [List.take_add_one, hp, List.filter_append, List.map_append]; simp [he]
theorem partL_len (d h : Int) (l : List (Int × Int)) : (partL d h l).length ≤ l.length := by
  unfold partL; rw [List.length_map]; exact List.length_filter_le _ _
theorem part_shift {d h : Int} (hh : 0 ≤ h ∧ h < d) {l m : List (Int × Int)} (hm : SP m) (hl : SP l) (hmem : ∀ y, (y ∈ m ∧ y.1 % d = h) ↔ y ∈ shiftL d h l) : partL d h m = l := by
  have e : (m.filter fun p => decide (p.1 % d = h)) = shiftL d h l := by
    refine sp_unique ?_ (shift_sp (by omega) hl) fun x => ?_
    · rw [sp_pw] at hm ⊢; exact hm.filter _
    · rw [List.mem_filter, decide_eq_true_eq]; exact hmem x
  unfold partL
  rw [e]
  unfold shiftL
  rw [List.map_map]
  refine (List.map_congr_left fun p _ => ?_).trans (List.map_id l)
  show ((shP d h p).1 / d, (shP d h p).2) = p
  rw [sh_div hh]; rfl
theorem part_none {d h : Int} {m : List (Int × Int)} (h0 : ∀ y ∈ m, ¬ y.1 % d = h) : partL d h m = [] := by
  unfold partL
  rw [List.map_eq_nil_iff, List.filter_eq_nil_iff]
  exact fun y hy => by simpa using h0 y hy

/-! ### merged pins -/
def putAll : List (Int × Int) → List (Int × Int) → Option (List (Int × Int))
  | l, [] => some l
  | l, x :: r => if (putP l x).2 = true then putAll (putP l x).1 r else none
theorem putAll_snoc (l r : List (Int × Int)) (x : Int × Int) : putAll l (r ++ [x]) = (putAll l r).bind fun m => if (putP m x).2 = true then some (putP m x).1 else none := by
  induction r generalizing l with
  | nil => unfold putAll; simp [putAll]
  | cons y r ih =>
    rw [List.cons_append]
    unfold putAll
    by_cases h : (putP l y).2 = true
    · rw [if_pos h, if_pos h, ih]
    · rw [if_neg h, if_neg h]; rfl
theorem putAll_some : ∀ {r l m : List (Int × Int)}, SP l → putAll l r = some m → SP m ∧ m.length = l.length + r.length ∧ (∀ y, y ∈ m ↔ y ∈ l ∨ y ∈ r) ∧ (∀ y ∈ r, y ∉ l)
  | [], l, m, hl, h => by
    obtain rfl : l = m := Option.some.inj h
    exact ⟨hl, rfl, fun y => by simp, fun y hy => by cases hy⟩
  | x :: r, l, m, hl, h => by
    unfold putAll at h
    by_cases hx : (putP l x).2 = true
    · rw [if_pos hx] at h
      obtain ⟨h1, h2, h3, h4⟩ := putAll_some (put_sp x hl) h
      have hlen := putP_len l x
      rw [hx] at hlen
      refine ⟨h1, by rw [h2, hlen, List.length_cons]; simp; omega, fun y => ?_, fun y hy hyl => ?_⟩
      · rw [h3, put_mem, List.mem_cons]
        constructor
        · rintro ((e | e) | e)
          · exact Or.inr (Or.inl e)
          · exact Or.inl e
          · exact Or.inr (Or.inr e)
        · rintro (e | e | e)
          · exact Or.inl (Or.inr e)
          · exact Or.inl (Or.inl e)
          · exact Or.inr e
      · rcases List.mem_cons.1 hy with rfl | hy
        · exact (put_ok hl).1 hx hyl
        · exact h4 y hy ((put_mem l x y).2 (Or.inr hyl))
    · rw [if_neg hx] at h; cases h
theorem putAll_ok : ∀ {r l : List (Int × Int)}, SP l → r.Nodup → (∀ y ∈ r, y ∉ l) → ∃ m, putAll l r = some m
  | [], l, _, _, _ => ⟨l, rfl⟩
  | x :: r, l, hl, hn, h => by
    obtain ⟨n1, n2⟩ := List.nodup_cons.1 hn
    have hx := (put_ok hl).2 (h x (by simp))
    unfold putAll
    rw [if_pos hx]
    refine putAll_ok (put_sp x hl) n2 fun y hy hyl => ?_
    rcases (put_mem l x y).1 hyl with rfl | e
    · exact n1 hy
    · exact h y (List.mem_cons_of_mem _ hy) e

/-! ### pairs that disturb -/
def distN (s r : Int) : List (Int × Int) → List (Int × Int) → Nat
  | [], _ => 0
  | x :: a, b => (b.filter (closeF s r x)).length + distN s r a b
theorem distN_take {s r : Int} {a b : List (Int × Int)} {i : Nat} {x : Int × Int} (hx : a[i]? = some x) : distN s r (a.take (i + 1)) b = distN s r (a.take i) b + (b.filter (closeF s r x)).length := by
  have key : ∀ (u : List (Int × Int)) (y : Int × Int), distN s r (u ++ [y]) b = distN s r u b + (b.filter (closeF s r y)).length := fun u y => by
    induction u with
    | nil => simp [distN]
    | cons z u ih => rw [List.cons_append]; unfold distN; rw [ih]; omega
  rw [List.take_add_one, hx]
  exact key _ _
theorem distN_le (s r : Int) : ∀ a b : List (Int × Int), distN s r a b ≤ a.length * b.length
  | [], b => by simp [distN]
  | x :: a, b => by
    have ih := distN_le s r a b
    have h := List.length_filter_le (closeF s r x) b
    unfold distN; rw [List.length_cons, Nat.succ_mul]; omega
theorem distN_nil (s r : Int) : ∀ a : List (Int × Int), distN s r a [] = 0
  | [] => rfl
  | x :: a => by unfold distN; rw [distN_nil s r a]; rfl
theorem distN_cons (s r : Int) (y : Int × Int) (b : List (Int × Int)) : ∀ a : List (Int × Int), distN s r a (y :: b) = (a.filter fun x => closeF s r x y).length + distN s r a b
  | [] => by simp [distN]
  | x :: a => by
    have ih := distN_cons s r y b a
    unfold distN
    rw [ih, List.filter_cons, List.filter_cons]
    cases closeF s r x y <;> simp <;> omega
theorem distN_symm (s r : Int) : ∀ a b : List (Int × Int), distN s r a b = distN s r b a
  | a, [] => by rw [distN_nil]; rfl
  | a, y :: b => by
    have ih := distN_symm s r a b
    rw [distN_cons, ih]
    show _ = (a.filter (closeF s r y)).length + distN s r b a
    congr 2
    exact List.filter_congr fun x _ => closeF_symm s r x y
theorem distN_mono {s r r' : Int} (hr : r ≤ r') : ∀ a b : List (Int × Int), distN s r a b ≤ distN s r' a b
  | [], _ => Nat.le_refl _
  | x :: a, b => by
    have ih := distN_mono (s := s) hr a b
    have h : (b.filter (closeF s r x)).length ≤ (b.filter (closeF s r' x)).length := by
      have e : b.filter (closeF s r x) = (b.filter (closeF s r' x)).filter (closeF s r x) := by
        rw [List.filter_filter]
        refine List.filter_congr fun y _ => ?_
        by_cases k : closeF s r x y = true
        · have k2 : closeF s r' x y = true := by
            have := of_decide_eq_true k
            exact decide_eq_true ⟨this.1, by omega⟩
          rw [k, k2]; rfl
        · rw [show closeF s r x y = false by simpa using k]; simp
      rw [e]; exact List.length_filter_le _ _
    unfold distN; omega
theorem distN_zero {s r : Int} : ∀ {a b : List (Int × Int)}, distN s r a b = 0 ↔ ∀ x ∈ a, ∀ y ∈ b, closeF s r x y = false
  | [], b => by simp [distN]
  | x :: a, b => by
    have ih := distN_zero (s := s) (r := r) (a := a) (b := b)
    unfold distN
    rw [Nat.add_eq_zero_iff, List.length_eq_zero_iff, List.filter_eq_nil_iff, ih]
    constructor
    · rintro ⟨h1, h2⟩ u hu y hy
      rcases List.mem_cons.1 hu with rfl | hu
      · simpa using h1 y hy
      · exact h2 u hu y hy
    · intro h
      exact ⟨fun y hy => by simp [h x (by simp) y hy], fun u hu y hy => h u (List.mem_cons_of_mem _ hu) y hy⟩
/-- Pins disturb at rest 1 just where they are equal. -/
theorem dist_one {s t : Int} {a b : List (Int × Int)} (ha : CylP s t a) (hb : CylP s t b) : distN s 1 a b = 0 ↔ ∀ y ∈ b, y ∉ a := by
  rw [distN_zero]
  constructor
  · intro h y hy hya
    have := of_decide_eq_false (h y hya y hy)
    exact this ⟨rfl, by unfold gapG; have := (cyl_bd hb hy).2; have := hb.1; omega⟩
  · intro h x hx y hy
    refine decide_eq_false fun ⟨h1, h2⟩ => ?_
    have hb1 := (cyl_bd ha hx).2
    have hb2 := (cyl_bd hb hy).2
    by_cases e : x.2 = y.2
    · exact h y hy (by rw [show y = x from Prod.ext h1.symm e.symm]; exact hx)
    · have := gapG_pos hb1 hb2 e; omega
end Go.Proofs.Ytemhmbaacpfnaaa
