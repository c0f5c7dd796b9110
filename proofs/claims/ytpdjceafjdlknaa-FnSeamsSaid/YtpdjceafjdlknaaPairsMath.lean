/- The pairs of one track: what goes through them sees all pairs; those too close among them. No program. -/
import Derived.Test.YtpdjceafjdlknaaSeamMath2
namespace Go.Proofs.Ytpdjceafjdlknaa
open Go.ChangeShapes Go.WideShapes Go.ChangeAt Go.RowKit

theorem rowN_has {s r : Int} {l : List (Int × Int)} {i k m : Nat} (h : i < k) (hm : k < m) (hc : closeK s r l i k = true) : [(i : Int), (k : Int)] ∈ rowN s r l i m := by
  unfold rowN
  refine List.mem_map.2 ⟨k, List.mem_filter.2 ⟨List.mem_range.2 hm, ?_⟩, rfl⟩
  rw [Bool.and_eq_true]; exact ⟨decide_eq_true h, hc⟩
theorem tooN_has {s r : Int} {l : List (Int × Int)} {i k n : Nat} (hi : i < n) (h : i < k) (hk : k < l.length) (hc : closeK s r l i k = true) : [(i : Int), (k : Int)] ∈ tooN s r l n := by
  unfold tooN
  exact List.mem_flatMap.2 ⟨i, List.mem_range.2 hi, rowN_has h hk hc⟩
/-- Is a pair too close? -/
def rowF (s r : Int) (l : List (Int × Int)) : List Int → Bool
  | [i, k] => closeK s r l i.toNat k.toNat
  | _ => false
theorem closeK_mono {s r r' : Int} {l : List (Int × Int)} {i k : Nat} (hr : r ≤ r') (h : closeK s r l i k = true) : closeK s r' l i k = true := by
  obtain ⟨p, q, hp, hq, h1, h2⟩ := closeK_true h
  rw [closeK_at hp hq]; exact decide_eq_true ⟨h1, by omega⟩
theorem rowN_filter {s r r' : Int} (hr : r ≤ r') (l : List (Int × Int)) (i m : Nat) : (rowN s r' l i m).filter (rowF s r l) = rowN s r l i m := by
  unfold rowN
  rw [List.filter_map, List.filter_filter]
  congr 1
  refine List.filter_congr fun k _ => ?_
  show (closeK s r l (i : Int).toNat (k : Int).toNat && (decide (i < k) && closeK s r' l i k)) = _
  rw [Int.toNat_natCast, Int.toNat_natCast]
  by_cases h : closeK s r l i k = true
  · rw [h, closeK_mono hr h]; simp
  · have h' : closeK s r l i k = false := by simpa using h
    rw [h']; simp
theorem tooN_filter {s r r' : Int} (hr : r ≤ r') (l : List (Int × Int)) (n : Nat) : (tooN s r' l n).filter (rowF s r l) = tooN s r l n := by
  unfold tooN
  induction n with
  | zero => rfl
  | succ n ih => rw [List.range_succ, List.flatMap_append, List.flatMap_append, List.filter_append, ih]; simp only [List.flatMap_cons, List.flatMap_nil, List.append_nil]; rw [rowN_filter hr]
/-- What a pair of one track is. -/
theorem pair_at {s : Int} {l : List (Int × Int)} {j : Nat} (hj : j < (tooN s 1000 l l.length).length) : ∃ (i k : Nat) (p q : Int × Int), (tooN s 1000 l l.length)[j]? = some [(i : Int), (k : Int)] ∧ i < k ∧ k < l.length ∧ l[i]? = some p ∧ l[k]? = some q ∧ p.1 = q.1 := by
  have hx := List.getElem?_eq_getElem hj
  obtain ⟨i, k, e, h1, h2, -, h3⟩ := tooN_mem (List.mem_of_getElem? hx)
  obtain ⟨p, q, hp, hq, h4, -⟩ := closeK_true h3
  exact ⟨i, k, p, q, by rw [hx, e], h1, h2, hp, hq, h4⟩
theorem pairs_len {s t : Int} {l : List (Int × Int)} (hc : CylP s t l) (r : Int) : (tooN s r l l.length).length ≤ 5000 := by
  have h2 := pairsN_le (closeF s r) l
  rw [tooN_all]
  have h1 := hc.2.2.1
  have h3 : l.length * (l.length - 1) ≤ 100 * 99 := Nat.mul_le_mul h1 (by omega)
  omega

/-! ### the closest, by the pairs -/
/-- n is the least way of the first j of the pairs ll. -/
def NearL (s : Int) (l : List (Int × Int)) (ll : List (List Int)) (j : Nat) (n : Int) : Prop :=
  n ≤ s ∧ (∀ (m i k : Nat) (p q : Int × Int), m < j → ll[m]? = some [(i : Int), (k : Int)] → l[i]? = some p → l[k]? = some q → n ≤ gapG s p.2 q.2) ∧
    (n = s ∨ ∃ (i k : Nat) (p q : Int × Int), i < k ∧ l[i]? = some p ∧ l[k]? = some q ∧ p.1 = q.1 ∧ gapG s p.2 q.2 = n)
theorem nearL_0 (s : Int) (l : List (Int × Int)) (ll : List (List Int)) : NearL s l ll 0 s := ⟨Int.le_refl _, fun m i k p q h => by omega, Or.inl rfl⟩
theorem nearL_next {s n : Int} {l : List (Int × Int)} {ll : List (List Int)} {j i k : Nat} {p q : Int × Int} (h : NearL s l ll j n) (hx : ll[j]? = some [(i : Int), (k : Int)]) (hik : i < k) (hp : l[i]? = some p) (hq : l[k]? = some q) (he : p.1 = q.1) : NearL s l ll (j + 1) (min n (gapG s p.2 q.2)) := by
  have h1 := h.1
  refine ⟨by omega, fun m i' k' p' q' hm hx' hp' hq' => ?_, ?_⟩
  · by_cases hmj : m < j
    · have := h.2.1 m i' k' p' q' hmj hx' hp' hq'; omega
    · obtain rfl : m = j := by omega
      rw [hx] at hx'
      have hx' := Option.some.inj hx'
      simp only [List.cons.injEq, Int.natCast_inj, and_true] at hx'
      obtain ⟨rfl, rfl⟩ := hx'
      rw [hp] at hp'; rw [hq] at hq'
      obtain rfl := Option.some.inj hp'; obtain rfl := Option.some.inj hq'
      omega
  · by_cases hm : gapG s p.2 q.2 ≤ n
    · exact Or.inr ⟨i, k, p, q, hik, hp, hq, he, by omega⟩
    · have e : min n (gapG s p.2 q.2) = n := by omega
      rw [e]; exact h.2.2
theorem nearL_closest {s t n : Int} {l : List (Int × Int)} (hc : CylP s t l) (h : NearL s l (tooN s 1000 l l.length) (tooN s 1000 l l.length).length n) : Closest s l n := by
  have hn := sp_nodup (cyl_sp hc)
  have key : ∀ (a b : Nat) (x y : Int × Int), a < b → l[a]? = some x → l[b]? = some y → x.1 = y.1 → n ≤ gapG s x.2 y.2 := fun a b x y hab ha hb ht => by
    have hbl := (List.getElem?_eq_some_iff.1 hb).1
    have h1 := gapG_bd (cyl_bd hc (List.mem_of_getElem? ha)).2 (cyl_bd hc (List.mem_of_getElem? hb)).2
    have h2 := hc.1
    have hk : closeK s 1000 l a b = true := by rw [closeK_at ha hb]; exact decide_eq_true ⟨ht, by omega⟩
    obtain ⟨m, hm⟩ := List.mem_iff_getElem?.1 (tooN_has (n := l.length) (by omega) hab hbl hk)
    exact h.2.1 m a b x y (List.getElem?_eq_some_iff.1 hm).1 hm ha hb
  refine ⟨h.1, fun x hx y hy hne ht => ?_, ?_⟩
  · obtain ⟨a, ha⟩ := List.mem_iff_getElem?.1 hx
    obtain ⟨b, hb⟩ := List.mem_iff_getElem?.1 hy
    rcases Nat.lt_trichotomy a b with hab | rfl | hab
    · exact key a b x y hab ha hb ht
    · rw [ha] at hb; exact absurd (Option.some.inj hb) hne
    · rw [gapG_symm]; exact key b a y x hab hb ha ht.symm
  · rcases h.2.2 with e | ⟨a, b, p, q, hab, hp, hq, ht, e⟩
    · exact Or.inl e
    · refine Or.inr ⟨p, List.mem_of_getElem? hp, q, List.mem_of_getElem? hq, fun k => ?_, ht, e⟩
      obtain ⟨h1, e1⟩ := List.getElem?_eq_some_iff.1 hp
      obtain ⟨h2, e2⟩ := List.getElem?_eq_some_iff.1 hq
      exact List.pairwise_iff_getElem.1 hn a b h1 h2 hab (by rw [e1, e2, k])
end Go.Proofs.Ytpdjceafjdlknaa
