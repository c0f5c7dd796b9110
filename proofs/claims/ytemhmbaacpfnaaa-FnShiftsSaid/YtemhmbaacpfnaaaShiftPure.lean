/- Words for chapter 8's answers: shifted, merged, a part, all parts, pairs that disturb. No program. -/
import Derived.Test.YtemhmbaacpfnaaaShiftMath
import Derived.Test.YtemhmbaacpfnaaaPinClone
namespace Go.Proofs.Ytemhmbaacpfnaaa
open Go.ChangeShapes Go.WideShapes Go.ChangeAt Go.RowKit

/-- A cylinder: its steps, its tracks, its pins. -/
abbrev Cyl := Int × Int × List (Int × Int)
/-- The answer of a function that may refuse. -/
def outC : Option Cyl → Cyl × Bool
  | none => ((0, 0, []), false)
  | some c => (c, true)
theorem outC_le {o : Option Cyl} (h : ∀ c, o = some c → c.2.2.length ≤ 1048576) : (outC o).1.2.2.length ≤ 1048576 := by
  cases o with
  | none => simp [outC]
  | some c => exact h c rfl

/-! ### shifted -/
noncomputable def shO (c : Cyl) (d h : Int) : Option Cyl := if cylB c.1 c.2.1 c.2.2 = true ∧ (1 ≤ d ∧ d ≤ 20) ∧ (0 ≤ h ∧ h ≤ d - 1) ∧ cylB c.1 100 (shiftL d h c.2.2) = true then some (c.1, 100, shiftL d h c.2.2) else none
theorem shO_yes {c : Cyl} {d h : Int} (h1 : cylB c.1 c.2.1 c.2.2 = true) (h2 : 1 ≤ d ∧ d ≤ 20) (h3 : 0 ≤ h ∧ h ≤ d - 1) (h4 : cylB c.1 100 (shiftL d h c.2.2) = true) : shO c d h = some (c.1, 100, shiftL d h c.2.2) := if_pos ⟨h1, h2, h3, h4⟩
theorem shO_no {c : Cyl} {d h : Int} (k : ¬ (cylB c.1 c.2.1 c.2.2 = true ∧ (1 ≤ d ∧ d ≤ 20) ∧ (0 ≤ h ∧ h ≤ d - 1) ∧ cylB c.1 100 (shiftL d h c.2.2) = true)) : shO c d h = none := if_neg k
theorem shO_some {c x : Cyl} {d h : Int} (k : shO c d h = some x) : (cylB c.1 c.2.1 c.2.2 = true ∧ (1 ≤ d ∧ d ≤ 20) ∧ (0 ≤ h ∧ h ≤ d - 1)) ∧ x = (c.1, 100, shiftL d h c.2.2) ∧ CylP c.1 100 (shiftL d h c.2.2) := by
  unfold shO at k; split at k
  · rename_i q; exact ⟨⟨q.1, q.2.1, q.2.2.1⟩, (Option.some.inj k).symm, cylB_true.1 q.2.2.2⟩
  · cases k
theorem shO_le {c x : Cyl} {d h : Int} (k : shO c d h = some x) : x.2.2.length ≤ 100 := by
  obtain ⟨_, rfl, h3⟩ := shO_some k; exact h3.2.2.1

/-! ### merged -/
open Classical in
noncomputable def mgO (a b : Cyl) : Option Cyl :=
  if cylB a.1 a.2.1 a.2.2 = true ∧ cylB b.1 b.2.1 b.2.2 = true ∧ a.1 = b.1 ∧ a.2.1 = b.2.1 then (putAll a.2.2 b.2.2).bind fun m => if cylB a.1 a.2.1 m = true then some (a.1, a.2.1, m) else none else none
theorem mgO_yes {a b : Cyl} {m : List (Int × Int)} (h : cylB a.1 a.2.1 a.2.2 = true ∧ cylB b.1 b.2.1 b.2.2 = true ∧ a.1 = b.1 ∧ a.2.1 = b.2.1) (h1 : putAll a.2.2 b.2.2 = some m) (h2 : cylB a.1 a.2.1 m = true) : mgO a b = some (a.1, a.2.1, m) := by
  unfold mgO; rw [if_pos h, h1, Option.bind_some, if_pos h2]
theorem mgO_some {a b x : Cyl} (k : mgO a b = some x) : (cylB a.1 a.2.1 a.2.2 = true ∧ cylB b.1 b.2.1 b.2.2 = true ∧ a.1 = b.1 ∧ a.2.1 = b.2.1) ∧ ∃ m, putAll a.2.2 b.2.2 = some m ∧ cylB a.1 a.2.1 m = true ∧ x = (a.1, a.2.1, m) := by
  unfold mgO at k
  split at k
  · rename_i h
    obtain ⟨m, hm, k⟩ := Option.bind_eq_some_iff.1 k
    split at k
    · rename_i h2; exact ⟨h, m, hm, h2, (Option.some.inj k).symm⟩
    · cases k
  · cases k
theorem mgO_no {a b : Cyl} (h : ¬ ((cylB a.1 a.2.1 a.2.2 = true ∧ cylB b.1 b.2.1 b.2.2 = true ∧ a.1 = b.1 ∧ a.2.1 = b.2.1) ∧ ∃ m, putAll a.2.2 b.2.2 = some m ∧ cylB a.1 a.2.1 m = true)) : mgO a b = none := by
  cases e : mgO a b with
  | none => rfl
  | some x => obtain ⟨h0, m, h1, h2, _⟩ := mgO_some e; exact absurd ⟨h0, m, h1, h2⟩ h
theorem mgO_le {a b x : Cyl} (k : mgO a b = some x) : x.2.2.length ≤ 100 := by
  obtain ⟨_, m, _, h2, rfl⟩ := mgO_some k; exact (cylB_true.1 h2).2.2.1
theorem putAll_none_take {l r : List (Int × Int)}  {k : Nat} (h : putAll l (r.take k) = none) : putAll l r = none := by
  have key : ∀ (u v l : List (Int × Int)), putAll l u = none → putAll l (u ++ v) = none := fun u => by
    induction u with
    | nil => intro v l h; cases h
    | cons x u ih =>
      intro v l h
      unfold putAll at h
      rw [List.cons_append]; unfold putAll
      by_cases hx : (putP l x).2 = true
      · rw [if_pos hx] at h ⊢; exact ih v _ h
      · rw [if_neg hx]
  have := key (r.take k) (r.drop k) l h
  rwa [List.take_append_drop] at this
theorem putAll_step_yes {l r m : List (Int × Int)} {k : Nat} {x : Int × Int} (h : putAll l (r.take k) = some m) (hx : r[k]? = some x) (hok : (putP m x).2 = true) : putAll l (r.take (k + 1)) = some (putP m x).1 := by
  rw [List.take_add_one, hx]
  show putAll l (r.take k ++ [x]) = _
  rw [putAll_snoc, h]; simp [hok]
theorem putAll_step_no {l r m : List (Int × Int)} {k : Nat} {x : Int × Int} (h : putAll l (r.take k) = some m) (hx : r[k]? = some x) (hok : ¬ (putP m x).2 = true) : putAll l r = none := by
  refine putAll_none_take (k := k + 1) ?_
  rw [List.take_add_one, hx]
  show putAll l (r.take k ++ [x]) = _
  rw [putAll_snoc, h]; simp [hok]
/-- All pins, sorted, are a cylinder just where each one finds its place. -/
theorem merge_yes {s t : Int} {la lb : List (Int × Int)} (ha : CylP s t la) (hb : CylP s t lb) (h : cylB s t (mergeP (la ++ lb)) = true) : putAll la lb = some (mergeP (la ++ lb)) := by
  have hs := cyl_sp (cylB_true.1 h)
  have hn := sp_merge hs
  obtain ⟨n1, n2, n3⟩ := List.nodup_append.1 hn
  obtain ⟨m, hm⟩ := putAll_ok (cyl_sp ha) n2 fun y hy hya => n3 y hya y hy rfl
  obtain ⟨k1, _, k3, _⟩ := putAll_some (cyl_sp ha) hm
  rw [hm, sp_unique k1 hs fun x => by rw [k3, mergeP_mem, List.mem_append]]
theorem merge_no {s t : Int} {la lb m : List (Int × Int)} (ha : CylP s t la) (hb : CylP s t lb) (hm : putAll la lb = some m) (h : cylB s t m = true) : cylB s t (mergeP (la ++ lb)) = true := by
  obtain ⟨k1, _, k3, k4⟩ := putAll_some (cyl_sp ha) hm
  have hn : (la ++ lb).Nodup := List.nodup_append.2 ⟨sp_nodup (cyl_sp ha), sp_nodup (cyl_sp hb), fun a h1 b h2 e => k4 b h2 (e ▸ h1)⟩
  rw [sp_unique (mergeP_sp hn) k1 fun x => by rw [k3, mergeP_mem, List.mem_append]]; exact h
theorem mgO_merge {a b : Cyl} (h : cylB a.1 a.2.1 a.2.2 = true ∧ cylB b.1 b.2.1 b.2.2 = true ∧ a.1 = b.1 ∧ a.2.1 = b.2.1) : mgO a b = if cylB a.1 a.2.1 (mergeP (a.2.2 ++ b.2.2)) = true then some (a.1, a.2.1, mergeP (a.2.2 ++ b.2.2)) else none := by
  have ha := cylB_true.1 h.1
  have hb : CylP a.1 a.2.1 b.2.2 := by rw [h.2.2.1, h.2.2.2]; exact cylB_true.1 h.2.1
  split
  · rename_i k; exact mgO_yes h (merge_yes ha hb k) k
  · rename_i k
    refine mgO_no fun ⟨_, m, h1, h2⟩ => k (merge_no ha hb h1 h2)
theorem mgO_nil {s t : Int} {l : List (Int × Int)} (h : CylP s t l) : mgO (s, t, []) (s, t, l) = some (s, t, l) := by
  have h0 : CylP s t [] := ⟨h.1, h.2.1, by simp, fun k p hk => by simp at hk⟩
  obtain ⟨m, hm⟩ := putAll_ok (r := l) sp_nil (sp_nodup (cyl_sp h)) fun y _ hy => by cases hy
  obtain ⟨k1, _, k3, _⟩ := putAll_some sp_nil hm
  have e : m = l := sp_unique k1 (cyl_sp h) fun x => by rw [k3]; simp
  subst e
  exact mgO_yes ⟨cylB_true.2 h0, cylB_true.2 h, rfl, rfl⟩ hm (cylB_true.2 h)

/-! ### a part -/
noncomputable def ptO (c : Cyl) (d h : Int) : Option Cyl := if cylB c.1 c.2.1 c.2.2 = true ∧ (1 ≤ d ∧ d ≤ 20) ∧ (0 ≤ h ∧ h ≤ d - 1) then some (c.1, (c.2.1 + d - 1) / d, partL d h c.2.2) else none
theorem ptO_yes {c : Cyl} {d h : Int} (h1 : cylB c.1 c.2.1 c.2.2 = true) (h2 : 1 ≤ d ∧ d ≤ 20) (h3 : 0 ≤ h ∧ h ≤ d - 1) : ptO c d h = some (c.1, (c.2.1 + d - 1) / d, partL d h c.2.2) := if_pos ⟨h1, h2, h3⟩
theorem ptO_no {c : Cyl} {d h : Int} (k : ¬ (cylB c.1 c.2.1 c.2.2 = true ∧ (1 ≤ d ∧ d ≤ 20) ∧ (0 ≤ h ∧ h ≤ d - 1))) : ptO c d h = none := if_neg k
theorem ptO_le {c x : Cyl} {d h : Int} (k : ptO c d h = some x) : x.2.2.length ≤ 100 := by
  unfold ptO at k; split at k
  · rename_i q; obtain rfl := Option.some.inj k; exact Nat.le_trans (partL_len _ _ _) (cylB_true.1 q.1).2.2.1
  · cases k

/-! ### all parts -/
noncomputable def holdO (d : Int) (cs : List Cyl) : Nat → Option Cyl
  | 0 => none
  | k + 1 => (cs[k]?).bind fun c => (shO c d (k : Int)).bind fun x => if k = 0 then some x else (holdO d cs k).bind fun o => mgO o x
theorem holdO_one {d : Int} {cs : List Cyl} {c : Cyl} (h : cs[0]? = some c) : holdO d cs 1 = shO c d 0 := by
  unfold holdO; rw [h]; show ((shO c d ((0 : Nat) : Int)).bind fun x => if 0 = 0 then some x else _) = _
  cases shO c d 0 <;> rfl
theorem holdO_more {d : Int} {cs : List Cyl} {c o x : Cyl} {k : Nat} (hk : 0 < k) (h : cs[k]? = some c) (h1 : holdO d cs k = some o) (h2 : shO c d (k : Int) = some x) : holdO d cs (k + 1) = mgO o x := by
  unfold holdO; rw [h, h1]; simp [h2, show k ≠ 0 by omega]
theorem holdO_shno {d : Int} {cs : List Cyl} {c : Cyl} {k : Nat} (h : cs[k]? = some c) (h2 : shO c d (k : Int) = none) : holdO d cs (k + 1) = none := by
  unfold holdO; rw [h]; simp [h2]
theorem holdO_dead {d : Int} {cs : List Cyl} {k : Nat} (hk : 0 < k) (h : holdO d cs k = none) : holdO d cs (k + 1) = none := by
  unfold holdO
  cases cs[k]? with
  | none => rfl
  | some c =>
    simp only [Option.bind_some, h, if_neg (show k ≠ 0 by omega)]
    cases shO c d (k : Int) <;> rfl
theorem holdO_end {d : Int} {cs : List Cyl} {k : Nat} (hk : 0 < k) (h : holdO d cs k = none) : ∀ {n : Nat}, k ≤ n → holdO d cs n = none
  | 0, hn => by omega
  | n + 1, hn => by
    by_cases e : n + 1 = k
    · rw [e]; exact h
    · exact holdO_dead (by omega) (holdO_end hk h (by omega))
open Classical in
noncomputable def hdO (cs : List Cyl) (d : Int) : Option Cyl := if 1 ≤ (cs.length : Int) ∧ (cs.length : Int) ≤ d then holdO d cs cs.length else none
theorem hdO_yes {cs : List Cyl} {d : Int} (h : 1 ≤ (cs.length : Int) ∧ (cs.length : Int) ≤ d) : hdO cs d = holdO d cs cs.length := if_pos h
theorem hdO_no {cs : List Cyl} {d : Int} (h : ¬ (1 ≤ (cs.length : Int) ∧ (cs.length : Int) ≤ d)) : hdO cs d = none := if_neg h
theorem holdO_le {d : Int} {cs : List Cyl} : ∀ {k : Nat} {x : Cyl}, holdO d cs k = some x → x.2.2.length ≤ 100 ∧ ∃ s l, x = (s, 100, l) ∧ CylP s 100 l
  | 0, _, h => by cases h
  | k + 1, y, h => by
    unfold holdO at h
    obtain ⟨c, hc, h⟩ := Option.bind_eq_some_iff.1 h
    obtain ⟨x, hx, h⟩ := Option.bind_eq_some_iff.1 h
    obtain ⟨_, rfl, q⟩ := shO_some hx
    by_cases hk : k = 0
    · rw [if_pos hk] at h
      obtain rfl := Option.some.inj h
      exact ⟨q.2.2.1, _, _, rfl, q⟩
    · rw [if_neg hk] at h
      obtain ⟨o, ho, h⟩ := Option.bind_eq_some_iff.1 h
      obtain ⟨_, s, l, rfl, _⟩ := holdO_le ho
      obtain ⟨_, m, _, h2, rfl⟩ := mgO_some h
      exact ⟨(cylB_true.1 h2).2.2.1, _, _, rfl, cylB_true.1 h2⟩
theorem hdO_le {cs : List Cyl} {d : Int} {x : Cyl} (h : hdO cs d = some x) : x.2.2.length ≤ 100 := by
  unfold hdO at h; split at h
  · exact (holdO_le h).1
  · cases h

/-! ### pairs that disturb -/
noncomputable def dsM (a b : Cyl) (r : Int) : Int := if (cylB a.1 a.2.1 a.2.2 = true ∧ cylB b.1 b.2.1 b.2.2 = true ∧ a.1 = b.1) ∧ (1 ≤ r ∧ r ≤ 96) then (distN a.1 r a.2.2 b.2.2 : Int) else -1
theorem dsM_yes {a b : Cyl} {r : Int} (h : cylB a.1 a.2.1 a.2.2 = true ∧ cylB b.1 b.2.1 b.2.2 = true ∧ a.1 = b.1) (hr : 1 ≤ r ∧ r ≤ 96) : dsM a b r = (distN a.1 r a.2.2 b.2.2 : Int) := if_pos ⟨h, hr⟩
theorem dsM_no {a b : Cyl} {r : Int} (h : ¬ ((cylB a.1 a.2.1 a.2.2 = true ∧ cylB b.1 b.2.1 b.2.2 = true ∧ a.1 = b.1) ∧ (1 ≤ r ∧ r ≤ 96))) : dsM a b r = -1 := if_neg h
/-- How many have been found ahead of the pair (i, k). -/
def dsP (s r : Int) (a b : List (Int × Int)) (i k : Nat) : Nat := distN s r (a.take i) b + (match a[i]? with | none => 0 | some x => ((b.take k).filter (closeF s r x)).length)
theorem dsP_zero (s r : Int) (a b : List (Int × Int)) (i : Nat) : dsP s r a b i 0 = distN s r (a.take i) b := by
  unfold dsP; cases a[i]? <;> simp
theorem dsP_all {s r : Int} {a b : List (Int × Int)} {i : Nat} {x : Int × Int} (hx : a[i]? = some x) : dsP s r a b i b.length = distN s r (a.take (i + 1)) b := by
  unfold dsP; rw [distN_take hx, hx]; simp
theorem dsP_yes {s r : Int} {a b : List (Int × Int)} {i k : Nat} {x y : Int × Int} (hx : a[i]? = some x) (hy : b[k]? = some y) (h : closeF s r x y = true) : dsP s r a b i (k + 1) = dsP s r a b i k + 1 := by
  unfold dsP; rw [hx]; simp only [List.take_add_one, hy]
  show _ + (List.filter (closeF s r x) (b.take k ++ [y])).length = _
  rw [List.filter_append]; simp [h]; omega
theorem dsP_no {s r : Int} {a b : List (Int × Int)} {i k : Nat} {x y : Int × Int} (hx : a[i]? = some x) (hy : b[k]? = some y) (h : ¬ closeF s r x y = true) : dsP s r a b i (k + 1) = dsP s r a b i k := by
  unfold dsP; rw [hx]; simp only [List.take_add_one, hy]
  show _ + (List.filter (closeF s r x) (b.take k ++ [y])).length = _
  rw [List.filter_append]; simp [h]
theorem dsP_le (s r : Int) (a b : List (Int × Int)) (i k : Nat) (ha : a.length ≤ 100) (hb : b.length ≤ 100) : dsP s r a b i k ≤ 10100 := by
  unfold dsP
  have h1 := distN_le s r (a.take i) b
  have h2 : (a.take i).length * b.length ≤ 100 * 100 := Nat.mul_le_mul (by rw [List.length_take]; omega) hb
  cases a[i]? with
  | none => simp; omega
  | some x =>
    have h3 := List.length_filter_le (closeF s r x) (b.take k)
    rw [List.length_take] at h3
    show _ + ((b.take k).filter (closeF s r x)).length ≤ _
    omega
theorem dist_bound {s r : Int} {a b : List (Int × Int)} (ha : a.length ≤ 100) (hb : b.length ≤ 100) : distN s r a b ≤ 10000 := by
  have h1 := distN_le s r a b
  have h2 : a.length * b.length ≤ 100 * 100 := Nat.mul_le_mul ha hb
  omega
end Go.Proofs.Ytemhmbaacpfnaaa
