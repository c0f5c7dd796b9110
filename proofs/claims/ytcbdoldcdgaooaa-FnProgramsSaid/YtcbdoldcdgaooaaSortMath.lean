/- Plain facts on rows of notes: sorting, leaving out what is twice, the place of a note. No condition. -/
import Derived.Test.YtcbdoldcdgaooaaSortSpec
import Derived.Test.YtcbdoldcdgaooaaCmp
namespace Go.Proofs.Ytcbdoldcdgaooaa

theorem less_iff {p q : Int × Int} : lessB p q = true ↔ (p.1 < q.1 ∨ (p.1 = q.1 ∧ p.2 < q.2)) := by unfold lessB; simp
theorem less_irrefl (p : Int × Int) : lessB p p = false := by rw [← Bool.not_eq_true, less_iff]; omega
theorem less_trans {p q r : Int × Int} (h : lessB p q = true) (k : lessB q r = true) : lessB p r = true := by rw [less_iff] at *; omega
theorem less_asymm {p q : Int × Int} (h : lessB p q = true) : lessB q p = false := by
  rw [← Bool.not_eq_true]; rw [less_iff] at *; omega
theorem less_total {p q : Int × Int} (h : lessB p q = false) (k : lessB q p = false) : p = q := by
  rw [← Bool.not_eq_true, less_iff] at h k
  exact Prod.ext (by omega) (by omega)
theorem less_ne {p q : Int × Int} (h : lessB p q = true) : p ≠ q := fun e => by subst e; rw [less_irrefl] at h; cases h

/-- Strictly ascending. -/
def SS (l : List (Int × Int)) : Prop := l.Pairwise fun a b => lessB a b = true
theorem ss_unique : ∀ {l l' : List (Int × Int)}, SS l → SS l' → (∀ x, x ∈ l ↔ x ∈ l') → l = l'
  | [], [], _, _, _ => rfl
  | [], b :: s, _, _, h => absurd ((h b).2 (by simp)) (by simp)
  | a :: r, [], _, _, h => absurd ((h a).1 (by simp)) (by simp)
  | a :: r, b :: s, h1, h2, h => by
    obtain ⟨ha, hr⟩ := List.pairwise_cons.1 h1
    obtain ⟨hb, hs⟩ := List.pairwise_cons.1 h2
    have hab : a = b := by
      rcases List.mem_cons.1 ((h a).1 (by simp)) with e | e
      · exact e
      · rcases List.mem_cons.1 ((h b).2 (by simp)) with e' | e'
        · exact e'.symm
        · have := less_asymm (hb a e); rw [ha b e'] at this; cases this
    subst hab
    rw [ss_unique hr hs fun x => ⟨fun hx => ?_, fun hx => ?_⟩]
    · rcases List.mem_cons.1 ((h x).1 (List.mem_cons_of_mem _ hx)) with e | e
      · exact absurd e.symm (less_ne (ha x hx))
      · exact e
    · rcases List.mem_cons.1 ((h x).2 (List.mem_cons_of_mem _ hx)) with e | e
      · exact absurd e.symm (less_ne (hb x hx))
      · exact e

theorem take_rank (o : List (Int × Int)) (x : Int × Int) : o.take (rankM o x) = o.takeWhile fun p => lessB p x := by
  unfold rankM
  conv => lhs; arg 2; rw [← List.takeWhile_append_dropWhile (p := fun p => lessB p x) (l := o)]
  rw [List.take_left']; rfl
theorem drop_rank (o : List (Int × Int)) (x : Int × Int) : o.drop (rankM o x) = o.dropWhile fun p => lessB p x := by
  unfold rankM
  conv => lhs; arg 2; rw [← List.takeWhile_append_dropWhile (p := fun p => lessB p x) (l := o)]
  rw [List.drop_left']; rfl
theorem mem_tw {α : Type} {f : α → Bool} : ∀ {l : List α} {a : α}, a ∈ l.takeWhile f → f a = true
  | [], a, h => by simp at h
  | b :: l, a, h => by
    by_cases hb : f b = true
    · rw [List.takeWhile_cons_of_pos hb] at h
      rcases List.mem_cons.1 h with rfl | h
      · exact hb
      · exact mem_tw h
    · rw [List.takeWhile_cons_of_neg hb] at h; cases h
theorem rank_lo {o : List (Int × Int)} {x p : Int × Int} {i : Nat} (hi : i < rankM o x) (hp : o[i]? = some p) : lessB p x = true := by
  have : p ∈ o.takeWhile fun p => lessB p x := by
    rw [← take_rank]; exact List.mem_iff_getElem?.2 ⟨i, by rw [List.getElem?_take, if_pos hi]; exact hp⟩
  exact mem_tw (f := fun p => lessB p x) this
theorem rank_at : ∀ {o : List (Int × Int)} {x p : Int × Int}, o[rankM o x]? = some p → lessB p x = false
  | [], x, p, h => by simp at h
  | q :: r, x, p, h => by
    by_cases hq : lessB q x = true
    · have e : rankM (q :: r) x = rankM r x + 1 := by unfold rankM; rw [List.takeWhile_cons_of_pos (by simpa using hq)]; rfl
      rw [e] at h
      exact rank_at (o := r) (by simpa using h)
    · have e : rankM (q :: r) x = 0 := by unfold rankM; rw [List.takeWhile_cons_of_neg (by simpa using hq)]; rfl
      rw [e] at h
      obtain rfl : q = p := by simpa using h
      simpa using hq

theorem ins_mem (o : List (Int × Int)) (x y : Int × Int) : y ∈ insM o x ↔ y = x ∨ y ∈ o := by
  unfold insM
  split
  · rename_i h
    constructor
    · exact Or.inr
    · rintro (rfl | h')
      · exact List.mem_iff_getElem?.2 ⟨_, h⟩
      · exact h'
  · conv => rhs; rhs; rw [← List.take_append_drop (rankM o x) o]
    simp only [List.mem_append, List.mem_singleton]
    constructor
    · rintro ((h | h) | h)
      · exact Or.inr (Or.inl h)
      · exact Or.inl h
      · exact Or.inr (Or.inr h)
    · rintro (h | h | h)
      · exact Or.inl (Or.inr h)
      · exact Or.inl (Or.inl h)
      · exact Or.inr h
theorem ins_ss {o : List (Int × Int)} (x : Int × Int) (h : SS o) : SS (insM o x) := by
  unfold insM
  split
  · exact h
  · rename_i hne
    have h' := h
    rw [← List.take_append_drop (rankM o x) o] at h'
    obtain ⟨h1, h2, h3⟩ := List.pairwise_append.1 h'
    have lo : ∀ a ∈ o.take (rankM o x), lessB a x = true := fun a ha => by
      rw [take_rank] at ha; exact mem_tw (f := fun p => lessB p x) ha
    have hi : ∀ b ∈ o.drop (rankM o x), lessB x b = true := by
      cases hd : o.drop (rankM o x) with
      | nil => intro b hb; cases hb
      | cons c r =>
        have hc : o[rankM o x]? = some c := by
          have := congrArg (fun l => l[0]?) hd
          simpa [List.getElem?_drop] using this
        have hxc : lessB x c = true := by
          by_cases e : lessB x c = true
          · exact e
          · have := less_total (rank_at hc) (by simpa using e)
            rw [this] at hc; exact absurd hc hne
        intro b hb
        rcases List.mem_cons.1 hb with rfl | hb
        · exact hxc
        · rw [hd] at h2
          exact less_trans hxc ((List.pairwise_cons.1 h2).1 b hb)
    refine List.pairwise_append.2 ⟨List.pairwise_append.2 ⟨h1, List.pairwise_singleton _ _, fun a ha b hb => ?_⟩, h2, fun a ha b hb => ?_⟩
    · obtain rfl : b = x := by simpa using hb
      exact lo a ha
    · rcases List.mem_append.1 ha with ha | ha
      · exact h3 a ha b hb
      · obtain rfl : a = x := by simpa using ha
        exact hi b hb
theorem fold_ss : ∀ (l o : List (Int × Int)), SS o → SS (l.foldl insM o)
  | [], _, h => h
  | x :: l, _, h => fold_ss l _ (ins_ss x h)
theorem fold_mem : ∀ (l o : List (Int × Int)) (y : Int × Int), y ∈ l.foldl insM o ↔ y ∈ l ∨ y ∈ o
  | [], _, _ => by simp
  | x :: l, o, y => by
    rw [List.foldl_cons, fold_mem l, ins_mem]
    simp only [List.mem_cons]
    constructor
    · rintro (h | h | h)
      · exact Or.inl (Or.inr h)
      · exact Or.inl (Or.inl h)
      · exact Or.inr h
    · rintro ((h | h) | h)
      · exact Or.inr (Or.inl h)
      · exact Or.inl h
      · exact Or.inr (Or.inr h)

/-- Each of equal neighbours but the first is left out. -/
def dedF : (Int × Int) → List (Int × Int) → List (Int × Int)
  | _, [] => []
  | x, y :: r => if y = x then dedF x r else y :: dedF y r
def dedM : List (Int × Int) → List (Int × Int)
  | [] => []
  | x :: r => x :: dedF x r
theorem dedF_snoc : ∀ (m : List (Int × Int)) (x p q : Int × Int), dedF x (m ++ [p] ++ [q]) = dedF x (m ++ [p]) ++ (if q = p then [] else [q])
  | [], x, p, q => by
    by_cases h : p = x
    · subst h; by_cases h2 : q = p <;> simp [dedF, h2]
    · by_cases h2 : q = p <;> simp [dedF, h, h2]
  | y :: m, x, p, q => by
    by_cases h : y = x
    · subst h
      have := dedF_snoc m y p q
      simp only [List.append_assoc, List.cons_append, dedF, if_true] at this ⊢
      exact this
    · have := dedF_snoc m y p q
      simp only [List.append_assoc, List.cons_append, dedF, if_neg h] at this ⊢
      rw [this]
theorem dedM_snoc (m : List (Int × Int)) (p q : Int × Int) : dedM (m ++ [p] ++ [q]) = dedM (m ++ [p]) ++ (if q = p then [] else [q]) := by
  cases m with
  | nil => by_cases h : q = p <;> simp [dedM, dedF, h]
  | cons y m =>
    have := dedF_snoc m y p q
    simp only [List.append_assoc, List.cons_append, dedM] at this ⊢
    rw [this]
theorem dedM_take {l : List (Int × Int)} {j : Nat} {p q : Int × Int} (hp : l[j]? = some p) (hq : l[j + 1]? = some q) : dedM (l.take (j + 2)) = dedM (l.take (j + 1)) ++ (if q = p then [] else [q]) := by
  have e1 : l.take (j + 1) = l.take j ++ [p] := by rw [List.take_add_one, hp]; rfl
  have e2 : l.take (j + 2) = l.take (j + 1) ++ [q] := by rw [List.take_add_one, hq]; rfl
  rw [e2, e1, dedM_snoc]
theorem dedF_len : ∀ (x : Int × Int) (r : List (Int × Int)), (dedF x r).length ≤ r.length
  | _, [] => by simp [dedF]
  | x, y :: r => by
    unfold dedF; split
    · have := dedF_len x r; simp; omega
    · have := dedF_len y r; simp; omega
theorem dedM_len (l : List (Int × Int)) : (dedM l).length ≤ l.length := by
  cases l with
  | nil => simp [dedM]
  | cons x r => have := dedF_len x r; simp [dedM]; omega
theorem dedF_ss : ∀ (x : Int × Int) (r : List (Int × Int)), (x :: r).Pairwise (fun a b => lessB b a = false) → SS (x :: dedF x r) ∧ ∀ z, z ∈ x :: dedF x r ↔ z ∈ x :: r
  | x, [], _ => ⟨List.pairwise_singleton _ _, fun z => Iff.rfl⟩
  | x, y :: r, h => by
    obtain ⟨h1, h2⟩ := List.pairwise_cons.1 h
    obtain ⟨h3, h4⟩ := List.pairwise_cons.1 h2
    by_cases e : y = x
    · subst e
      obtain ⟨i1, i2⟩ := dedF_ss y r h2
      simp only [dedF, if_true]
      exact ⟨i1, fun z => by rw [i2 z]; simp⟩
    · obtain ⟨i1, i2⟩ := dedF_ss y r h2
      simp only [dedF, if_neg e]
      have hxy : lessB x y = true := by
        by_cases g : lessB x y = true
        · exact g
        · exact absurd (less_total (h1 y (by simp)) (by simpa using g)) e
      refine ⟨List.pairwise_cons.2 ⟨fun b hb => ?_, i1⟩, fun z => ?_⟩
      · rcases List.mem_cons.1 hb with rfl | hb'
        · exact hxy
        · exact less_trans hxy ((List.pairwise_cons.1 i1).1 b hb')
      · rw [List.mem_cons, i2 z, List.mem_cons (a := z) (b := x)]
theorem dedM_ss {l : List (Int × Int)} (h : l.Pairwise fun a b => lessB b a = false) : SS (dedM l) ∧ ∀ z, z ∈ dedM l ↔ z ∈ l := by
  cases l with
  | nil => exact ⟨List.Pairwise.nil, fun z => Iff.rfl⟩
  | cons x r => exact dedF_ss x r h

/-- The row sorted, all kept. -/
def mergeM (l : List (Int × Int)) : List (Int × Int) := l.mergeSort fun x y => !lessB y x
theorem mergeM_len (l : List (Int × Int)) : (mergeM l).length = l.length := List.length_mergeSort l
theorem mergeM_pw (l : List (Int × Int)) : (mergeM l).Pairwise fun a b => lessB b a = false := by
  have h := List.pairwise_mergeSort (le := fun x y : Int × Int => !lessB y x)
    (fun a b c h1 h2 => by
      simp only [Bool.not_eq_true'] at *
      rw [← Bool.not_eq_true, less_iff] at *; omega)
    (fun a b => by
      by_cases h : lessB b a = true
      · simp [less_asymm h]
      · simp [h]) l
  exact h.imp fun hab => by simpa using hab
theorem sort_eq {l : List (Int × Int)} (h : l.length ≤ 40) : dedM (mergeM l) = sortM l := by
  unfold sortM
  rw [if_pos h]
  obtain ⟨h1, h2⟩ := dedM_ss (mergeM_pw l)
  refine ss_unique h1 (fold_ss l [] List.Pairwise.nil) fun x => ?_
  rw [h2, fold_mem]
  simp only [List.not_mem_nil, or_false]
  exact List.mem_mergeSort

/-- A tune is strictly ascending. -/
theorem tune_ss {l : List (Int × Int)} (h : TuneP l) : SS l := by
  have key : ∀ d i a b, l[i]? = some a → l[i + 1 + d]? = some b → lessB a b = true := by
    intro d
    induction d with
    | zero => intro i a b ha hb; exact (h.2 (i + 1) b hb).2.2 i a rfl ha
    | succ d ih =>
      intro i a b ha hb
      obtain ⟨c, hc⟩ : ∃ c, l[i + 1 + d]? = some c := ⟨_, List.getElem?_eq_getElem (by have := (List.getElem?_eq_some_iff.1 hb).1; omega)⟩
      exact less_trans (ih i a c ha hc) ((h.2 (i + 1 + d + 1) b hb).2.2 _ c rfl hc)
  refine List.pairwise_iff_getElem.2 fun i j hi hj hij => ?_
  exact key (j - i - 1) i _ _ (List.getElem?_eq_getElem hi) (by rw [show i + 1 + (j - i - 1) = j by omega]; exact List.getElem?_eq_getElem hj)
theorem fold_self {t : List (Int × Int)} (h : SS t) : t.foldl insM [] = t :=
  ss_unique (fold_ss t [] List.Pairwise.nil) h fun x => by rw [fold_mem]; simp
theorem sort_snoc {t : List (Int × Int)} (h : SS t) (x : Int × Int) (hl : t.length + 1 ≤ 40) : sortM (t ++ [x]) = insM t x := by
  unfold sortM
  rw [if_pos (by simpa using hl), List.foldl_append, fold_self h]; rfl
theorem ins_in {t : List (Int × Int)} {x : Int × Int} (h : SS t) (hx : x ∈ t) : insM t x = t :=
  ss_unique (ins_ss x h) h fun y => by
    rw [ins_mem]
    exact ⟨fun hy => hy.elim (fun e => e ▸ hx) id, Or.inr⟩
theorem ins_out {t : List (Int × Int)} {x : Int × Int} (hx : x ∉ t) : insM t x = t.take (rankM t x) ++ [x] ++ t.drop (rankM t x) := by
  unfold insM
  rw [if_neg fun e => hx (List.mem_iff_getElem?.2 ⟨_, e⟩)]
theorem ins_out_len {t : List (Int × Int)} {x : Int × Int} (hx : x ∉ t) : (insM t x).length = t.length + 1 := by
  rw [ins_out hx]
  have := rank_le t x
  simp only [List.length_append, List.length_take, List.length_drop, List.length_cons, List.length_nil]; omega
end Go.Proofs.Ytcbdoldcdgaooaa
