/- The contract of SortNotes, of chapter 2's model. No condition. -/
import Derived.Test.YtceebblokibapaaTuneSpec2
namespace Go.Proofs.Ytceebblokibapaa
open Go.ChangeShapes Go.WideShapes Go.ChangeAt Go.RowKit

/-- How many leading notes are less than x. -/
def rankM (o : List (Int × Int)) (x : Int × Int) : Nat := (o.takeWhile fun p => lessB p x).length
def insM (o : List (Int × Int)) (x : Int × Int) : List (Int × Int) := if o[rankM o x]? = some x then o else o.take (rankM o x) ++ [x] ++ o.drop (rankM o x)
def sortM (l : List (Int × Int)) : List (Int × Int) := if l.length ≤ 40 then l.foldl insM [] else []
theorem rank_le (o : List (Int × Int)) (x : Int × Int) : rankM o x ≤ o.length := by
  unfold rankM; exact (List.takeWhile_sublist _).length_le
theorem rank_of : ∀ (o : List (Int × Int)) (x : Int × Int) (a : Nat), (∀ i p, i < a → o[i]? = some p → lessB p x = true) → a ≤ o.length → (∀ p, o[a]? = some p → lessB p x = false) → rankM o x = a
  | [], x, a, h1, h2, h3 => by simp at h2; subst h2; rfl
  | q :: r, x, 0, h1, h2, h3 => by
    have := h3 q rfl
    unfold rankM; rw [List.takeWhile_cons_of_neg (by simp [this])]; rfl
  | q :: r, x, a + 1, h1, h2, h3 => by
    have hq := h1 0 q (by omega) rfl
    have ih := rank_of r x a (fun i p hi hp => h1 (i + 1) p (by omega) (by simpa using hp)) (by simpa using h2) (fun p hp => h3 p (by simpa using hp))
    unfold rankM at ih ⊢
    rw [List.takeWhile_cons_of_pos (by simpa using hq), List.length_cons, ih]
theorem ins_len (o : List (Int × Int)) (x : Int × Int) : (insM o x).length ≤ o.length + 1 := by
  unfold insM
  split
  · omega
  · have := rank_le o x
    simp only [List.length_append, List.length_take, List.length_drop, List.length_cons, List.length_nil]; omega
theorem fold_len : ∀ (l o : List (Int × Int)), (l.foldl insM o).length ≤ o.length + l.length
  | [], o => by simp
  | x :: l, o => by
    have := fold_len l (insM o x)
    have := ins_len o x
    simp only [List.foldl_cons, List.length_cons]; omega
theorem fold_succ (l : List (Int × Int)) (k : Nat) (x : Int × Int) (h : l[k]? = some x) : (l.take (k + 1)).foldl insM [] = insM ((l.take k).foldl insM []) x := by
  rw [List.take_add_one, h, List.foldl_append]; rfl

theorem ownS_form {w : World} {B e s : Nat} {v : Value} {n : Nat} {xs : List Value} (h : w.ownsRow B e s v n xs) (hv : v ≠ .slice none 0 0) : ∃ g cap, v = .slice (some ⟨g, 0, none⟩) n cap ∧ B ≤ g ∧ n ≤ cap ∧ cap ≤ maxLen := by
  rcases h.2 with ⟨rfl, rfl⟩ | ⟨g, cap, cur, rfl, hb, hg, h1, h2, h3, h4⟩
  · exact absurd rfl hv
  · exact ⟨g, cap, rfl, hb, h1, h2⟩

/-- 'append' onto an own row, as a step of a region that draws its order: nothing to append is borne. -/
theorem step_append_own {P : Program} {w : World} {ops : Array Oper} {o : Oper} {a : Act} {K : Act → World → Prop} {Q : Exit → Act → World → Prop} {E : Prop} (hgd : o.guard = none) (s x : Operand) (t : TypeId)
    (ho : o.op = .call { callee := .builtin .append, args := #[s, x], argTypes := #[t, t] })
    (base : Nat) (e : TypeId) (i : TypeInfo) (z : Value) (size bytes : Nat) (ht : P.underlying t = some (.slice e)) (hi : P.info? e = some i) (hz : i.zero = some z)
    (hsize : i.size = size) (hby : i.bytes = bytes) (hzs : z.cells.size = size) (hsz : 0 < size)
    (v : Value) (n : Nat) (xs : List Value) (hs : a.eval s = v) (hown : w.ownsRow base e size v n xs)
    (ad : Addr) (m c : Nat) (news : List Value) (hx : a.eval x = .slice (some ad) m c) (hl : news.length = m * size) (hnews : ∀ j u, news[j]? = some u → w.cell? (ad.add j) = some u) (h1 : ∀ u ∈ news, u.oneCell' = true)
    (h63 : n + m ≤ maxLen) (hbytes : (n + m) * bytes ≤ 140737488355328) (hbase : base ≤ w.heap.size)
    (h : ∀ v' w', w'.ownsRow base e size v' (n + m) (xs ++ news) → w.grownBy w' v.ownBlock → K (a.put o.dst v') w') :
    if Region.wanted o (yielded ops a.tmps) = true then Oper.wp P o a w K Q else E := by
  have hw : Region.wanted o (yielded ops a.tmps) = true := by simp [Region.wanted, hgd]
  rw [if_pos hw]
  exact wp_append_own w s x t ho base e i z size bytes ht hi hz hsize hby hzs hsz v n xs hs hown ad m c news hx hl hnews h1 h63 hbytes hbase fun v' w' h2 h3 _ => h v' w' h2 h3

theorem add_none (b o j : Nat) : ((⟨b, o, none⟩ : Addr).add j) = ⟨b, o + j, none⟩ := by unfold Addr.add; simp
theorem rd_take {w : World} {g cap : Nat} {o : List (Int × Int)} (h : Rd2 w (.slice (some ⟨g, 0, none⟩) o.length cap) o) (a : Nat) : ∀ j u, (flat2 (o.take a))[j]? = some u → w.cell? ((⟨g, 0, none⟩ : Addr).add j) = some u := by
  intro j u hj
  have hsplit : flat2 o = flat2 (o.take a) ++ flat2 (o.drop a) := by rw [← flat2_append, List.take_append_drop]
  have hlt : j < (flat2 (o.take a)).length := (List.getElem?_eq_some_iff.1 hj).1
  have hlt2 := hlt
  rw [flat2_length, List.length_take] at hlt2
  obtain ⟨b, off, cp, hv, hc⟩ := Rd.pos h (by omega)
  simp only [Value.slice.injEq, Option.some.injEq, Addr.mk.injEq, true_and, and_true] at hv
  obtain ⟨⟨rfl, rfl⟩, rfl⟩ := hv
  rw [add_none, hc j (by omega), hsplit, List.getElem?_append_left hlt, hj]
theorem rd_drop {w : World} {g cap : Nat} {o : List (Int × Int)} (h : Rd2 w (.slice (some ⟨g, 0, none⟩) o.length cap) o) (a : Nat) : ∀ j u, (flat2 (o.drop a))[j]? = some u → w.cell? ((⟨g, a * 2, none⟩ : Addr).add j) = some u := by
  intro j u hj
  have hsplit : flat2 o = flat2 (o.take a) ++ flat2 (o.drop a) := by rw [← flat2_append, List.take_append_drop]
  have hlt : j < (flat2 (o.drop a)).length := (List.getElem?_eq_some_iff.1 hj).1
  rw [flat2_length, List.length_drop] at hlt
  obtain ⟨b, off, cp, hv, hc⟩ := Rd.pos h (by omega)
  simp only [Value.slice.injEq, Option.some.injEq, Addr.mk.injEq, true_and, and_true] at hv
  obtain ⟨⟨rfl, rfl⟩, rfl⟩ := hv
  have hta : (flat2 (o.take a)).length = a * 2 := by rw [flat2_length, List.length_take, Nat.min_eq_left (by omega)]
  have := hc (a * 2 + j) (by omega)
  rw [add_none]
  rw [Nat.zero_add] at this
  rw [this, hsplit, List.getElem?_append_right (by omega), hta, Nat.add_sub_cancel_left, hj]
theorem flat2_one (l : List (Int × Int)) : ∀ u ∈ flat2 l, u.oneCell' = true := by
  induction l with
  | nil => simp [flat2]
  | cons p l ih =>
    intro u hu
    simp only [flat2, List.flatMap_cons, List.mem_append, List.mem_cons, List.not_mem_nil, or_false] at hu ih
    rcases hu with (rfl | rfl) | hu
    · rfl
    · rfl
    · exact ih u hu

theorem kept_b {w w' : World} {a : Addr} {v : Value} (hb : Below w.heap.size w w') (h : w.cell? a = some v) : w'.cell? a = some v :=
  (hb.cell (World.block_lt_of_cell? w _ h)).trans h
theorem ownS_mono {w : World} {B B' e s : Nat} {v : Value} {n : Nat} {xs : List Value} (h : w.ownsRow B e s v n xs) (hb : B' ≤ B) : w.ownsRow B' e s v n xs := by
  refine ⟨h.1, ?_⟩
  rcases h.2 with h0 | ⟨g, cap, cur, rfl, h1, h2⟩
  · exact Or.inl h0
  · exact Or.inr ⟨g, cap, cur, rfl, by omega, h2⟩
theorem below_a (W : World) (o : Obj) : Below W.heap.size W (W.alloc o).drew := ((Below.refl _ _).alloc (Nat.le_refl _) _).drew
theorem size_alloc (W : World) (o : Obj) : (W.alloc o).heap.size = W.heap.size + 1 := by show (W.heap.push o).size = _; simp
theorem below_b (W : World) (o o' : Obj) : Below W.heap.size W ((W.alloc o).alloc o').drew := (((Below.refl _ _).alloc (Nat.le_refl _) _).alloc (by rw [size_alloc]; omega) _).drew
theorem sortM_len (l : List (Int × Int)) : (sortM l).length ≤ l.length := by
  unfold sortM; split
  · have := fold_len l []; simpa using this
  · simp
end Go.Proofs.Ytceebblokibapaa
