/- The contract of chapter 5's model: AssignTeeth. No condition. -/
import Derived.Test.YtcbdoldcdgaooaaCombSpec
import Derived.Deep.AppendSrc
namespace Go.Proofs.Ytcbdoldcdgaooaa
open Go.ChangeShapes Go.WideShapes Go.ChangeAt Go.RowKit

/-- 'append', by its own run. -/
theorem wpList_append_eq {P : Program} {w w' : World} {ops : Array Oper} {rest : List Oper} {o : Oper} {a : Act} {Q : Exit → Act → World → Prop} (hgd : o.guard = none) (s x : Operand) (tys : Array TypeId)
    (ho : o.op = .call { callee := .builtin .append, args := #[s, x], argTypes := tys }) (vs vx v : Value) (hs : a.eval s = vs) (hx : a.eval x = vx)
    (hrun : (Builtin.append_ tys o.type #[vs, vx]).run P w = .ok v w') (h : wpList P ops Q rest (a.put o.dst v) w') : wpList P ops Q (o :: rest) a w := by
  refine wpList_plain hgd fun K hK => ?_
  unfold Oper.wp
  simp [execOp, ho, resolve, invoke, builtin, hs, hx, hrun, Result.andThen]
  exact hK _ _ h
/-- An int appended to an own row: the block is the row's own or a new one. -/
theorem app_int {w : World} {B : Nat} {v : Value} {n : Nat} {xs : List Value} (hown : w.ownsRow B 3 1 v n xs) (x : Int) (hn : n ≤ 1000000) (hB : B ≤ w.heap.size) :
    ∃ v' w', (Builtin.append_ #[33, 33] 33 #[v, .slice (some ⟨w.heap.size, 0, none⟩) 1 1]).run Try.prog (w.alloc (.cells #[.int .i64 x] 3)) = .ok v' w' ∧ w'.ownsRow B 3 1 v' (n + 1) (xs ++ [.int .i64 x]) ∧
      (w.alloc (.cells #[.int .i64 x] 3)).grownBy w' v.ownBlock ∧ ∀ g, v'.ownBlock = some g → v.ownBlock = some g ∨ w.heap.size ≤ g := by
  obtain ⟨i0, hi, hz0, hz1, hz2⟩ := info_parts infoInt
  have hW : (w.alloc (.cells #[.int .i64 x] 3)).heap.size = w.heap.size + 1 := by show (w.heap.push _).size = _; simp
  have hnews : ∀ j u, [Value.int .i64 x][j]? = some u → (w.alloc (.cells #[.int .i64 x] 3)).cell? ((⟨w.heap.size, 0, none⟩ : Addr).add j) = some u := World.news_of_block (heap_alloc_new w _)
  obtain ⟨v', w', e, o, gr, _⟩ := run_append_own (P := Try.prog) (w.alloc (.cells #[.int .i64 x] 3)) B 33 33 3 i0 (.int .i64 0) 1 8 Try.underlying33 hi hz0 hz1 hz2 rfl (by decide) v n xs (hown.alloc _) ⟨w.heap.size, 0, none⟩ 1 1 [.int .i64 x] rfl hnews (by simp [Value.oneCell']) (by unfold maxLen; omega) (by omega) (by rw [hW]; omega)
  refine ⟨v', w', e, o, gr, fun g hg => ?_⟩
  rcases (hown.alloc (.cells #[.int .i64 x] 3)).2 with ⟨rfl, hn0⟩ | ⟨g0, cap, cur, rfl, hb, hgg, h1, h2, h3, h4⟩
  · have h := run_append_grow_src (P := Try.prog) (w.alloc (.cells #[.int .i64 x] 3)) 33 33 33 3 i0 _ Try.underlying33 hi hz0 none 0 0 [] (run_firstCells_none _ _ _ _ _) (.slice (some ⟨w.heap.size, 0, none⟩) 1 1) 1 [.int .i64 x] (by rw [hz1]; exact Src.ofSlice _ Try.underlying33 _ 1 1 _ rfl hnews (by simp [Value.oneCell'])) (by omega) (by omega) (by rw [hz2]; exact growslice_fits (by omega) (by omega))
    rw [h] at e
    obtain rfl := (Result.ok.inj e).1
    right
    simp only [Value.ownBlock, Option.some.injEq] at hg
    omega
  · by_cases hroom : n + 1 ≤ cap
    · have h := run_append_room (P := Try.prog) (w.alloc (.cells #[.int .i64 x] 3)) 33 33 3 i0 Try.underlying33 hi g0 n cap cur hgg ⟨w.heap.size, 0, none⟩ 1 1 [.int .i64 x] (by rw [hz1]; rfl) hnews (by simp [Value.oneCell']) hroom (by rw [hz1]; simp only [List.length_singleton]; omega)
      rw [h] at e
      obtain rfl := (Result.ok.inj e).1
      left; exact hg
    · have hcells : ∀ j u, xs[j]? = some u → (w.alloc (.cells #[.int .i64 x] 3)).cell? ((⟨g0, 0, none⟩ : Addr).add j) = some u := (hown.alloc _).cells rfl
      have h := run_append_grow_src (P := Try.prog) (w.alloc (.cells #[.int .i64 x] 3)) 33 33 33 3 i0 _ Try.underlying33 hi hz0 (some ⟨g0, 0, none⟩) n cap xs (by rw [hz1]; exact run_firstCells_some _ 1 n ⟨g0, 0, none⟩ n cap xs (by have := hown.1; omega) (by simpa using hcells)) (.slice (some ⟨w.heap.size, 0, none⟩) 1 1) 1 [.int .i64 x] (by rw [hz1]; exact Src.ofSlice _ Try.underlying33 _ 1 1 _ rfl hnews (by simp [Value.oneCell'])) (by omega) (by omega) (by rw [hz2]; exact growslice_fits (by omega) (by omega))
      rw [h] at e
      obtain rfl := (Result.ok.inj e).1
      right
      simp only [Value.ownBlock, Option.some.injEq] at hg
      omega

/-- The least tooth below n that is free for the note q. -/
def freeTo (n : Nat) (c last : List Int) (q : Int × Int) (r : Int) : Option Nat := (List.range n).find? fun i => decide (c[i]? = some q.2 ∧ r ≤ q.1 - last.getD i 0)
theorem freeTo_zero (c last : List Int) (q : Int × Int) (r : Int) : freeTo 0 c last q r = none := rfl
theorem freeTo_succ (n : Nat) (c last : List Int) (q : Int × Int) (r : Int) : freeTo (n + 1) c last q r = (freeTo n c last q r).or (if c[n]? = some q.2 ∧ r ≤ q.1 - last.getD n 0 then some n else none) := by
  unfold freeTo
  rw [List.range_succ, List.find?_append]
  congr 1
  by_cases h : c[n]? = some q.2 ∧ r ≤ q.1 - last.getD n 0 <;> simp [h]
theorem freeTo_mono {n m : Nat} {c last : List Int} {q : Int × Int} {r : Int} {j : Nat} (h : freeTo n c last q r = some j) (hm : n ≤ m) : freeTo m c last q r = some j := by
  induction m with
  | zero => obtain rfl : n = 0 := by omega
            exact h
  | succ m ih =>
    by_cases hn : n = m + 1
    · subst hn; exact h
    · rw [freeTo_succ, ih (by omega)]; rfl
theorem freeTo_lt {n : Nat} {c last : List Int} {q : Int × Int} {r : Int} {j : Nat} (h : freeTo n c last q r = some j) : j < n ∧ c[j]? = some q.2 ∧ r ≤ q.1 - last.getD j 0 := by
  unfold freeTo at h
  have h1 := List.mem_of_find?_eq_some h
  have h2 := List.find?_some h
  exact ⟨List.mem_range.1 h1, of_decide_eq_true h2⟩
/-- The last times of the teeth and the teeth of the first k notes. -/
def assignTo (c : List Int) (t : List (Int × Int)) (r : Int) : Nat → Option (List Int × List Int)
  | 0 => some (List.replicate c.length (-1000), [])
  | k + 1 => (assignTo c t r k).bind fun s => (t[k]?).bind fun q => (freeTo c.length c s.1 q r).map fun j => (s.1.set j q.1, s.2 ++ [(j : Int)])
theorem assignTo_next {c : List Int} {t : List (Int × Int)} {r : Int} {k : Nat} {last out : List Int} {q : Int × Int} {j : Nat} (h : assignTo c t r k = some (last, out)) (hq : t[k]? = some q) (hj : freeTo c.length c last q r = some j) : assignTo c t r (k + 1) = some (last.set j q.1, out ++ [(j : Int)]) := by
  show ((assignTo c t r k).bind fun s => (t[k]?).bind fun q => (freeTo c.length c s.1 q r).map fun j => (s.1.set j q.1, s.2 ++ [(j : Int)])) = _
  rw [h]; simp only [Option.bind_some]; rw [hq]; simp only [Option.bind_some]; rw [hj]; rfl
theorem assignTo_stop {c : List Int} {t : List (Int × Int)} {r : Int} {k : Nat} {last out : List Int} {q : Int × Int} (h : assignTo c t r k = some (last, out)) (hq : t[k]? = some q) (hj : freeTo c.length c last q r = none) : assignTo c t r (k + 1) = none := by
  show ((assignTo c t r k).bind fun s => (t[k]?).bind fun q => (freeTo c.length c s.1 q r).map fun j => (s.1.set j q.1, s.2 ++ [(j : Int)])) = _
  rw [h]; simp only [Option.bind_some]; rw [hq]; simp only [Option.bind_some]; rw [hj]; rfl
theorem assignTo_none {c : List Int} {t : List (Int × Int)} {r : Int} : ∀ {k m : Nat}, assignTo c t r k = none → k ≤ m → assignTo c t r m = none
  | k, 0, h, hm => by
    obtain rfl : k = 0 := by omega
    exact h
  | k, m + 1, h, hm => by
    by_cases hk : k = m + 1
    · subst hk; exact h
    · show ((assignTo c t r m).bind fun s => _) = none
      rw [assignTo_none h (by omega)]; rfl
noncomputable def assignM (c : List Int) (t : List (Int × Int)) (r : Int) : List Int × Bool :=
  if combB c = true ∧ tuneB t = true ∧ inB r 1 100 = true then (match assignTo c t r t.length with | some s => (s.2, true) | none => ([], false)) else ([], false)
theorem assignM_no {c : List Int} {t : List (Int × Int)} {r : Int} (h : ¬ (combB c = true ∧ tuneB t = true ∧ inB r 1 100 = true)) : assignM c t r = ([], false) := if_neg h
theorem assignM_none {c : List Int} {t : List (Int × Int)} {r : Int} (h : assignTo c t r t.length = none) : assignM c t r = ([], false) := by
  unfold assignM; rw [h]; split <;> rfl
theorem assignM_some {c : List Int} {t : List (Int × Int)} {r : Int} (h1 : combB c = true) (h2 : tuneB t = true) (h3 : inB r 1 100 = true) {last out : List Int} (h : assignTo c t r t.length = some (last, out)) : assignM c t r = (out, true) := by
  unfold assignM; rw [if_pos ⟨h1, h2, h3⟩, h]
theorem assignTo_len {c : List Int} {t : List (Int × Int)} {r : Int} : ∀ {k : Nat} {last out : List Int}, assignTo c t r k = some (last, out) → last.length = c.length ∧ out.length = k
  | 0, last, out, h => by
    obtain ⟨rfl, rfl⟩ := Prod.mk.inj (Option.some.inj h)
    exact ⟨by simp, rfl⟩
  | k + 1, last, out, h => by
    cases hk : assignTo c t r k with
    | none => rw [assignTo_none hk (Nat.le_succ k)] at h; cases h
    | some s =>
      obtain ⟨l1, o1⟩ := s
      cases hq : t[k]? with
      | none =>
        have : assignTo c t r (k + 1) = none := by
          show ((assignTo c t r k).bind fun s => (t[k]?).bind fun q => _) = none
          rw [hk]; simp only [Option.bind_some]; rw [hq]; rfl
        rw [this] at h; cases h
      | some q =>
        cases hj : freeTo c.length c l1 q r with
        | none => rw [assignTo_stop hk hq hj] at h; cases h
        | some j =>
          rw [assignTo_next hk hq hj] at h
          obtain ⟨rfl, rfl⟩ := Prod.mk.inj (Option.some.inj h)
          obtain ⟨a, b⟩ := assignTo_len hk
          exact ⟨by rw [List.length_set]; exact a, by rw [List.length_append, b]; rfl⟩
theorem assignM_len (c : List Int) (t : List (Int × Int)) (r : Int) : (assignM c t r).1.length ≤ t.length := by
  unfold assignM; split
  · cases h : assignTo c t r t.length with
    | none => simp
    | some s => obtain ⟨l, o⟩ := s; exact Nat.le_of_eq (assignTo_len h).2
  · simp

/-- A row of n ints of which the first j are filled. -/
def fillL (n j : Nat) : List Int := (List.range n).map fun i => if i < j then (-1000 : Int) else 0
theorem fillL_len (n j : Nat) : (fillL n j).length = n := by unfold fillL; simp
theorem fillL_zero (n : Nat) : fillL n 0 = List.replicate n 0 := by
  refine List.ext_getElem? fun i => ?_
  unfold fillL
  by_cases hi : i < n
  · simp [hi]
  · rw [List.getElem?_eq_none (by simp; omega), List.getElem?_eq_none (by simp; omega)]
theorem fillL_all (n : Nat) : fillL n n = List.replicate n (-1000) := by
  refine List.ext_getElem? fun i => ?_
  unfold fillL
  by_cases hi : i < n
  · simp [hi]
  · rw [List.getElem?_eq_none (by simp; omega), List.getElem?_eq_none (by simp; omega)]
theorem fillL_succ (n j : Nat) : fillL n (j + 1) = (fillL n j).set j (-1000) := by
  refine List.ext_getElem? fun i => ?_
  by_cases hi : i < n
  · by_cases hij : i = j
    · subst hij
      rw [List.getElem?_set_self (by rw [fillL_len]; exact hi)]; unfold fillL; simp [hi]
    · rw [List.getElem?_set_ne (by omega)]; unfold fillL; simp only [List.getElem?_map, List.getElem?_range, hi, if_true, Option.map_some]
      congr 1
      by_cases h : i < j
      · rw [if_pos h, if_pos (by omega)]
      · rw [if_neg h, if_neg (by omega)]
  · rw [List.getElem?_eq_none (by rw [fillL_len]; omega), List.getElem?_eq_none (by rw [List.length_set, fillL_len]; omega)]
theorem made_ints (n : Nat) : (madeCells (Value.int .i64 0).cells (n * 1)).toList = (List.replicate n (0 : Int)).map intV := by
  unfold madeCells
  refine List.ext_getElem? fun i => ?_
  by_cases hi : i < n
  · simp [hi, Value.cells, intV, Nat.mod_one]
  · rw [List.getElem?_eq_none (by simp; omega), List.getElem?_eq_none (by simp; omega)]
end Go.Proofs.Ytcbdoldcdgaooaa
