/- The append and the == of rows of pins. No condition. Made by mk_pinapp.py. -/
import Derived.Test.YtcbdoldcdgaooaaSortSpec
import Derived.Test.YtcbdoldcdgaooaaCylSpec
namespace Go.Proofs.Ytcbdoldcdgaooaa
open Go.ChangeShapes Go.WideShapes Go.ChangeAt Go.RowKit

theorem step_append_notesP {W ws : World} {ops : Array Oper} {op : Oper} {a : Act} {K : Act → World → Prop} {Q : Exit → Act → World → Prop} {E : Prop} (hgd : op.guard = none) (s x : Operand)
    (ho : op.op = .call { callee := .builtin .append, args := #[s, x], argTypes := #[24, 24] })
    (hb : Below W.heap.size W ws) {v : Value} {n : Nat} {xs : List (Int × Int)} (hs : a.eval s = v) (hown : ws.ownsRow W.heap.size 32 2 v n (flat2 xs))
    {ad : Addr} {m c : Nat} (news : List (Int × Int)) (hx : a.eval x = .slice (some ad) m c) (hm : news.length = m) (hnews : ∀ j u, (flat2 news)[j]? = some u → ws.cell? (ad.add j) = some u) (hbd : n + m ≤ 10000)
    (h : ∀ v' w', w'.ownsRow W.heap.size 32 2 v' (n + m) (flat2 (xs ++ news)) → Below W.heap.size W w' → ws.grownBy w' v.ownBlock → K (a.put op.dst v') w') :
    if Region.wanted op (yielded ops a.tmps) = true then Oper.wp Try.prog op a ws K Q else E := by
  obtain ⟨i0, hi, hz0, hz1, hz2⟩ := info_parts infoPin
  refine step_append_own hgd s x 24 ho W.heap.size 32 i0 _ 2 16 Try.underlying24 hi hz0 hz1 hz2 rfl (by decide) v n (flat2 xs) hs hown ad m c (flat2 news) hx (by rw [flat2_length, hm]) hnews (flat2_one _) (by unfold maxLen; omega) (by omega) hb.size ?_
  intro v' w' h1 h2
  rw [← flat2_append] at h1
  exact h v' w' h1 (hb.grown h2 hb.size fun k hk => (hown.lt k hk).1) h2
theorem start_aP (W : World) : ((W.alloc (.cells #[] 32)).drew).ownsRow W.heap.size 32 2 (.slice (some ⟨W.heap.size, 0, none⟩) 0 0) 0 (flat2 []) :=
  (World.ownsRow_made W #[] 0 (Nat.le_refl _) (by simp) rfl).drew
theorem start_bP (W : World) (o : Obj) : (((W.alloc (.cells #[] 32)).alloc o).drew).ownsRow W.heap.size 32 2 (.slice (some ⟨W.heap.size, 0, none⟩) 0 0) 0 (flat2 []) := ((World.ownsRow_made W #[] 0 (Nat.le_refl _) (by simp) rfl).alloc o).drew
theorem start_cP (W : World) (o : Obj) : (((W.alloc o).alloc (.cells #[] 32)).drew).ownsRow W.heap.size 32 2 (.slice (some ⟨W.heap.size + 1, 0, none⟩) 0 0) 0 (flat2 []) := by
  have h := (World.ownsRow_made (base := W.heap.size) (e := 32) (size := 2) (W.alloc o) #[] 0 (by rw [size_alloc]; omega) (by simp) rfl).drew
  rw [size_alloc] at h; exact h
/-- The block of one note, made in a world behind W. -/
theorem one_row0P {W ws : World} (hb : Below W.heap.size W ws) (x : Int × Int) : (ws.alloc (.cells #[.int .i64 x.1, .int .i64 x.2] 32)).ownsRow W.heap.size 32 2 (.slice (some ⟨ws.heap.size, 0, none⟩) 1 1) 1 (flat2 [x]) :=
  World.ownsRow_lit ws #[.int .i64 x.1, .int .i64 x.2] 1 hb.size (by simp [maxLen]) rfl
theorem xrow_bP (W : World) (o : Obj) (x : Int × Int) : (((W.alloc o).alloc (.cells #[.int .i64 x.1, .int .i64 x.2] 32)).drew).ownsRow W.heap.size 32 2 (.slice (some ⟨W.heap.size + 1, 0, none⟩) 1 1) 1 (flat2 [x]) := by
  have h := (one_row0P ((Below.refl W.heap.size W).alloc (Nat.le_refl _) o) x).drew
  rw [size_alloc] at h; exact h
theorem xrow_cP (W : World) (o : Obj) (x : Int × Int) : (((W.alloc (.cells #[.int .i64 x.1, .int .i64 x.2] 32)).alloc o).drew).ownsRow W.heap.size 32 2 (.slice (some ⟨W.heap.size, 0, none⟩) 1 1) 1 (flat2 [x]) :=
  ((one_row0P (Below.refl W.heap.size W) x).alloc o).drew
set_option maxRecDepth 100000 in
theorem eq_noteP (W : World) (a b c d : Int) : (binOp .eql 32 (.agg #[.int .i64 a, .int .i64 b]) (.agg #[.int .i64 c, .int .i64 d])).run Try.prog W = .ok (.bool (a == c && b == d)) W := by
  rw [run_eql_struct, show (10000 : Nat) = 9999 + 1 from rfl, run_equalIn_agg W 9999 _ _ _ (by rfl) (by decide +kernel)]
  have hf : (Try.prog.fieldsOf 32).toList = (Try.prog.fieldsOf 32).toList := rfl
  conv at hf => rhs; whnf
  have h0 : ∀ x y : Value, (part 3 #[x, y] 0).run Try.prog W = .ok x W := fun _ _ => rfl
  have h1 : ∀ x y : Value, (part 3 #[x, y] 1).run Try.prog W = .ok y W := fun _ _ => rfl
  have he : ∀ x y : Int, (Op.equalIn 9999 3 (.int .i64 x) (.int .i64 y)).run Try.prog W = .ok (x == y) W := fun x y => run_equalIn_int W 9998 3 .i64 .i64 x y rfl
  rw [hf]
  simp (config := {decide := true}) only [Op.eqFields, if_true, Sem.run_bind, h0, h1, he, Result.andThen_ok]
  cases hx : a == c <;> cases hy : b == d <;> simp [Sem.run_bind, Sem.run_pure, h1, he, hx, hy, Result.andThen_ok]
theorem eql_yesP {p q : Int × Int} (h : q = p) (W : World) : (binOp .eql 32 (.agg #[.int .i64 q.1, .int .i64 q.2]) (.agg #[.int .i64 p.1, .int .i64 p.2])).run Try.prog W = .ok (.bool true) W := by
  rw [eq_noteP, h]; simp
theorem eql_noP {p q : Int × Int} (h : ¬ q = p) (W : World) : (binOp .eql 32 (.agg #[.int .i64 q.1, .int .i64 q.2]) (.agg #[.int .i64 p.1, .int .i64 p.2])).run Try.prog W = .ok (.bool false) W := by
  have : (q.1 == p.1 && q.2 == p.2) = false := by
    rw [← Bool.not_eq_true]; intro hh
    simp only [Bool.and_eq_true, beq_iff_eq] at hh
    exact h (Prod.ext hh.1 hh.2)
  rw [eq_noteP, this]
set_option maxRecDepth 100000 in
theorem neq_noteP (W : World) (a b c d : Int) : (binOp .neq 32 (.agg #[.int .i64 a, .int .i64 b]) (.agg #[.int .i64 c, .int .i64 d])).run Try.prog W = .ok (.bool (!(a == c && b == d))) W := by
  rw [run_neq_struct, show (10000 : Nat) = 9999 + 1 from rfl, run_equalIn_agg W 9999 _ _ _ (by rfl) (by decide +kernel)]
  have hf : (Try.prog.fieldsOf 32).toList = (Try.prog.fieldsOf 32).toList := rfl
  conv at hf => rhs; whnf
  have h0 : ∀ x y : Value, (part 3 #[x, y] 0).run Try.prog W = .ok x W := fun _ _ => rfl
  have h1 : ∀ x y : Value, (part 3 #[x, y] 1).run Try.prog W = .ok y W := fun _ _ => rfl
  have he : ∀ x y : Int, (Op.equalIn 9999 3 (.int .i64 x) (.int .i64 y)).run Try.prog W = .ok (x == y) W := fun x y => run_equalIn_int W 9998 3 .i64 .i64 x y rfl
  rw [hf]
  simp (config := {decide := true}) only [Op.eqFields, if_true, Sem.run_bind, h0, h1, he, Result.andThen_ok]
  cases hx : a == c <;> cases hy : b == d <;> simp [Sem.run_bind, Sem.run_pure, h1, he, hx, hy, Result.andThen_ok]
theorem neq_yesP {p q : Int × Int} (h : ¬ q = p) (W : World) : (binOp .neq 32 (.agg #[.int .i64 q.1, .int .i64 q.2]) (.agg #[.int .i64 p.1, .int .i64 p.2])).run Try.prog W = .ok (.bool true) W := by
  have : (q.1 == p.1 && q.2 == p.2) = false := by
    rw [← Bool.not_eq_true]; intro hh
    simp only [Bool.and_eq_true, beq_iff_eq] at hh
    exact h (Prod.ext hh.1 hh.2)
  rw [neq_noteP, this]; rfl
theorem neq_noP {p q : Int × Int} (h : q = p) (W : World) : (binOp .neq 32 (.agg #[.int .i64 q.1, .int .i64 q.2]) (.agg #[.int .i64 p.1, .int .i64 p.2])).run Try.prog W = .ok (.bool false) W := by
  rw [neq_noteP, h]; simp
theorem append_noneP {w : World} {B : Nat} {v : Value} {n : Nat} {xs : List Value} (hown : w.ownsRow B 32 2 v n xs) (ty : TypeId) (cap : Nat) :
    (Builtin.append_ #[24, 24] ty #[v, .slice none 0 cap]).run Try.prog w = .ok v w := by
  obtain ⟨i0, hi, hz0, hz1, hz2⟩ := info_parts infoPin
  rcases hown.2 with ⟨rfl, rfl⟩ | ⟨g, c, cur, rfl, _, _, hnc, _⟩
  · simp [Builtin.append_, run_underlying Try.underlying24, sizeOf, typeInfo, hi, Builtin.lenOf, Builtin.firstCells]
  · simp [Builtin.append_, run_underlying Try.underlying24, sizeOf, typeInfo, hi, Builtin.lenOf, Builtin.firstCells, hnc, storeCells]
/-- A readable row, of whatever length, appended to an own row. -/
theorem append_rdP {w : World} {B : Nat} {u va : Value} {n : Nat} {xs l : List (Int × Int)} (hown : w.ownsRow B 32 2 u n (flat2 xs)) (h : Rd2 w va l) (hn : n + l.length ≤ 4000000) (hB : B ≤ w.heap.size) :
    ∃ v' w', (Builtin.append_ #[24, 24] 24 #[u, va]).run Try.prog w = .ok v' w' ∧ w'.ownsRow B 32 2 v' (n + l.length) (flat2 (xs ++ l)) ∧ w.grownBy w' u.ownBlock := by
  obtain ⟨i0, hi, hz0, hz1, hz2⟩ := info_parts infoPin
  rcases h.2.2 with ⟨h0, a, cap, rfl⟩ | ⟨b, off, cap, rfl, hpos, hc⟩
  · obtain rfl : l = [] := List.length_eq_zero_iff.1 h0
    cases a with
    | none => exact ⟨u, w, append_noneP hown _ cap, by simpa using hown, World.grownBy.refl _ _⟩
    | some ad =>
      obtain ⟨v', w', e, o, g, _⟩ := run_append_own (P := Try.prog) w B 24 24 32 i0 _ 2 16 Try.underlying24 hi hz0 hz1 hz2 rfl (by decide) u n (flat2 xs) hown ad 0 cap [] rfl (fun j u hu => by simp at hu) (fun u hu => by simp at hu) (by unfold maxLen; simp at hn; omega) (by simp at hn; omega) hB
      exact ⟨v', w', e, by simpa using o, g⟩
  · have HF := flat2_length l
    obtain ⟨v', w', e, o, g, _⟩ := run_append_own (P := Try.prog) w B 24 24 32 i0 _ 2 16 Try.underlying24 hi hz0 hz1 hz2 rfl (by decide) u n (flat2 xs) hown ⟨b, off, none⟩ l.length cap (flat2 l) HF (fun j u hu => by
      have hlt : j < (flat2 l).length := (List.getElem?_eq_some_iff.1 hu).1
      rw [add_plain, hc j (by omega)]; exact hu) (flat2_one l) (by unfold maxLen; omega) (by omega) hB
    exact ⟨v', w', e, by rw [flat2_append]; exact o, g⟩
/-- 'append', by its own run. -/
theorem wpList_append_runP {P : Program} {w w' : World} {ops : Array Oper} {rest : List Oper} {o : Oper} {a : Act} {Q : Exit → Act → World → Prop} (hgd : o.guard = none) (s x : Operand) (tys : Array TypeId)
    (ho : o.op = .call { callee := .builtin .append, args := #[s, x], argTypes := tys }) (vs vx v : Value) (hs : a.eval s = vs) (hx : a.eval x = vx)
    (hrun : (Builtin.append_ tys o.type #[vs, vx]).run P w = .ok v w') (h : wpList P ops Q rest (a.put o.dst v) w') : wpList P ops Q (o :: rest) a w := by
  refine wpList_plain hgd fun K hK => ?_
  unfold Oper.wp
  simp [execOp, ho, resolve, invoke, builtin, hs, hx, hrun, Result.andThen]
  exact hK _ _ h
/-- 'append' at a step of a region that draws, by its own run. -/
theorem step_append_eqP {P : Program} {w w' : World} {ops : Array Oper} {o : Oper} {a : Act} {K : Act → World → Prop} {Q : Exit → Act → World → Prop} {E : Prop} (hgd : o.guard = none) (s x : Operand) (tys : Array TypeId)
    (ho : o.op = .call { callee := .builtin .append, args := #[s, x], argTypes := tys }) (vs vx v : Value) (hs : a.eval s = vs) (hx : a.eval x = vx)
    (hrun : (Builtin.append_ tys o.type #[vs, vx]).run P w = .ok v w') (h : K (a.put o.dst v) w') :
    if Region.wanted o (yielded ops a.tmps) = true then Oper.wp P o a w K Q else E := by
  have hw : Region.wanted o (yielded ops a.tmps) = true := by simp [Region.wanted, hgd]
  rw [if_pos hw]
  unfold Oper.wp
  simp [execOp, ho, resolve, invoke, builtin, hs, hx, hrun, Result.andThen]
  exact h

/-- A readable row of pins as the language's own slices are: from the block's beginning, no longer than its room. -/
def RdC (w : World) (v : Value) (l : List (Int × Int)) : Prop := Rd2 w v l ∧ (v = .slice none 0 0 ∨ ∃ g cap, v = .slice (some ⟨g, 0, none⟩) l.length cap ∧ l.length ≤ cap ∧ cap ≤ maxLen)
theorem RdC.below {w w' : World} {v : Value} {l : List (Int × Int)} (h : RdC w v l) (hb : Below w.heap.size w w') : RdC w' v l := ⟨Rd.below h.1 hb, h.2⟩
theorem RdC.of_own {w : World} {B : Nat} {v : Value} {l : List (Int × Int)} (h : w.ownsRow B 32 2 v l.length (flat2 l)) : RdC w v l := by
  refine ⟨Rd.of_own h, ?_⟩
  rcases h.2 with ⟨rfl, _⟩ | ⟨g, cap, cur, rfl, _, _, h1, h2, _⟩
  · exact Or.inl rfl
  · exact Or.inr ⟨g, cap, rfl, h1, h2⟩
def NewPins (w : World) (l : List (Int × Int)) (e : Ending) (w' : World) : Prop :=
  ∃ v, e = .returned v ∧ w'.ownsRow w.heap.size 32 2 v l.length (flat2 l) ∧ Below w.heap.size w w'
def NewPinsB (w : World) (l : List (Int × Int)) (b : Bool) (e : Ending) (w' : World) : Prop :=
  ∃ v, e = .returned (.tuple #[v, .bool b]) ∧ w'.ownsRow w.heap.size 32 2 v l.length (flat2 l) ∧ Below w.heap.size w w'
end Go.Proofs.Ytcbdoldcdgaooaa
