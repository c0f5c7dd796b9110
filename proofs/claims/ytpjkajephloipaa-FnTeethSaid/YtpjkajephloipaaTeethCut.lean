/- A row of ints without its k-th: two appends onto a new empty row. -/
import Derived.Test.YtpjkajephloipaaTeethMath2
namespace Go.Proofs.Ytpjkajephloipaa
open Go.ChangeShapes Go.WideShapes Go.ChangeAt Go.RowKit

/-- 'append' at a step of a region that draws, by its own run. -/
theorem step_append_eq {P : Program} {w w' : World} {ops : Array Oper} {o : Oper} {a : Act} {K : Act → World → Prop} {Q : Exit → Act → World → Prop} {E : Prop} (hgd : o.guard = none) (s x : Operand) (tys : Array TypeId)
    (ho : o.op = .call { callee := .builtin .append, args := #[s, x], argTypes := tys }) (vs vx v : Value) (hs : a.eval s = vs) (hx : a.eval x = vx)
    (hrun : (Builtin.append_ tys o.type #[vs, vx]).run P w = .ok v w') (h : K (a.put o.dst v) w') :
    if Region.wanted o (yielded ops a.tmps) = true then Oper.wp P o a w K Q else E := by
  have hw : Region.wanted o (yielded ops a.tmps) = true := by simp [Region.wanted, hgd]
  rw [if_pos hw]
  unfold Oper.wp
  simp [execOp, ho, resolve, invoke, builtin, hs, hx, hrun, Result.andThen]
  exact h
theorem app_part {W : World} {B : Nat} {v : Value} {n : Nat} {xs : List Value} (hown : W.ownsRow B 3 1 v n xs) (hB : B ≤ W.heap.size) (a : Addr) (m cp : Nat) (news : List Int) (hm : news.length = m) (hs : n + m ≤ 1000) (hnews : ∀ (j : Nat) (x : Int), news[j]? = some x → W.cell? (a.add j) = some (intV x)) :
    ∃ v' w', (Builtin.append_ #[27, 27] 27 #[v, .slice (some a) m cp]).run Try.prog W = .ok v' w' ∧ w'.ownsRow B 3 1 v' (n + m) (xs ++ news.map intV) ∧ W.grownBy w' v.ownBlock := by
  obtain ⟨i0, hi, hz0, hz1, hz2⟩ := info_parts infoInt
  obtain ⟨v', w', e, o, gr, _⟩ := run_append_own (P := Try.prog) W B 27 27 3 i0 (.int .i64 0) 1 8 Try.underlying27 hi hz0 hz1 hz2 rfl (by decide) v n xs hown a m cp (news.map intV) (by rw [List.length_map]; omega) (fun j u hu => by
    rw [List.getElem?_map, Option.map_eq_some_iff] at hu
    obtain ⟨x, hx, rfl⟩ := hu
    exact hnews j x hx) (fun u hu => by obtain ⟨x, -, rfl⟩ := List.mem_map.1 hu; rfl) (by unfold maxLen; omega) (by omega) hB
  exact ⟨v', w', e, o, gr⟩
theorem app_cut {W : World} {B g cap k : Nat} {c : List Int} (hc : W.ownsRow B 3 1 (.slice (some ⟨g, 0, none⟩) c.length cap) c.length (c.map intV)) (hk : k < c.length) (h24 : c.length ≤ 24) (c1 c2 : Nat) (ad : Addr) (had : k + 1 < c.length → ad = ⟨g, k + 1, none⟩) :
    ∃ v1 w1 v2 w2, (Builtin.append_ #[27, 27] 27 #[.slice (some ⟨W.heap.size, 0, none⟩) 0 0, .slice (some ⟨g, 0, none⟩) k c1]).run Try.prog (W.alloc (.cells #[] 3)) = .ok v1 w1 ∧
      (Builtin.append_ #[27, 27] 27 #[v1, .slice (some ad) (c.length - (k + 1)) c2]).run Try.prog w1 = .ok v2 w2 ∧
      w2.ownsRow W.heap.size 3 1 v2 (c.take k ++ c.drop (k + 1)).length ((c.take k ++ c.drop (k + 1)).map intV) ∧ Below W.heap.size W w2 := by
  have h0 : (W.alloc (.cells #[] 3)).ownsRow W.heap.size 3 1 (.slice (some ⟨W.heap.size, 0, none⟩) 0 0) 0 [] := World.ownsRow_made W #[] 0 (Nat.le_refl _) (by simp) rfl
  have b0 : Below W.heap.size W (W.alloc (.cells #[] 3)) := (Below.refl _ _).alloc (Nat.le_refl _) _
  have hc0 := ownS_below hc b0
  obtain ⟨v1, w1, e1, o1, g1⟩ := app_part h0 b0.size ⟨g, 0, none⟩ k c1 (c.take k) (by rw [List.length_take]; omega) (by omega) (fun j x hx => by
    have hj : j < k := by have := (List.getElem?_eq_some_iff.1 hx).1; rw [List.length_take] at this; omega
    rw [List.getElem?_take, if_pos hj] at hx
    have := hc0.cellAt j (by omega)
    rw [List.getElem?_map, hx] at this
    by_cases hj0 : j = 0
    · subst hj0; simpa [Addr.add] using this
    · simpa [Addr.add, hj0] using this)
  have b1 : Below W.heap.size W w1 := b0.grown g1 b0.size (fun x hx => (h0.lt x hx).1)
  have hc1 := ownS_below hc b1
  obtain ⟨v2, w2, e2, o2, g2⟩ := app_part o1 b1.size ad (c.length - (k + 1)) c2 (c.drop (k + 1)) (by rw [List.length_drop]) (by omega) (fun j x hx => by
    rw [List.getElem?_drop] at hx
    have hj : k + 1 + j < c.length := (List.getElem?_eq_some_iff.1 hx).1
    obtain rfl := had (by omega)
    have := hc1.cellAt (k + 1 + j) (by omega)
    rw [List.getElem?_map, hx] at this
    by_cases hj0 : j = 0
    · subst hj0; simpa [Addr.add] using this
    · simpa [Addr.add, hj0] using this)
  have b2 : Below W.heap.size W w2 := b1.grown g2 b1.size (fun x hx => (o1.lt x hx).1)
  refine ⟨v1, w1, v2, w2, e1, e2, ?_, b2⟩
  have hl : (c.take k ++ c.drop (k + 1)).length = 0 + k + (c.length - (k + 1)) := by rw [List.length_append, List.length_take, List.length_drop]; omega
  rw [hl, List.map_append]
  exact o2
end Go.Proofs.Ytpjkajephloipaa
