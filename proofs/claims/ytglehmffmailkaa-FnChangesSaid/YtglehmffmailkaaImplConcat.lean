/- The contracts of the program's slices.Grow at nil and slices.Concat of two rows of notes. No condition. -/
import Derived.Test.YtglehmffmailkaaImplInsert
namespace Go.Proofs.Ytglehmffmailkaa
open Go.ChangeShapes Go.WideShapes Go.ChangeAt Go.RowKit

/-- 'append', by its own run. -/
theorem wpList_append_run {P : Program} {w w' : World} {ops : Array Oper} {rest : List Oper} {o : Oper} {a : Act} {Q : Exit → Act → World → Prop} (hgd : o.guard = none) (s x : Operand) (tys : Array TypeId)
    (ho : o.op = .call { callee := .builtin .append, args := #[s, x], argTypes := tys }) (vs vx v : Value) (hs : a.eval s = vs) (hx : a.eval x = vx)
    (hrun : (Builtin.append_ tys o.type #[vs, vx]).run P w = .ok v w') (h : wpList P ops Q rest (a.put o.dst v) w') : wpList P ops Q (o :: rest) a w := by
  refine wpList_plain hgd fun K hK => ?_
  unfold Oper.wp
  simp [execOp, ho, resolve, invoke, builtin, hs, hx, hrun, Result.andThen]
  exact hK _ _ h

theorem append_none {w : World} {B : Nat} {v : Value} {n : Nat} {xs : List Value} (hown : w.ownsRow B 39 2 v n xs) (ty : TypeId) (cap : Nat) :
    (Builtin.append_ #[24, 24] ty #[v, .slice none 0 cap]).run Try.prog w = .ok v w := by
  obtain ⟨i0, hi, hz0, hz1, hz2⟩ := info_parts infoNote
  rcases hown.2 with ⟨rfl, rfl⟩ | ⟨g, c, cur, rfl, _, _, hnc, _⟩
  · simp [Builtin.append_, run_underlying Try.underlying24, sizeOf, typeInfo, hi, Builtin.lenOf, Builtin.firstCells]
  · simp [Builtin.append_, run_underlying Try.underlying24, sizeOf, typeInfo, hi, Builtin.lenOf, Builtin.firstCells, hnc, storeCells]
/-- A readable row, of whatever length, appended to an own row. -/
theorem append_rd {w : World} {B : Nat} {u va : Value} {n : Nat} {xs l : List (Int × Int)} (hown : w.ownsRow B 39 2 u n (flat2 xs)) (h : Rd2 w va l) (hn : n + l.length ≤ 1000000) (hB : B ≤ w.heap.size) :
    ∃ v' w', (Builtin.append_ #[24, 24] 24 #[u, va]).run Try.prog w = .ok v' w' ∧ w'.ownsRow B 39 2 v' (n + l.length) (flat2 (xs ++ l)) ∧ w.grownBy w' u.ownBlock := by
  obtain ⟨i0, hi, hz0, hz1, hz2⟩ := info_parts infoNote
  rcases h.2.2 with ⟨h0, a, cap, rfl⟩ | ⟨b, off, cap, rfl, hpos, hc⟩
  · obtain rfl : l = [] := List.length_eq_zero_iff.1 h0
    cases a with
    | none => exact ⟨u, w, append_none hown _ cap, by simpa using hown, World.grownBy.refl _ _⟩
    | some ad =>
      obtain ⟨v', w', e, o, g, _⟩ := run_append_own (P := Try.prog) w B 24 24 39 i0 _ 2 16 Try.underlying24 hi hz0 hz1 hz2 rfl (by decide) u n (flat2 xs) hown ad 0 cap [] rfl (fun j u hu => by simp at hu) (fun u hu => by simp at hu) (by unfold maxLen; simp at hn; omega) (by simp at hn; omega) hB
      exact ⟨v', w', e, by simpa using o, g⟩
  · have HF := flat2_length l
    obtain ⟨v', w', e, o, g, _⟩ := run_append_own (P := Try.prog) w B 24 24 39 i0 _ 2 16 Try.underlying24 hi hz0 hz1 hz2 rfl (by decide) u n (flat2 xs) hown ⟨b, off, none⟩ l.length cap (flat2 l) HF (fun j u hu => by
      have hlt : j < (flat2 l).length := (List.getElem?_eq_some_iff.1 hu).1
      rw [add_plain, hc j (by omega)]; exact hu) (flat2_one l) (by unfold maxLen; omega) (by omega) hB
    exact ⟨v', w', e, by rw [flat2_append]; exact o, g⟩

set_option maxHeartbeats 1000000 in
set_option maxRecDepth 100000 in
theorem grow_any {w : World} (n : Nat) (hn : n ≤ 10000) :
    Calls Try.prog 83 #[.slice none 0 0, .int .i64 n] w (NewNotes w []) := by
  obtain ⟨i0, hi0, hz0, hz1, hz2⟩ := info_parts infoNote
  by_cases h0 : n = 0
  · subst h0
    go_enter Try.func83, Try.ntmps83
    go_wp2
    go_ret
    exact ⟨_, rfl, World.ownsRow_nil _ _ _ _, Below.refl _ _⟩
  · have hold : (Builtin.firstCells i0.size 0 (.slice none 0 0)).run Try.prog w.drew = .ok ([] : List Value).toArray w.drew := rfl
    have hrz := fun ty => Lib.run_append_grow_zeros (P := Try.prog) w 24 3 ty 39 i0 _ .i64 .i64 Try.underlying24 Try.underlying3 hi0 hz0 none 0 0 [] hold n (by omega) (by rw [hz1]; decide) (by omega) (by omega) (by rw [hz2]; omega) (by rw [hz2]; exact growslice_fits (by omega) (by omega))
    have hGn := grownCap_ge w (0 + n) 0 39
    have hGm := grownCap_le_maxLen w (0 + n) 0 39 (by unfold maxLen; omega)
    rw [Nat.zero_add] at hrz hGn hGm
    generalize grownCap w n 0 39 = G at *
    obtain ⟨ROW, hROW⟩ : ∃ ROW : Array Value, ([] : List Value).toArray ++ Builtin.zeroCells (Value.agg #[.int .i64 0, .int .i64 0]).cells n ++ Builtin.zeroCells (Value.agg #[.int .i64 0, .int .i64 0]).cells (G - n) = ROW := ⟨_, rfl⟩
    rw [hROW] at hrz
    have hRs : ROW.size = G * 2 := by
      rw [← hROW]
      simp only [Array.size_append, List.size_toArray, List.length_nil, Builtin.zeroCells, Array.size_map, Array.size_range]
      simp only [Value.cells, List.size_toArray, List.length_cons, List.length_nil]
      omega
    have hown : (w.drew.alloc (.cells ROW 39)).ownsRow w.heap.size 39 2 (.slice (some ⟨w.heap.size, 0, none⟩) 0 G) 0 [] := World.ownsRow_made w.drew ROW G (Nat.le_refl _) hGm hRs
    have hb : Below w.heap.size w (w.drew.alloc (.cells ROW 39)) := (Below.refl _ _).drew.alloc (Nat.le_refl _) _
    clear hROW hRs hold hi0 hz0 hz1 hz2 hGm
    generalize w.drew.alloc (.cells ROW 39) = W at *
    go_enter Try.func83, Try.ntmps83
    go_wp2_with (at_builtin; refine wpList_append_run rfl _ _ _ rfl _ _ _ rfl rfl (hrz _) ?_)
    go_ret
    exact ⟨_, rfl, hown, hb⟩

set_option maxHeartbeats 2000000 in
set_option maxRecDepth 100000 in
theorem concat_any {w : World} {b : Nat} {va vb : Value} {la lb : List (Int × Int)} (ca : w.cell? ⟨b, 0, none⟩ = some va) (cb : w.cell? ⟨b, 1, none⟩ = some vb) (ha : Rd2 w va la) (hb : Rd2 w vb lb) (hla : la.length ≤ 1000) (hlb : lb.length ≤ 1000) :
    Calls Try.prog 72 #[.slice (some ⟨b, 0, none⟩) 2 2] w (NewNotes w (la ++ lb)) := by
  obtain ⟨a1, cap1, rfl⟩ := Rd.slice ha
  obtain ⟨a2, cap2, rfl⟩ := Rd.slice hb
  have hsum : Hid (la.length + lb.length ≤ 10000) := Lib.hid (by omega)
  go_enter Try.func72, Try.ntmps72
  go_wp2
  refine wp_loop_rounds 3 ?_
  rw [rounds_succ]; go_wp2
  rw [rounds_succ]; go_wp2
  rw [rounds_succ]; go_wp2_with fail
  have hg := grow_any (w := w) (la.length + lb.length) hsum.out
  rw [show ((la.length + lb.length : Nat) : Int) = (la.length : Int) + lb.length from by omega] at hg
  refine hg.mono ?_
  rintro e w1 ⟨v1, rfl, ho1, hb1⟩
  clear hg
  obtain ⟨v2, w2, e2, ho2, hg2⟩ := append_rd ho1 (Rd.below ha hb1) (by simp; omega) hb1.size
  have hb2 := hb1.grown hg2 hb1.size (fun k hk => (ho1.lt k hk).1)
  obtain ⟨v3, w3, e3, ho3, hg3⟩ := append_rd ho2 (Rd.below hb hb2) (by simp; omega) hb2.size
  have hb3 := hb2.grown hg3 hb2.size (fun k hk => (ho2.lt k hk).1)
  have ca1 := kept_b hb1 ca
  have cb2 := kept_b hb2 cb
  have hown : Hid (w3.ownsRow w.heap.size 39 2 v3 (la ++ lb).length (flat2 (la ++ lb))) := Lib.hid (by simpa using ho3)
  clear ho1 ho2 ho3 hg2 hg3 hb1 hb2
  go_wp2
  refine wp_loop_rounds 3 ?_
  rw [rounds_succ]
  go_wp2_with (at_builtin; refine wpList_append_run rfl _ _ _ rfl _ _ _ rfl rfl e2 ?_)
  rw [rounds_succ]
  go_wp2_with (at_builtin; refine wpList_append_run rfl _ _ _ rfl _ _ _ rfl rfl e3 ?_)
  rw [rounds_succ]; go_wp2
  go_ret
  exact ⟨v3, rfl, hown.out, hb3⟩
end Go.Proofs.Ytglehmffmailkaa
