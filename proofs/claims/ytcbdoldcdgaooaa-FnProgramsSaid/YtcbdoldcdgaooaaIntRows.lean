/- The contracts of slices.Clone, slices.Grow at nil and slices.Concat of two rows, at ints; rows cut short. No condition. -/
import Derived.Test.YtcbdoldcdgaooaaAppInts
import Derived.Test.YtcbdoldcdgaooaaRdCap
import Derived.Test.YtcbdoldcdgaooaaTuneSpec2
import Derived.Lib.AppendZerosOnto
namespace Go.Proofs.Ytcbdoldcdgaooaa
open Go.ChangeShapes Go.WideShapes Go.ChangeAt Go.RowKit

/-- The first k elements of a row of ints. -/
theorem rd1_pre {w : World} {b off cap c2 : Nat} {l : List Int} (h : Rd1 w (.slice (some ⟨b, off, none⟩) l.length cap) l) {k : Nat} (hk : k ≤ l.length) : Rd1 w (.slice (some ⟨b, off, none⟩) k c2) (l.take k) := by
  have hl : (l.take k).length = k := by rw [List.length_take]; omega
  have hm := h.2.1
  refine ⟨by simp, by omega, ?_⟩
  by_cases h0 : k = 0
  · left
    exact ⟨by omega, some ⟨b, off, none⟩, c2, by rw [h0]⟩
  · right
    refine ⟨b, off, c2, by rw [hl], by omega, fun c hc => ?_⟩
    obtain ⟨b1, o1, cp, hv, hcs⟩ := Rd.pos h (by omega)
    simp only [Value.slice.injEq, Option.some.injEq, Addr.mk.injEq, true_and, and_true] at hv
    obtain ⟨⟨rfl, rfl⟩, rfl⟩ := hv
    rw [hl] at hc
    rw [hcs c (by omega), List.getElem?_map, List.getElem?_map, List.getElem?_take, if_pos (by omega)]

set_option maxHeartbeats 1000000 in
theorem cloneI_any {w : World} {v : Value} {l : List Int} (h : Rd1 w v l) (hl : l.length ≤ 1000000) :
    Calls Try.prog 120 #[v] w (NewInts w l) := by
  have hown0 : (w.alloc (.cells #[] 3)).ownsRow w.heap.size 3 1 (.slice (some ⟨w.heap.size, 0, none⟩) 0 0) 0 (([] : List Int).map intV) := World.ownsRow_made w #[] 0 (Nat.le_refl _) (by simp) rfl
  have hb0 : Below w.heap.size w (w.alloc (.cells #[] 3)) := (Below.refl _ _).alloc (Nat.le_refl _) _
  have q : ∀ (w : World) (a : Option Addr) (n c n' c' : Nat), (binOp .eql 33 (.slice a n c) (.slice none n' c')).run Try.prog w = .ok (.bool a.isNone) w := fun w a n c n' c' => Lib.run_eql_slice_nil w _ _ a n c n' c' Try.underlying33
  obtain ⟨v', w4, e4, ho4, hg4, -⟩ := append_rdI hown0 (Rd.below h hb0) (by omega) hb0.size
  have hb4 := hb0.grown hg4 hb0.size (fun x hx => (hown0.lt x hx).1)
  have HO : Hid (w4.ownsRow w.heap.size 3 1 v' l.length (l.map intV)) := Lib.hid (by simpa using ho4)
  obtain ⟨a, cap, rfl⟩ := Rd.slice h
  clear hown0 hb0 hg4 ho4
  cases a with
  | none =>
    have h0 : l.length = 0 := Nat.eq_zero_of_not_pos fun hp => by
      obtain ⟨b, off, cap', hv, -⟩ := Rd.pos h hp
      simp at hv
    obtain rfl : l = [] := List.length_eq_zero_iff.1 h0
    clear e4
    go_enter Try.func120, Try.ntmps120
    go_wp2
    go_ret
    exact ⟨_, rfl, World.ownsRow_nil _ _ _ _, Below.refl _ _⟩
  | some ad =>
    go_enter Try.func120, Try.ntmps120
    go_wp2_with (at_builtin; refine wpList_append_eq rfl _ _ _ rfl _ _ _ rfl rfl e4 ?_)
    go_ret
    exact ⟨_, rfl, HO.out, hb4⟩

set_option maxHeartbeats 1000000 in
set_option maxRecDepth 100000 in
theorem growI_any {w : World} (n : Nat) (hn : n ≤ 10000) :
    Calls Try.prog 121 #[.slice none 0 0, .int .i64 n] w (NewInts w []) := by
  obtain ⟨i0, hi0, hz0, hz1, hz2⟩ := info_parts infoInt
  by_cases h0 : n = 0
  · subst h0
    go_enter Try.func121, Try.ntmps121
    go_wp2
    go_ret
    exact ⟨_, rfl, World.ownsRow_nil _ _ _ _, Below.refl _ _⟩
  · have hold : (Builtin.firstCells i0.size 0 (.slice none 0 0)).run Try.prog w.drew = .ok ([] : List Value).toArray w.drew := rfl
    have hrz := fun ty => Lib.run_append_grow_zeros (P := Try.prog) w 33 3 ty 3 i0 _ .i64 .i64 Try.underlying33 Try.underlying3 hi0 hz0 none 0 0 [] hold n (by omega) (by rw [hz1]; decide) (by omega) (by omega) (by rw [hz2]; omega) (by rw [hz2]; exact growslice_fits (by omega) (by omega))
    have hGn := grownCap_ge w (0 + n) 0 3
    have hGm := grownCap_le_maxLen w (0 + n) 0 3 (by unfold maxLen; omega)
    rw [Nat.zero_add] at hrz hGn hGm
    generalize grownCap w n 0 3 = G at *
    obtain ⟨ROW, hROW⟩ : ∃ ROW : Array Value, ([] : List Value).toArray ++ Builtin.zeroCells (Value.int .i64 0).cells n ++ Builtin.zeroCells (Value.int .i64 0).cells (G - n) = ROW := ⟨_, rfl⟩
    rw [hROW] at hrz
    have hRs : ROW.size = G * 1 := by
      rw [← hROW]
      simp only [Array.size_append, List.size_toArray, List.length_nil, Builtin.zeroCells, Array.size_map, Array.size_range]
      simp only [Value.cells, List.size_toArray, List.length_cons, List.length_nil]
      omega
    have hown : (w.drew.alloc (.cells ROW 3)).ownsRow w.heap.size 3 1 (.slice (some ⟨w.heap.size, 0, none⟩) 0 G) 0 [] := World.ownsRow_made w.drew ROW G (Nat.le_refl _) hGm hRs
    have hb : Below w.heap.size w (w.drew.alloc (.cells ROW 3)) := (Below.refl _ _).drew.alloc (Nat.le_refl _) _
    clear hROW hRs hold hi0 hz0 hz1 hz2 hGm
    generalize w.drew.alloc (.cells ROW 3) = W at *
    go_enter Try.func121, Try.ntmps121
    go_wp2_with (at_builtin; refine wpList_append_eq rfl _ _ _ rfl _ _ _ rfl rfl (hrz _) ?_)
    go_ret
    exact ⟨_, rfl, hown, hb⟩

set_option maxHeartbeats 2000000 in
set_option maxRecDepth 100000 in
theorem concatI_any {w : World} {b : Nat} {va vb : Value} {la lb : List Int} (ca : w.cell? ⟨b, 0, none⟩ = some va) (cb : w.cell? ⟨b, 1, none⟩ = some vb) (ha : Rd1 w va la) (hb : Rd1 w vb lb) (hla : la.length ≤ 1000) (hlb : lb.length ≤ 1000) :
    Calls Try.prog 86 #[.slice (some ⟨b, 0, none⟩) 2 2] w (NewInts w (la ++ lb)) := by
  obtain ⟨a1, cap1, rfl⟩ := Rd.slice ha
  obtain ⟨a2, cap2, rfl⟩ := Rd.slice hb
  have hsum : Hid (la.length + lb.length ≤ 10000) := Lib.hid (by omega)
  go_enter Try.func86, Try.ntmps86
  go_wp2
  refine wp_loop_rounds 3 ?_
  rw [rounds_succ]; go_wp2
  rw [rounds_succ]; go_wp2
  rw [rounds_succ]; go_wp2_with fail
  have hg := growI_any (w := w) (la.length + lb.length) hsum.out
  rw [show ((la.length + lb.length : Nat) : Int) = (la.length : Int) + lb.length from by omega] at hg
  refine hg.mono ?_
  rintro e w1 ⟨v1, rfl, ho1, hb1⟩
  clear hg
  obtain ⟨v2, w2, e2, ho2, hg2, -⟩ := append_rdI ho1 (Rd.below ha hb1) (by simp; omega) hb1.size
  have hb2 := hb1.grown hg2 hb1.size (fun k hk => (ho1.lt k hk).1)
  obtain ⟨v3, w3, e3, ho3, hg3, -⟩ := append_rdI ho2 (Rd.below hb hb2) (by simp; omega) hb2.size
  have hb3 := hb2.grown hg3 hb2.size (fun k hk => (ho2.lt k hk).1)
  have ca1 := kept_b hb1 ca
  have cb2 := kept_b hb2 cb
  have hown : Hid (w3.ownsRow w.heap.size 3 1 v3 (la ++ lb).length ((la ++ lb).map intV)) := Lib.hid (by simpa using ho3)
  clear ho1 ho2 ho3 hg2 hg3 hb1 hb2
  go_wp2
  refine wp_loop_rounds 3 ?_
  rw [rounds_succ]
  go_wp2_with (at_builtin; refine wpList_append_eq rfl _ _ _ rfl _ _ _ rfl rfl e2 ?_)
  rw [rounds_succ]
  go_wp2_with (at_builtin; refine wpList_append_eq rfl _ _ _ rfl _ _ _ rfl rfl e3 ?_)
  rw [rounds_succ]; go_wp2
  go_ret
  exact ⟨v3, rfl, hown.out, hb3⟩
end Go.Proofs.Ytcbdoldcdgaooaa
