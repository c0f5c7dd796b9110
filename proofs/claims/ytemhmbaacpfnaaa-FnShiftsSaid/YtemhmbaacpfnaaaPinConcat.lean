/- The contracts of slices.Grow at nil and slices.Concat of two rows of pins. No condition. -/
import Derived.Test.YtemhmbaacpfnaaaPinClone
import Derived.Test.YtemhmbaacpfnaaaRowLaws
import Derived.Lib.AppendZerosOnto
namespace Go.Proofs.Ytemhmbaacpfnaaa
open Go.ChangeShapes Go.WideShapes Go.ChangeAt Go.RowKit

set_option maxHeartbeats 1000000 in
set_option maxRecDepth 100000 in
theorem growP_any {w : World} (n : Nat) (hn : n ≤ 10000) :
    Calls Try.prog 58 #[.slice none 0 0, .int .i64 n] w (NewPins w []) := by
  obtain ⟨i0, hi0, hz0, hz1, hz2⟩ := info_parts infoPin
  by_cases h0 : n = 0
  · subst h0
    go_enter Try.func58, Try.ntmps58
    go_wp2
    go_ret
    exact ⟨_, rfl, World.ownsRow_nil _ _ _ _, Below.refl _ _⟩
  · have hold : (Builtin.firstCells i0.size 0 (.slice none 0 0)).run Try.prog w.drew = .ok ([] : List Value).toArray w.drew := rfl
    have hrz := fun ty => Lib.run_append_grow_zeros (P := Try.prog) w 24 3 ty 34 i0 _ .i64 .i64 Try.underlying24 Try.underlying3 hi0 hz0 none 0 0 [] hold n (by omega) (by rw [hz1]; decide) (by omega) (by omega) (by rw [hz2]; omega) (by rw [hz2]; exact growslice_fits (by omega) (by omega))
    have hGn := grownCap_ge w (0 + n) 0 34
    have hGm := grownCap_le_maxLen w (0 + n) 0 34 (by unfold maxLen; omega)
    rw [Nat.zero_add] at hrz hGn hGm
    generalize grownCap w n 0 34 = G at *
    obtain ⟨ROW, hROW⟩ : ∃ ROW : Array Value, ([] : List Value).toArray ++ Builtin.zeroCells (Value.agg #[.int .i64 0, .int .i64 0]).cells n ++ Builtin.zeroCells (Value.agg #[.int .i64 0, .int .i64 0]).cells (G - n) = ROW := ⟨_, rfl⟩
    rw [hROW] at hrz
    have hRs : ROW.size = G * 2 := by
      rw [← hROW]
      simp only [Array.size_append, List.size_toArray, List.length_nil, Builtin.zeroCells, Array.size_map, Array.size_range]
      simp only [Value.cells, List.size_toArray, List.length_cons, List.length_nil]
      omega
    have hown : (w.drew.alloc (.cells ROW 34)).ownsRow w.heap.size 34 2 (.slice (some ⟨w.heap.size, 0, none⟩) 0 G) 0 [] := World.ownsRow_made w.drew ROW G (Nat.le_refl _) hGm hRs
    have hb : Below w.heap.size w (w.drew.alloc (.cells ROW 34)) := (Below.refl _ _).drew.alloc (Nat.le_refl _) _
    clear hROW hRs hold hi0 hz0 hz1 hz2 hGm
    generalize w.drew.alloc (.cells ROW 34) = W at *
    go_enter Try.func58, Try.ntmps58
    go_wp2_with (at_builtin; refine wpList_append_runP rfl _ _ _ rfl _ _ _ rfl rfl (hrz _) ?_)
    go_ret
    exact ⟨_, rfl, hown, hb⟩

set_option maxHeartbeats 2000000 in
set_option maxRecDepth 100000 in
theorem concatP_any {w : World} {b : Nat} {va vb : Value} {la lb : List (Int × Int)} (ca : w.cell? ⟨b, 0, none⟩ = some va) (cb : w.cell? ⟨b, 1, none⟩ = some vb) (ha : Rd2 w va la) (hb : Rd2 w vb lb) (hla : la.length ≤ 1000) (hlb : lb.length ≤ 1000) :
    Calls Try.prog 38 #[.slice (some ⟨b, 0, none⟩) 2 2] w (NewPins w (la ++ lb)) := by
  obtain ⟨a1, cap1, rfl⟩ := Rd.slice ha
  obtain ⟨a2, cap2, rfl⟩ := Rd.slice hb
  have hsum : Hid (la.length + lb.length ≤ 10000) := Lib.hid (by omega)
  go_enter Try.func38, Try.ntmps38
  go_wp2
  refine wp_loop_rounds 3 ?_
  rw [rounds_succ]; go_wp2
  rw [rounds_succ]; go_wp2
  rw [rounds_succ]; go_wp2_with fail
  have hg := growP_any (w := w) (la.length + lb.length) hsum.out
  rw [show ((la.length + lb.length : Nat) : Int) = (la.length : Int) + lb.length from by omega] at hg
  refine hg.mono ?_
  rintro e w1 ⟨v1, rfl, ho1, hb1⟩
  clear hg
  obtain ⟨v2, w2, e2, ho2, hg2⟩ := append_rdP ho1 (Rd.below ha hb1) (by simp; omega) hb1.size
  have hb2 := hb1.grown hg2 hb1.size (fun k hk => (ho1.lt k hk).1)
  obtain ⟨v3, w3, e3, ho3, hg3⟩ := append_rdP ho2 (Rd.below hb hb2) (by simp; omega) hb2.size
  have hb3 := hb2.grown hg3 hb2.size (fun k hk => (ho2.lt k hk).1)
  have ca1 := kept_b hb1 ca
  have cb2 := kept_b hb2 cb
  have hown : Hid (w3.ownsRow w.heap.size 34 2 v3 (la ++ lb).length (flat2 (la ++ lb))) := Lib.hid (by simpa using ho3)
  clear ho1 ho2 ho3 hg2 hg3 hb1 hb2
  go_wp2
  refine wp_loop_rounds 3 ?_
  rw [rounds_succ]
  go_wp2_with (at_builtin; refine wpList_append_runP rfl _ _ _ rfl _ _ _ rfl rfl e2 ?_)
  rw [rounds_succ]
  go_wp2_with (at_builtin; refine wpList_append_runP rfl _ _ _ rfl _ _ _ rfl rfl e3 ?_)
  rw [rounds_succ]; go_wp2
  go_ret
  exact ⟨v3, rfl, hown.out, hb3⟩

end Go.Proofs.Ytemhmbaacpfnaaa
