/- The contracts of the program's AddNote and of the model's. No condition. -/
import Derived.Test.YtacdogojefgniaaImplInsert
import Derived.Test.YtacdogojefgniaaImplTune
namespace Go.Proofs.Ytacdogojefgniaa
open Go.ChangeShapes Go.WideShapes Go.ChangeAt Go.RowKit

open Classical in
noncomputable def addM (l : List (Int × Int)) (x : Int × Int) : List (Int × Int) × Bool := if tuneB l = true ∧ memB l x = false ∧ tuneB (insM l x) = true then (insM l x, true) else (l, false)
theorem addM_yes {l : List (Int × Int)} {x : Int × Int} (h1 : tuneB l = true) (h2 : memB l x = false) (h3 : tuneB (insM l x) = true) : addM l x = (insM l x, true) := if_pos ⟨h1, h2, h3⟩
theorem addM_no {l : List (Int × Int)} {x : Int × Int} (h : ¬ (tuneB l = true ∧ memB l x = false ∧ tuneB (insM l x) = true)) : addM l x = (l, false) := if_neg h
theorem addM_len (l : List (Int × Int)) (x : Int × Int) : (addM l x).1.length ≤ l.length + 1 := by
  unfold addM; split
  · exact ins_len l x
  · simp
def MadeNotes (W : World) (l : List (Int × Int)) (e : Ending) (w' : World) : Prop :=
  ∃ v', e = .returned v' ∧ w'.ownsRow W.heap.size 42 2 v' l.length (flat2 l) ∧ Below W.heap.size W w'
/-- The note's block made behind the copy. -/
theorem insA {W w4 : World} {v4 : Value} {l : List (Int × Int)} {x : Int × Int} {r : Nat} (hb4 : Below W.drew.heap.size W.drew w4) (ho4 : w4.ownsRow W.drew.heap.size 42 2 v4 l.length (flat2 l)) (hl : l.length ≤ 40) (hr : r ≤ l.length) :
    Calls Try.prog 61 #[v4, .int .i64 (r : Nat), .slice (some ⟨w4.heap.size, 0, none⟩) 1 1] (w4.alloc (.cells #[.int .i64 x.1, .int .i64 x.2] 42)) (MadeNotes W (l.take r ++ [x] ++ l.drop r)) := by
  have hb := below_undrew hb4
  have ho := ho4.alloc (.cells #[.int .i64 x.1, .int .i64 x.2] 42)
  have hb5 : Below W.heap.size W (w4.alloc (.cells #[.int .i64 x.1, .int .i64 x.2] 42)) := hb.alloc hb.size _
  have hne : v4.ownBlock ≠ some w4.heap.size := fun e => by have := (ho4.lt _ e).2; omega
  refine (insert_any (B := W.heap.size) ho hb5.size (one_row0 hb x) hne (by omega) hr).mono ?_
  rintro e w' ⟨v', rfl, h1, h2⟩
  exact ⟨v', rfl, h1, hb5.grown h2 hb5.size (fun k hk => (ho4.lt k hk).1)⟩
/-- The note's block made ahead of the copy. -/
theorem insB {W w4 : World} {v4 : Value} {l : List (Int × Int)} {x : Int × Int} {r : Nat} (hb4 : Below ((W.alloc (.cells #[.int .i64 x.1, .int .i64 x.2] 42)).drew).heap.size ((W.alloc (.cells #[.int .i64 x.1, .int .i64 x.2] 42)).drew) w4)
    (ho4 : w4.ownsRow ((W.alloc (.cells #[.int .i64 x.1, .int .i64 x.2] 42)).drew).heap.size 42 2 v4 l.length (flat2 l)) (hl : l.length ≤ 40) (hr : r ≤ l.length) :
    Calls Try.prog 61 #[v4, .int .i64 (r : Nat), .slice (some ⟨W.heap.size, 0, none⟩) 1 1] w4 (MadeNotes W (l.take r ++ [x] ++ l.drop r)) := by
  have hsz : ((W.alloc (.cells #[.int .i64 x.1, .int .i64 x.2] 42)).drew).heap.size = W.heap.size + 1 := size_alloc _ _
  have hb5 : Below W.heap.size W w4 := (below_a W _).trans (hb4.mono (by rw [hsz]; omega))
  have ho := ownS_mono ho4 (B' := W.heap.size) (by rw [hsz]; omega)
  have hx := ownS_below (one_row0 (Below.refl W.heap.size W) x).drew hb4
  have hne : v4.ownBlock ≠ some W.heap.size := fun e => by have := (ho4.lt _ e).1; rw [hsz] at this; omega
  refine (insert_any (B := W.heap.size) ho hb5.size hx hne (by omega) hr).mono ?_
  rintro e w' ⟨v', rfl, h1, h2⟩
  exact ⟨v', rfl, h1, hb5.grown h2 hb5.size (fun k hk => (ho.lt k hk).1)⟩

set_option maxHeartbeats 4000000 in
theorem iadd_any {w : World} {v : Value} {l : List (Int × Int)} (x : Int × Int) (h : Rd2 w v l) (hl : l.length ≤ 1048576) :
    Calls Try.prog 32 #[v, .agg #[.int .i64 x.1, .int .i64 x.2]] w (NewNotesB w (addM l x).1 (addM l x).2) := by
  obtain ⟨z1, z2, hb0⟩ : (w.alloc (.cells #[.int .i64 x.1, .int .i64 x.2] 42)).cell? ⟨w.heap.size, 0, none⟩ = some (.int .i64 x.1) ∧ (w.alloc (.cells #[.int .i64 x.1, .int .i64 x.2] 42)).cell? ⟨w.heap.size, 1, none⟩ = some (.int .i64 x.2) ∧ Below w.heap.size w (w.alloc (.cells #[.int .i64 x.1, .int .i64 x.2] 42)) :=
    ⟨cell0 _ _ _ _, cell0 _ _ _ _, (Below.refl _ _).alloc (Nat.le_refl _) _⟩
  by_cases ht : tuneB l = true
  · have HT := Lib.hid ht
    by_cases hx : memB l x = true
    · have HX := Lib.hid hx
      have hA := addM_no (l := l) (x := x) (fun hh => by rw [hx] at hh; cases hh.2.1)
      rw [hA]
      clear ht hx hA
      go_enter Try.func32, Try.ntmps32
      go_wp2_with fail
      generalize w.alloc (.cells #[.int .i64 x.1, .int .i64 x.2] 42) = W0 at *
      refine (itune_yes (Rd.below h hb0) HT.out).mono ?_
      rintro e w1 ⟨rfl, hb1⟩
      have y1 := kept_b hb1 z1
      have y2 := kept_b hb1 z2
      have g1 := bstep hb0 hb1
      clear z1 z2
      go_wp2_with fail
      refine (contains_yes (Rd.below h g1) hl HX.out).mono ?_
      rintro e w2 ⟨rfl, hb2⟩
      have g2 := bstep g1 hb2
      go_wp2_with fail
      refine (clone_any (Rd.below h g2) hl).mono ?_
      rintro e w3 ⟨v3, rfl, ho3, hb3⟩
      go_wp2
      go_ret2
      exact newB g2 ho3 hb3
    · have hx' : memB l x = false := by simpa using hx
      have HX := Lib.hid hx'
      have hni : x ∉ l := memB_false.1 hx'
      have hss := tune_ss (tuneB_true.1 ht)
      have HL := Lib.hid (ins_out hni)
      have hrl := rank_le l x
      have h40 := (tuneB_true.1 ht).1
      have hlen : (insM l x).length ≤ 1048576 := by have := ins_len l x; omega
      clear hx
      have HNI := Lib.hid hni; have HSS := Lib.hid hss
      clear hni hss
      go_enter Try.func32, Try.ntmps32
      go_wp2_with fail
      generalize w.alloc (.cells #[.int .i64 x.1, .int .i64 x.2] 42) = W0 at *
      clear ht hx'
      refine (itune_yes (Rd.below h hb0) HT.out).mono ?_
      rintro e w1 ⟨rfl, hb1⟩
      have y1 := kept_b hb1 z1
      have y2 := kept_b hb1 z2
      have g1 := bstep hb0 hb1
      clear z1 z2
      go_wp2_with fail
      refine (contains_no (Rd.below h g1) hl HX.out).mono ?_
      rintro e w2 ⟨rfl, hb2⟩
      have g2 := bstep g1 hb2
      have y3 := kept_b hb2 y1
      have y4 := kept_b hb2 y2
      clear y1 y2
      go_wp2_with fail
      refine (bsearch_any x (Rd.below h g2) hl HSS.out HNI.out).mono ?_
      rintro e w3 ⟨rfl, hb3⟩
      have g3 := bstep g2 hb3
      have z1 := kept_b hb3 y3
      have z2 := kept_b hb3 y4
      have hR := Rd.below h g3
      clear y3 y4 hb1 hb2 hb3 g1 g2 hb0
      generalize rankM l x = r at *
      go_wp2_with fail
      have hRA : Rd2 w3.drew v l := Rd.below hR (Below.refl _ _).drew
      have hRB : Rd2 ((w3.alloc (.cells #[.int .i64 x.1, .int .i64 x.2] 42)).drew) v l := Rd.below hR (below_a w3 _)
      have zB1 := kept_b (below_a w3 (.cells #[.int .i64 x.1, .int .i64 x.2] 42)) z1
      have zB2 := kept_b (below_a w3 (.cells #[.int .i64 x.1, .int .i64 x.2] 42)) z2
      go_region_held3 (fun w' => w'.cell? ⟨w.heap.size, 0, none⟩ = some (.int .i64 x.1) ∧ w'.cell? ⟨w.heap.size, 1, none⟩ = some (.int .i64 x.2)) (go_keep)
        (first
          | (go_at_call 59; (with_reducible refine (clone_any hRA hl).mono ?_); rintro e w4 ⟨v4, rfl, ho4, hb4⟩; have q1 := kept_cell hb4 z1; have q2 := kept_cell hb4 z2)
          | (go_at_call 59; (with_reducible refine (clone_any hRB hl).mono ?_); rintro e w4 ⟨v4, rfl, ho4, hb4⟩; have q1 := kept_b hb4 zB1; have q2 := kept_b hb4 zB2)
          | (go_at_call 61; (with_reducible refine (insA hb4 ho4 h40 hrl).mono ?_); rintro e w5 ⟨v5, rfl, ho5, hb5⟩; have q3 := kept_b hb5 z1; have q4 := kept_b hb5 z2)
          | (go_at_call 61; (with_reducible refine (insB hb4 ho4 h40 hrl).mono ?_); rintro e w5 ⟨v5, rfl, ho5, hb5⟩; have q3 := kept_b hb5 z1; have q4 := kept_b hb5 z2))
      all_goals
        have g5 := bstep g3 hb5
        rw [← HL.out] at ho5
        clear hb4 ho4 q1 q2 q3 q4 z1 z2 zB1 zB2 hRA hRB
        by_cases hti : tuneB (insM l x) = true
        · have hA := addM_yes HT.out HX.out hti
          have HA := Lib.hid hA
          have HTI := Lib.hid hti
          clear hA hti
          go_wp2_with fail
          refine (itune_yes (Rd.of_own ho5) HTI.out).mono ?_
          rintro e w6 ⟨rfl, hb6⟩
          have ho6 := ownS_below ho5 hb6
          go_wp2
          go_ret2
          rw [HA.out]
          exact newB g3 ho6 (bstep hb5 hb6)
        · have hA := addM_no (l := l) (x := x) (fun hh => hti hh.2.2)
          have HA := Lib.hid hA
          have hti' : tuneB (insM l x) = false := by simpa using hti
          have HTI := Lib.hid hti'
          clear hA hti hti'
          go_wp2_with fail
          refine (itune_no (Rd.of_own ho5) HTI.out).mono ?_
          rintro e w6 ⟨rfl, hb6⟩
          have g6 := bstep g5 hb6
          go_wp2_with fail
          refine (clone_any (Rd.below h g6) hl).mono ?_
          rintro e w7 ⟨v7, rfl, ho7, hb7⟩
          go_wp2
          go_ret2
          rw [HA.out]
          exact newB g6 ho7 hb7
  · have ht' : tuneB l = false := by simpa using ht
    have HT := Lib.hid ht'
    have hA := addM_no (l := l) (x := x) (fun hh => by rw [ht'] at hh; cases hh.1)
    rw [hA]
    clear ht ht' hA
    go_enter Try.func32, Try.ntmps32
    go_wp2_with fail
    generalize w.alloc (.cells #[.int .i64 x.1, .int .i64 x.2] 42) = W0 at *
    refine (itune_no (Rd.below h hb0) HT.out).mono ?_
    rintro e w1 ⟨rfl, hb1⟩
    have g1 := bstep hb0 hb1
    clear z1 z2
    go_wp2_with fail
    refine (clone_any (Rd.below h g1) hl).mono ?_
    rintro e w3 ⟨v3, rfl, ho3, hb3⟩
    go_wp2
    go_ret2
    exact newB g1 ho3 hb3
end Go.Proofs.Ytacdogojefgniaa
