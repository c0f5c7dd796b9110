/- The contract of the model's AddNote, and the walk of the law FnExactAddNote. No condition. -/
import Derived.Test.YtacdogojefgniaaAddNote
namespace Go.Proofs.Ytacdogojefgniaa
open Go.ChangeShapes Go.WideShapes Go.ChangeAt Go.RowKit

section
variable {W w4 : World} {v4 : Value} {n : Nat} {xs : List Value} {x : Int × Int}
theorem belowB (hb4 : Below ((W.alloc (.cells #[.int .i64 x.1, .int .i64 x.2] 42)).drew).heap.size ((W.alloc (.cells #[.int .i64 x.1, .int .i64 x.2] 42)).drew) w4) : Below W.heap.size W w4 :=
  (below_a W _).trans (hb4.mono (by show W.heap.size ≤ (W.alloc _).heap.size; rw [size_alloc]; omega))
theorem ownB (ho4 : w4.ownsRow ((W.alloc (.cells #[.int .i64 x.1, .int .i64 x.2] 42)).drew).heap.size 42 2 v4 n xs) : w4.ownsRow W.heap.size 42 2 v4 n xs :=
  ownS_mono ho4 (by show W.heap.size ≤ (W.alloc _).heap.size; rw [size_alloc]; omega)
theorem xB (hb4 : Below ((W.alloc (.cells #[.int .i64 x.1, .int .i64 x.2] 42)).drew).heap.size ((W.alloc (.cells #[.int .i64 x.1, .int .i64 x.2] 42)).drew) w4) :
    w4.ownsRow W.heap.size 42 2 (.slice (some ⟨W.heap.size, 0, none⟩) 1 1) 1 (flat2 [x]) :=
  ownS_below (one_row0 (Below.refl W.heap.size W) x).drew hb4
theorem rdS {B : Nat} {l : List (Int × Int)} (h : w4.ownsRow B 42 2 v4 (l.length + 1) (flat2 (l ++ [x]))) : Rd2 w4 v4 (l ++ [x]) := by
  unfold Rd2
  have e : (l ++ [x]).length = l.length + 1 := by simp
  rw [e]; exact Rd.of_own h
end

set_option maxHeartbeats 4000000 in
set_option maxRecDepth 100000 in
theorem sadd_any {w : World} {v : Value} {l : List (Int × Int)} (x : Int × Int) (h : Rd2 w v l) (hl : l.length ≤ 1048576) :
    Calls Try.prog 30 #[v, .agg #[.int .i64 x.1, .int .i64 x.2]] w (NewNotesB w (addM l x).1 (addM l x).2) := by
  obtain ⟨a1, cap1, rfl⟩ := Rd.slice h
  obtain ⟨z1, z2, hb0⟩ : (w.alloc (.cells #[.int .i64 x.1, .int .i64 x.2] 42)).cell? ⟨w.heap.size, 0, none⟩ = some (.int .i64 x.1) ∧ (w.alloc (.cells #[.int .i64 x.1, .int .i64 x.2] 42)).cell? ⟨w.heap.size, 1, none⟩ = some (.int .i64 x.2) ∧ Below w.heap.size w (w.alloc (.cells #[.int .i64 x.1, .int .i64 x.2] 42)) :=
    ⟨cell0 _ _ _ _, cell0 _ _ _ _, (Below.refl _ _).alloc (Nat.le_refl _) _⟩
  by_cases ht : tuneB l = true
  · have HT := Lib.hid ht
    by_cases h40 : l.length = 40
    · have hA := addM_no (l := l) (x := x) (fun hh => by
        have h1 := ins_out_len (memB_false.1 hh.2.1)
        have h2 := (tuneB_true.1 hh.2.2).1
        omega)
      rw [hA]
      have h40' : ((l.length : Int) == 40) = true := by simp; omega
      clear ht hA h40
      go_enter Try.func30, Try.ntmps30
      go_wp2_with fail
      generalize w.alloc (.cells #[.int .i64 x.1, .int .i64 x.2] 42) = W0 at *
      refine (tuneok_yes (Rd.below h hb0) HT.out).mono ?_
      rintro e w1 ⟨rfl, hb1⟩
      have g1 := bstep hb0 hb1
      clear z1 z2
      go_wp2_with fail
      refine (copy_any (Rd.below h g1) hl).mono ?_
      rintro e w3 ⟨v3, rfl, ho3, hb3⟩
      go_wp2
      go_ret2
      exact newB g1 ho3 hb3
    · have hle := (tuneB_true.1 ht).1
      have hss := tune_ss (tuneB_true.1 ht)
      have HS := Lib.hid (sort_snoc hss x (by omega))
      have h40' : ((l.length : Int) == 40) = false := by simp; omega
      have hnl : l.length + 1 ≤ 10000 := by omega
      have hils : (insM l x).length ≤ 1000 := by have := ins_len l x; omega
      clear ht hss h40
      go_enter Try.func30, Try.ntmps30
      go_wp2_with fail
      generalize w.alloc (.cells #[.int .i64 x.1, .int .i64 x.2] 42) = W0 at *
      refine (tuneok_yes (Rd.below h hb0) HT.out).mono ?_
      rintro e w3 ⟨rfl, hb1⟩
      have g3 := bstep hb0 hb1
      have y1 := kept_b hb1 z1
      have y2 := kept_b hb1 z2
      have hR := Rd.below h g3
      clear z1 z2 hb0 hb1
      go_wp2_with fail
      have hRA : Rd2 w3.drew (.slice a1 l.length cap1) l := Rd.below hR (Below.refl _ _).drew
      have hRB : Rd2 ((w3.alloc (.cells #[.int .i64 x.1, .int .i64 x.2] 42)).drew) (.slice a1 l.length cap1) l := Rd.below hR (below_a w3 _)
      have zB1 := kept_b (below_a w3 (.cells #[.int .i64 x.1, .int .i64 x.2] 42)) y1
      have zB2 := kept_b (below_a w3 (.cells #[.int .i64 x.1, .int .i64 x.2] 42)) y2
      go_region_held3 (fun w' => w'.cell? ⟨w.heap.size, 0, none⟩ = some (.int .i64 x.1) ∧ w'.cell? ⟨w.heap.size, 1, none⟩ = some (.int .i64 x.2)) (go_keep)
        (first
          | (go_at_call 56; (with_reducible refine (copy_any hRA hl).mono ?_); rintro e w4 ⟨v4, rfl, ho4, hb4⟩; have q1 := kept_cell hb4 y1; have q2 := kept_cell hb4 y2)
          | (go_at_call 56; (with_reducible refine (copy_any hRB hl).mono ?_); rintro e w4 ⟨v4, rfl, ho4, hb4⟩; have q1 := kept_b hb4 zB1; have q2 := kept_b hb4 zB2)
          | (go_at_call 57; (with_reducible refine (sort_any (rdS hv5)).mono ?_); rintro e w6 ⟨v6, rfl, ho6, hb6⟩; have q5 := kept_b hb6 q3; have q6 := kept_b hb6 q4)
          | (refine step_append_notes rfl (.tmp 18) (.tmp 20) rfl ((below_undrew hb4).alloc (below_undrew hb4).size _) (by rfl) (ho4.alloc _) [x] (by rfl) (by rfl) (fun j u hj => (one_row0 (below_undrew hb4) x).cells (by rfl) j u hj) hnl ?_
             intro v5 w5 hv5 hb5 hg5
             have q3 := kept_b hb5 y1
             have q4 := kept_b hb5 y2)
          | (refine step_append_notes rfl (.tmp 18) (.tmp 20) rfl (belowB hb4) (by rfl) (ownB ho4) [x] (by rfl) (by rfl) (fun j u hj => (xB hb4).cells (by rfl) j u hj) hnl ?_
             intro v5 w5 hv5 hb5 hg5
             have q3 := kept_b hb5 y1
             have q4 := kept_b hb5 y2))
      all_goals
        have g6 := bstep g3 (bstep hb5 hb6)
        rw [HS.out] at ho6
        have hb36 := bstep hb5 hb6
        have ho7 := ownS_mono ho6 hb5.size
        clear hb4 ho4 q1 q2 q3 q4 q5 q6 y1 y2 zB1 zB2 hRA hRB hv5 hb5 hg5 hb6 ho6
        obtain ⟨a6, cap6, rfl⟩ := ownS_slice ho7
        by_cases hx : memB l x = true
        · have hA := addM_no (l := l) (x := x) (fun hh => by rw [hx] at hh; cases hh.2.1)
          have HA := Lib.hid hA
          have he : insM l x = l := ins_in (tune_ss (tuneB_true.1 HT.out)) (memB_true.1 hx)
          rw [he] at ho7 ⊢
          clear he hx hA
          go_wp2_with fail
          refine (copy_any (Rd.below h g6) hl).mono ?_
          rintro e w7 ⟨v7, rfl, ho8, hb8⟩
          go_wp2
          go_ret2
          rw [HA.out]
          exact newB g6 ho8 hb8
        · have hx' : memB l x = false := by simpa using hx
          have hne : ((insM l x).length == l.length) = false := by
            rw [ins_out_len (memB_false.1 hx')]; simp
          have hne2 : (((insM l x).length : Int) == (l.length : Int)) = false := by
            rw [ins_out_len (memB_false.1 hx')]; simp; omega
          have HX := Lib.hid hx'
          clear hx hx'
          by_cases hti : tuneB (insM l x) = true
          · have hA := addM_yes HT.out HX.out hti
            have HA := Lib.hid hA
            have HTI := Lib.hid hti
            clear hA hti
            generalize insM l x = L at *
            go_wp2_with fail
            refine (tuneok_yes (Rd.of_own ho7) HTI.out).mono ?_
            rintro e w7 ⟨rfl, hb7⟩
            have ho8 := ownS_below ho7 hb7
            go_wp2
            go_ret2
            rw [HA.out]
            exact newB g3 ho8 (bstep hb36 hb7)
          · have hA := addM_no (l := l) (x := x) (fun hh => hti hh.2.2)
            have HA := Lib.hid hA
            have hti' : tuneB (insM l x) = false := by simpa using hti
            have HTI := Lib.hid hti'
            clear hA hti hti'
            generalize insM l x = L at *
            go_wp2_with fail
            refine (tuneok_no (Rd.of_own ho7) HTI.out).mono ?_
            rintro e w7 ⟨rfl, hb7⟩
            have g7 := bstep g6 hb7
            go_wp2_with fail
            refine (copy_any (Rd.below h g7) hl).mono ?_
            rintro e w8 ⟨v8, rfl, ho9, hb9⟩
            go_wp2
            go_ret2
            rw [HA.out]
            exact newB g7 ho9 hb9
  · have ht' : tuneB l = false := by simpa using ht
    have HT := Lib.hid ht'
    have hA := addM_no (l := l) (x := x) (fun hh => by rw [ht'] at hh; cases hh.1)
    rw [hA]
    clear ht ht' hA
    go_enter Try.func30, Try.ntmps30
    go_wp2_with fail
    generalize w.alloc (.cells #[.int .i64 x.1, .int .i64 x.2] 42) = W0 at *
    refine (tuneok_no (Rd.below h hb0) HT.out).mono ?_
    rintro e w1 ⟨rfl, hb1⟩
    have g1 := bstep hb0 hb1
    clear z1 z2
    go_wp2_with fail
    refine (copy_any (Rd.below h g1) hl).mono ?_
    rintro e w3 ⟨v3, rfl, ho3, hb3⟩
    go_wp2
    go_ret2
    exact newB g1 ho3 hb3
end Go.Proofs.Ytacdogojefgniaa
