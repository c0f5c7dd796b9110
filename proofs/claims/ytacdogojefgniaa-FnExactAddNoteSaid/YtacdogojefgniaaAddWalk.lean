/- The walk of the law FnExactAddNote. No condition. -/
import Derived.Test.YtacdogojefgniaaAddSpec
import Derived.Test.YtacdogojefgniaaTuneWalks
namespace Go.Proofs.Ytacdogojefgniaa
open Go.ChangeShapes Go.WideShapes Go.ChangeAt Go.RowKit

theorem kept_g {a b : World} {row : Option Nat} {p : Addr} {u : Value} (hg : a.grownBy b row) (h : a.cell? p = some u) (hne : row ≠ some p.block) : b.cell? p = some u :=
  (World.cell?_of_block (hg.block p.block (World.block_lt_of_cell? a _ h) (Ne.symm hne))).trans h
theorem saddA (l : List (Int × Int)) (x : Int × Int) (hl : l.length ≤ 1048576) (W wa wb : World) (va : Value) (hba : Below W.drew.heap.size W.drew wa) (hoa : wa.ownsRow W.drew.heap.size 42 2 va l.length (flat2 l)) (hbb : Below wa.heap.size wa wb) :
    Calls Try.prog 30 #[va, .agg #[.int .i64 x.1, .int .i64 x.2]] wb (NewNotesB W (addM l x).1 (addM l x).2) := by
  refine (sadd_any x (Rd.of_own (ownS_below hoa hbb)) hl).mono ?_
  rintro e w' ⟨v', rfl, h1, h2⟩
  exact newB (bstep (below_undrew hba) hbb) h1 h2
theorem saddB (l : List (Int × Int)) (x : Int × Int) (hl : l.length ≤ 1048576) (W wa wb : World) (va : Value) (hbb : Below W.drew.heap.size W.drew wb) (hba : Below wb.heap.size wb wa) (hoa : wa.ownsRow wb.heap.size 42 2 va l.length (flat2 l)) :
    Calls Try.prog 30 #[va, .agg #[.int .i64 x.1, .int .i64 x.2]] wa (NewNotesB W (addM l x).1 (addM l x).2) := by
  refine (sadd_any x (Rd.of_own hoa) hl).mono ?_
  rintro e w' ⟨v', rfl, h1, h2⟩
  exact newB (bstep (below_undrew hbb) hba) h1 h2
theorem iaddA (l : List (Int × Int)) (x : Int × Int) (hl : l.length ≤ 1048576) (W wa wb : World) (va : Value) (hba : Below W.drew.heap.size W.drew wa) (hoa : wa.ownsRow W.drew.heap.size 42 2 va l.length (flat2 l)) (hbb : Below wa.heap.size wa wb) :
    Calls Try.prog 32 #[va, .agg #[.int .i64 x.1, .int .i64 x.2]] wb (NewNotesB W (addM l x).1 (addM l x).2) := by
  refine (iadd_any x (Rd.of_own (ownS_below hoa hbb)) hl).mono ?_
  rintro e w' ⟨v', rfl, h1, h2⟩
  exact newB (bstep (below_undrew hba) hbb) h1 h2
theorem iaddB (l : List (Int × Int)) (x : Int × Int) (hl : l.length ≤ 1048576) (W wa wb : World) (va : Value) (hbb : Below W.drew.heap.size W.drew wb) (hba : Below wb.heap.size wb wa) (hoa : wa.ownsRow wb.heap.size 42 2 va l.length (flat2 l)) :
    Calls Try.prog 32 #[va, .agg #[.int .i64 x.1, .int .i64 x.2]] wa (NewNotesB W (addM l x).1 (addM l x).2) := by
  refine (iadd_any x (Rd.of_own hoa) hl).mono ?_
  rintro e w' ⟨v', rfl, h1, h2⟩
  exact newB (bstep (below_undrew hbb) hba) h1 h2

set_option maxHeartbeats 4000000 in
set_option maxRecDepth 100000 in
theorem exactadd_walk {w : World} {v : Value} {l : List (Int × Int)} (x : Int × Int) (h : Rd2 w v l) :
    Calls Try.prog 7 #[v, .agg #[.int .i64 x.1, .int .i64 x.2]] w fun e w' => e = .returned (.bool true) ∧ Below w.heap.size w w' := by
  obtain ⟨a, cap, rfl⟩ := Rd.slice h
  have hm := h.2.1
  unfold maxLen at hm
  obtain ⟨z1, z2, hb0⟩ : (w.alloc (.cells #[.int .i64 x.1, .int .i64 x.2] 39)).cell? ⟨w.heap.size, 0, none⟩ = some (.int .i64 x.1) ∧ (w.alloc (.cells #[.int .i64 x.1, .int .i64 x.2] 39)).cell? ⟨w.heap.size, 1, none⟩ = some (.int .i64 x.2) ∧ Below w.heap.size w (w.alloc (.cells #[.int .i64 x.1, .int .i64 x.2] 39)) :=
    ⟨cell0 _ _ _ _, cell0 _ _ _ _, (Below.refl _ _).alloc (Nat.le_refl _) _⟩
  by_cases hs : l.length ≤ 1048576
  · have hbd : (addM l x).1.length ≤ 1048577 := by have := addM_len l x; omega
    have HSA := Lib.hid (@saddA l x hs)
    have HSB := Lib.hid (@saddB l x hs)
    have HIA := Lib.hid (@iaddA l x hs)
    have HIB := Lib.hid (@iaddB l x hs)
    have HII := Lib.hid (fun (W : World) (V : Value) (hV : Rd2 W V l) => iadd_any x hV hs)
    generalize (addM l x).1 = R at *
    generalize (addM l x).2 = b at *
    go_enter Try.func7, Try.ntmps7
    go_wp2_with fail
    have hW0 : w.heap.size < (w.alloc (.cells #[.int .i64 x.1, .int .i64 x.2] 39)).heap.size := by simp
    generalize w.alloc (.cells #[.int .i64 x.1, .int .i64 x.2] 39) = W0 at *
    refine (sz0_yes hs).mono ?_
    rintro e w0 ⟨y, hy, rfl, rfl⟩
    have hR0 := Rd.below h hb0
    go_wp2_with fail
    have hRd : Rd2 W0.drew (.slice a l.length cap) l := Rd.below hR0 (Below.refl _ _).drew
    go_region_held3 (fun w' => w'.cell? ⟨w.heap.size, 0, none⟩ = some (.int .i64 x.1) ∧ w'.cell? ⟨w.heap.size, 1, none⟩ = some (.int .i64 x.2)) (go_keep)
      (first
        | (go_at_call 17; (with_reducible refine (toNotes_any hRd hs).mono ?_); rintro e wa ⟨va, rfl, hoa, hba⟩; have q1 := kept_cell hba z1; have q2 := kept_cell hba z2)
        | (go_at_call 31; (with_reducible refine (toNote_any _ _).mono ?_); rintro e wb ⟨rfl, hbb⟩; have q3 := kept_cell hbb z1; have q4 := kept_cell hbb z2)
        | (go_at_call 31; (with_reducible refine (toNote_any _ _).mono ?_); rintro e wb ⟨rfl, hbb⟩; have q3 := kept_b hbb q1; have q4 := kept_b hbb q2)
        | (go_at_call 17; (with_reducible refine (toNotes_any (Rd.below hR0 (below_undrew hbb)) hs).mono ?_); rintro e wa ⟨va, rfl, hoa, hba⟩; have q1 := kept_b hba q3; have q2 := kept_b hba q4)
        | (go_at_call 30; (with_reducible refine (HSA.out _ _ _ _ hba hoa hbb).mono ?_); rintro e w2 ⟨vs, rfl, hos2, g2⟩; have q5 := kept_b g2 z1; have q6 := kept_b g2 z2)
        | (go_at_call 30; (with_reducible refine (HSB.out _ _ _ _ hbb hba hoa).mono ?_); rintro e w2 ⟨vs, rfl, hos2, g2⟩; have q5 := kept_b g2 z1; have q6 := kept_b g2 z2))
    all_goals
      clear hRd q1 q2 q3 q4 hba hoa hbb
      have gs2 := bstep hb0 g2
      go_wp2_with fail
      refine (toNotes_any (Rd.below h gs2) hs).mono ?_
      rintro e w3 ⟨v3, rfl, ho3, hb3⟩
      have gs3 := bstep gs2 hb3
      have hos3 := ownS_below hos2 hb3
      have ap1 := apartS hos2 ho3
      have h23a := hb3.size
      have y1 := kept_b hb3 q5
      have y2 := kept_b hb3 q6
      clear hb3 q5 q6
      go_wp2_with fail
      refine (toNote_any _ _).mono ?_
      rintro e w3b ⟨rfl, hb3b⟩
      have gs3b := bstep gs3 hb3b
      have h23 := Lib.hid (Nat.le_trans h23a hb3b.size)
      clear h23a
      have hos3b := ownS_below hos3 hb3b
      have ho3b := ownS_below ho3 hb3b
      have y3 := kept_b hb3b y1
      have y4 := kept_b hb3b y2
      clear hb3b y1 y2
      go_wp2_with fail
      refine (HII.out _ _ (Rd.of_own ho3b)).mono ?_
      rintro e w4 ⟨vi, rfl, hoi4, hb4⟩
      have gs4 := bstep gs3b hb4
      have hos4 := ownS_below hos3b hb4
      have ho4 := ownS_below ho3b hb4
      have ap2 := apartS' ho3b hoi4
      have ap3 := apartS hos3b hoi4
      have y5 := kept_b hb4 y3
      have y6 := kept_b hb4 y4
      have hoi4b := hoi4
      clear hb4 hos3 ho3 y3 y4
      go_wp2_with fail
      refine (eqNotes_same (Rd.of_own hoi4) (Rd.of_own hos4)).mono ?_
      rintro e w5 ⟨rfl, hb5⟩
      have gs5 := bstep gs4 hb5
      have hos5 := ownS_below hos4 hb5
      have ho5 := ownS_below ho4 hb5
      have hoi5 := ownS_below hoi4 hb5
      have z3 := kept_b hb5 y5
      have z4 := kept_b hb5 y6
      clear hb5 hos4 ho4 hoi4 y5 y6
      go_wp2_with fail
      refine (toNotes_any (Rd.below h gs5) hs).mono ?_
      rintro e w6 ⟨v6, rfl, ho6, hb6⟩
      have gs6 := bstep gs5 hb6
      have hos6 := ownS_below hos5 hb6
      have ho6b := ownS_below ho5 hb6
      have hoi6 := ownS_below hoi5 hb6
      have y1 := kept_b hb6 z3
      have y2 := kept_b hb6 z4
      clear hb6 hos5 ho5 hoi5 z3 z4
      go_wp2_with fail
      refine (eqNotes_same (Rd.of_own ho6b) (Rd.of_own ho6)).mono ?_
      rintro e w7 ⟨rfl, hb7⟩
      have gs7 := bstep gs6 hb7
      have hos7 := ownS_below hos6 hb7
      have ho7 := ownS_below ho6b hb7
      have hoi7 := ownS_below hoi6 hb7
      have y3 := kept_b hb7 y1
      have y4 := kept_b hb7 y2
      clear hb7 hos6 ho6 ho6b hoi6 y1 y2
      go_wp2_with fail
      refine (markNotes_any 1 (by omega) ho7).mono ?_
      rintro e w8 ⟨rfl, hg8, _⟩
      have hos8 := hos7.kept hg8 ap1
      have hoi8 := hoi7.kept hg8 ap2
      have hlt2 : w.heap.size < w2.heap.size := Nat.lt_of_lt_of_le hW0 g2.size
      have hlt3 : w.heap.size < w3b.heap.size := Nat.lt_of_lt_of_le hlt2 h23.out
      have y5 := kept_g hg8 y3 (fun e => by have := (ho7.lt _ e).1; simp only at this; omega)
      have y6 := kept_g hg8 y4 (fun e => by have := (ho7.lt _ e).1; simp only at this; omega)
      have gs8 := gs7.grown hg8 gs7.size (fun k hk => Nat.le_trans gs2.size (ho7.lt k hk).1)
      clear hg8 ho7 hos7 hoi7 y3 y4
      go_wp2_with fail
      refine (eqNotes_same (Rd.of_own hoi8) (Rd.of_own hos8)).mono ?_
      rintro e w9 ⟨rfl, hb9⟩
      have gs9 := bstep gs8 hb9
      have hos9 := ownS_below hos8 hb9
      have hoi9 := ownS_below hoi8 hb9
      have z1 := kept_b hb9 y5
      have z2 := kept_b hb9 y6
      clear hb9 hos8 hoi8 y5 y6
      go_wp2_with fail
      refine (markNotes_any 1 (by omega) hoi9).mono ?_
      rintro e wm ⟨rfl, hga, ys, hya, hmk⟩
      have hosa := hos9.kept hga ap3
      have ga := gs9.grown hga gs9.size (fun k hk => Nat.le_trans gs3b.size (hoi9.lt k hk).1)
      have z3 := kept_g hga z1 (fun e => by have := (hoi9.lt _ e).1; simp only at this; omega)
      have z4 := kept_g hga z2 (fun e => by have := (hoi9.lt _ e).1; simp only at this; omega)
      have HMK := Lib.hid hmk
      clear hga hos9 hoi9 hmk z1 z2
      go_wp2_with fail
      refine (heldNotes_any 1 (by omega) (Rd.of_own hya) HMK.out).mono ?_
      rintro e wn ⟨rfl, hbb⟩
      have gb := bstep ga hbb
      have hosb := ownS_below hosa hbb
      have hyb := ownS_below hya hbb
      have y1 := kept_b hbb z3
      have y2 := kept_b hbb z4
      clear hbb hosa hya z3 z4
      have hRn := Rd.below h gb
      go_wp2_with fail
      have hRd : Rd2 wn.drew (.slice a l.length cap) l := Rd.below hRn (Below.refl _ _).drew
      go_region_held3 (fun w' => w'.cell? ⟨w.heap.size, 0, none⟩ = some (.int .i64 x.1) ∧ w'.cell? ⟨w.heap.size, 1, none⟩ = some (.int .i64 x.2)) (go_keep)
        (first
          | (go_at_call 17; (with_reducible refine (toNotes_any hRd hs).mono ?_); rintro e wa ⟨va, rfl, hoa, hba⟩; have q1 := kept_cell hba y1; have q2 := kept_cell hba y2)
          | (go_at_call 31; (with_reducible refine (toNote_any _ _).mono ?_); rintro e wb ⟨rfl, hbb⟩; have q3 := kept_cell hbb y1; have q4 := kept_cell hbb y2)
          | (go_at_call 31; (with_reducible refine (toNote_any _ _).mono ?_); rintro e wb ⟨rfl, hbb⟩; have q3 := kept_b hbb q1; have q4 := kept_b hbb q2)
          | (go_at_call 17; (with_reducible refine (toNotes_any (Rd.below hRn (below_undrew hbb)) hs).mono ?_); rintro e wa ⟨va, rfl, hoa, hba⟩; have q1 := kept_b hba q3; have q2 := kept_b hba q4)
          | (go_at_call 32; (with_reducible refine (HIA.out _ _ _ _ hba hoa hbb).mono ?_); rintro e wd ⟨vd, rfl, hod, hbd'⟩; have q5 := kept_b hbd' y1; have q6 := kept_b hbd' y2)
          | (go_at_call 32; (with_reducible refine (HIB.out _ _ _ _ hbb hba hoa).mono ?_); rintro e wd ⟨vd, rfl, hod, hbd'⟩; have q5 := kept_b hbd' y1; have q6 := kept_b hbd' y2))
      all_goals
        clear hRd q1 q2 q3 q4 q5 q6 y1 y2 hba hoa hbb
        have gd := bstep gb hbd'
        have hosd := ownS_below hosb hbd'
        have hyd := ownS_below hyb hbd'
        clear hosb hyb
        go_wp2_with fail
        refine (eqNotes_same (Rd.of_own hod) (Rd.of_own hosd)).mono ?_
        rintro e we ⟨rfl, hbe⟩
        have ge := bstep gd hbe
        have hye := ownS_below hyd hbe
        clear hbe hosd hyd hod
        go_wp2_with fail
        refine (heldNotes_any 1 (by omega) (Rd.of_own hye) HMK.out).mono ?_
        rintro e wf ⟨rfl, hbf⟩
        have gf := bstep ge hbf
        clear hbf hye
        go_wp2
        go_ret
        exact ⟨rfl, gf⟩
  · go_enter Try.func7, Try.ntmps7
    go_wp2_with fail
    generalize w.alloc (.cells #[.int .i64 x.1, .int .i64 x.2] 39) = W0 at *
    refine (sz0_no hs hm).mono ?_
    rintro e w0 ⟨rfl, rfl⟩
    go_wp2
    go_ret
    exact ⟨rfl, hb0⟩
end Go.Proofs.Ytacdogojefgniaa
