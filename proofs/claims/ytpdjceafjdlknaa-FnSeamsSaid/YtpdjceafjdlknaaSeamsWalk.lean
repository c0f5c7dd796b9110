/- The walk of the law FnSeams: the model's and the program's contracts. No condition. -/
import Derived.Test.YtpdjceafjdlknaaPinsKit
import Derived.Test.YtpdjceafjdlknaaWalkKit
import Derived.Test.YtpdjceafjdlknaaTurnBySpec
import Derived.Test.YtpdjceafjdlknaaSeamsMath
import Derived.Test.YtpdjceafjdlknaaImplOnly
import Derived.Test.YtpdjceafjdlknaaImplQuiet
import Derived.Deep.CutRange
namespace Go.Proofs.Ytpdjceafjdlknaa
open Go.ChangeShapes Go.WideShapes Go.ChangeAt Go.RowKit

theorem btoi_any (b : Bool) (w : World) : Calls Try.prog 19 #[.bool b] w fun e w' => e = .returned (.int .i64 (if b then 1 else 0)) ∧ w' = w := by
  cases b
  all_goals
    go_enter Try.func19, Try.ntmps19
    go_wp2
    go_ret
    exact ⟨rfl, rfl⟩

theorem btoi_yes (w : World) : Calls Try.prog 19 #[.bool true] w fun e w' => e = .returned (.int .i64 1) ∧ w' = w := btoi_any true w
theorem btoi_no (w : World) : Calls Try.prog 19 #[.bool false] w fun e w' => e = .returned (.int .i64 0) ∧ w' = w := btoi_any false w
theorem seam_row (w : World) (o : Obj) : Rd2 ((w.alloc (.cells #[.int .i64 0, .int .i64 0, .int .i64 0, .int .i64 11] 36)).alloc o) (.slice (some ⟨w.heap.size, 0, none⟩) 2 2) [(0, 0), (0, 11)] := by
  have h : (w.alloc (.cells #[.int .i64 0, .int .i64 0, .int .i64 0, .int .i64 11] 36)).ownsRow w.heap.size 36 2 (.slice (some ⟨w.heap.size, 0, none⟩) 2 2) 2 (flat2 [(0, 0), (0, 11)]) :=
    ⟨rfl, .inr ⟨w.heap.size, 2, _, rfl, Nat.le_refl _, heap_alloc_new w _, Nat.le_refl _, by unfold maxLen; omega, rfl, rfl⟩⟩
  exact Rd.of_own (h.alloc o)

theorem too_row {s t r : Int} {l : List (Int × Int)} (hc : CylP s t l) {j : Nat} (hj : j < (tooM s t l r).length) : ∃ (i k : Nat) (p q : Int × Int), (tooM s t l r)[j]? = some [(i : Int), (k : Int)] ∧ i < k ∧ k < l.length ∧ l[i]? = some p ∧ l[k]? = some q ∧
    p.1 = q.1 ∧ gapM p.2 q.2 s < r ∧ gapM q.2 p.2 s = gapM p.2 q.2 s := by
  have hx := List.getElem?_eq_getElem hj
  obtain ⟨i, k, p, q, e, h1, h2, hp, hq, h3, h4⟩ := tooM_two (List.mem_of_getElem? hx)
  exact ⟨i, k, p, q, by rw [hx, e]; rfl, h1, h2, hp, hq, h3, by rw [cyl_gap hc hp hq]; exact h4, by rw [cyl_gap hc hp hq, cyl_gap hc hq hp, gapG_symm]⟩

set_option maxHeartbeats 8000000 in
set_option maxRecDepth 1000000 in
theorem seams_walk {w : World} {v : Value} {n : Nat} (hC : Code w w.heap.size v n) :
    Calls Try.prog 3 #[v] w fun e w' => e = .returned (.bool true) ∧ Below w.heap.size w w' := by
  by_cases hbig : 1048576 < n
  · go_enter Try.func3, Try.ntmps3
    go_wp2_with fail
    refine (big_yes hC hbig).mono ?_
    rintro e w1 ⟨rfl, rfl⟩
    go_wp2
    go_ret
    exact ⟨rfl, Below.refl _ _⟩
  · go_enter Try.func3, Try.ntmps3
    go_wp2_with fail
    refine (big_no hC hbig).mono ?_
    rintro e w0 ⟨rfl, rfl⟩
    go_wp2_with fail
    refine (drawcyl_any hC).mono ?_
    rintro e w1 ⟨s, t, l, vC, hD, rfl, hC_0, g_0⟩
    obtain ⟨hs4, ht1, hl9, hcyl⟩ := hD
    have HCY := Lib.hid hcyl
    obtain ⟨S, rfl⟩ := Int.eq_ofNat_of_zero_le (show 0 ≤ s by omega)
    obtain ⟨aC, cpC, rfl⟩ := ownS_slice hC_0
    have hbA : Below w1.heap.size w1 (w1.alloc (.cells #[.int .i64 (S : Int), .int .i64 t, .slice aC l.length cpC] 26)) := (Below.refl _ _).alloc (Nat.le_refl _) _
    have bC_1 : Box (w1.alloc (.cells #[.int .i64 (S : Int), .int .i64 t, .slice aC l.length cpC] 26)) w1.heap.size (S : Int) t (.slice aC l.length cpC) := box_new _ _ _ _ _
    have hC_1 := ownS_below hC_0 hbA
    have g_1 := bstep g_0 hbA
    clear hcyl hbA hC_0 g_0
    go_wp2_with fail
    generalize (w1.alloc (.cells #[.int .i64 (S : Int), .int .i64 t, .slice aC l.length cpC] 26)) = w2 at *
    generalize w1.heap.size = bC at *
    refine (atP_any 0 (by omega) (hC.below g_1) (by omega)).mono ?_
    rintro e wz ⟨x0, hx0, hx1, rfl, rfl⟩
    have ex0 : x0.tmod 6 = x0 % 6 := Int.tmod_eq_emod_of_nonneg hx0
    have ew1 : IntKind.i64.wrap (x0 % 6) = x0 % 6 := IntWalk.i64_in _ (by omega)
    have ew2 : IntKind.i64.wrap (1 + x0 % 6) = 1 + x0 % 6 := IntWalk.i64_in _ (by omega)
    go_upto_region 5 with fail
    obtain ⟨r, hr⟩ : ∃ r, r = 1 + x0 % 6 := ⟨_, rfl⟩
    rw [← hr]
    have hr1 : 1 ≤ r ∧ r ≤ 6 := by omega
    clear hr ew1 ew2 ex0
    -- the turned cylinder: a region that draws and makes a variable
    obtain ⟨-, n0, n1, n2⟩ := id bC_1
    have AT1 := Lib.hid (show ∀ (W : World), Code W w.heap.size v n → Calls Try.prog 12 #[v, .int .i64 1] W (fun e w' => ∃ x : Int, 0 ≤ x ∧ x ≤ 255 ∧ e = .returned (.int .i64 x) ∧ W = w') from fun W h => atP_any 1 (by omega) h (by omega))
    have HTS := Lib.hid (show ∀ (W : World) (U : Value) (d : Int), (0 ≤ d ∧ d ≤ 255) → Rd2 W U l → Calls Try.prog 13 #[.agg #[.int .i64 (S : Int), .int .i64 t, U], .int .i64 d] W (NewCyl W (S : Int) t (turnL (S : Int) d l)) from fun W U d hd h => by
      have := turnby_any (S : Int) t d h (by omega)
      rw [show turnM (S : Int) t l d = turnL (S : Int) d l from if_pos ⟨cylB_true.2 HCY.out, by omega⟩] at this
      exact this)
    have gd0 : Below w2.heap.size w2 w2.drew := (Below.refl _ _).drew
    have gd1 : Below w2.heap.size w2 (w2.alloc (.cells #[.int .i64 0, .int .i64 0, .slice none 0 0] 26)).drew := below_a w2 _
    have hd0 : Code w2.drew w.heap.size v n := hC.below g_1.drew
    have hd1 : Code (w2.alloc (.cells #[.int .i64 0, .int .i64 0, .slice none 0 0] 26)).drew w.heap.size v n := hC.below (g_1.alloc g_1.size _).drew
    have hd2 : Code (w2.drew.alloc (.cells #[.int .i64 0, .int .i64 0, .slice none 0 0] 26)) w.heap.size v n := hd1
    have nz0 := fun o : Obj => (old_cell ((Below.refl w2.heap.size w2).alloc (Nat.le_refl _) o) n0)
    have nz1 := fun o : Obj => (old_cell ((Below.refl w2.heap.size w2).alloc (Nat.le_refl _) o) n1)
    have nz2 := fun o : Obj => (old_cell ((Below.refl w2.heap.size w2).alloc (Nat.le_refl _) o) n2)
    go_cut [5] from 24 to 27 (fun s5 wx => ∃ (d : Int) (b : Nat) (aT : Option Addr) (cpT : Nat), s5 = .pointer (some ⟨b, 0, none⟩) ∧ Laid w2 wx (S : Int) t b (.slice aT (turnL (S : Int) d l).length cpT) (turnL (S : Int) d l))
    case first =>
      go_region_held3 (fun w' => w'.cell? ⟨bC, 0, none⟩ = some (.int .i64 (S : Int)) ∧ w'.cell? ⟨bC, 1, none⟩ = some (.int .i64 t) ∧ w'.cell? ⟨bC, 2, none⟩ = some (.slice aC l.length cpC)) (go_keep)
        ((first
            | (go_at_call 12; (with_reducible refine (AT1.out _ ?atg1).mono ?_); (case atg1 => first | exact hd0 | exact hd1 | exact hd2); rintro e wa ⟨d, hdl, hdu, rfl, rfl⟩)
            | (go_at_call 13; refine (HTS.out _ _ d ⟨hdl, hdu⟩ (Rd.of_own (ownS_below hC_1 (by first | exact gd0 | exact gd1)))).mono ?_; rintro e wc ⟨vc, rfl, hvc, hbc⟩; have hCC : Below w2.heap.size w2 wc := (by first | exact below_undrew hbc | exact bstep gd1 hbc); have hvd : wc.ownsRow w2.heap.size 36 2 vc (turnL (S : Int) d l).length (flat2 (turnL (S : Int) d l)) := (by first | exact hvc | exact own_low hvc gd1.size); obtain ⟨ac, cpc, rfl⟩ := ownS_slice hvd; have u0 := old_cell hCC n0; have u1 := old_cell hCC n1; have u2 := old_cell hCC n2; (first
                | (have bz3 := BoxW.below (show BoxW (w2.alloc (.cells #[.int .i64 0, .int .i64 0, .slice none 0 0] 26)).drew w2.heap.size (.int .i64 0) (.int .i64 0) (.slice none 0 0) from boxw_new w2 (.int .i64 0) (.int .i64 0) (.slice none 0 0) 26) hbc; have e0 := Nat.ne_of_gt (World.block_lt_of_cell? w2 _ n0); have e1 := Nat.ne_of_gt (World.block_lt_of_cell? w2 _ n1); have e2 := Nat.ne_of_gt (World.block_lt_of_cell? w2 _ n2); obtain ⟨-, ⟨z0, z1, z2⟩, zf⟩ := id bz3; have zf0 := zf 0; have zf1 := zf 1; have zf2 := zf 2; have y0 := (set3_cell wc _ (.int .i64 (S : Int)) (.int .i64 t) (.slice ac (turnL (S : Int) d l).length cpc) e0).trans u0; have y1 := (set3_cell wc _ (.int .i64 (S : Int)) (.int .i64 t) (.slice ac (turnL (S : Int) d l).length cpc) e1).trans u1; have y2 := (set3_cell wc _ (.int .i64 (S : Int)) (.int .i64 t) (.slice ac (turnL (S : Int) d l).length cpc) e2).trans u2; have zk : (Value.slice ac (turnL (S : Int) d l).length cpc).ownBlock ≠ some w2.heap.size := ob_of_lt hvc (show w2.heap.size < (w2.alloc (.cells #[.int .i64 0, .int .i64 0, .slice none 0 0] 26)).drew.heap.size by simp); have HF := laid_store (s := (S : Int)) (t := t) bz3 hvd (Nat.le_refl _) zk hCC (Nat.le_refl _))
                | (have HF := laid_alloc (s := (S : Int)) (t := t) 26 hvd (Nat.le_refl _) hCC)))))
      all_goals (go_wp2_with fail; go_meet; exact ⟨d, _, ac, cpc, rfl, HF⟩)
    case rest =>
    obtain ⟨d, bT, aT, cpT, rfl, bT_1, hT_1, hb2, -, -⟩ := hcut
    clear gd0 gd1 hd0 hd1 hd2 nz0 nz1 nz2 n0 n1 n2 AT1 HTS
    have bC_2 := bC_1.below hb2
    have hC_2 := ownS_below hC_1 hb2
    have g_2 := bstep g_1 hb2
    clear bC_1 hC_1 g_1 hb2
    have hr96 : 1 ≤ r ∧ r ≤ 96 := by omega
    have HTC := Lib.hid (turn_cyl d HCY.out)
    have HTL := Lib.hid (tooM_turn d HCY.out hr96)
    have HTN := Lib.hid (closM_turn d HCY.out)
    have HCT := Lib.hid (show ∀ (W : World) (U : Value), Rd2 W U (turnL (S : Int) d l) → Calls Try.prog 15 #[.agg #[.int .i64 (S : Int), .int .i64 t, U]] W (fun e w' => e = .returned (.int .i64 (closM (S : Int) t l)) ∧ Below W.heap.size W w') from fun W U h => by
      have := iclose_any (S : Int) t h
      rw [HTN.out] at this; exact this)
    have HTT := Lib.hid (show ∀ (W : World) (U : Value), Rd2 W U (turnL (S : Int) d l) → Calls Try.prog 14 #[.agg #[.int .i64 (S : Int), .int .i64 t, U], .int .i64 r] W (fun e w' => ∃ a c, e = .returned (.slice a (tooM (S : Int) t l r).length c) ∧ Below W.heap.size W w') from fun W U h => (itoo_any (S : Int) t r h).mono fun e w' ⟨v, us, he, ho, hb⟩ => by
      obtain ⟨a, c, rfl⟩ := ho.rd.slice
      exact ⟨a, c, by rw [he, HTL.out], hb⟩)
    have HPL := Lib.hid (show ∀ (W : World) (U : Value), Rd2 W U l → Calls Try.prog 16 #[.agg #[.int .i64 (S : Int), .int .i64 t, U], .int .i64 r] W (fun e w' => e = .returned (.bool (decide ((tooM (S : Int) t l r).length = 0))) ∧ Below W.heap.size W w') from fun W U h => by
      have := iplay_any (S : Int) t r h
      rw [playM_len HCY.out hr96] at this; exact this)
    have HON := Lib.hid (fun (W : World) (U : Value) (h : Rd2 W U l) => ionly_any (S : Int) t r h)
    have HZ := Lib.hid (tooM_zero HCY.out hr96)
    have hN := closM_pos HCY.out
    have HM := Lib.hid (tooM_len (s := (S : Int)) (t := t) (r := r) (l := l))
    have HRW : Hid (∀ {j : Nat}, j < (tooM (S : Int) t l r).length → ∃ (i k : Nat) (p q : Int × Int), (tooM (S : Int) t l r)[j]? = some [(i : Int), (k : Int)] ∧ i < k ∧ k < l.length ∧ l[i]? = some p ∧ l[k]? = some q ∧ p.1 = q.1 ∧ gapM p.2 q.2 (S : Int) < r ∧ gapM q.2 p.2 (S : Int) = gapM p.2 q.2 (S : Int)) := Lib.hid (too_row HCY.out)
    have HBO : Hid ((tooM (S : Int) t l r).length = 0 → onlyM (S : Int) t l r = false) := Lib.hid fun e => onlyM_none (List.length_eq_zero_iff.1 e)
    clear HTN HTL HTC hr96
    generalize turnL (S : Int) d l = T at *
    -- TooClose(c, r)
    obtain ⟨-, m0, m1, m2⟩ := id bC_2
    go_wp2_with fail
    clear m0 m1 m2
    refine (itoo_any (S : Int) t r (Rd.of_own hC_2)).mono ?_
    rintro e w3 ⟨v3, us, rfl, hO, hb3⟩
    have hR_3 := hO.rd
    obtain ⟨aL, cL, rfl⟩ := hR_3.slice
    have bC_3 := bC_2.below hb3
    have bT_3 := bT_1.below hb3
    have hC_3 := ownS_below hC_2 hb3
    have hT_3 := ownS_below hT_1 hb3
    have g_3 := bstep g_2 hb3
    clear bC_2 bT_1 hC_2 hT_1 g_2 hb3 hO
    generalize tooM (S : Int) t l r = ll at *
    generalize onlyM (S : Int) t l r = bo at *
    have hm := HM.out
    -- ClosestPins(c)
    obtain ⟨-, m0, m1, m2⟩ := id bC_3
    go_wp2_with fail
    clear m0 m1 m2
    refine (iclose_any (S : Int) t (Rd.of_own hC_3)).mono ?_
    rintro e w4 ⟨rfl, hb4⟩
    generalize closM (S : Int) t l = N at *
    have hR_4 := hR_3.below hb4
    have bC_4 := bC_3.below hb4
    have bT_4 := bT_3.below hb4
    have hC_4 := ownS_below hC_3 hb4
    have hT_4 := ownS_below hT_3 hb4
    have g_4 := bstep g_3 hb4
    clear bC_3 bT_3 hC_3 hT_3 g_3 hb4 hR_3
    have hn1 : ¬ N < 1 := by omega
    have hnd : decide (N < 1) = false := decide_eq_false hn1
    obtain ⟨-, m0, m1, m2⟩ := id bC_4
    obtain ⟨-, m3, m4, m5⟩ := id bT_4
    go_upto_region 8 with fail
    go_cut [73] from 33 to 73 (fun s73 wx => s73 = .bool false ∧ Below w4.heap.size w4 wx)
    case first =>
      have key : (r ≤ N ∧ ll.length = 0) ∨ (¬ r ≤ N ∧ N = (S : Int) ∧ ll.length = 0) ∨ (¬ r ≤ N ∧ ¬ N = (S : Int) ∧ ¬ ll.length = 0) := by
        by_cases h1 : r ≤ N
        · exact Or.inl ⟨h1, HZ.out.2 (Or.inl h1)⟩
        · by_cases h2 : N = (S : Int)
          · exact Or.inr (Or.inl ⟨h1, h2, HZ.out.2 (Or.inr h2)⟩)
          · exact Or.inr (Or.inr ⟨h1, h2, fun e => (HZ.out.1 e).elim h1 h2⟩)
      rcases key with ⟨h1, h0⟩ | ⟨h1, h2, h0⟩ | ⟨h1, h2, h0⟩
      · have hzb : ((ll.length : Int) == 0) = true := by rw [h0]; rfl
        have HPT := Lib.hid (show decide (ll.length = 0) = true from decide_eq_true h0)
        have hd : decide (r ≤ N) = true := decide_eq_true h1
        clear h0
        go_wp2_with fail
        clear m0 m1 m2 m3 m4 m5
        refine (HCT.out _ _ (Rd.of_own hT_4)).mono ?_
        rintro e w5 ⟨rfl, hb5⟩
        obtain ⟨-, m3, m4, m5⟩ := bT_4.below hb5
        go_wp2_with fail
        clear m3 m4 m5
        refine (HTT.out _ _ (Rd.of_own (ownS_below hT_4 hb5))).mono ?_
        rintro e w6 ⟨a6, c6, rfl, hb6⟩
        have hb7 := bstep hb5 hb6
        obtain ⟨-, m0, m1, m2⟩ := bC_4.below hb7
        go_wp2_with fail
        clear m0 m1 m2
        refine (HPL.out _ _ (Rd.of_own (ownS_below hC_4 hb7))).mono ?_
        rw [HPT.out]
        rintro e w7 ⟨rfl, hb8⟩
        have hb9 := bstep hb7 hb8
        obtain ⟨-, m0, m1, m2⟩ := bC_4.below hb9
        go_wp2_with fail
        go_meet
        exact ⟨rfl, hb9⟩
      · have hzb : ((ll.length : Int) == 0) = true := by rw [h0]; rfl
        have HPT := Lib.hid (show decide (ll.length = 0) = true from decide_eq_true h0)
        have hd : decide (r ≤ N) = false := decide_eq_false h1
        have hNS : (N == (S : Int)) = true := by rw [h2]; simp
        clear h0 h2
        go_wp2_with fail
        clear m0 m1 m2 m3 m4 m5
        refine (HCT.out _ _ (Rd.of_own hT_4)).mono ?_
        rintro e w5 ⟨rfl, hb5⟩
        obtain ⟨-, m3, m4, m5⟩ := bT_4.below hb5
        go_wp2_with fail
        clear m3 m4 m5
        refine (HTT.out _ _ (Rd.of_own (ownS_below hT_4 hb5))).mono ?_
        rintro e w6 ⟨a6, c6, rfl, hb6⟩
        have hb7 := bstep hb5 hb6
        obtain ⟨-, m0, m1, m2⟩ := bC_4.below hb7
        go_wp2_with fail
        clear m0 m1 m2
        refine (HPL.out _ _ (Rd.of_own (ownS_below hC_4 hb7))).mono ?_
        rw [HPT.out]
        rintro e w7 ⟨rfl, hb8⟩
        have hb9 := bstep hb7 hb8
        obtain ⟨-, m0, m1, m2⟩ := bC_4.below hb9
        go_wp2_with fail
        go_meet
        exact ⟨rfl, hb9⟩
      · have hzb : ((ll.length : Int) == 0) = false := by rw [beq_eq_false_iff_ne]; omega
        have HPT := Lib.hid (show decide (ll.length = 0) = false from decide_eq_false h0)
        have hd : decide (r ≤ N) = false := decide_eq_false h1
        have hNS : (N == (S : Int)) = false := by rw [beq_eq_false_iff_ne]; exact h2
        go_wp2_with fail
        clear m0 m1 m2 m3 m4 m5
        refine (HCT.out _ _ (Rd.of_own hT_4)).mono ?_
        rintro e w5 ⟨rfl, hb5⟩
        obtain ⟨-, m3, m4, m5⟩ := bT_4.below hb5
        go_wp2_with fail
        clear m3 m4 m5
        refine (HTT.out _ _ (Rd.of_own (ownS_below hT_4 hb5))).mono ?_
        rintro e w6 ⟨a6, c6, rfl, hb6⟩
        have hb7 := bstep hb5 hb6
        obtain ⟨-, m0, m1, m2⟩ := bC_4.below hb7
        go_wp2_with fail
        clear m0 m1 m2
        refine (HPL.out _ _ (Rd.of_own (ownS_below hC_4 hb7))).mono ?_
        rw [HPT.out]
        rintro e w7 ⟨rfl, hb8⟩
        have hb9 := bstep hb7 hb8
        obtain ⟨-, m0, m1, m2⟩ := bC_4.below hb9
        go_wp2_with fail
        go_meet
        exact ⟨rfl, hb9⟩
    case rest =>
    obtain ⟨rfl, hb9⟩ := hcut
    have hR_5 := hR_4.below hb9
    have bC_5 := bC_4.below hb9
    have hC_5 := ownS_below hC_4 hb9
    have g_5 := bstep g_4 hb9
    clear bC_4 bT_4 hC_4 hT_4 g_4 hb9 hR_4 m0 m1 m2 m3 m4 m5 HCT HTT HPL HZ hn1 hnd
    -- the pairs, one by one
    go_wp2_with fail
    go_loopw [8] (fun v8 wr => ∃ j : Nat, j ≤ ll.length ∧ v8 = .int .i64 (j : Int) ∧ Below wc.heap.size wc wr) (fun v8 _ => ll.length - (intOf v8).toNat)
    case atStart => exact ⟨0, Nat.zero_le _, rfl, Below.refl _ _⟩
    case round =>
      obtain ⟨j, hj, rfl, hbr⟩ := hrel
      by_cases hlt : j < ll.length
      · obtain ⟨-, m0, m1, m2⟩ := bC_5.below hbr
        obtain ⟨i, k, p, q, hx, hik, hkl, hp, hq, he, hgr, hgs⟩ := HRW.out hlt
        obtain ⟨b3, o3, c4, u, -, hv3, x3, hu⟩ := (hR_5.below hbr).cell hx
        simp only [Value.slice.injEq, true_and] at hv3
        obtain ⟨rfl, rfl⟩ := hv3
        obtain ⟨b4, o4, c5, rfl, z0, z1⟩ := Rd1.two hu
        obtain ⟨b1, o1, c1, hv1, x1, y1⟩ := Rd2.cells (Rd.of_own (ownS_below hC_5 hbr)) hp
        simp only [Value.slice.injEq, true_and] at hv1
        obtain ⟨rfl, rfl⟩ := hv1
        obtain ⟨b2, o2, c2, hv2, x2, y2⟩ := Rd2.cells (Rd.of_own (ownS_below hC_5 hbr)) hq
        simp only [Value.slice.injEq, true_and, Option.some.injEq, Addr.mk.injEq, and_true] at hv2
        obtain ⟨⟨rfl, rfl⟩, rfl⟩ := hv2
        have hil : i < l.length := by omega
        have hi0 : decide ((i : Int) < 0) = false := decide_eq_false (by omega)
        have hkd : decide ((l.length : Int) ≤ (k : Int)) = false := decide_eq_false (by omega)
        have hkd' : decide (l.length ≤ k) = false := decide_eq_false (by omega)
        have hid : decide ((k : Int) ≤ (i : Int)) = false := decide_eq_false (by omega)
        have hid' : decide (k ≤ i) = false := decide_eq_false (by omega)
        have hnt : (p.1 != q.1) = false := by rw [he]; simp
        have hgd : decide (r ≤ gapM p.2 q.2 (S : Int)) = false := decide_eq_false (by omega)
        have HGS := Lib.hid hgs
        clear hx hp hq hu he hgs
        go_wp2_with fail
        go_quiet (fail)
        obtain ⟨W2, hW2⟩ : ∃ W : World, W = wr.drewN nq := ⟨_, rfl⟩
        have hb2 : Below wr.heap.size wr W2 := by rw [hW2]; exact below_drewN (Below.refl _ _) _
        rw [← hW2]
        have j0 := old_cell hb2 m0
        have j2 := old_cell hb2 m2
        have j3 := old_cell hb2 x3
        have j4 := old_cell hb2 z0
        have j5 := old_cell hb2 z1
        have j6 := old_cell hb2 x1
        have j7 := old_cell hb2 y1
        have j8 := old_cell hb2 x2
        have j9 := old_cell hb2 y2
        have hbW := bstep hbr hb2
        clear hW2 hb2 hbr m0 m1 m2 x1 y1 x2 y2 x3 z0 z1 hi0 hkd hkd' hid hid'
        go_wp2_with fail
        go_region_held3 (fun w' => w'.cell? ⟨bC, 2, none⟩ = some (.slice (some ⟨b1, o1, none⟩) l.length cpC) ∧ w'.cell? ⟨b3, o3 + j, none⟩ = some (.slice (some ⟨b4, o4, none⟩) 2 c5) ∧ w'.cell? ⟨b4, o4, none⟩ = some (.int .i64 (i : Int)) ∧ w'.cell? ⟨b1, o1 + i * 2, none⟩ = some (.int .i64 p.1) ∧ w'.cell? ⟨b1, o1 + i * 2 + 1, none⟩ = some (.int .i64 p.2)) (go_keep) (fail)
        have hbp := below_a W2 (.cells #[.int .i64 p.1, .int .i64 p.2] 36)
        have p0 : (W2.alloc (.cells #[.int .i64 p.1, .int .i64 p.2] 36)).drew.cell? ⟨W2.heap.size, 0, none⟩ = some (.int .i64 p.1) := cell0 _ _ _ _
        have p1 : (W2.alloc (.cells #[.int .i64 p.1, .int .i64 p.2] 36)).drew.cell? ⟨W2.heap.size, 1, none⟩ = some (.int .i64 p.2) := cell0 _ _ _ _
        generalize (W2.alloc (.cells #[.int .i64 p.1, .int .i64 p.2] 36)).drew = W3 at *
        have i0 := old_cell hbp j0
        have i2 := old_cell hbp j2
        have i3 := old_cell hbp j3
        have i5 := old_cell hbp j5
        have i8 := old_cell hbp j8
        have i9 := old_cell hbp j9
        have hbX := bstep hbW hbp
        generalize W2.heap.size = bp at *
        clear j0 j2 j3 j4 j5 j6 j7 j8 j9 hbW hbp
        go_wp2_with fail
        go_region_held3 (fun w' => w'.cell? ⟨bC, 2, none⟩ = some (.slice (some ⟨b1, o1, none⟩) l.length cpC) ∧ w'.cell? ⟨b3, o3 + j, none⟩ = some (.slice (some ⟨b4, o4, none⟩) 2 c5) ∧ w'.cell? ⟨b4, o4 + 1, none⟩ = some (.int .i64 (k : Int)) ∧ w'.cell? ⟨b1, o1 + k * 2, none⟩ = some (.int .i64 q.1) ∧ w'.cell? ⟨b1, o1 + k * 2 + 1, none⟩ = some (.int .i64 q.2)) (go_keep) (fail)
        have hbq := below_a W3 (.cells #[.int .i64 q.1, .int .i64 q.2] 36)
        have q0 : (W3.alloc (.cells #[.int .i64 q.1, .int .i64 q.2] 36)).drew.cell? ⟨W3.heap.size, 0, none⟩ = some (.int .i64 q.1) := cell0 _ _ _ _
        have q1 : (W3.alloc (.cells #[.int .i64 q.1, .int .i64 q.2] 36)).drew.cell? ⟨W3.heap.size, 1, none⟩ = some (.int .i64 q.2) := cell0 _ _ _ _
        generalize (W3.alloc (.cells #[.int .i64 q.1, .int .i64 q.2] 36)).drew = W4 at *
        have k0 := old_cell hbq i0
        have r0 := old_cell hbq p0
        have r1 := old_cell hbq p1
        have hbY := bstep hbX hbq
        generalize W3.heap.size = bq at *
        clear i0 i2 i3 i5 i8 i9 hbX hbq p0 p1
        go_wp2_with fail
        refine (igap_any p.2 q.2 (S : Int) _).mono ?_
        rintro e w9 ⟨rfl, rfl⟩
        go_wp2_with fail
        refine (igap_any q.2 p.2 (S : Int) _).mono ?_
        rintro e w9' ⟨rfl, rfl⟩
        rw [HGS.out]
        generalize gapM p.2 q.2 (S : Int) = g at *
        go_wp2
        go_roundw
        case rel => exact ⟨j + 1, by omega, by go_num, hbY⟩
        case measure => simp [intOf]; omega
      · obtain rfl : j = ll.length := by omega
        have g_6 := bstep g_5 hbr
        have bC_6 := bC_5.below hbr
        have hC_6 := ownS_below hC_5 hbr
        clear bC_5 hC_5 hR_5 g_5 hbr HRW
        obtain ⟨-, m0, m1, m2⟩ := id bC_6
        go_wp2_with fail
        clear m0 m1 m2
        refine (iquiet_any (S : Int) t (Rd.of_own hC_6)).mono ?_
        rintro e w6 ⟨rfl, hb6⟩
        have HQ := Lib.hid (quietM_facts HCY.out)
        have g_7 := bstep g_6 hb6
        have bC_7 := bC_6.below hb6
        have hC_7 := ownS_below hC_6 hb6
        clear bC_6 hC_6 g_6 hb6
        generalize quietM (S : Int) t l = Q at *
        have HPA := Lib.hid (show ∀ (W : World) (U : Value) (a : Int), (0 ≤ a ∧ a < (S : Int)) → Rd2 W U l → Calls Try.prog 20 #[.agg #[.int .i64 (S : Int), .int .i64 t, U], .int .i64 a] W (NewInts W (pinsL l a)) from fun W U a ha h => by
          have := pinsat_any (S : Int) t a h
          rw [show pinsM (S : Int) t l a = pinsL l a by rw [show pinsM (S : Int) t l a = pinsL l (a % (S : Int)) from if_pos ⟨cylB_true.2 HCY.out, by omega⟩, Int.emod_eq_of_lt ha.1 ha.2]] at this
          exact this)
        go_wp2_with fail
        go_loopw [13, 14] (fun v13 v14 wx => ∃ a : Nat, a ≤ S ∧ v14 = .int .i64 (a : Int) ∧ v13 = .int .i64 ((usedN l a : Nat) : Int) ∧ Below w6.heap.size w6 wx) (fun _ v14 _ => S - (intOf v14).toNat)
        case atStart => exact ⟨0, Nat.zero_le _, rfl, rfl, Below.refl _ _⟩
        case round =>
          obtain ⟨a, ha, rfl, rfl, hbr⟩ := hrel
          obtain ⟨-, m0, m1, m2⟩ := bC_7.below hbr
          have hul := usedN_le l a
          by_cases hlt : a < S
          · go_wp2_with fail
            clear m0 m1 m2
            refine (HPA.out _ _ (a : Int) (by omega) (Rd.of_own (ownS_below hC_7 hbr))).mono ?_
            rintro e w8 ⟨v8, rfl, ho8, hb8⟩
            obtain ⟨a8, c8, rfl⟩ := ownS_slice ho8
            have hpl := pinsL_len l (a : Int)
            have hb9 := bstep hbr hb8
            clear ho8 hb8 hbr
            by_cases hp : 0 < (pinsL l (a : Int)).length
            · have HU := Lib.hid (usedN_yes hp)
              have hd : decide (0 < (pinsL l (a : Int)).length) = true := decide_eq_true hp
              have hd' : decide ((0 : Int) < ((pinsL l (a : Int)).length : Int)) = true := decide_eq_true (by omega)
              generalize (pinsL l (a : Int)).length = pl at *
              go_wp2_with fail
              refine (btoi_yes _).mono ?_
              rintro e w9 ⟨rfl, rfl⟩
              go_wp2
              go_roundw
              case rel => exact ⟨a + 1, by omega, by go_num, by rw [HU.out]; go_num, hb9⟩
              case measure => simp [intOf]; omega
            · have HU := Lib.hid (usedN_no hp)
              have hd : decide (0 < (pinsL l (a : Int)).length) = false := decide_eq_false hp
              have hd' : decide ((0 : Int) < ((pinsL l (a : Int)).length : Int)) = false := decide_eq_false (by omega)
              generalize (pinsL l (a : Int)).length = pl at *
              go_wp2_with fail
              refine (btoi_no _).mono ?_
              rintro e w9 ⟨rfl, rfl⟩
              go_wp2
              go_roundw
              case rel => exact ⟨a + 1, by omega, by go_num, by rw [HU.out], hb9⟩
              case measure => simp [intOf]; omega
          · obtain rfl : a = S := by omega
            have g_8 := bstep g_7 hbr
            have bC_8 := bC_7.below hbr
            have hC_8 := ownS_below hC_7 hbr
            clear bC_7 hC_7 g_7 hbr
            generalize usedN l a = U at *
            go_upto_region 27 with fail
            have hZ_8 := seam_row wr (.cells #[.int .i64 12, .int .i64 1, .slice (some ⟨wr.heap.size, 0, none⟩) 2 2] 26)
            have hbZ : Below wr.heap.size wr ((wr.alloc (.cells #[.int .i64 0, .int .i64 0, .int .i64 0, .int .i64 11] 36)).alloc (.cells #[.int .i64 12, .int .i64 1, .slice (some ⟨wr.heap.size, 0, none⟩) 2 2] 26)) := ((Below.refl _ _).alloc (Nat.le_refl _) _).alloc (by simp) _
            have bZ_8 : Box ((wr.alloc (.cells #[.int .i64 0, .int .i64 0, .int .i64 0, .int .i64 11] 36)).alloc (.cells #[.int .i64 12, .int .i64 1, .slice (some ⟨wr.heap.size, 0, none⟩) 2 2] 26)) (wr.heap.size + 1) 12 1 (.slice (some ⟨wr.heap.size, 0, none⟩) 2 2) := by
              have := box_new (wr.alloc (.cells #[.int .i64 0, .int .i64 0, .int .i64 0, .int .i64 11] 36)) 12 1 (.slice (some ⟨wr.heap.size, 0, none⟩) 2 2) 26
              rw [size_alloc] at this; exact this
            generalize ((wr.alloc (.cells #[.int .i64 0, .int .i64 0, .int .i64 0, .int .i64 11] 36)).alloc (.cells #[.int .i64 12, .int .i64 1, .slice (some ⟨wr.heap.size, 0, none⟩) 2 2] 26)) = W8 at *
            have bC_9 := bC_8.below hbZ
            have hC_9 := ownS_below hC_8 hbZ
            have g_9 := bstep g_8 hbZ
            clear bC_8 hC_8 g_8 hbZ
            generalize wr.heap.size = bZ at *
            have bC_8 := bC_9
            have hC_8 := hC_9
            have g_8 := g_9
            clear bC_9 hC_9 g_9
            have HSO := Lib.hid (show ∀ (W : World) (U : Value), Rd2 W U [(0, 0), (0, 11)] → Calls Try.prog 21 #[.agg #[.int .i64 12, .int .i64 1, U], .int .i64 2] W (fun e w' => e = .returned (.bool true) ∧ Below W.heap.size W w') from fun W U h => by
              have := ionly_any 12 1 2 h
              rw [seam_only] at this; exact this)
            have HSP := Lib.hid (show ∀ (W : World) (U : Value), Rd2 W U [(0, 0), (0, 11)] → Calls Try.prog 16 #[.agg #[.int .i64 12, .int .i64 1, U], .int .i64 2] W (fun e w' => e = .returned (.bool false) ∧ Below W.heap.size W w') from fun W U h => by
              have := iplay_any 12 1 2 h
              rw [seam_play] at this; exact this)
            obtain ⟨-, m0, m1, m2⟩ := id bC_8
            obtain ⟨-, q0, q1, q2⟩ := id bZ_8
            have ways : (Q = -1 ∧ U = a) ∨ (Q = 0 ∧ ¬ U = a ∧ pinsL l 0 = []) ∨ (0 < Q ∧ ¬ U = a ∧ pinsL l Q = [] ∧ 0 < (pinsL l (Q - 1)).length) ∨ (0 < Q ∧ ¬ U = a ∧ pinsL l Q = [] ∧ ¬ 0 < (pinsL l (Q - 1)).length ∧ U = 0) := by
              obtain ⟨h1, h2, h3, h4⟩ := HQ.out
              by_cases e1 : Q = -1
              · exact Or.inl ⟨e1, h1.1 e1⟩
              · have hu : ¬ U = a := fun e => e1 (h1.2 e)
                by_cases e2 : Q = 0
                · subst e2; exact Or.inr (Or.inl ⟨rfl, hu, h3 (by omega)⟩)
                · by_cases e3 : 0 < (pinsL l (Q - 1)).length
                  · exact Or.inr (Or.inr (Or.inl ⟨by omega, hu, h3 (by omega), e3⟩))
                  · exact Or.inr (Or.inr (Or.inr ⟨by omega, hu, h3 (by omega), e3, (h4 (by omega)).resolve_left e3⟩))
            have hQb := HQ.out.2.1
            clear HQ
            rcases ways with ⟨hq, hu⟩ | ⟨hq, hu, hp0⟩ | ⟨hq, hu, hp0, hp1⟩ | ⟨hq, hu, hp0, hp1, hu0⟩
            focus
              subst hq
              have hub : ((U : Int) == (a : Int)) = true := by rw [hu]; simp
              clear hu
              go_wp2_with fail
              have HB := Lib.hid (Below.refl W8.heap.size W8)
            rotate_left
            focus
              subst hq
              have hub : ((U : Int) == (a : Int)) = false := by rw [beq_eq_false_iff_ne]; omega
              clear hu
              go_wp2_with fail
              clear m0 m1 m2 q0 q1 q2
              refine (HPA.out _ _ 0 (by omega) (Rd.of_own hC_8)).mono ?_
              rw [hp0]
              rintro e wA ⟨vA, rfl, hoA, hbA⟩
              obtain ⟨aA, cA, rfl⟩ := ownS_slice hoA
              have HB := Lib.hid hbA
              obtain ⟨-, m0, m1, m2⟩ := bC_8.below hbA
              obtain ⟨-, q0, q1, q2⟩ := bZ_8.below hbA
              clear hoA hbA
              go_wp2_with fail
            rotate_left
            focus
              have hub : ((U : Int) == (a : Int)) = false := by rw [beq_eq_false_iff_ne]; omega
              have hqm : (Q == -1) = false := by rw [beq_eq_false_iff_ne]; omega
              have hqz : (Q == 0) = false := by rw [beq_eq_false_iff_ne]; omega
              have hql : decide (Q < 0) = false := decide_eq_false (by omega)
              have ew : IntKind.i64.wrap (Q - 1) = Q - 1 := IntWalk.i64_in _ (by omega)
              have hd1 : decide (0 < (pinsL l (Q - 1)).length) = true := decide_eq_true hp1
              have hd2 : decide ((0 : Int) < ((pinsL l (Q - 1)).length : Int)) = true := decide_eq_true (by omega)
              clear hu
              go_wp2_with fail
              clear m0 m1 m2 q0 q1 q2
              refine (HPA.out _ _ Q (by omega) (Rd.of_own hC_8)).mono ?_
              rw [hp0]
              rintro e wA ⟨vA, rfl, hoA, hbA⟩
              obtain ⟨aA, cA, rfl⟩ := ownS_slice hoA
              obtain ⟨-, m0, m1, m2⟩ := bC_8.below hbA
              obtain ⟨-, q0, q1, q2⟩ := bZ_8.below hbA
              clear hoA
              go_wp2_with fail
              clear m0 m1 m2 q0 q1 q2
              refine (HPA.out _ _ (Q - 1) (by omega) (Rd.of_own (ownS_below hC_8 hbA))).mono ?_
              rintro e wB ⟨vB, rfl, hoB, hbB⟩
              obtain ⟨aB, cB, rfl⟩ := ownS_slice hoB
              have HB := Lib.hid (bstep hbA hbB)
              obtain ⟨-, m0, m1, m2⟩ := bC_8.below HB.out
              obtain ⟨-, q0, q1, q2⟩ := bZ_8.below HB.out
              clear hoB hbA hbB
              generalize (pinsL l (Q - 1)).length = pl at *
              go_wp2_with fail
            rotate_left
            focus
              have hub : ((U : Int) == (a : Int)) = false := by rw [beq_eq_false_iff_ne]; omega
              have hqm : (Q == -1) = false := by rw [beq_eq_false_iff_ne]; omega
              have hqz : (Q == 0) = false := by rw [beq_eq_false_iff_ne]; omega
              have hql : decide (Q < 0) = false := decide_eq_false (by omega)
              have ew : IntKind.i64.wrap (Q - 1) = Q - 1 := IntWalk.i64_in _ (by omega)
              have hd1 : decide (0 < (pinsL l (Q - 1)).length) = false := decide_eq_false hp1
              have hd2 : decide ((0 : Int) < ((pinsL l (Q - 1)).length : Int)) = false := decide_eq_false (by omega)
              have hu0b : ((U : Int) == 0) = true := by rw [hu0]; rfl
              clear hu hu0
              go_wp2_with fail
              clear m0 m1 m2 q0 q1 q2
              refine (HPA.out _ _ Q (by omega) (Rd.of_own hC_8)).mono ?_
              rw [hp0]
              rintro e wA ⟨vA, rfl, hoA, hbA⟩
              obtain ⟨aA, cA, rfl⟩ := ownS_slice hoA
              obtain ⟨-, m0, m1, m2⟩ := bC_8.below hbA
              obtain ⟨-, q0, q1, q2⟩ := bZ_8.below hbA
              clear hoA
              go_wp2_with fail
              clear m0 m1 m2 q0 q1 q2
              refine (HPA.out _ _ (Q - 1) (by omega) (Rd.of_own (ownS_below hC_8 hbA))).mono ?_
              rintro e wB ⟨vB, rfl, hoB, hbB⟩
              obtain ⟨aB, cB, rfl⟩ := ownS_slice hoB
              have HB := Lib.hid (bstep hbA hbB)
              obtain ⟨-, m0, m1, m2⟩ := bC_8.below HB.out
              obtain ⟨-, q0, q1, q2⟩ := bZ_8.below HB.out
              clear hoB hbA hbB
              generalize (pinsL l (Q - 1)).length = pl at *
              go_wp2_with fail
            rotate_left
            all_goals
              clear m0 m1 m2 q0 q1 q2
              refine (HSO.out _ _ (Rd.below hZ_8 HB.out)).mono ?_
              rintro e wE ⟨rfl, hbE⟩
              have HB2 := Lib.hid (bstep HB.out hbE)
              clear hbE
              obtain ⟨-, q0, q1, q2⟩ := bZ_8.below HB2.out
              go_wp2_with fail
              clear q0 q1 q2
              refine (HSP.out _ _ (Rd.below hZ_8 HB2.out)).mono ?_
              rintro e wF ⟨rfl, hbF⟩
              have HB3 := Lib.hid (bstep HB2.out hbF)
              obtain ⟨-, q0, q1, q2⟩ := bC_8.below HB3.out
              clear hbF
              go_wp2_with fail
              clear q0 q1 q2
              refine (HON.out _ _ (Rd.of_own (ownS_below hC_8 HB3.out))).mono ?_
              rintro e wG ⟨rfl, hbG⟩
              have g_9 := bstep g_8 (bstep HB3.out hbG)
              clear hbG
              cases bo with
              | false =>
                go_wp2
                go_ret
                exact ⟨rfl, g_9⟩
              | true =>
                have hne : ¬ ll.length = 0 := fun e => by have := HBO.out e; cases this
                have hd1 : decide (0 < ll.length) = true := decide_eq_true (by omega)
                have hd2 : decide ((0 : Int) < (ll.length : Int)) = true := decide_eq_true (by omega)
                go_wp2
                go_ret
                exact ⟨rfl, g_9⟩
end Go.Proofs.Ytpdjceafjdlknaa
