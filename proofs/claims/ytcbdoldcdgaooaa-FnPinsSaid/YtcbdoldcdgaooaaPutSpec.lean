/- The contract of the model's l06Put. No condition but the row's length. Made by mk_put.py. -/
import Derived.Test.YtcbdoldcdgaooaaPinApp
namespace Go.Proofs.Ytcbdoldcdgaooaa
open Go.ChangeShapes Go.WideShapes Go.ChangeAt Go.RowKit

theorem append_made {W : World} {v : Value} {o : List (Int × Int)} (h : Rd2 W v o) (hl : o.length ≤ 1048576) :
    ∃ v' w', (Builtin.append_ #[24, 24] 24 #[.slice (some ⟨W.heap.size, 0, none⟩) 0 0, v]).run Try.prog (W.alloc (.cells #[] 32)) = .ok v' w' ∧ w'.ownsRow W.heap.size 32 2 v' o.length (flat2 o) ∧ Below W.heap.size W w' := by
  have h0 : (W.alloc (.cells #[] 32)).ownsRow W.heap.size 32 2 (.slice (some ⟨W.heap.size, 0, none⟩) 0 0) 0 (flat2 []) := World.ownsRow_made W #[] 0 (Nat.le_refl _) (by simp) rfl
  have b0 : Below W.heap.size W (W.alloc (.cells #[] 32)) := (Below.refl _ _).alloc (Nat.le_refl _) _
  obtain ⟨v', w', e, ho, hg⟩ := append_rdP (xs := []) h0 (Rd.below h b0) (by omega) b0.size
  exact ⟨v', w', e, by simpa using ho, b0.grown hg b0.size fun k hk => (h0.lt k hk).1⟩

set_option maxRecDepth 100000 in
set_option maxHeartbeats 4000000 in
theorem put_some {w : World} {g3 cap3 : Nat} {o : List (Int × Int)} (x : Int × Int) (h : Rd2 w (.slice (some ⟨g3, 0, none⟩) o.length cap3) o) (hcap : o.length ≤ cap3) (hcm : cap3 ≤ maxLen) (hl : o.length ≤ 1000) :
    Calls Try.prog 74 #[.slice (some ⟨g3, 0, none⟩) o.length cap3, .agg #[.int .i64 x.1, .int .i64 x.2]] w (NewPinsB w (putP o x).1 (putP o x).2) := by
  unfold maxLen at hcm
  obtain ⟨hx0, hx1, hB0⟩ : (∀ ty, (w.alloc (.cells #[.int .i64 x.1, .int .i64 x.2] ty)).cell? ⟨w.heap.size, 0, none⟩ = some (.int .i64 x.1)) ∧ (∀ ty, (w.alloc (.cells #[.int .i64 x.1, .int .i64 x.2] ty)).cell? ⟨w.heap.size, 1, none⟩ = some (.int .i64 x.2)) ∧ (∀ o, Below w.heap.size w (w.alloc o)) := ⟨fun _ => cell0 _ _ _ _, fun _ => cell0 _ _ _ _, fun o => (Below.refl _ _).alloc (Nat.le_refl _) _⟩
  go_enter Try.func74, Try.ntmps74
  go_wp2_with fail
  obtain ⟨W0, hW⟩ : ∃ W, W = w.alloc (.cells #[.int .i64 x.1, .int .i64 x.2] 32) := ⟨_, rfl⟩
  have z0 := hx0 32
  have z1 := hx1 32
  have hb0 := hB0 (.cells #[.int .i64 x.1, .int .i64 x.2] 32)
  rw [← hW] at z0 z1 hb0 ⊢
  clear hW hx0 hx1 hB0
  obtain ⟨bx, hbx⟩ : ∃ b, b = w.heap.size := ⟨_, rfl⟩
  rw [← hbx] at z0 z1
  simp only [← hbx]
  clear hbx
  go_loopw [6] (fun v6 wr => ∃ a : Nat, a ≤ o.length ∧ v6 = .int .i64 a ∧ Below W0.heap.size W0 wr ∧ Hid (∀ i p, i < a → o[i]? = some p → pless p x = true)) (fun v6 _ => o.length - (intOf v6).toNat)
  case atStart => exact ⟨0, Nat.zero_le _, rfl, Below.refl _ _, Lib.hid fun i p hi => by omega⟩
  case round =>
    obtain ⟨a, ha, rfl, hbr, HA⟩ := hrel
    have hwr := bstep hb0 hbr
    have x2 := old_cell hbr z0
    have y2 := old_cell hbr z1
    clear z0 z1
    by_cases hlt : a < o.length
    · obtain ⟨p, hp⟩ : ∃ p, o[a]? = some p := ⟨_, List.getElem?_eq_getElem hlt⟩
      have HP := Lib.hid hp
      obtain ⟨b1, o1, c1, hv1, x1, y1⟩ := Rd2.cells (Rd.below h hwr) hp
      simp only [Value.slice.injEq, true_and, Option.some.injEq, Addr.mk.injEq, and_true] at hv1
      obtain ⟨⟨rfl, rfl⟩, rfl⟩ := hv1
      rw [Nat.zero_add] at x1 y1
      clear hp
      have m0 := fun n os => cell_grown (World.block_lt_of_cell? _ _ x2) x2 n os
      have m1 := fun n os => cell_grown (World.block_lt_of_cell? _ _ y2) y2 n os
      have q0 := fun n os => cell_grown (World.block_lt_of_cell? _ _ x1) x1 n os
      have q1 := fun n os => cell_grown (World.block_lt_of_cell? _ _ y1) y1 n os
      by_cases hls : pless p x = true
      · have HN : Hid (∀ i p, i < a + 1 → o[i]? = some p → pless p x = true) := Lib.hid fun i r hi hr => by
          by_cases hia : i < a
          · exact HA.out i r hia hr
          · obtain rfl : i = a := by omega
            have := HP.out; rw [this] at hr
            obtain rfl := Option.some.inj hr
            exact hls
        have HLS := Lib.hid hls; clear hls x1 y1 x2 y2
        go_wp2_with fail
        refine wp_region_quiet_grown (by kernel_rfl) (by kernel_rfl) ?_
        repeat (go_big_quiet_step ((go_at_call 116; refine grown_gr (v := .bool true) ?_; with_reducible exact pless_yes HLS.out _)))
        refine wpQuiet_nil ?_
        intro _ hw'
        obtain ⟨⟨nq, osq⟩, hw''⟩ := hw'
        subst hw''
        have hbe := bstep hbr (Gr.below ⟨nq, osq, rfl⟩ : Below wr.heap.size wr (Sort.grow (wr.drewN nq) osq))
        generalize Sort.grow (wr.drewN nq) osq = W2 at *
        clear q0 q1 m0 m1
        go_wp2
        go_roundw
        case rel => exact ⟨a + 1, by omega, by go_num, hbe, HN⟩
        case measure => simp [intOf]; omega
      · have HLS := Lib.hid (show pless p x = false by simpa using hls)
        have HRK := Lib.hid (rankP_of HA.out ha (fun r hr => by have := HP.out; rw [this] at hr; obtain rfl := Option.some.inj hr; exact HLS.out))
        clear hls
        have hb2 : ∀ n os, Below wr.heap.size wr (Sort.grow (wr.drewN n) os) := fun n os => Gr.below ⟨n, os, rfl⟩
        have HB2 := Lib.hid hb2; clear hb2
        go_wp2_with fail
        refine wp_region_quiet_grown (by kernel_rfl) (by kernel_rfl) ?_
        repeat (go_big_quiet_step ((go_at_call 116; refine grown_gr (v := .bool false) ?_; with_reducible exact pless_no HLS.out _)))
        refine wpQuiet_nil ?_
        intro _ hw'
        obtain ⟨⟨nq, osq⟩, hw''⟩ := hw'
        subst hw''
        have hbe := HB2.out nq osq
        have hwe := bstep hwr hbe
        have x3 := old_cell hbe x1
        have y3 := old_cell hbe y1
        have x4 := old_cell hbe x2
        have y4 := old_cell hbe y2
        generalize Sort.grow (wr.drewN nq) osq = W2 at *
        clear q0 q1 m0 m1 x1 y1 x2 y2 hbe hbr hwr hb0 HB2
        by_cases hpx : p = x
        · have HPUT := Lib.hid (putP_in (l := o) (x := x) (by rw [HRK.out, HP.out, hpx]))
          have heq := eql_yesP hpx
          go_wp2_with fail
          go_quiet (fail)
          obtain ⟨W, hW⟩ : ∃ W : World, W = W2.drewN nq := ⟨_, rfl⟩
          have hb4 : Below w.heap.size w W := by rw [hW]; exact below_drewN hwe _
          rw [← hW]
          clear hW x3 y3 x4 y4 heq hwe
          obtain ⟨v1, w3, E1, ho1, hb1⟩ := append_made (Rd.below h hb4) (by omega)
          go_wp2_with (at_builtin; refine wpList_append_runP rfl _ _ _ rfl _ _ _ rfl rfl E1 ?_)
          have ho2 := own_low ho1 hb4.size
          have hb5 := bstep hb4 hb1
          clear E1 ho1 hb1 hb4
          go_wp2
          go_ret2
          exact ⟨_, by rw [HPUT.out]; rfl, by rw [HPUT.out]; exact ho2, hb5⟩
        · have HPUT := Lib.hid (putP_out (l := o) (x := x) (by rw [HRK.out, HP.out]; exact fun e => hpx (Option.some.inj e)))
          rw [HRK.out] at HPUT
          have heq := eql_noP hpx
          go_wp2_with fail
          go_quiet (fail)
          go_wp2_with fail
          obtain ⟨W, hW⟩ : ∃ W : World, W = W2.drewN nq := ⟨_, rfl⟩
          have hb4 : Below w.heap.size w W := by rw [hW]; exact below_drewN hwe _
          have x5 : W.cell? ⟨bx, 0, none⟩ = some (.int .i64 x.1) := by rw [hW]; exact x4
          have y5 : W.cell? ⟨bx, 1, none⟩ = some (.int .i64 x.2) := by rw [hW]; exact y4
          rw [← hW]
          clear hW x3 y3 x4 y4 heq hwe
          have x4 := x5
          have y4 := y5
          clear x5 y5
          have hac1 : (a : Int) ≤ (cap3 : Int) := by omega
          have hac2 : (a : Int) ≤ (o.length : Int) := by omega
          have hac3 : (o.length : Int) ≤ (cap3 : Int) := by omega
          have hac4 : a < cap3 := by omega
          have hac5 : ¬ cap3 = a := by omega
          have hlt3 : (o.take a).length = a := by rw [List.length_take]; omega
          have HRO : Rd2 W _ o := Rd.below h hb4
          go_region_held3 (fun w' => w'.cell? ⟨bx, 0, none⟩ = some (.int .i64 x.1) ∧ w'.cell? ⟨bx, 1, none⟩ = some (.int .i64 x.2)) (go_keep)
            ((first
                | (refine step_append_notesP rfl (.tmp 36) (.tmp 39) rfl (below_a W _) (by rfl) (start_aP W) (o.take a) (by rfl) hlt3 (fun j u hj => kept_b (below_a W _) (rd_take HRO a j u hj)) (by omega) ?_
                   intro v1 w2 hv1 bv1 hg1
                   have q1 := kept_b bv1 x4
                   have q2 := kept_b bv1 y4)
                | (refine step_append_notesP rfl (.tmp 36) (.tmp 39) rfl (below_b W _ _) (by rfl) (start_cP W _) (o.take a) (by rfl) hlt3 (fun j u hj => kept_b (below_b W _ _) (rd_take HRO a j u hj)) (by omega) ?_
                   intro v1 w2 hv1 bv1 hg1
                   have q1 := kept_b bv1 x4
                   have q2 := kept_b bv1 y4
                   have hX := (xrow_cP W _ x).kept hg1 (Or.inr (by simp [Value.ownBlock])))
                | (refine step_append_notesP rfl (.tmp 40) (.tmp 42) rfl (bv1.alloc bv1.size _) (by rfl) (hv1.alloc _) [x] (by rfl) (by rfl) (fun j u hj => (one_row0P bv1 x).cells (by rfl) j u hj) (by omega) ?_
                   intro v2 w3 hv2 bv2 hg2
                   have q3 := kept_b bv2 x4
                   have q4 := kept_b bv2 y4)
                | (refine step_append_notesP rfl (.tmp 40) (.tmp 42) rfl bv1 (by rfl) hv1 [x] (by rfl) (by rfl) (fun j u hj => hX.cells (by rfl) j u hj) (by omega) ?_
                   intro v2 w3 hv2 bv2 hg2
                   have q3 := kept_b bv2 x4
                   have q4 := kept_b bv2 y4)
                | (refine step_append_notesP rfl (.tmp 43) (.tmp 46) rfl bv2 (by rfl) hv2 (ad := ⟨g3, a * 2, none⟩) (m := (o.length - a)) (c := cap3 - a) (o.drop a) (by first | rfl | ((conv => lhs; whnf); rw [if_neg hac5])) (by simp) (fun j u hj => kept_b bv2 (rd_drop HRO a j u hj)) (by omega) ?_
                   intro v3 w4 hv3 bv3 hg3
                   have q5 := kept_b bv3 x4
                   have q6 := kept_b bv3 y4)
                | (refine step_append_notesP rfl (.tmp 36) (.tmp 39) rfl (below_b W _ _) (by rfl) (start_bP W _) (o.take a) (by rfl) hlt3 (fun j u hj => kept_b (below_b W _ _) (rd_take HRO a j u hj)) (by omega) ?_
                   intro v1 w2 hv1 bv1 hg1
                   have q1 := kept_b bv1 x4
                   have q2 := kept_b bv1 y4
                   have hX := (xrow_bP W _ x).kept hg1 (Or.inr (by simp [Value.ownBlock])))))
          all_goals
            have hlen : (o.take a ++ [x] ++ o.drop a).length = a + 1 + (o.length - a) := by simp only [List.length_append, List.length_take, List.length_drop, List.length_cons, List.length_nil]; omega
            have hv5 : w4.ownsRow w.heap.size 32 2 v3 (o.take a ++ [x] ++ o.drop a).length (flat2 (o.take a ++ [x] ++ o.drop a)) := by
              have h := ownS_mono hv3 hb4.size
              rw [hlen]; simpa only [List.nil_append, Nat.zero_add] using h
            have hb5 := bstep hb4 bv3
            clear hlen hv3 hv2 hv1 hg1 hg2 hg3 bv1 bv2 bv3 q1 q2 q3 q4 q5 q6 hb4 x4 y4 HRO hac1 hac2 hac3 hac5 hlt3
            go_wp2
            go_ret2
            exact ⟨_, by rw [HPUT.out]; rfl, by rw [HPUT.out]; exact hv5, hb5⟩
    · have hae : a = o.length := by omega
      have HRK := Lib.hid (rankP_of HA.out ha (fun r hr => by rw [hae, List.getElem?_eq_none (Nat.le_refl _)] at hr; cases hr))
      have HPUT := Lib.hid (putP_out (l := o) (x := x) (by rw [HRK.out, hae, List.getElem?_eq_none (Nat.le_refl _)]; simp))
      rw [HRK.out] at HPUT
      subst hae
      have hdn : o.drop o.length = [] := List.drop_length
      have hn2 : ¬ (o.length : Int) < (o.length : Int) := by omega
      go_wp2_with fail
      go_quiet (fail)
      obtain ⟨W2, hW2⟩ : ∃ W : World, W = wr.drewN nq := ⟨_, rfl⟩
      have hb2 : Below wr.heap.size wr W2 := by rw [hW2]; exact below_drewN (Below.refl _ _) _
      rw [← hW2]
      clear hW2
      go_wp2_with fail
      go_quiet (fail)
      go_wp2_with fail
      obtain ⟨W, hW⟩ : ∃ W : World, W = W2.drewN nq := ⟨_, rfl⟩
      have hb3 : Below wr.heap.size wr W := by rw [hW]; exact below_drewN hb2 _
      have hb4 := bstep hwr hb3
      have x4 := old_cell hb3 x2
      have y4 := old_cell hb3 y2
      rw [← hW]
      clear hW hb2 hb3 hbr hwr x2 y2 hb0 hn2
      have hac1 : (o.length : Int) ≤ (cap3 : Int) := by omega
      have hac2 : (o.length : Int) ≤ (o.length : Int) := by omega
      have hac3 : (o.length : Int) ≤ (cap3 : Int) := by omega
      have hlt3 : (o.take o.length).length = o.length := by rw [List.length_take]; omega
      have HRO : Rd2 W _ o := Rd.below h hb4
      by_cases hac5 : cap3 = o.length
      · skip
        go_region_held3 (fun w' => w'.cell? ⟨bx, 0, none⟩ = some (.int .i64 x.1) ∧ w'.cell? ⟨bx, 1, none⟩ = some (.int .i64 x.2)) (go_keep)
          ((first
              | (refine step_append_notesP rfl (.tmp 36) (.tmp 39) rfl (below_a W _) (by rfl) (start_aP W) (o.take o.length) (by rfl) hlt3 (fun j u hj => kept_b (below_a W _) (rd_take HRO o.length j u hj)) (by omega) ?_
                 intro v1 w2 hv1 bv1 hg1
                 have q1 := kept_b bv1 x4
                 have q2 := kept_b bv1 y4)
              | (refine step_append_notesP rfl (.tmp 36) (.tmp 39) rfl (below_b W _ _) (by rfl) (start_cP W _) (o.take o.length) (by rfl) hlt3 (fun j u hj => kept_b (below_b W _ _) (rd_take HRO o.length j u hj)) (by omega) ?_
                 intro v1 w2 hv1 bv1 hg1
                 have q1 := kept_b bv1 x4
                 have q2 := kept_b bv1 y4
                 have hX := (xrow_cP W _ x).kept hg1 (Or.inr (by simp [Value.ownBlock])))
              | (refine step_append_notesP rfl (.tmp 40) (.tmp 42) rfl (bv1.alloc bv1.size _) (by rfl) (hv1.alloc _) [x] (by rfl) (by rfl) (fun j u hj => (one_row0P bv1 x).cells (by rfl) j u hj) (by omega) ?_
                 intro v2 w3 hv2 bv2 hg2
                 have q3 := kept_b bv2 x4
                 have q4 := kept_b bv2 y4)
              | (refine step_append_notesP rfl (.tmp 40) (.tmp 42) rfl bv1 (by rfl) hv1 [x] (by rfl) (by rfl) (fun j u hj => hX.cells (by rfl) j u hj) (by omega) ?_
                 intro v2 w3 hv2 bv2 hg2
                 have q3 := kept_b bv2 x4
                 have q4 := kept_b bv2 y4)
              | (refine step_append_notesP rfl (.tmp 43) (.tmp 46) rfl bv2 (by rfl) hv2 (ad := ⟨g3, 0, none⟩) (m := 0)  (o.drop o.length) (by first | rfl | ((conv => lhs; whnf); rw [if_pos hac5])) (by simp) (fun j u hj => by rw [hdn] at hj; cases hj) (by omega) ?_
                 intro v3 w4 hv3 bv3 hg3
                 have q5 := kept_b bv3 x4
                 have q6 := kept_b bv3 y4)
              | (refine step_append_notesP rfl (.tmp 36) (.tmp 39) rfl (below_b W _ _) (by rfl) (start_bP W _) (o.take o.length) (by rfl) hlt3 (fun j u hj => kept_b (below_b W _ _) (rd_take HRO o.length j u hj)) (by omega) ?_
                 intro v1 w2 hv1 bv1 hg1
                 have q1 := kept_b bv1 x4
                 have q2 := kept_b bv1 y4
                 have hX := (xrow_bP W _ x).kept hg1 (Or.inr (by simp [Value.ownBlock])))))
        all_goals
          have hlen : (o.take o.length ++ [x] ++ o.drop o.length).length = o.length + 1 + 0 := by simp only [List.length_append, List.length_take, List.length_drop, List.length_cons, List.length_nil]; omega
          have hv5 : w4.ownsRow w.heap.size 32 2 v3 (o.take o.length ++ [x] ++ o.drop o.length).length (flat2 (o.take o.length ++ [x] ++ o.drop o.length)) := by
            have h := ownS_mono hv3 hb4.size
            rw [hlen]; simpa only [List.nil_append, Nat.zero_add] using h
          have hb5 := bstep hb4 bv3
          clear hlen hv3 hv2 hv1 hg1 hg2 hg3 bv1 bv2 bv3 q1 q2 q3 q4 q5 q6 hb4 x4 y4 HRO hac1 hac2 hac3 hac5 hlt3
          go_wp2
          go_ret2
          exact ⟨_, by rw [HPUT.out]; rfl, by rw [HPUT.out]; exact hv5, hb5⟩
      · skip
        go_region_held3 (fun w' => w'.cell? ⟨bx, 0, none⟩ = some (.int .i64 x.1) ∧ w'.cell? ⟨bx, 1, none⟩ = some (.int .i64 x.2)) (go_keep)
          ((first
              | (refine step_append_notesP rfl (.tmp 36) (.tmp 39) rfl (below_a W _) (by rfl) (start_aP W) (o.take o.length) (by rfl) hlt3 (fun j u hj => kept_b (below_a W _) (rd_take HRO o.length j u hj)) (by omega) ?_
                 intro v1 w2 hv1 bv1 hg1
                 have q1 := kept_b bv1 x4
                 have q2 := kept_b bv1 y4)
              | (refine step_append_notesP rfl (.tmp 36) (.tmp 39) rfl (below_b W _ _) (by rfl) (start_cP W _) (o.take o.length) (by rfl) hlt3 (fun j u hj => kept_b (below_b W _ _) (rd_take HRO o.length j u hj)) (by omega) ?_
                 intro v1 w2 hv1 bv1 hg1
                 have q1 := kept_b bv1 x4
                 have q2 := kept_b bv1 y4
                 have hX := (xrow_cP W _ x).kept hg1 (Or.inr (by simp [Value.ownBlock])))
              | (refine step_append_notesP rfl (.tmp 40) (.tmp 42) rfl (bv1.alloc bv1.size _) (by rfl) (hv1.alloc _) [x] (by rfl) (by rfl) (fun j u hj => (one_row0P bv1 x).cells (by rfl) j u hj) (by omega) ?_
                 intro v2 w3 hv2 bv2 hg2
                 have q3 := kept_b bv2 x4
                 have q4 := kept_b bv2 y4)
              | (refine step_append_notesP rfl (.tmp 40) (.tmp 42) rfl bv1 (by rfl) hv1 [x] (by rfl) (by rfl) (fun j u hj => hX.cells (by rfl) j u hj) (by omega) ?_
                 intro v2 w3 hv2 bv2 hg2
                 have q3 := kept_b bv2 x4
                 have q4 := kept_b bv2 y4)
              | (refine step_append_notesP rfl (.tmp 43) (.tmp 46) rfl bv2 (by rfl) hv2 (ad := ⟨g3, o.length * 2, none⟩) (m := 0) (c := cap3 - o.length) (o.drop o.length) (by first | rfl | ((conv => lhs; whnf); rw [if_neg hac5])) (by simp) (fun j u hj => by rw [hdn] at hj; cases hj) (by omega) ?_
                 intro v3 w4 hv3 bv3 hg3
                 have q5 := kept_b bv3 x4
                 have q6 := kept_b bv3 y4)
              | (refine step_append_notesP rfl (.tmp 36) (.tmp 39) rfl (below_b W _ _) (by rfl) (start_bP W _) (o.take o.length) (by rfl) hlt3 (fun j u hj => kept_b (below_b W _ _) (rd_take HRO o.length j u hj)) (by omega) ?_
                 intro v1 w2 hv1 bv1 hg1
                 have q1 := kept_b bv1 x4
                 have q2 := kept_b bv1 y4
                 have hX := (xrow_bP W _ x).kept hg1 (Or.inr (by simp [Value.ownBlock])))))
        all_goals
          have hlen : (o.take o.length ++ [x] ++ o.drop o.length).length = o.length + 1 + 0 := by simp only [List.length_append, List.length_take, List.length_drop, List.length_cons, List.length_nil]; omega
          have hv5 : w4.ownsRow w.heap.size 32 2 v3 (o.take o.length ++ [x] ++ o.drop o.length).length (flat2 (o.take o.length ++ [x] ++ o.drop o.length)) := by
            have h := ownS_mono hv3 hb4.size
            rw [hlen]; simpa only [List.nil_append, Nat.zero_add] using h
          have hb5 := bstep hb4 bv3
          clear hlen hv3 hv2 hv1 hg1 hg2 hg3 bv1 bv2 bv3 q1 q2 q3 q4 q5 q6 hb4 x4 y4 HRO hac1 hac2 hac3 hac5 hlt3
          go_wp2
          go_ret2
          exact ⟨_, by rw [HPUT.out]; rfl, by rw [HPUT.out]; exact hv5, hb5⟩
theorem step_append_nilP {ws : World} {B : Nat} {ops : Array Oper} {op : Oper} {a : Act} {K : Act → World → Prop} {Q : Exit → Act → World → Prop} {E : Prop} (hgd : op.guard = none) (s x : Operand)
    (ho : op.op = .call { callee := .builtin .append, args := #[s, x], argTypes := #[24, 24] }) {v : Value} {n : Nat} {xs : List Value} (hs : a.eval s = v) (hown : ws.ownsRow B 32 2 v n xs) (cap : Nat) (hx : a.eval x = .slice none 0 cap)
    (h : K (a.put op.dst v) ws) : if Region.wanted op (yielded ops a.tmps) = true then Oper.wp Try.prog op a ws K Q else E :=
  step_append_eqP hgd s x _ ho v (.slice none 0 cap) v hs hx (append_noneP hown _ cap) h

set_option maxHeartbeats 1000000 in
theorem put_nil {w : World} (x : Int × Int) :
    Calls Try.prog 74 #[.slice none 0 0, .agg #[.int .i64 x.1, .int .i64 x.2]] w (NewPinsB w [x] true) := by
  obtain ⟨hx0, hx1, hB0⟩ : (∀ ty, (w.alloc (.cells #[.int .i64 x.1, .int .i64 x.2] ty)).cell? ⟨w.heap.size, 0, none⟩ = some (.int .i64 x.1)) ∧ (∀ ty, (w.alloc (.cells #[.int .i64 x.1, .int .i64 x.2] ty)).cell? ⟨w.heap.size, 1, none⟩ = some (.int .i64 x.2)) ∧ (∀ o, Below w.heap.size w (w.alloc o)) := ⟨fun _ => cell0 _ _ _ _, fun _ => cell0 _ _ _ _, fun o => (Below.refl _ _).alloc (Nat.le_refl _) _⟩
  go_enter Try.func74, Try.ntmps74
  go_wp2_with fail
  obtain ⟨W0, hW⟩ : ∃ W, W = w.alloc (.cells #[.int .i64 x.1, .int .i64 x.2] 32) := ⟨_, rfl⟩
  have z0 := hx0 32
  have z1 := hx1 32
  have hb0 := hB0 (.cells #[.int .i64 x.1, .int .i64 x.2] 32)
  rw [← hW] at z0 z1 hb0 ⊢
  clear hW hx0 hx1 hB0
  obtain ⟨bx, hbx⟩ : ∃ b, b = w.heap.size := ⟨_, rfl⟩
  rw [← hbx] at z0 z1
  simp only [← hbx]
  clear hbx
  refine wp_loop_rounds 1 ?_
  rw [rounds_succ]
  go_wp2_with fail
  go_quiet (fail)
  obtain ⟨W2, hW2⟩ : ∃ W : World, W = W0.drewN nq := ⟨_, rfl⟩
  have hb2 : Below W0.heap.size W0 W2 := by rw [hW2]; exact below_drewN (Below.refl _ _) _
  rw [← hW2]
  clear hW2
  go_wp2_with fail
  go_quiet (fail)
  go_wp2_with fail
  obtain ⟨W, hW⟩ : ∃ W : World, W = W2.drewN nq := ⟨_, rfl⟩
  have hb3 : Below W0.heap.size W0 W := by rw [hW]; exact below_drewN hb2 _
  have hb4 := bstep hb0 hb3
  have x4 := old_cell hb3 z0
  have y4 := old_cell hb3 z1
  rw [← hW]
  clear hW hb2 hb3 z0 z1 hb0
  go_region_held3 (fun w' => w'.cell? ⟨bx, 0, none⟩ = some (.int .i64 x.1) ∧ w'.cell? ⟨bx, 1, none⟩ = some (.int .i64 x.2)) (go_keep)
    ((first
        | (refine step_append_nilP rfl (.tmp 36) (.tmp 39) rfl (by rfl) (start_aP W) 0 (by rfl) ?_
           have q1 := kept_b (below_a W (.cells #[] 32)) x4
           have q2 := kept_b (below_a W (.cells #[] 32)) y4)
        | (refine step_append_nilP rfl (.tmp 36) (.tmp 39) rfl (by rfl) (start_cP W (.cells #[.int .i64 x.1, .int .i64 x.2] 32)) 0 (by rfl) ?_
           have q1 := kept_b (below_b W (.cells #[.int .i64 x.1, .int .i64 x.2] 32) (.cells #[] 32)) x4
           have q2 := kept_b (below_b W (.cells #[.int .i64 x.1, .int .i64 x.2] 32) (.cells #[] 32)) y4)
        | (refine step_append_nilP rfl (.tmp 36) (.tmp 39) rfl (by rfl) (start_bP W (.cells #[.int .i64 x.1, .int .i64 x.2] 32)) 0 (by rfl) ?_
           have q1 := kept_b (below_b W (.cells #[] 32) (.cells #[.int .i64 x.1, .int .i64 x.2] 32)) x4
           have q2 := kept_b (below_b W (.cells #[] 32) (.cells #[.int .i64 x.1, .int .i64 x.2] 32)) y4)
        | (refine step_append_notesP rfl (.tmp 40) (.tmp 42) rfl (below_b W _ _) (by rfl) (start_bP W _) [x] (by rfl) (by rfl) (fun j u hj => (xrow_bP W _ x).cells (by rfl) j u hj) (by omega) ?_
           intro v2 w3 hv2 bv2 hg2
           have q3 := kept_b bv2 x4
           have q4 := kept_b bv2 y4)
        | (refine step_append_notesP rfl (.tmp 40) (.tmp 42) rfl (below_b W _ _) (by rfl) (start_cP W _) [x] (by rfl) (by rfl) (fun j u hj => (xrow_cP W _ x).cells (by rfl) j u hj) (by omega) ?_
           intro v2 w3 hv2 bv2 hg2
           have q3 := kept_b bv2 x4
           have q4 := kept_b bv2 y4)
        | (refine step_append_nilP rfl (.tmp 43) (.tmp 46) rfl (by rfl) hv2 0 (by rfl) ?_)))
  all_goals
    have hv5 := own_low hv2 hb4.size
    have hb5 := bstep hb4 bv2
    clear hv2 hg2 bv2 q1 q2 q3 q4 hb4 x4 y4
    go_wp2
    go_ret2
    exact ⟨_, rfl, by simpa using hv5, hb5⟩
theorem putspec_any {w : World} {v : Value} {l : List (Int × Int)} (x : Int × Int) (h : RdC w v l) (hl : l.length ≤ 1000) :
    Calls Try.prog 74 #[v, .agg #[.int .i64 x.1, .int .i64 x.2]] w (NewPinsB w (putP l x).1 (putP l x).2) := by
  rcases h.2 with rfl | ⟨g, cap, rfl, h1, h2⟩
  · obtain ⟨a, cap, he⟩ := Rd.slice h.1
    have h0 : l.length = 0 := by simp only [Value.slice.injEq] at he; exact he.2.1.symm
    obtain rfl : l = [] := List.length_eq_zero_iff.1 h0
    have e : putP [] x = ([x], true) := by rw [putP_out (by simp)]; rfl
    rw [e]
    exact put_nil x
  · exact put_some x h.1 h1 h2 hl
end Go.Proofs.Ytcbdoldcdgaooaa
