/- The contract of the program's CylinderOf. No condition. Made by mk_implof.py. -/
import Derived.Test.YtcbdoldcdgaooaaImplCyl
import Derived.Test.YtcbdoldcdgaooaaPinSort
import Derived.Test.YtcbdoldcdgaooaaImplTune
import Derived.Test.YtcbdoldcdgaooaaCylOfSpec
namespace Go.Proofs.Ytcbdoldcdgaooaa
open Go.ChangeShapes Go.WideShapes Go.ChangeAt Go.RowKit

theorem fresh_nodup {q : List (Int × Int)} (h : Fresh q q.length) : q.Nodup := by
  refine List.pairwise_iff_getElem.2 fun i j hi hj hij e => ?_
  refine h j q[j] hj (List.getElem?_eq_getElem hj) ?_
  exact List.mem_iff_getElem?.2 ⟨i, by rw [List.getElem?_take, if_pos hij, List.getElem?_eq_getElem hi, e]⟩
theorem nodup_fresh {q : List (Int × Int)} (h : q.Nodup) : Fresh q q.length := by
  intro j x hj hx hm
  obtain ⟨i, hi⟩ := List.mem_iff_getElem?.1 hm
  rw [List.getElem?_take] at hi
  split at hi
  · rename_i hij
    obtain ⟨h1, e1⟩ := List.getElem?_eq_some_iff.1 hi
    obtain ⟨h2, e2⟩ := List.getElem?_eq_some_iff.1 hx
    exact List.pairwise_iff_getElem.1 h i j h1 h2 hij (by rw [e1, e2])
  · cases hi
theorem merge_fold {q : List (Int × Int)} (h : q.Nodup) : mergeP q = foldP id q :=
  sp_unique (mergeP_sp h) (foldP_sp _ _) fun x => by
    rw [mergeP_mem, foldP_mem]
    exact ⟨fun k => ⟨x, k, rfl⟩, fun ⟨y, hy, e⟩ => e ▸ hy⟩
theorem of_yes {t : List (Int × Int)} {c : List Int} {s r : Int} (h1 : tuneB t = true) (h2 : c.length = t.length) (h : cylB s r (mergeP (pinsOf c t)) = true) : ofM t c s r = ((s, r, mergeP (pinsOf c t)), true) := by
  have hn := sp_merge (cyl_sp (cylB_true.1 h))
  rw [merge_fold hn] at h ⊢
  refine ofM_yes h1 h2 ?_ h
  rw [← pinsOf_len h2]
  exact nodup_fresh hn
theorem of_no {t : List (Int × Int)} {c : List Int} {s r : Int} (h2 : c.length = t.length) (h : ¬ cylB s r (mergeP (pinsOf c t)) = true) : ofM t c s r = ((0, 0, []), false) := by
  refine ofM_no fun k => h ?_
  have hn := fresh_nodup (q := pinsOf c t) (by rw [pinsOf_len h2]; exact k.2.2.1)
  rw [merge_fold hn]; exact k.2.2.2

set_option maxHeartbeats 8000000 in
set_option maxRecDepth 100000 in
theorem icylof_any {w : World} {vt vc : Value} {t : List (Int × Int)} {c : List Int} (s r : Int) (ht : Rd2 w vt t) (hc : Rd1 w vc c) :
    Calls Try.prog 21 #[vt, vc, .int .i64 s, .int .i64 r] w (NewCylB w (ofM t c s r).1.1 (ofM t c s r).1.2.1 (ofM t c s r).1.2.2 (ofM t c s r).2) := by
  obtain ⟨i0, hi, hz0, hz1, hz2⟩ := info_parts infoPin
  obtain ⟨a1, cap1, rfl⟩ := Rd.slice ht
  obtain ⟨a2, cap2, rfl⟩ := Rd.slice hc
  obtain ⟨W, hW⟩ : ∃ W, W = w.alloc (.cells #[.int .i64 0, .int .i64 0, .slice none 0 0] 26) := ⟨_, rfl⟩
  have hR : BoxW W w.heap.size (.int .i64 0) (.int .i64 0) (.slice none 0 0) := by rw [hW]; exact boxw_new _ _ _ _ _
  have hB : Below w.heap.size w W := by rw [hW]; exact (Below.refl _ _).alloc (Nat.le_refl _) _
  obtain ⟨bx, hbx⟩ : ∃ b, b = w.heap.size := ⟨_, rfl⟩
  have hle : w.heap.size ≤ bx := by omega
  rw [← hbx] at hR
  by_cases tt : tuneB t = true
  · have HT := Lib.hid tt
    by_cases te : c.length = t.length
    · have HAY := Lib.hid (fun h => of_yes (s := s) (r := r) tt te h)
      have HAN := Lib.hid (fun h => of_no (s := s) (r := r) te h)
      have HQ := Lib.hid (fun (k : Nat) (x : Int) (n : Int × Int) (h1 : c[k]? = some x) (h2 : t[k]? = some n) => pinsOf_at h1 h2)
      have HQL := Lib.hid (pinsOf_len te)
      generalize pinsOf c t = q at *
      have te' : ((c.length : Int) == (t.length : Int)) = true := by rw [beq_iff_eq]; omega
      clear tt
      go_enter Try.func21, Try.ntmps21
      go_wp2_with fail
      rw [← hW]
      simp only [← hbx]
      clear hW hbx
      refine (itune_yes (Rd.below ht hB) HT.out).mono ?_
      rintro e w1 ⟨rfl, hb1⟩
      have hR1 := hR.below hb1
      have g1 := bstep hB hb1
      clear hR hB hb1
      have hlt40 := (tuneB_true.1 HT.out).1
      obtain ⟨w2, hrun, hown0, hgrow⟩ := run_make_own (P := Try.prog) (w := w1) w1.heap.size 24 32 i0 (.agg #[.int .i64 0, .int .i64 0]) 2 Try.underlying24 hi hz0 hz1 .i64 .i64 t.length (by rw [hz2]; omega) (by unfold maxLen; omega) (Nat.le_refl _)
      have hb2 : Below w1.heap.size w1 w2 := (Below.refl _ _).grown hgrow (Nat.le_refl _) (fun k hk => by cases hk)
      clear hgrow
      go_wp2_with fail
      go_loopw [10, 30] (fun v10 v30 wr => ∃ k : Nat, k ≤ t.length ∧ v30 = .int .i64 k ∧ wr.ownsRow w1.heap.size 32 2 v10 k (flat2 (q.take k)) ∧ Below w1.heap.size w1 wr) (fun _ v30 _ => t.length - (intOf v30).toNat)
      case atStart => exact ⟨0, Nat.zero_le _, rfl, hown0, hb2⟩
      case round =>
        obtain ⟨k, hk, rfl, hown, hbr⟩ := hrel
        clear hown0 hb2 hrun
        have hwr := bstep g1 hbr
        by_cases hlt : k < t.length
        · obtain ⟨n, hn⟩ : ∃ n, t[k]? = some n := ⟨_, List.getElem?_eq_getElem hlt⟩
          obtain ⟨x, hx⟩ : ∃ x, c[k]? = some x := ⟨_, List.getElem?_eq_getElem (by omega)⟩
          have HN := Lib.hid (show q.take (k + 1) = q.take k ++ [(x, n.1)] by rw [List.take_add_one, HQ.out k x n hx hn]; rfl)
          obtain ⟨b1, o1, c1, hv1, x0, y0⟩ := Rd2.cells (Rd.below ht hwr) hn
          simp only [Value.slice.injEq, true_and] at hv1
          obtain ⟨rfl, rfl⟩ := hv1
          obtain ⟨b2, o2, c2, hv2, t0⟩ := Rd1.cell hc hx
          simp only [Value.slice.injEq, true_and] at hv2
          obtain ⟨rfl, rfl⟩ := hv2
          clear hn hx
          obtain ⟨V, hV⟩ : ∃ V, V = wr.alloc (.cells #[.int .i64 n.1, .int .i64 n.2] 41) := ⟨_, rfl⟩
          have hbV : Below wr.heap.size wr V := by rw [hV]; exact (Below.refl _ _).alloc (Nat.le_refl _) _
          have z0 : V.cell? ⟨wr.heap.size, 0, none⟩ = some (.int .i64 n.1) := by rw [hV]; exact cell0 _ _ _ _
          have t1 := kept_b (bstep hwr hbV) t0
          have hownV : V.ownsRow w1.heap.size 32 2 u10 k (flat2 (q.take k)) := by rw [hV]; exact hown.alloc _
          have hbrV := bstep hbr hbV
          have hnb : some wr.heap.size ≠ (u10 : Value).ownBlock := fun e => Nat.lt_irrefl _ (hown.lt _ e.symm).2
          have hbd : k + 1 ≤ 10000 := by omega
          have hkc : k < c.length := by omega
          have hkc' : (k : Int) < (c.length : Int) := by omega
          go_wp2_with fail
          rw [← hV]
          clear hV x0 y0 hown hbr hbV hwr
          generalize wr.heap.size = bp at *
          have HK := Lib.hid (fun (wA wB : World) (ad : Addr) (x : Value) (he : ad.block = bp) (hg : wA.grownBy wB (u10 : Value).ownBlock) (hc : wA.cell? ad = some x) => show wB.cell? ad = some x from (cell_grown_by hg (World.block_lt_of_cell? _ _ hc) (by rw [he]; exact hnb)).trans hc)
          go_region_held3 (fun w' => w'.cell? ⟨bp, 0, none⟩ = some (.int .i64 n.1) ∧ w'.cell? ⟨b2, o2 + k, none⟩ = some (.int .i64 x)) (go_keep)
            (first
              | (refine step_append_notesP rfl (.tmp 35) (.tmp 43) rfl ((hbrV.alloc hbrV.size _).drew) (by rfl) ((hownV.alloc _).drew) [(x, n.1)] (by rfl) (by rfl) (fun j u hj => (one_row0P hbrV (x, n.1)).drew.cells (by rfl) j u hj) hbd ?_
                 intro v2 w4 hv2 bv2 hg4
                 have r3 := HK.out _ _ ⟨bp, 0, none⟩ _ rfl hg4 (old_cell ((Below.refl V.heap.size V).alloc (Nat.le_refl _) _).drew z0)
                 have r4 : w4.cell? ⟨b2, o2 + k, none⟩ = some (.int .i64 x) := kept_b (bstep g1 bv2) t0))
          rw [← HN.out] at hv2
          clear HK r3 r4 t1 t0 z0 hownV hbrV hnb hg4
          go_wp2
          go_roundw
          case rel => exact ⟨k + 1, by omega, by go_num, hv2, bv2⟩
          case measure => simp [intOf]; omega
        · obtain rfl : k = t.length := by omega
          have hown' : wr.ownsRow w1.heap.size 32 2 u10 q.length (flat2 q) := by
            have h9 := hown
            rw [← HQL.out, List.take_length] at h9
            exact h9
          obtain ⟨a5, cap5, rfl⟩ := ownS_slice hown'
          have hq40 : q.length ≤ 1048576 := by rw [HQL.out]; omega
          clear hown
          go_wp2_with fail
          refine (sortfP_any hown' hq40).mono ?_
          rintro e w5 ⟨rfl, hg5, ho5⟩
          have hb5 : Below w1.heap.size w1 w5 := hbr.grown hg5 hbr.size (fun k hk => (hown'.lt k hk).1)
          have ho5' : w5.ownsRow w1.heap.size 32 2 (.slice a5 q.length cap5) (mergeP q).length (flat2 (mergeP q)) := by rw [mergeP_len]; exact ho5
          have HML := Lib.hid (mergeP_len q)
          rw [← HML.out] at ho5' ⊢
          have hR5 := hR1.below hb5
          have g5 := bstep g1 hb5
          have hlt5 : bx < w1.heap.size := hR1.1
          have hleg := g1.size
          clear hg5 hb5 hown' hbr hwr ho5 hR1 g1 hq40 HML
          generalize mergeP q = M at *
          obtain ⟨V, hV⟩ : ∃ V, V = w5.alloc (.cells #[.int .i64 s, .int .i64 r, .slice a5 M.length cap5] 26) := ⟨_, rfl⟩
          have hbV : Below w5.heap.size w5 V := by rw [hV]; exact (Below.refl _ _).alloc (Nat.le_refl _) _
          have hXV : Box V w5.heap.size s r (.slice a5 M.length cap5) := by rw [hV]; exact box_new _ _ _ _ _
          have ho6 := ownS_below ho5' hbV
          have hR6 := hR5.below hbV
          have g6 := bstep g5 hbV
          obtain ⟨-, m0, m1, m2⟩ := id hXV
          by_cases tm : cylB s r M = true
          · have HL := Lib.hid (HAY.out tm)
            go_wp2_with fail
            rw [← hV]
            clear hV hbV ho5' hR5 g5
            refine (icyl_yes (Rd.of_own ho6) tm).mono ?_
            rintro e w9 ⟨rfl, hb9⟩
            have hR8 := hR6.below hb9
            obtain ⟨-, j0, j1, j2⟩ := hXV.below hb9
            have ho8 := ownS_below ho6 hb9
            have g8 := bstep g6 hb9
            obtain ⟨d0, d1, d2⟩ := id hR8.2.1
            have f0 := hR8.2.2 0
            have f1 := hR8.2.2 1
            have f2 := hR8.2.2 2
            have hq := read3 hR8 (.int .i64 s) (.int .i64 r) (.slice a5 M.length cap5)
            have ho9 := own_low (wr3_own ho8 (ob_of_lt ho8 hlt5) (.int .i64 s) (.int .i64 r) (.slice a5 M.length cap5)) hleg
            have hb8 := wr3_below g8 (show w.heap.size ≤ bx by omega) (.int .i64 s) (.int .i64 r) (.slice a5 M.length cap5)
            clear hR8 hR6 hXV ho6 ho8 g8 g6 m0 m1 m2 hb9
            go_wp2
            exact bodyPost_ret (v := .tuple #[.agg #[.int .i64 s, .int .i64 r, .slice a5 M.length cap5], .bool true]) (by simp [results, Try.results21, go_sem, hq.1, hq.2.1, hq.2.2]) rfl ⟨_, by rw [HL.out], by rw [HL.out]; exact ho9, hb8⟩
          · have HL := Lib.hid (HAN.out tm)
            have tm' : cylB s r M = false := by simpa using tm
            clear tm
            go_wp2_with fail
            rw [← hV]
            clear hV hbV ho5' hR5 g5
            refine (icyl_no (Rd.of_own ho6) tm').mono ?_
            rintro e w9 ⟨rfl, hb9⟩
            have hR8 := hR6.below hb9
            have g8 := bstep g6 hb9
            clear hR6 hXV ho6 g6 m0 m1 m2 hb9
            obtain ⟨d0, d1, d2⟩ := id hR8.2.1
            have f0 := hR8.2.2 0
            have f1 := hR8.2.2 1
            have f2 := hR8.2.2 2
            have hq := read3 hR8 (.int .i64 0) (.int .i64 0) (.slice none 0 0)
            have hb9 := wr3_below g8 (show w.heap.size ≤ bx by omega) (.int .i64 0) (.int .i64 0) (.slice none 0 0)
            clear hR8 g8
            go_wp2
            exact bodyPost_ret (v := .tuple #[.agg #[.int .i64 0, .int .i64 0, .slice none 0 0], .bool false]) (by simp [results, Try.results21, go_sem, hq.1, hq.2.1, hq.2.2]) rfl ⟨_, by rw [HL.out], by rw [HL.out]; exact World.ownsRow_nil _ _ _ _, hb9⟩
    · have HL := Lib.hid (show ofM t c s r = ((0, 0, []), false) from ofM_no fun k => te k.2.1)
      have te' : ((c.length : Int) == (t.length : Int)) = false := by simpa using (show ¬ (c.length : Int) = (t.length : Int) by omega)
      clear tt
      go_enter Try.func21, Try.ntmps21
      go_wp2_with fail
      rw [← hW]
      simp only [← hbx]
      clear hW hbx
      refine (itune_yes (Rd.below ht hB) HT.out).mono ?_
      rintro e w1 ⟨rfl, hb1⟩
      have hR1 := hR.below hb1
      have g1 := bstep hB hb1
      clear hR hB hb1
      obtain ⟨d0, d1, d2⟩ := id hR1.2.1
      have f0 := hR1.2.2 0
      have f1 := hR1.2.2 1
      have f2 := hR1.2.2 2
      have hq := read3 hR1 (.int .i64 0) (.int .i64 0) (.slice none 0 0)
      have hb9 := wr3_below g1 (show w.heap.size ≤ bx by omega) (.int .i64 0) (.int .i64 0) (.slice none 0 0)
      clear hR1 g1
      go_wp2
      exact bodyPost_ret (v := .tuple #[.agg #[.int .i64 0, .int .i64 0, .slice none 0 0], .bool false]) (by simp [results, Try.results21, go_sem, hq.1, hq.2.1, hq.2.2]) rfl ⟨_, by rw [HL.out], by rw [HL.out]; exact World.ownsRow_nil _ _ _ _, hb9⟩
  · have HL := Lib.hid (show ofM t c s r = ((0, 0, []), false) from ofM_no fun k => tt k.1)
    have HT := Lib.hid (show tuneB t = false by simpa using tt)
    clear tt
    go_enter Try.func21, Try.ntmps21
    go_wp2_with fail
    rw [← hW]
    simp only [← hbx]
    clear hW hbx
    refine (itune_no (Rd.below ht hB) HT.out).mono ?_
    rintro e w1 ⟨rfl, hb1⟩
    have hR1 := hR.below hb1
    have g1 := bstep hB hb1
    clear hR hB hb1
    obtain ⟨d0, d1, d2⟩ := id hR1.2.1
    have f0 := hR1.2.2 0
    have f1 := hR1.2.2 1
    have f2 := hR1.2.2 2
    have hq := read3 hR1 (.int .i64 0) (.int .i64 0) (.slice none 0 0)
    have hb9 := wr3_below g1 (show w.heap.size ≤ bx by omega) (.int .i64 0) (.int .i64 0) (.slice none 0 0)
    clear hR1 g1
    go_wp2
    exact bodyPost_ret (v := .tuple #[.agg #[.int .i64 0, .int .i64 0, .slice none 0 0], .bool false]) (by simp [results, Try.results21, go_sem, hq.1, hq.2.1, hq.2.2]) rfl ⟨_, by rw [HL.out], by rw [HL.out]; exact World.ownsRow_nil _ _ _ _, hb9⟩
end Go.Proofs.Ytcbdoldcdgaooaa
