/- The contract of the program's TurnBy. No condition. -/
import Derived.Test.YtcbdoldcdgaooaaImplWith
import Derived.Test.YtcbdoldcdgaooaaPinSort
import Derived.Test.YtcbdoldcdgaooaaTurnBySpec
namespace Go.Proofs.Ytcbdoldcdgaooaa
open Go.ChangeShapes Go.WideShapes Go.ChangeAt Go.RowKit

/-- The turned pins, sorted: the model's. -/
theorem turn_merge {s t : Int} (d : Int) {l : List (Int × Int)} (h : CylP s t l) : mergeP (l.map (rotP s d)) = turnL s d l := by
  have hn : (l.map (rotP s d)).Nodup := List.pairwise_map.2 ((sp_nodup (cyl_sp h)).imp_of_mem fun {a b} ha hb hne e => hne (rot_inj (cyl_bd h ha).2 (cyl_bd h hb).2 e))
  refine sp_unique (mergeP_sp hn) (foldP_sp _ _) fun x => ?_
  rw [mergeP_mem, List.mem_map]
  unfold turnL
  rw [foldP_mem]
  exact ⟨fun ⟨q, hq, e⟩ => ⟨q, hq, e.symm⟩, fun ⟨q, hq, e⟩ => ⟨q, hq, e.symm⟩⟩
theorem map_succP {f : Int × Int → Int × Int} {l : List (Int × Int)} {k : Nat} {p : Int × Int} (h : l[k]? = some p) : (l.take (k + 1)).map f = (l.take k).map f ++ [f p] := by
  rw [List.take_add_one, h]; simp

set_option maxHeartbeats 8000000 in
set_option maxRecDepth 100000 in
theorem iturn_any {w : World} {v : Value} {l : List (Int × Int)} (s t d : Int) (h : Rd2 w v l) (hl : l.length ≤ 1048576) :
    Calls Try.prog 14 #[.agg #[.int .i64 s, .int .i64 t, v], .int .i64 d] w (NewCyl w s t (turnM s t l d)) := by
  obtain ⟨i0, hi, hz0, hz1, hz2⟩ := info_parts infoPin
  obtain ⟨a1, cap1, rfl⟩ := Rd.slice h
  obtain ⟨W, hW⟩ : ∃ W, W = (w.alloc (.cells #[.int .i64 s, .int .i64 t, .slice a1 l.length cap1] 26)).alloc (.cells #[.int .i64 0, .int .i64 0, .slice none 0 0] 26) := ⟨_, rfl⟩
  obtain ⟨hX, hR, hB, hsz⟩ := box_two (w := w) s t (.slice a1 l.length cap1) (.int .i64 0) (.int .i64 0) (.slice none 0 0) 26 26
  rw [← hW] at hX hR hB hsz
  obtain ⟨bx, hbx⟩ : ∃ b, b = w.heap.size := ⟨_, rfl⟩
  have hle : w.heap.size ≤ bx := by omega
  rw [← hbx] at hX hR hsz
  by_cases tc : cylB s t l = true
  · have TC := Lib.hid tc
    have hcy := cylB_true.1 tc
    have hs := hcy.1
    have hl100 := hcy.2.2.1
    by_cases tt : -1000000 ≤ d ∧ d ≤ 1000000
    · have HL := Lib.hid (show turnM s t l d = turnL s d l from if_pos ⟨tc, tt⟩)
      have HTM := Lib.hid (turn_merge d hcy)
      have HBD := Lib.hid (fun (p : Int × Int) (hp : p ∈ l) => (cyl_bd hcy hp).2)
      clear tc hcy
      go_enter Try.func14, Try.ntmps14
      go_wp2_with fail
      rw [← hW]
      simp only [← hbx]
      clear hW hbx
      refine (icyl_yes (Rd.below h hB) TC.out).mono ?_
      rintro e w1 ⟨rfl, hb1⟩
      have hX1 := hX.below hb1
      have hR1 := hR.below hb1
      have g1 := bstep hB hb1
      clear hX hR hB hb1 hsz
      obtain ⟨k0, k1, k2⟩ := id hX1.2.1
      go_wp2_with fail
      refine (turnok_yes tt _).mono ?_
      rintro e w2 ⟨rfl, rfl⟩
      obtain ⟨w2, hrun, hown0, hgrow⟩ := run_make_own (P := Try.prog) (w := w1) w1.heap.size 24 32 i0 (.agg #[.int .i64 0, .int .i64 0]) 2 Try.underlying24 hi hz0 hz1 .i64 .i64 l.length (by rw [hz2]; omega) (by unfold maxLen; omega) (Nat.le_refl _)
      have hb2 : Below w1.heap.size w1 w2 := (Below.refl _ _).grown hgrow (Nat.le_refl _) (fun k hk => by cases hk)
      have hX2 := hX1.below hb2
      obtain ⟨m0, m1, m2⟩ := id hX2.2.1
      clear hgrow
      go_wp2_with fail
      clear k0 k1 k2 m0 m1 m2 hX2 hrun
      go_loopw [5, 25] (fun v5 v25 wr => ∃ k : Nat, k ≤ l.length ∧ v25 = .int .i64 k ∧ wr.ownsRow w1.heap.size 32 2 v5 k (flat2 ((l.take k).map (rotP s d))) ∧ Below w1.heap.size w1 wr) (fun _ v25 _ => l.length - (intOf v25).toNat)
      case atStart => exact ⟨0, Nat.zero_le _, rfl, hown0, hb2⟩
      case round =>
        obtain ⟨k, hk, rfl, hown, hbr⟩ := hrel
        clear hown0 hb2
        by_cases hlt : k < l.length
        · obtain ⟨p, hp⟩ : ∃ p, l[k]? = some p := ⟨_, List.getElem?_eq_getElem hlt⟩
          have HN := Lib.hid (map_succP (f := rotP s d) hp)
          have hpb := HBD.out p (List.mem_of_getElem? hp)
          obtain ⟨b1, o1, c1, hv1, x0, y0⟩ := Rd2.cells (Rd.below h (bstep g1 hbr)) hp
          simp only [Value.slice.injEq, true_and] at hv1
          obtain ⟨rfl, rfl⟩ := hv1
          clear hp
          have ew : IntKind.i64.wrap (p.2 + d) = p.2 + d := IntWalk.i64_in _ (by omega)
          obtain ⟨V, hV⟩ : ∃ V, V = wr.alloc (.cells #[.int .i64 p.1, .int .i64 p.2] 32) := ⟨_, rfl⟩
          have hbV : Below wr.heap.size wr V := by rw [hV]; exact (Below.refl _ _).alloc (Nat.le_refl _) _
          have z0 : V.cell? ⟨wr.heap.size, 0, none⟩ = some (.int .i64 p.1) := by rw [hV]; exact cell0 _ _ _ _
          have z1 : V.cell? ⟨wr.heap.size, 1, none⟩ = some (.int .i64 p.2) := by rw [hV]; exact cell0 _ _ _ _
          have hownV : V.ownsRow w1.heap.size 32 2 u5 k (flat2 ((l.take k).map (rotP s d))) := by rw [hV]; exact hown.alloc _
          have hbrV := bstep hbr hbV
          have hnb : some wr.heap.size ≠ (u5 : Value).ownBlock := fun e => Nat.lt_irrefl _ (hown.lt _ e.symm).2
          obtain ⟨k0, k1, k2⟩ := (hX1.below hbrV).2.1
          go_wp2_with fail
          rw [← hV]
          clear hV x0 y0 hown hbr hbV
          generalize wr.heap.size = bp at *
          have HK := Lib.hid (fun (wA wB : World) (ad : Addr) (x : Value) (he : ad.block = bp) (hg : wA.grownBy wB (u5 : Value).ownBlock) (hc : wA.cell? ad = some x) => show wB.cell? ad = some x from (cell_grown_by hg (World.block_lt_of_cell? _ _ hc) (by rw [he]; exact hnb)).trans hc)
          have hVd : Below w1.heap.size w1 V.drew := hbrV.drew
          have hownVd : V.drew.ownsRow w1.heap.size 32 2 u5 k (flat2 ((l.take k).map (rotP s d))) := hownV.drew
          have hbd : k + 1 ≤ 10000 := by omega
          go_region_held3 (fun w' => w'.cell? ⟨bx, 0, none⟩ = some (.int .i64 s) ∧ w'.cell? ⟨bx, 1, none⟩ = some (.int .i64 t) ∧ w'.cell? ⟨bx, 2, none⟩ = some (.slice (some ⟨b1, o1, none⟩) l.length cap1) ∧ w'.cell? ⟨bp, 0, none⟩ = some (.int .i64 p.1) ∧ w'.cell? ⟨bp, 1, none⟩ = some (.int .i64 p.2)) (go_keep)
            (first
              | (go_at_call 61; (with_reducible refine (around_any hs _).mono ?_); rintro e w3 ⟨rfl, hg3⟩; have hb3 := hg3.below; have g3 := bstep hVd hb3; have hown3 := ownS_below hownVd hb3; have q0 := kept_cell hb3 k0; have q1 := kept_cell hb3 k1; have q2 := kept_cell hb3 k2; have q3 := kept_cell hb3 z0; have q4 := kept_cell hb3 z1)
              | (refine step_append_notesP rfl (.tmp 29) (.tmp 39) rfl (g3.alloc g3.size _) (by rfl) (hown3.alloc _) [rotP s d p] (by rfl) (by rfl) (fun j u hj => (one_row0P g3 (rotP s d p)).cells (by rfl) j u hj) hbd ?_
                 intro v2 w4 hv2 bv2 hg4
                 obtain ⟨r0, r1, r2⟩ := (hX1.below bv2).2.1
                 have r3 := HK.out _ _ ⟨bp, 0, none⟩ _ rfl hg4 (old_cell ((Below.refl _ _).alloc (Nat.le_refl _) _) q3)
                 have r4 := HK.out _ _ ⟨bp, 1, none⟩ _ rfl hg4 (old_cell ((Below.refl _ _).alloc (Nat.le_refl _) _) q4)))
          rw [← HN.out] at hv2
          clear HK q0 q1 q2 q3 q4 r0 r1 r2 r3 r4 k0 k1 k2 z0 z1 hown3 hg4 hVd hownVd hownV hbrV g3 hb3 hg3 ew
          go_wp2
          go_roundw
          case rel => exact ⟨k + 1, by omega, by go_num, hv2, bv2⟩
          case measure => simp [intOf]; omega
        · obtain rfl : k = l.length := by omega
          have hfull : l.take l.length = l := List.take_length
          rw [hfull] at hown
          clear hfull
          have hmlen : (l.map (rotP s d)).length = l.length := List.length_map _
          have hown' : wr.ownsRow w1.heap.size 32 2 u5 (l.map (rotP s d)).length (flat2 (l.map (rotP s d))) := by rw [hmlen]; exact hown
          obtain ⟨a5, cap5, rfl⟩ := ownS_slice hown
          clear hown
          go_wp2_with fail
          refine (sortfP_any hown' (by rw [hmlen]; omega)).mono ?_
          rintro e w5 ⟨rfl, hg5, ho5⟩
          have hb5 : Below w1.heap.size w1 w5 := hbr.grown hg5 hbr.size (fun k hk => (hown'.lt k hk).1)
          rw [HTM.out, hmlen] at ho5
          have hX5 := hX1.below hb5
          have hR5 := hR1.below hb5
          have g5 := bstep g1 hb5
          obtain ⟨k0, k1, k2⟩ := id hX5.2.1
          have hlt5 : bx + 1 < w1.heap.size := hR1.1
          clear hg5 hb5 hown' hbr
          go_wp2_with fail
          refine (withpins_any s t a1 a5 l.length cap1 l.length cap5 w5).mono ?_
          rintro e w6 ⟨rfl, hb6⟩
          have hR6 := hR5.below hb6
          have g6 := bstep g5 hb6
          have ho6 := ownS_below ho5 hb6
          obtain ⟨d0, d1, d2⟩ := id hR6.2.1
          have f0 := hR6.2.2 0
          have f1 := hR6.2.2 1
          have f2 := hR6.2.2 2
          have hq := read3 hR6 (.int .i64 s) (.int .i64 t) (.slice a5 l.length cap5)
          have ho9 := own_low (wr3_own ho6 (ob_of_lt ho6 hlt5) (.int .i64 s) (.int .i64 t) (.slice a5 l.length cap5)) (show w.heap.size ≤ w1.heap.size from g1.size)
          have hb9 := wr3_below g6 (show w.heap.size ≤ bx + 1 by omega) (.int .i64 s) (.int .i64 t) (.slice a5 l.length cap5)
          have hlen : (turnL s d l).length = l.length := turn_len (cylB_true.1 TC.out)
          clear k0 k1 k2 hX5 hR5 g5 ho5 hb6 hR6 g6 ho6 hX1 hR1
          go_wp2
          exact bodyPost_ret (v := .agg #[.int .i64 s, .int .i64 t, .slice a5 l.length cap5]) (by simp [results, Try.results14, go_sem, hq.1, hq.2.1, hq.2.2]) rfl ⟨_, rfl, by rw [HL.out, hlen]; exact ho9, hb9⟩
    · have HL := Lib.hid (show turnM s t l d = l from if_neg fun k => tt k.2)
      clear tc hcy
      go_enter Try.func14, Try.ntmps14
      go_wp2_with fail
      rw [← hW]
      simp only [← hbx]
      clear hW hbx
      refine (icyl_yes (Rd.below h hB) TC.out).mono ?_
      rintro e w1 ⟨rfl, hb1⟩
      have hX1 := hX.below hb1
      have hR1 := hR.below hb1
      have g1 := bstep hB hb1
      clear hX hR hB hb1 hsz
      obtain ⟨k0, k1, k2⟩ := id hX1.2.1
      go_wp2_with fail
      refine (turnok_no tt _).mono ?_
      rintro e w2 ⟨rfl, rfl⟩
      go_wp2_with fail
      refine (unchanged_any s t (Rd.below h g1) hl).mono ?_
      rintro e w3 ⟨v3, rfl, ho3, hb3⟩
      obtain ⟨a3, cap3, rfl⟩ := ownS_slice ho3
      have hR3 := hR1.below hb3
      have g3 := bstep g1 hb3
      obtain ⟨d0, d1, d2⟩ := id hR3.2.1
      have f0 := hR3.2.2 0
      have f1 := hR3.2.2 1
      have f2 := hR3.2.2 2
      have hq := read3 hR3 (.int .i64 s) (.int .i64 t) (.slice a3 l.length cap3)
      have ho9 := own_low (wr3_own ho3 (ob_of_lt ho3 (show bx + 1 < w1.heap.size from hR1.1)) (.int .i64 s) (.int .i64 t) (.slice a3 l.length cap3)) (show w.heap.size ≤ w1.heap.size from g1.size)
      have hb9 := wr3_below g3 (show w.heap.size ≤ bx + 1 by omega) (.int .i64 s) (.int .i64 t) (.slice a3 l.length cap3)
      clear k0 k1 k2 hX1 hR1 ho3 hb3 hR3 g3
      go_wp2
      exact bodyPost_ret (v := .agg #[.int .i64 s, .int .i64 t, .slice a3 l.length cap3]) (by simp [results, Try.results14, go_sem, hq.1, hq.2.1, hq.2.2]) rfl ⟨_, rfl, by rw [HL.out]; exact ho9, hb9⟩
  · have HL := Lib.hid (show turnM s t l d = l from if_neg fun k => tc k.1)
    have TC := Lib.hid (show cylB s t l = false by simpa using tc)
    clear tc
    go_enter Try.func14, Try.ntmps14
    go_wp2_with fail
    rw [← hW]
    simp only [← hbx]
    clear hW hbx
    refine (icyl_no (Rd.below h hB) TC.out).mono ?_
    rintro e w1 ⟨rfl, hb1⟩
    have hX1 := hX.below hb1
    have hR1 := hR.below hb1
    have g1 := bstep hB hb1
    clear hX hR hB hb1 hsz
    obtain ⟨k0, k1, k2⟩ := id hX1.2.1
    go_wp2_with fail
    refine (unchanged_any s t (Rd.below h g1) hl).mono ?_
    rintro e w3 ⟨v3, rfl, ho3, hb3⟩
    obtain ⟨a3, cap3, rfl⟩ := ownS_slice ho3
    have hR3 := hR1.below hb3
    have g3 := bstep g1 hb3
    obtain ⟨d0, d1, d2⟩ := id hR3.2.1
    have f0 := hR3.2.2 0
    have f1 := hR3.2.2 1
    have f2 := hR3.2.2 2
    have hq := read3 hR3 (.int .i64 s) (.int .i64 t) (.slice a3 l.length cap3)
    have ho9 := own_low (wr3_own ho3 (ob_of_lt ho3 (show bx + 1 < w1.heap.size from hR1.1)) (.int .i64 s) (.int .i64 t) (.slice a3 l.length cap3)) (show w.heap.size ≤ w1.heap.size from g1.size)
    have hb9 := wr3_below g3 (show w.heap.size ≤ bx + 1 by omega) (.int .i64 s) (.int .i64 t) (.slice a3 l.length cap3)
    clear k0 k1 k2 hX1 hR1 ho3 hb3 hR3 g3
    go_wp2
    exact bodyPost_ret (v := .agg #[.int .i64 s, .int .i64 t, .slice a3 l.length cap3]) (by simp [results, Try.results14, go_sem, hq.1, hq.2.1, hq.2.2]) rfl ⟨_, rfl, by rw [HL.out]; exact ho9, hb9⟩
end Go.Proofs.Ytcbdoldcdgaooaa
