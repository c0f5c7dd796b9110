/- The contract of the model's CylinderOf. No condition. -/
import Derived.Test.YtcbdoldcdgaooaaBoxKit
import Derived.Test.YtcbdoldcdgaooaaIntsArg
namespace Go.Proofs.Ytcbdoldcdgaooaa
open Go.ChangeShapes Go.WideShapes Go.ChangeAt Go.RowKit

/-- The pins of a tune with its teeth. -/
def pinsOf (c : List Int) (t : List (Int × Int)) : List (Int × Int) := List.zipWith (fun x n => (x, n.1)) c t
theorem pinsOf_at {c : List Int} {t : List (Int × Int)} {k : Nat} {x : Int} {n : Int × Int} (h1 : c[k]? = some x) (h2 : t[k]? = some n) : (pinsOf c t)[k]? = some (x, n.1) := by
  unfold pinsOf; rw [List.getElem?_zipWith, h1, h2]
theorem pinsOf_len {c : List Int} {t : List (Int × Int)} (h : c.length = t.length) : (pinsOf c t).length = t.length := by unfold pinsOf; rw [List.length_zipWith]; omega
def Fresh (q : List (Int × Int)) (k : Nat) : Prop := ∀ (i : Nat) (x : Int × Int), i < k → q[i]? = some x → x ∉ q.take i
open Classical in
noncomputable def ofM (t : List (Int × Int)) (c : List Int) (s r : Int) : (Int × Int × List (Int × Int)) × Bool :=
  if tuneB t = true ∧ c.length = t.length ∧ Fresh (pinsOf c t) t.length ∧ cylB s r (foldP id (pinsOf c t)) = true then ((s, r, foldP id (pinsOf c t)), true) else ((0, 0, []), false)
theorem ofM_yes {t : List (Int × Int)} {c : List Int} {s r : Int} (h1 : tuneB t = true) (h2 : c.length = t.length) (h3 : Fresh (pinsOf c t) t.length) (h4 : cylB s r (foldP id (pinsOf c t)) = true) : ofM t c s r = ((s, r, foldP id (pinsOf c t)), true) := if_pos ⟨h1, h2, h3, h4⟩
theorem ofM_no {t : List (Int × Int)} {c : List Int} {s r : Int} (h : ¬ (tuneB t = true ∧ c.length = t.length ∧ Fresh (pinsOf c t) t.length ∧ cylB s r (foldP id (pinsOf c t)) = true)) : ofM t c s r = ((0, 0, []), false) := if_neg h
theorem ofM_le (t : List (Int × Int)) (c : List Int) (s r : Int) : (ofM t c s r).1.2.2.length ≤ 1048576 := by
  unfold ofM; split
  · rename_i h; exact Nat.le_trans (cylB_true.1 h.2.2.2).2.2.1 (by omega)
  · simp
theorem fold_fresh (q : List (Int × Int)) (k : Nat) (x : Int × Int) : (putP (foldP id (q.take k)) x).2 = true ↔ x ∉ q.take k := by
  rw [put_ok (foldP_sp _ _), foldP_mem]
  constructor
  · intro h hx; exact h ⟨x, hx, rfl⟩
  · rintro h ⟨y, hy, rfl⟩; exact h hy

set_option maxHeartbeats 4000000 in
theorem cylof_any {w : World} {vt vc : Value} {t : List (Int × Int)} {c : List Int} (s r : Int) (ht : Rd2 w vt t) (hc : Rd1 w vc c) :
    Calls Try.prog 23 #[vt, vc, .int .i64 s, .int .i64 r] w (NewCylB w (ofM t c s r).1.1 (ofM t c s r).1.2.1 (ofM t c s r).1.2.2 (ofM t c s r).2) := by
  obtain ⟨a1, cap1, rfl⟩ := Rd.slice ht
  obtain ⟨a2, cap2, rfl⟩ := Rd.slice hc
  have hm := ht.2.1
  have hm2 := hc.2.1
  unfold maxLen at hm hm2
  obtain ⟨W, hW⟩ : ∃ W, W = (w.alloc (.cells #[.int .i64 0, .int .i64 0, .slice none 0 0] 26)).alloc (.cells #[.int .i64 s, .int .i64 r, .slice none 0 0] 26) := ⟨_, rfl⟩
  have hsz : W.heap.size = w.heap.size + 1 + 1 := by rw [hW]; simp
  have hB : Below w.heap.size w W := by rw [hW]; exact ((Below.refl _ _).alloc (Nat.le_refl _) _).alloc (by simp) _
  have hR : BoxW W w.heap.size (.int .i64 0) (.int .i64 0) (.slice none 0 0) := by
    rw [hW]; exact (boxw_new _ _ _ _ _).below ((Below.refl _ _).alloc (Nat.le_refl _) _)
  have hO : BoxW W (w.heap.size + 1) (.int .i64 s) (.int .i64 r) (.slice none 0 0) := by
    have := boxw_new (w.alloc (.cells #[.int .i64 0, .int .i64 0, .slice none 0 0] 26)) (.int .i64 s) (.int .i64 r) (.slice none 0 0) 26
    rw [size_alloc, ← hW] at this; exact this
  go_enter Try.func23, Try.ntmps23
  go_wp2_with fail
  rw [← hW]
  clear hW
  obtain ⟨bx, hbx⟩ : ∃ b, b = w.heap.size := ⟨_, rfl⟩
  have hle : w.heap.size ≤ bx := by omega
  rw [← hbx] at hR hO hsz
  simp only [← hbx]
  clear hbx
  by_cases tt : tuneB t = true
  · have TT := Lib.hid tt
    have h40 := (tuneB_true.1 tt).1
    refine (tuneok_yes (Rd.below ht hB) TT.out).mono ?_
    rintro e w1 ⟨rfl, hb1⟩
    have hR1 := hR.below hb1
    have hO1 := hO.below hb1
    have g1 := bstep hB hb1
    have hlt1 : bx + 1 < W.heap.size := by omega
    have hlt2 : bx + 1 < w1.heap.size := hO1.1
    clear hR hO hB hb1 hsz
    by_cases hlen : c.length = t.length
    · have HN := Lib.hid (fun k => ofM_no (t := t) (c := c) (s := s) (r := r) k)
      have hne : ((c.length : Int) == (t.length : Int)) = true := by simp [hlen]
      have HPL := Lib.hid (pinsOf_len hlen)
      have HLE := Lib.hid hlen
      go_wp2_with fail
      go_loopw [11] (fun v11 wr => ∃ (k : Nat) (u : Value), k ≤ t.length ∧ v11 = .int .i64 k ∧ wr.ownsRow (bx + 1 + 1) 32 2 u (foldP id ((pinsOf c t).take k)).length (flat2 (foldP id ((pinsOf c t).take k))) ∧ Below w.heap.size w wr ∧ BoxW wr bx (.int .i64 0) (.int .i64 0) (.slice none 0 0) ∧ BoxW wr (bx + 1) (.int .i64 s) (.int .i64 r) u ∧ Hid (Fresh (pinsOf c t) k)) (fun v11 _ => t.length - (intOf v11).toNat)
      case atStart => exact ⟨0, _, Nat.zero_le _, rfl, World.ownsRow_nil _ _ _ _, g1, hR1, hO1, Lib.hid fun i x hi => by omega⟩
      case round =>
        clear g1 hR1 hO1
        obtain ⟨k, u, hk, rfl, hown, hbr, hR, hO, HFR⟩ := hrel
        obtain ⟨e0, e1, e2⟩ := id hO.2.1
        have ef := hO.2.2 2
        by_cases hlt : k < t.length
        · have hltc : k < c.length := by omega
          obtain ⟨n, hn⟩ : ∃ n, t[k]? = some n := ⟨_, List.getElem?_eq_getElem hlt⟩
          obtain ⟨x, hx⟩ : ∃ x, c[k]? = some x := ⟨_, List.getElem?_eq_getElem hltc⟩
          have HQ := Lib.hid (pinsOf_at hx hn)
          have HF := Lib.hid (show foldP id ((pinsOf c t).take (k + 1)) = (putP (foldP id ((pinsOf c t).take k)) (x, n.1)).1 from foldP_step (g := id) (pinsOf_at hx hn))
          have HFF := Lib.hid (fold_fresh (pinsOf c t) k (x, n.1))
          obtain ⟨b1, o1, cc1, hv1, x1, y1⟩ := Rd2.cells (Rd.below ht hbr) hn
          simp only [Value.slice.injEq, true_and] at hv1
          obtain ⟨rfl, rfl⟩ := hv1
          obtain ⟨b3, o3, cc3, hv3, z1⟩ := Rd1.cell (Rd.below hc hbr) hx
          simp only [Value.slice.injEq, true_and] at hv3
          obtain ⟨rfl, rfl⟩ := hv3
          have hfl : (foldP id ((pinsOf c t).take k)).length ≤ 1000 := by have := foldP_le id ((pinsOf c t).take k); rw [List.length_take] at this; omega
          have C1 : Calls Try.prog 74 #[u, .agg #[.int .i64 x, .int .i64 n.1]] wr.drew (NewPinsB wr.drew (putP (foldP id ((pinsOf c t).take k)) (x, n.1)).1 (putP (foldP id ((pinsOf c t).take k)) (x, n.1)).2) :=
            putspec_any (x, n.1) (RdC.of_own hown.drew) hfl
          clear hn hx
          obtain ⟨au, cu, rfl⟩ := ownS_slice hown
          go_wp2_with fail
          go_region_held3 (fun w' => w'.cell? ⟨bx + 1, 2, none⟩ = some (.slice au (foldP id ((pinsOf c t).take k)).length cu) ∧ w'.cell? ⟨b3, o3 + k, none⟩ = some (.int .i64 x) ∧ w'.cell? ⟨b1, o1 + k * 2, none⟩ = some (.int .i64 n.1)) (go_keep)
            ((go_at_call 74; (with_reducible refine C1.mono ?_); rintro e w5 ⟨v5, rfl, ho5, hb5⟩; have q3 := kept_cell hb5 e2; have q4 := kept_cell hb5 x1; have q5 := kept_cell hb5 z1))
          have hb6 := below_undrew hb5
          have hR6 := hR.below hb6
          have hO6 := hO.below hb6
          have g6 := bstep hbr hb6
          have hob5 := ob_of_lt ho5 (show bx + 1 < wr.drew.heap.size from hO.1)
          have ho6 := own_low ho5 (show bx + 1 + 1 ≤ wr.drew.heap.size from hO.1)
          clear q3 q4 q5 C1 ho5 hb5 hb6 hR hO hbr hown e0 e1 e2 ef x1 y1 z1
          generalize (putP (foldP id ((pinsOf c t).take k)) (x, n.1)).1 = M at *
          generalize (putP (foldP id ((pinsOf c t).take k)) (x, n.1)).2 = ok at *
          obtain ⟨a5, cp5, rfl⟩ := ownS_slice ho6
          cases ok with
          | false =>
            have HM := Lib.hid (HN.out fun k2 => by
              have h1 := HFF.out.2 (k2.2.2.1 k (x, n.1) hlt HQ.out)
              cases h1)
            obtain ⟨d0, d1, d2⟩ := id hR6.2.1
            have f0 := hR6.2.2 0
            have f1 := hR6.2.2 1
            have f2 := hR6.2.2 2
            have hq := read3 hR6 (.int .i64 0) (.int .i64 0) (.slice none 0 0)
            have hb9 := wr3_below g6 hle (.int .i64 0) (.int .i64 0) (.slice none 0 0)
            clear ho6 hob5 hO6 g6 HFF HN
            go_wp2
            refine bodyPost_ret (v := .tuple #[.agg #[.int .i64 0, .int .i64 0, .slice none 0 0], .bool false]) (by simp [results, Try.results23, go_sem, hq.1, hq.2.1, hq.2.2]) rfl ?_
            rw [HM.out]
            exact ⟨_, rfl, World.ownsRow_nil _ _ _ _, hb9⟩
          | true =>
            have HFR2 : Hid (Fresh (pinsOf c t) (k + 1)) := Lib.hid fun i y hi hy => by
              by_cases hik : i < k
              · exact HFR.out i y hik hy
              · obtain rfl : i = k := by omega
                rw [HQ.out] at hy
                obtain rfl := Option.some.inj hy
                exact HFF.out.1 (by trivial)
            obtain ⟨e0, e1, e2⟩ := id hO6.2.1
            have ef := hO6.2.2 2
            have hR7 := box_set_other hR6 (show bx + 1 ≠ bx by omega) 2 (.slice a5 M.length cp5)
            have hO7 := box_set2 hO6 (.slice a5 M.length cp5)
            have g7 : Below w.heap.size w (w5.setCell ⟨bx + 1, 2, none⟩ (.slice a5 M.length cp5)) := g6.setCell (show w.heap.size ≤ bx + 1 by omega) _
            have ho7 := own_set' (p := ⟨bx + 1, 2, none⟩) (u := .slice a5 M.length cp5) ho6 hob5
            have HO7 := Lib.hid (show _ ∧ _ ∧ _ ∧ _ from ⟨hR7, hO7, g7, ho7⟩)
            clear hR6 hR7 hO7 g6 g7 ho6 ho7 hob5 HFF
            go_wp2
            go_roundw
            case rel => exact ⟨k + 1, _, by omega, by go_num, by rw [HF.out]; exact HO7.out.2.2.2, HO7.out.2.2.1, HO7.out.1, HO7.out.2.1, HFR2⟩
            case measure => simp [intOf]; omega
        · obtain rfl : k = t.length := by omega
          have htk : (pinsOf c t).take t.length = pinsOf c t := by rw [← HPL.out]; exact List.take_length
          rw [htk] at hown
          have HY := Lib.hid (fun h4 => ofM_yes (s := s) (r := r) TT.out HLE.out HFR.out h4)
          clear htk
          generalize foldP id (pinsOf c t) = M at *
          obtain ⟨au, cu, rfl⟩ := ownS_slice hown
          go_wp2_with fail
          by_cases t3 : cylB s r M = true
          · have HM := Lib.hid (HY.out t3)
            refine (cylok_yes (Rd.of_own hown) t3).mono ?_
            rintro e w6 ⟨rfl, hb6⟩
            have hR6 := hR.below hb6
            have hO6 := hO.below hb6
            have g6 := bstep hbr hb6
            have ho6 := ownS_below hown hb6
            obtain ⟨d0, d1, d2⟩ := id hR6.2.1
            obtain ⟨j0, j1, j2⟩ := id hO6.2.1
            have f0 := hR6.2.2 0
            have f1 := hR6.2.2 1
            have f2 := hR6.2.2 2
            have hq := read3 hR6 (.int .i64 s) (.int .i64 r) (.slice au M.length cu)
            have ho7 := own_low (wr3_own ho6 (ob_of_lt ho6 (show bx < bx + 1 + 1 by omega)) (.int .i64 s) (.int .i64 r) (.slice au M.length cu)) (show w.heap.size ≤ bx + 1 + 1 by omega)
            have hb7 := wr3_below g6 hle (.int .i64 s) (.int .i64 r) (.slice au M.length cu)
            clear hb6 hR hO hbr hown ho6 e0 e1 e2 ef t3 HY HN
            go_wp2
            refine bodyPost_ret (v := .tuple #[.agg #[.int .i64 s, .int .i64 r, .slice au M.length cu], .bool true]) (by simp [results, Try.results23, go_sem, hq.1, hq.2.1, hq.2.2]) rfl ?_
            rw [HM.out]
            exact ⟨_, rfl, ho7, hb7⟩
          · have HM := Lib.hid (HN.out fun k2 => t3 k2.2.2.2)
            refine (cylok_no (Rd.of_own hown) (by simpa using t3)).mono ?_
            rintro e w6 ⟨rfl, hb6⟩
            have hR6 := hR.below hb6
            have g6 := bstep hbr hb6
            obtain ⟨d0, d1, d2⟩ := id hR6.2.1
            have f0 := hR6.2.2 0
            have f1 := hR6.2.2 1
            have f2 := hR6.2.2 2
            have hq := read3 hR6 (.int .i64 0) (.int .i64 0) (.slice none 0 0)
            have hb9 := wr3_below g6 hle (.int .i64 0) (.int .i64 0) (.slice none 0 0)
            clear hb6 hR hO hbr hown e0 e1 e2 ef t3 HY HN g6
            go_wp2
            refine bodyPost_ret (v := .tuple #[.agg #[.int .i64 0, .int .i64 0, .slice none 0 0], .bool false]) (by simp [results, Try.results23, go_sem, hq.1, hq.2.1, hq.2.2]) rfl ?_
            rw [HM.out]
            exact ⟨_, rfl, World.ownsRow_nil _ _ _ _, hb9⟩
    · have HM := Lib.hid (ofM_no (t := t) (c := c) (s := s) (r := r) fun k => hlen k.2.1)
      have hne : ((c.length : Int) == (t.length : Int)) = false := by rw [beq_eq_false_iff_ne]; omega
      obtain ⟨d0, d1, d2⟩ := id hR1.2.1
      have f0 := hR1.2.2 0
      have f1 := hR1.2.2 1
      have f2 := hR1.2.2 2
      have hq := read3 hR1 (.int .i64 0) (.int .i64 0) (.slice none 0 0)
      have hb9 := wr3_below g1 hle (.int .i64 0) (.int .i64 0) (.slice none 0 0)
      clear hO1 g1 tt
      go_wp2
      refine bodyPost_ret (v := .tuple #[.agg #[.int .i64 0, .int .i64 0, .slice none 0 0], .bool false]) (by simp [results, Try.results23, go_sem, hq.1, hq.2.1, hq.2.2]) rfl ?_
      rw [HM.out]
      exact ⟨_, rfl, World.ownsRow_nil _ _ _ _, hb9⟩
  · have TT := Lib.hid (show tuneB t = false by simpa using tt)
    have HM := Lib.hid (ofM_no (t := t) (c := c) (s := s) (r := r) fun k => tt k.1)
    refine (tuneok_no (Rd.below ht hB) TT.out).mono ?_
    rintro e w1 ⟨rfl, hb1⟩
    have hR1 := hR.below hb1
    have g1 := bstep hB hb1
    obtain ⟨d0, d1, d2⟩ := id hR1.2.1
    have f0 := hR1.2.2 0
    have f1 := hR1.2.2 1
    have f2 := hR1.2.2 2
    have hq := read3 hR1 (.int .i64 0) (.int .i64 0) (.slice none 0 0)
    have hb9 := wr3_below g1 hle (.int .i64 0) (.int .i64 0) (.slice none 0 0)
    clear hR hO hB hb1 hsz g1 tt
    go_wp2
    refine bodyPost_ret (v := .tuple #[.agg #[.int .i64 0, .int .i64 0, .slice none 0 0], .bool false]) (by simp [results, Try.results23, go_sem, hq.1, hq.2.1, hq.2.2]) rfl ?_
    rw [HM.out]
    exact ⟨_, rfl, World.ownsRow_nil _ _ _ _, hb9⟩
end Go.Proofs.Ytcbdoldcdgaooaa
