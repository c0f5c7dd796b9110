/- The program's pairsOfTracks and gapOf: their contracts at a valid cylinder. -/
import Derived.Test.YtpdjceafjdlknaaSeamSpec
import Derived.Test.YtpdjceafjdlknaaImplCyl
namespace Go.Proofs.Ytpdjceafjdlknaa
open Go.ChangeShapes Go.WideShapes Go.ChangeAt Go.RowKit

theorem gap_small {s t : Int} {l : List (Int × Int)} (h : CylP s t l) {i k : Nat} {p q : Int × Int} (hp : l[i]? = some p) (hq : l[k]? = some q) : gapM p.2 q.2 s < 1000 := by
  rw [cyl_gap h hp hq]
  have h1 := gapG_bd (cyl_bd h (List.mem_of_getElem? hp)).2 (cyl_bd h (List.mem_of_getElem? hq)).2
  have := h.1
  omega
theorem all_yes {s t : Int} {l : List (Int × Int)} {i k : Nat} {p q : Int × Int} (hc : CylP s t l) (hik : i < k) (hp : l[i]? = some p) (hq : l[k]? = some q) (h1 : p.1 = q.1) : tooP s 1000 l i (k + 1) = tooP s 1000 l i k ++ [[(i : Int), (k : Int)]] :=
  tooP_yes hc hik hp hq h1 (gap_small hc hp hq)
theorem all_no {s t : Int} {l : List (Int × Int)} {i k : Nat} {p q : Int × Int} (hc : CylP s t l) (hp : l[i]? = some p) (hq : l[k]? = some q) (h1 : ¬ p.1 = q.1) : tooP s 1000 l i (k + 1) = tooP s 1000 l i k :=
  tooP_no hc hp hq fun k => h1 k.1

set_option maxHeartbeats 4000000 in
set_option maxRecDepth 100000 in
theorem pairs_any {w : World} {v : Value} {l : List (Int × Int)} (s t : Int) (hc : CylP s t l) (h : Rd2 w v l) :
    Calls Try.prog 44 #[.agg #[.int .i64 s, .int .i64 t, v]] w (NewNest w (tooN s 1000 l l.length)) := by
  obtain ⟨i0, hi, hz0, hz1, hz2⟩ := info_parts infoIS
  obtain ⟨a1, cap1, rfl⟩ := Rd.slice h
  have HC := Lib.hid hc
  have hl := hc.2.2.1
  clear hc
  obtain ⟨W, hW⟩ : ∃ W, W = w.alloc (.cells #[.int .i64 s, .int .i64 t, .slice a1 l.length cap1] 26) := ⟨_, rfl⟩
  have hX : Box W w.heap.size s t (.slice a1 l.length cap1) := by rw [hW]; exact box_new _ _ _ _ _
  have hB : Below w.heap.size w W := by rw [hW]; exact (Below.refl _ _).alloc (Nat.le_refl _) _
  obtain ⟨-, k0, k1, k2⟩ := id hX
  rw [hW] at k0 k1 k2
  go_enter Try.func44, Try.ntmps44
  go_wp2_with fail
  rw [← hW]
  clear hW k0 k1 k2
  obtain ⟨bx, hbx⟩ : ∃ b, b = w.heap.size := ⟨_, rfl⟩
  rw [← hbx] at hX
  simp only [← hbx]
  have hle : w.heap.size ≤ bx + 1 := by omega
  clear hbx
  have hO0 : OwI (bx + 1) W.heap.size W (.slice none 0 0) [] (tooN s 1000 l 0) := OwI.nil (World.ownsRow_nil _ _ _ _)
  go_loopw [3, 10] (fun v3 v10 wr => ∃ (i : Nat) (us : List Value), i ≤ l.length ∧ v10 = .int .i64 (i : Int) ∧ OwI (bx + 1) wr.heap.size wr v3 us (tooN s 1000 l i) ∧ Below w.heap.size w wr ∧ Box wr bx s t (.slice a1 l.length cap1)) (fun _ v10 _ => l.length - (intOf v10).toNat)
  case atStart => exact ⟨0, [], Nat.zero_le _, rfl, hO0, hB, hX⟩
  case round =>
    clear hB hX hO0
    obtain ⟨i, us, hi1, rfl, hO, hbr, hX⟩ := hrel
    by_cases hlt : i < l.length
    · obtain ⟨p, hp⟩ : ∃ p, l[i]? = some p := ⟨_, List.getElem?_eq_getElem hlt⟩
      have HP := Lib.hid hp
      obtain ⟨b1, o1, c1, hv1, x1, y1⟩ := Rd2.cells (Rd.below h hbr) hp
      simp only [Value.slice.injEq, true_and] at hv1
      obtain ⟨rfl, rfl⟩ := hv1
      clear hp
      rw [← tooP_start] at hO
      obtain ⟨kx, k0, k1, k2⟩ := id hX
      go_wp2_with fail
      obtain ⟨V, hV⟩ : ∃ V, V = wr.alloc (.cells #[.int .i64 p.1, .int .i64 p.2] 36) := ⟨_, rfl⟩
      have hbV : Below wr.heap.size wr V := by rw [hV]; exact (Below.refl _ _).alloc (Nat.le_refl _) _
      have z0 : V.cell? ⟨wr.heap.size, 0, none⟩ = some (.int .i64 p.1) := by rw [hV]; exact cell0 _ _ _ _
      rw [← hV]
      clear hV kx k0 k1 k2 x1 y1
      have hne : u3.ownBlock ≠ some wr.heap.size := fun e => Nat.lt_irrefl _ (hO.2.2.1 _ e)
      have hbr1 := bstep hbr hbV
      have hO1 := hO.step hbV
      have hX1 := hX.below hbV
      have hbp : wr.heap.size < V.heap.size := World.block_lt_of_cell? _ _ z0
      clear hbr hX hO hbV
      generalize wr.heap.size = bp at *
      go_loopw [3, 6] (fun v3 v6 wx => ∃ (k : Nat) (us : List Value), (i + 1 ≤ k ∧ k ≤ l.length) ∧ v6 = .int .i64 (k : Int) ∧ OwI (bx + 1) wx.heap.size wx v3 us (tooP s 1000 l i k) ∧ Below w.heap.size w wx ∧ Box wx bx s t (.slice (some ⟨b1, o1, none⟩) l.length cap1) ∧ wx.cell? ⟨bp, 0, none⟩ = some (.int .i64 p.1) ∧ Hid (v3.ownBlock ≠ some bp)) (fun _ v6 _ => l.length - (intOf v6).toNat)
      case atStart => exact ⟨i + 1, us, ⟨Nat.le_refl _, by omega⟩, by go_num, hO1, hbr1, hX1, z0, Lib.hid hne⟩
      case round =>
        clear hbr1 hX1 hO1 z0 hne hbp
        obtain ⟨k, us, ⟨hk0, hk⟩, rfl, hO, hbr, hX, z0, HNE⟩ := hrel
        obtain ⟨kx, k0, k1, k2⟩ := id hX
        by_cases hkl : k < l.length
        · obtain ⟨q, hq⟩ : ∃ q, l[k]? = some q := ⟨_, List.getElem?_eq_getElem hkl⟩
          have HQ := Lib.hid hq
          obtain ⟨b2, o2, c2, hv2, x2, y2⟩ := Rd2.cells (Rd.below h hbr) hq
          simp only [Value.slice.injEq, true_and, Option.some.injEq, Addr.mk.injEq, and_true] at hv2
          obtain ⟨⟨rfl, rfl⟩, rfl⟩ := hv2
          clear hq
          have hbp : bp < wr.heap.size := World.block_lt_of_cell? _ _ z0
          by_cases hpq : p.1 = q.1
          · have hpb : (q.1 == p.1) = true := by simpa using hpq.symm
            have HA := Lib.hid (all_yes HC.out (by omega) HP.out HQ.out hpq)
            have hln := tooP_len (s := s) (r := 1000) (i := i) (k := k) hl (by omega) hk
            rw [← hO.1] at hln
            clear hpq
            go_wp2_with fail
            go_quiet (fail)
            obtain ⟨W2, hW2⟩ : ∃ W : World, W = wr.drewN nq := ⟨_, rfl⟩
            have hb2 : Below wr.heap.size wr W2 := by rw [hW2]; exact below_drewN (Below.refl _ _) _
            rw [← hW2]
            clear hW2
            have hbr2 := bstep hbr hb2
            have hX2 := hX.below hb2
            have hO2 := hO.step hb2
            have z2 := old_cell hb2 z0
            have hbx2 : bx + 1 ≤ W2.heap.size := hX2.1
            have hbp2 : bp < W2.heap.size := Nat.lt_of_lt_of_le hbp hb2.size
            clear hbr hX hO hb2 x2 y2 kx k0 k1 k2 z0 hbp
            obtain ⟨W3, hW3⟩ : ∃ W, W = twoW W2 (i : Int) (k : Int) := ⟨_, rfl⟩
            have hO3 : W3.ownsRow (bx + 1) 34 1 u3 us.length us := by
              rw [hW3]; exact ownS_below hO2.2.1 (twoW_below _ _ _)
            have hcell := two_cell W2 (i : Int) (k : Int)
            rw [← hW3] at hcell
            have hs3 : bx + 1 ≤ W3.heap.size := by rw [hW3, twoW_size]; omega
            have hW3' := hW3
            unfold twoW at hW3'
            clear hW3
            go_wp2_with (at_builtin; rw [← hW3']; refine wpList_append_own_at _ rfl _ _ 30 rfl (bx + 1) 34 i0 (.slice none 0 0) 1 24 Try.underlying30 hi hz0 hz1 hz2 rfl (by decide) _ us.length _ rfl hO3 ⟨W2.heap.size + 1, 0, none⟩ 1 1 [.slice (some ⟨W2.heap.size, 0, none⟩) 2 2] rfl rfl ?c1 ?c2 ?c3 ?c4 ?c5 ?_)
            case c1 => exact hcell
            case c2 => simp [Value.oneCell']
            case c3 => unfold maxLen; omega
            case c4 => omega
            case c5 => exact hs3
            intro v' w4 hown4 hgrow _ hat
            have hO4 := push_two (x := (i : Int)) (y := (k : Int)) hO2 hbx2 hown4 hgrow (hat.imp id fun e => e.trans (by rw [twoW_size]))
            have hb4 := two_below (x := (i : Int)) (y := (k : Int)) hbr2 hO2 hle hbr2.size hgrow
            have hX4 := two_box (x := (i : Int)) (y := (k : Int)) hX2 hO2 (Nat.lt_succ_self bx) hgrow
            have z4 : w4.cell? ⟨bp, 0, none⟩ = some (.int .i64 p.1) := two_keep (x := (i : Int)) (y := (k : Int)) z2 (fun e => HNE.out e) hgrow
            have HNE4 : Hid (v'.ownBlock ≠ some bp) := Lib.hid fun e => by
              rcases hat with e2 | e2
              · exact HNE.out (e2 ▸ e)
              · rw [e2] at e; injection e with e; omega
            rw [← HA.out] at hO4
            clear hown4 hgrow hat hO2 hbr2 hX2 hW3' hO3 hcell hs3 z2 HNE
            go_wp2
            go_roundw
            case rel => exact ⟨k + 1, _, ⟨by omega, by omega⟩, by go_num, hO4, hb4, hX4, z4, HNE4⟩
            case measure => simp [intOf]; omega
          · have HA := Lib.hid (all_no HC.out HP.out HQ.out hpq)
            have hpb : (q.1 == p.1) = false := by rw [beq_eq_false_iff_ne]; exact fun e => hpq e.symm
            clear hpq
            go_wp2_with fail
            go_quiet (fail)
            obtain ⟨W2, hW2⟩ : ∃ W : World, W = wr.drewN nq := ⟨_, rfl⟩
            have hb2 : Below wr.heap.size wr W2 := by rw [hW2]; exact below_drewN (Below.refl _ _) _
            rw [← hW2]
            clear hW2
            have hbr2 := bstep hbr hb2
            have hX2 := hX.below hb2
            have hO2 := hO.step hb2
            have z2 := old_cell hb2 z0
            rw [← HA.out] at hO2
            clear hbr hX hO hb2 x2 y2 kx k0 k1 k2 z0 hbp
            go_wp2
            go_roundw
            case rel => exact ⟨k + 1, us, ⟨by omega, by omega⟩, by go_num, hO2, hbr2, hX2, z2, HNE⟩
            case measure => simp [intOf]; omega
        · obtain rfl : k = l.length := by omega
          rw [tooP_end] at hO
          go_wp2
          go_roundw
          case rel => exact ⟨i + 1, us, by omega, by go_num, hO, hbr, hX⟩
          case measure => simp [intOf]; omega
    · obtain rfl : i = l.length := by omega
      go_wp2
      go_ret
      exact ⟨_, us, rfl, hO.low hle, hbr⟩

set_option maxHeartbeats 2000000 in
theorem gapof_any {w : World} {v u : Value} {l : List (Int × Int)} {s t : Int} {i k : Nat} {p q : Int × Int} (h : Rd2 w v l) (hu : Rd1 w u [(i : Int), (k : Int)]) (hp : l[i]? = some p) (hq : l[k]? = some q) :
    Calls Try.prog 45 #[.agg #[.int .i64 s, .int .i64 t, v], u] w fun e w' => e = .returned (.int .i64 (gapM p.2 q.2 s)) ∧ Below w.heap.size w w' := by
  obtain ⟨a1, cap1, rfl⟩ := Rd.slice h
  have hm := h.2.1
  unfold maxLen at hm
  have hil := (List.getElem?_eq_some_iff.1 hp).1
  have hkl := (List.getElem?_eq_some_iff.1 hq).1
  obtain ⟨W, hW⟩ : ∃ W, W = w.alloc (.cells #[.int .i64 s, .int .i64 t, .slice a1 l.length cap1] 26) := ⟨_, rfl⟩
  have hX : Box W w.heap.size s t (.slice a1 l.length cap1) := by rw [hW]; exact box_new _ _ _ _ _
  have hB : Below w.heap.size w W := by rw [hW]; exact (Below.refl _ _).alloc (Nat.le_refl _) _
  obtain ⟨b4, o4, c5, rfl, z0, z1⟩ := Rd1.two (Rd.below hu hB)
  obtain ⟨b1, o1, c1, hv1, x1, y1⟩ := Rd2.cells (Rd.below h hB) hp
  simp only [Value.slice.injEq, true_and] at hv1
  obtain ⟨rfl, rfl⟩ := hv1
  obtain ⟨b2, o2, c2, hv2, x2, y2⟩ := Rd2.cells (Rd.below h hB) hq
  simp only [Value.slice.injEq, true_and, Option.some.injEq, Addr.mk.injEq, and_true] at hv2
  obtain ⟨⟨rfl, rfl⟩, rfl⟩ := hv2
  obtain ⟨-, k0, k1, k2⟩ := id hX
  clear hp hq hu
  go_enter Try.func45, Try.ntmps45
  go_wp2_with fail
  rw [← hW]
  clear hW
  go_quiet ((go_at_call 17; exact Calls.quiet_of_same (igap_any _ _ _ _)))
  have hb2 := bstep hB (below_drewN (Below.refl W.heap.size W) nq)
  generalize W.drewN nq = W2 at *
  clear x1 y1 x2 y2 z0 z1 k0 k1 k2
  go_wp2
  go_ret
  exact ⟨rfl, hb2⟩
end Go.Proofs.Ytpdjceafjdlknaa
