/- The contract of the model's ClosestPins. No condition. -/
import Derived.Test.YtpdjceafjdlknaaGap
import Derived.Test.YtpdjceafjdlknaaBoxKit
namespace Go.Proofs.Ytpdjceafjdlknaa
open Go.ChangeShapes Go.WideShapes Go.ChangeAt Go.RowKit

theorem cyl_gap {s t : Int} {l : List (Int × Int)} (h : CylP s t l) {i k : Nat} {p q : Int × Int} (hp : l[i]? = some p) (hq : l[k]? = some q) : gapM p.2 q.2 s = gapG s p.2 q.2 :=
  gapM_yes (by have := h.1; omega) (cyl_bd h (List.mem_of_getElem? hp)).2 (cyl_bd h (List.mem_of_getElem? hq)).2
theorem near_le {s n : Int} {l : List (Int × Int)} {i k : Nat} {p q : Int × Int} {g : Int} (h : Near s l i (k + 1) (min n (gapG s p.2 q.2))) (hg : gapM p.2 q.2 s = gapG s p.2 q.2) (e : g = min n (gapM p.2 q.2 s)) : Near s l i (k + 1) g := by
  rw [e, hg]; exact h

set_option maxHeartbeats 4000000 in
set_option maxRecDepth 100000 in
theorem sclose_any {w : World} {v : Value} {l : List (Int × Int)} (s t : Int) (h : Rd2 w v l) :
    Calls Try.prog 24 #[.agg #[.int .i64 s, .int .i64 t, v]] w fun e w' => e = .returned (.int .i64 (closM s t l)) ∧ Below w.heap.size w w' := by
  obtain ⟨a1, cap1, rfl⟩ := Rd.slice h
  obtain ⟨W, hW⟩ : ∃ W, W = w.alloc (.cells #[.int .i64 s, .int .i64 t, .slice a1 l.length cap1] 26) := ⟨_, rfl⟩
  have hX : Box W w.heap.size s t (.slice a1 l.length cap1) := by rw [hW]; exact box_new _ _ _ _ _
  have hB : Below w.heap.size w W := by rw [hW]; exact (Below.refl _ _).alloc (Nat.le_refl _) _
  by_cases tc : cylB s t l = true
  · have TC := Lib.hid tc
    have HC := Lib.hid (cylB_true.1 tc)
    have hl := (cylB_true.1 tc).2.2.1
    have HL := Lib.hid (show closM s t l = closN s l from if_pos tc)
    clear tc
    go_enter Try.func24, Try.ntmps24
    obtain ⟨-, k0, k1, k2⟩ := id hX
    rw [hW] at k0 k1 k2
    go_wp2_with fail
    rw [← hW]
    clear hW k0 k1 k2
    obtain ⟨bx, hbx⟩ : ∃ b, b = w.heap.size := ⟨_, rfl⟩
    rw [← hbx] at hX
    simp only [← hbx]
    clear hbx
    refine (cylok_yes (Rd.below h hB) TC.out).mono ?_
    rintro e w1 ⟨rfl, hb1⟩
    have hX1 := hX.below hb1
    have g1 := bstep hB hb1
    clear hX hB hb1
    obtain ⟨-, k0, k1, k2⟩ := id hX1
    go_wp2_with fail
    clear k0 k1 k2
    go_loopw [3, 4] (fun v3 v4 wr => ∃ (i : Nat) (n : Int), i ≤ l.length ∧ v4 = .int .i64 (i : Int) ∧ v3 = .int .i64 n ∧ Hid (Near s l i 0 n) ∧ Below w.heap.size w wr ∧ Box wr bx s t (.slice a1 l.length cap1)) (fun _ v4 _ => l.length - (intOf v4).toNat)
    case atStart => exact ⟨0, s, Nat.zero_le _, rfl, rfl, Lib.hid (near_0 s l), g1, hX1⟩
    case round =>
      clear g1 hX1
      obtain ⟨i, n, hi, rfl, rfl, HN, hbr, hX⟩ := hrel
      by_cases hlt : i < l.length
      · obtain ⟨p, hp⟩ : ∃ p, l[i]? = some p := ⟨_, List.getElem?_eq_getElem hlt⟩
        have HP := Lib.hid hp
        clear hp
        obtain ⟨kx, k0, k1, k2⟩ := id hX
        go_wp2_with fail
        clear kx k0 k1 k2
        obtain ⟨wo, hwo⟩ : ∃ wo : World, wo = wr := ⟨_, rfl⟩
        rw [← hwo] at hbr hX ⊢
        clear hwo
        go_loopw [3, 5] (fun v3 v5 wx => ∃ (k : Nat) (n : Int), k ≤ i ∧ v5 = .int .i64 (k : Int) ∧ v3 = .int .i64 n ∧ Hid (Near s l i k n) ∧ Below w.heap.size w wx ∧ Box wx bx s t (.slice a1 l.length cap1)) (fun _ v5 _ => i - (intOf v5).toNat)
        case atStart => exact ⟨0, n, Nat.zero_le _, rfl, rfl, HN, hbr, hX⟩
        case round =>
          clear hbr hX HN
          obtain ⟨k, n, hk, rfl, rfl, HN, hbr, hX⟩ := hrel
          by_cases hki : k < i
          · obtain ⟨q, hq⟩ : ∃ q, l[k]? = some q := ⟨_, List.getElem?_eq_getElem (by omega)⟩
            have HQ := Lib.hid hq
            obtain ⟨b1, o1, c1, hv1, x1, y1⟩ := Rd2.cells (Rd.below h hbr) HP.out
            simp only [Value.slice.injEq, true_and] at hv1
            obtain ⟨rfl, rfl⟩ := hv1
            obtain ⟨b2, o2, c2, hv2, x2, y2⟩ := Rd2.cells (Rd.below h hbr) hq
            simp only [Value.slice.injEq, true_and, Option.some.injEq, Addr.mk.injEq, and_true] at hv2
            obtain ⟨⟨rfl, rfl⟩, rfl⟩ := hv2
            have hk2 : k < l.length := by omega
            clear hq
            obtain ⟨kx, k0, k1, k2⟩ := id hX
            by_cases hpq : p.1 = q.1
            · have HS := Lib.hid (near_take HN.out hki HP.out HQ.out hpq)
              have HG := Lib.hid (cyl_gap HC.out HP.out HQ.out)
              have hpb : (p.1 == q.1) = true := by simpa using hpq
              go_wp2_with fail
              go_quiet (fail)
              obtain ⟨W2, hW2⟩ : ∃ W : World, W = wr.drewN nq := ⟨_, rfl⟩
              have hb2 : Below wr.heap.size wr W2 := by rw [hW2]; exact below_drewN (Below.refl _ _) _
              rw [← hW2]
              clear hW2 hpq
              have hbr2 := bstep hbr hb2
              have hX2 := hX.below hb2
              have x3 := old_cell hb2 x1
              have y3 := old_cell hb2 y1
              have x4 := old_cell hb2 x2
              have y4 := old_cell hb2 y2
              obtain ⟨jx, j0, j1, j2⟩ := id hX2
              clear hbr hX hb2 x1 y1 x2 y2 kx k0 k1 k2
              by_cases hg : gapM p.2 q.2 s < n
              · have HNN := Lib.hid (near_le HS.out HG.out (g := gapM p.2 q.2 s) (by omega))
                go_wp2_with fail
                go_quiet ((go_at_call 22; exact Calls.quiet_of_same (sgap_any _ _ _ _)))
                generalize gapM p.2 q.2 s = n2 at *
                go_wp2
                go_roundw
                case rel => exact ⟨k + 1, n2, by omega, by go_num, rfl, HNN, below_drewN hbr2 _, hX2.below (below_drewN (Below.refl _ _) _)⟩
                case measure => simp [intOf]; omega
              · have HNN := Lib.hid (near_le HS.out HG.out (g := n) (by omega))
                go_wp2_with fail
                go_quiet ((go_at_call 22; exact Calls.quiet_of_same (sgap_any _ _ _ _)))
                go_wp2
                go_roundw
                case rel => exact ⟨k + 1, n, by omega, by go_num, rfl, HNN, below_drewN hbr2 _, hX2.below (below_drewN (Below.refl _ _) _)⟩
                case measure => simp [intOf]; omega
            · have HNN := Lib.hid (near_skip HN.out HP.out HQ.out hpq)
              have hpb : (p.1 == q.1) = false := by simpa using hpq
              go_wp2_with fail
              go_quiet (fail)
              clear hpq
              go_wp2
              go_roundw
              case rel => exact ⟨k + 1, n, by omega, by go_num, rfl, HNN, below_drewN hbr _, hX.below (below_drewN (Below.refl _ _) _)⟩
              case measure => simp [intOf]; omega
          · obtain rfl : k = i := by omega
            have HNN := Lib.hid (near_row HN.out)
            go_wp2
            go_roundw
            case rel => exact ⟨k + 1, n, by omega, by go_num, rfl, HNN, hbr, hX⟩
            case measure => simp [intOf]; omega
      · obtain rfl : i = l.length := by omega
        have HE := Lib.hid (closN_eq (near_closest (sp_nodup (cyl_sp HC.out)) HN.out))
        obtain ⟨kx, k0, k1, k2⟩ := id hX
        go_wp2
        go_ret
        exact ⟨by rw [HL.out, HE.out]; rfl, hbr⟩
  · have TC := Lib.hid (show cylB s t l = false by simpa using tc)
    have HL := Lib.hid (show closM s t l = -1 from if_neg tc)
    clear tc
    obtain ⟨-, k0, k1, k2⟩ := id hX
    rw [hW] at k0 k1 k2
    go_enter Try.func24, Try.ntmps24
    go_wp2_with fail
    rw [← hW]
    clear hW k0 k1 k2
    refine (cylok_no (Rd.below h hB) TC.out).mono ?_
    rintro e w1 ⟨rfl, hb1⟩
    have g1 := bstep hB hb1
    clear hX hB hb1
    go_wp2
    go_ret
    exact ⟨by rw [HL.out]; rfl, g1⟩
end Go.Proofs.Ytpdjceafjdlknaa
