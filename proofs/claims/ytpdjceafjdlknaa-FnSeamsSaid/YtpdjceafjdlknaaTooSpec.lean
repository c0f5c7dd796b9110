/- The contract of the model's TooClose. No condition. -/
import Derived.Test.YtpdjceafjdlknaaCloseSpec
import Derived.Test.YtpdjceafjdlknaaNestI2
namespace Go.Proofs.Ytpdjceafjdlknaa
open Go.ChangeShapes Go.WideShapes Go.ChangeAt Go.RowKit

theorem rowN_le (s r : Int) (l : List (Int × Int)) (i m : Nat) : (rowN s r l i m).length ≤ m := by
  unfold rowN; rw [List.length_map]; exact Nat.le_trans (List.length_filter_le _ _) (by simp)
theorem tooN_le (s r : Int) (l : List (Int × Int)) : ∀ i, (tooN s r l i).length ≤ i * l.length
  | 0 => by simp [tooN]
  | i + 1 => by
    have ih := tooN_le s r l i
    have h := rowN_le s r l i l.length
    rw [tooN_succ, List.length_append, Nat.succ_mul]; omega
/-- What has been found ahead of the pair (i, k). -/
def tooP (s r : Int) (l : List (Int × Int)) (i k : Nat) : List (List Int) := tooN s r l i ++ rowN s r l i k
theorem tooP_len {s r : Int} {l : List (Int × Int)} {i k : Nat} (hl : l.length ≤ 100) (hi : i ≤ l.length) (hk : k ≤ l.length) : (tooP s r l i k).length ≤ 10100 := by
  unfold tooP
  rw [List.length_append]
  have h1 := tooN_le s r l i
  have h2 := rowN_le s r l i k
  have h3 : i * l.length ≤ 100 * 100 := Nat.mul_le_mul (by omega) hl
  omega
theorem tooP_start (s r : Int) (l : List (Int × Int)) (i : Nat) : tooP s r l i (i + 1) = tooN s r l i := by unfold tooP; rw [rowN_low _ _ _ _ (Nat.le_refl _), List.append_nil]
theorem tooP_end (s r : Int) (l : List (Int × Int)) (i : Nat) : tooP s r l i l.length = tooN s r l (i + 1) := (tooN_succ s r l i).symm
theorem closeK_iff {s r : Int} {l : List (Int × Int)} {i k : Nat} {p q : Int × Int} (hp : l[i]? = some p) (hq : l[k]? = some q) : closeK s r l i k = true ↔ p.1 = q.1 ∧ gapG s p.2 q.2 < r := by
  rw [closeK_at hp hq]; unfold closeF; simp
theorem tooP_yes {s t r : Int} {l : List (Int × Int)} {i k : Nat} {p q : Int × Int} (hc : CylP s t l) (hik : i < k) (hp : l[i]? = some p) (hq : l[k]? = some q) (h1 : p.1 = q.1) (h2 : gapM p.2 q.2 s < r) : tooP s r l i (k + 1) = tooP s r l i k ++ [[(i : Int), (k : Int)]] := by
  rw [cyl_gap hc hp hq] at h2
  unfold tooP; rw [rowN_yes hik ((closeK_iff hp hq).2 ⟨h1, h2⟩), List.append_assoc]
theorem tooP_no {s t r : Int} {l : List (Int × Int)} {i k : Nat} {p q : Int × Int} (hc : CylP s t l) (hp : l[i]? = some p) (hq : l[k]? = some q) (h : ¬ (p.1 = q.1 ∧ gapM p.2 q.2 s < r)) : tooP s r l i (k + 1) = tooP s r l i k := by
  rw [cyl_gap hc hp hq] at h
  unfold tooP; rw [rowN_no fun k => h ((closeK_iff hp hq).1 k)]

set_option maxHeartbeats 4000000 in
set_option maxRecDepth 100000 in
theorem stoo_any {w : World} {v : Value} {l : List (Int × Int)} (s t r : Int) (h : Rd2 w v l) :
    Calls Try.prog 27 #[.agg #[.int .i64 s, .int .i64 t, v], .int .i64 r] w (NewNest w (tooM s t l r)) := by
  obtain ⟨i0, hi, hz0, hz1, hz2⟩ := info_parts infoIS
  obtain ⟨a1, cap1, rfl⟩ := Rd.slice h
  obtain ⟨W, hW⟩ : ∃ W, W = (w.alloc (.cells #[.int .i64 s, .int .i64 t, .slice a1 l.length cap1] 26)).alloc (.cells #[] 34) := ⟨_, rfl⟩
  have hb1 : Below (w.alloc (.cells #[.int .i64 s, .int .i64 t, .slice a1 l.length cap1] 26)).heap.size (w.alloc (.cells #[.int .i64 s, .int .i64 t, .slice a1 l.length cap1] 26)) W := by rw [hW]; exact (Below.refl _ _).alloc (Nat.le_refl _) _
  have hX : Box W w.heap.size s t (.slice a1 l.length cap1) := (box_new _ _ _ _ _).below hb1
  have hB : Below w.heap.size w W := bstep ((Below.refl _ _).alloc (Nat.le_refl _) _) hb1
  have ho : W.ownsRow (w.heap.size + 1) 34 1 (.slice (some ⟨w.heap.size + 1, 0, none⟩) 0 0) 0 [] := by
    have := World.ownsRow_made (base := w.heap.size + 1) (e := 34) (size := 1) (w.alloc (.cells #[.int .i64 s, .int .i64 t, .slice a1 l.length cap1] 26)) #[] 0 (by rw [size_alloc]; exact Nat.le_refl _) (by simp) rfl
    rw [size_alloc, ← hW] at this; exact this
  have hO := OwI.nil ho
  clear ho
  by_cases tc : cylB s t l = true
  · have TC := Lib.hid tc
    have HC := Lib.hid (cylB_true.1 tc)
    have hl := (cylB_true.1 tc).2.2.1
    by_cases tr : 1 ≤ r ∧ r ≤ 96
    · have HL := Lib.hid (tooM_yes tc tr)
      clear tc
      go_enter Try.func27, Try.ntmps27
      go_wp2_with fail
      rw [← hW]
      clear hW hb1
      obtain ⟨bx, hbx⟩ : ∃ b, b = w.heap.size := ⟨_, rfl⟩
      rw [← hbx] at hX
      simp only [← hbx]
      rw [show w.heap.size + 1 = bx + 1 by rw [hbx]] at hO
      have hle : w.heap.size ≤ bx + 1 := by omega
      have hbl : bx + 1 ≤ W.heap.size := hX.1
      clear hbx
      refine (cylok_yes (Rd.below h hB) TC.out).mono ?_
      rintro e w1 ⟨rfl, hb1⟩
      have hX1 := hX.below hb1
      have g1 := bstep hB hb1
      have hO1 := hO.step hb1
      have hbl1 : bx + 1 ≤ w1.heap.size := hX1.1
      clear hX hB hb1 hO hbl
      go_wp2_with fail
      refine (in_yes' _ _ _ tr _).mono ?_
      rintro e w2 ⟨rfl, rfl⟩
      go_wp2_with fail
      go_loopw [5, 6] (fun v5 v6 wr => ∃ (i : Nat) (us : List Value), i ≤ l.length ∧ v6 = .int .i64 (i : Int) ∧ OwI (bx + 1) wr.heap.size wr v5 us (tooN s r l i) ∧ Below w.heap.size w wr ∧ Box wr bx s t (.slice a1 l.length cap1)) (fun _ v6 _ => l.length - (intOf v6).toNat)
      case atStart => exact ⟨0, [], Nat.zero_le _, rfl, hO1, g1, hX1⟩
      case round =>
        clear g1 hX1 hO1 hbl1
        obtain ⟨i, us, hi1, rfl, hO, hbr, hX⟩ := hrel
        by_cases hlt : i < l.length
        · obtain ⟨p, hp⟩ : ∃ p, l[i]? = some p := ⟨_, List.getElem?_eq_getElem hlt⟩
          have HP := Lib.hid hp
          clear hp
          rw [← tooP_start] at hO
          obtain ⟨kx, k0, k1, k2⟩ := id hX
          go_wp2_with fail
          clear kx k0 k1 k2
          obtain ⟨wo, hwo⟩ : ∃ wo : World, wo = wr := ⟨_, rfl⟩
          rw [← hwo] at hbr hX hO ⊢
          clear hwo
          go_loopw [5, 7] (fun v5 v7 wx => ∃ (k : Nat) (us : List Value), (i + 1 ≤ k ∧ k ≤ l.length) ∧ v7 = .int .i64 (k : Int) ∧ OwI (bx + 1) wx.heap.size wx v5 us (tooP s r l i k) ∧ Below w.heap.size w wx ∧ Box wx bx s t (.slice a1 l.length cap1)) (fun _ v7 _ => l.length - (intOf v7).toNat)
          case atStart => exact ⟨i + 1, us, ⟨Nat.le_refl _, by omega⟩, by go_num, hO, hbr, hX⟩
          case round =>
            clear hbr hX hO
            obtain ⟨k, us, ⟨hk0, hk⟩, rfl, hO, hbr, hX⟩ := hrel
            by_cases hkl : k < l.length
            · obtain ⟨q, hq⟩ : ∃ q, l[k]? = some q := ⟨_, List.getElem?_eq_getElem hkl⟩
              have HQ := Lib.hid hq
              obtain ⟨b1, o1, c1, hv1, x1, y1⟩ := Rd2.cells (Rd.below h hbr) HP.out
              simp only [Value.slice.injEq, true_and] at hv1
              obtain ⟨rfl, rfl⟩ := hv1
              obtain ⟨b2, o2, c2, hv2, x2, y2⟩ := Rd2.cells (Rd.below h hbr) hq
              simp only [Value.slice.injEq, true_and, Option.some.injEq, Addr.mk.injEq, and_true] at hv2
              obtain ⟨⟨rfl, rfl⟩, rfl⟩ := hv2
              clear hq
              obtain ⟨kx, k0, k1, k2⟩ := id hX
              by_cases hpq : p.1 = q.1
              · have hpb : (p.1 == q.1) = true := by simpa using hpq
                have HPQ := Lib.hid hpq
                clear hpq
                by_cases hg : gapM p.2 q.2 s < r
                · have HA := Lib.hid (tooP_yes HC.out (by omega) HP.out HQ.out HPQ.out hg)
                  have hln := tooP_len (s := s) (r := r) (i := i) (k := k) hl (by omega) hk
                  rw [← hO.1] at hln
                  go_wp2_with fail
                  go_quiet ((go_at_call 22; exact Calls.quiet_of_same (sgap_any _ _ _ _)))
                  obtain ⟨W2, hW2⟩ : ∃ W : World, W = wr.drewN nq := ⟨_, rfl⟩
                  have hb2 : Below wr.heap.size wr W2 := by rw [hW2]; exact below_drewN (Below.refl _ _) _
                  rw [← hW2]
                  clear hW2 hg
                  have hbr2 := bstep hbr hb2
                  have hX2 := hX.below hb2
                  have hO2 := hO.step hb2
                  have hbx2 : bx + 1 ≤ W2.heap.size := hX2.1
                  clear hbr hX hO hb2 x1 y1 x2 y2 kx k0 k1 k2
                  obtain ⟨W3, hW3⟩ : ∃ W, W = twoW W2 (i : Int) (k : Int) := ⟨_, rfl⟩
                  have hO3 : W3.ownsRow (bx + 1) 34 1 u5 us.length us := by
                    rw [hW3]; exact ownS_below hO2.2.1 (twoW_below _ _ _)
                  have hcell := two_cell W2 (i : Int) (k : Int)
                  rw [← hW3] at hcell
                  have hs3 : bx + 1 ≤ W3.heap.size := by rw [hW3, twoW_size]; omega
                  have hW3' := hW3
                  unfold twoW at hW3'
                  have HW3 := Lib.hid hW3
                  clear hW3
                  go_wp2_with (at_builtin; rw [← hW3']; refine wpList_append_own_at _ rfl _ _ 30 rfl (bx + 1) 34 i0 (.slice none 0 0) 1 24 Try.underlying30 hi hz0 hz1 hz2 rfl (by decide) _ us.length _ rfl hO3 ⟨W2.heap.size + 1, 0, none⟩ 1 1 [.slice (some ⟨W2.heap.size, 0, none⟩) 2 2] rfl rfl ?c1 ?c2 ?c3 ?c4 ?c5 ?_)
                  case c1 => exact hcell
                  case c2 => simp [Value.oneCell']
                  case c3 => unfold maxLen; omega
                  case c4 => omega
                  case c5 => exact hs3
                  intro v' w4 hown4 hgrow _ hat
                  have hO4 := push_two (x := (i : Int)) (y := (k : Int)) hO2 hbx2 hown4 hgrow (hat.imp id fun e => e.trans (by rw [twoW_size]))
                  have hb4 := two_below (x := (i : Int)) (y := (k : Int)) hbr2 hO2 hle hbr2.size hgrow
                  have hX4 := two_box (x := (i : Int)) (y := (k : Int)) hX2 hO2 (Nat.lt_succ_self bx) hgrow
                  rw [← HA.out] at hO4
                  clear hown4 hgrow hat hO2 hbr2 hX2 HW3 hW3' hO3 hcell hs3
                  go_wp2
                  go_roundw
                  case rel => exact ⟨k + 1, _, ⟨by omega, by omega⟩, by go_num, hO4, hb4, hX4⟩
                  case measure => simp [intOf]; omega
                · have HA := Lib.hid (tooP_no (r := r) HC.out HP.out HQ.out (fun k => hg k.2))
                  have hgd : decide (gapM p.2 q.2 s < r) = false := decide_eq_false hg
                  go_wp2_with fail
                  go_quiet ((go_at_call 22; exact Calls.quiet_of_same (sgap_any _ _ _ _)))
                  obtain ⟨W2, hW2⟩ : ∃ W : World, W = wr.drewN nq := ⟨_, rfl⟩
                  have hb2 : Below wr.heap.size wr W2 := by rw [hW2]; exact below_drewN (Below.refl _ _) _
                  rw [← hW2]
                  clear hW2
                  have hbr2 := bstep hbr hb2
                  have hX2 := hX.below hb2
                  have hO2 := hO.step hb2
                  rw [← HA.out] at hO2
                  clear hbr hX hO hb2 x1 y1 x2 y2 kx k0 k1 k2
                  go_wp2
                  go_roundw
                  case rel => exact ⟨k + 1, us, ⟨by omega, by omega⟩, by go_num, hO2, hbr2, hX2⟩
                  case measure => simp [intOf]; omega
              · have HA := Lib.hid (tooP_no (r := r) HC.out HP.out HQ.out (fun k => hpq k.1))
                have hpb : (p.1 == q.1) = false := by simpa using hpq
                clear hpq
                go_wp2_with fail
                go_quiet (fail)
                obtain ⟨W2, hW2⟩ : ∃ W : World, W = wr.drewN nq := ⟨_, rfl⟩
                have hb2 : Below wr.heap.size wr W2 := by rw [hW2]; exact below_drewN (Below.refl _ _) _
                rw [← hW2]
                clear hW2
                have hbr2 := bstep hbr hb2
                have hX2 := hX.below hb2
                have hO2 := hO.step hb2
                rw [← HA.out] at hO2
                clear hbr hX hO hb2 x1 y1 x2 y2 kx k0 k1 k2
                go_wp2
                go_roundw
                case rel => exact ⟨k + 1, us, ⟨by omega, by omega⟩, by go_num, hO2, hbr2, hX2⟩
                case measure => simp [intOf]; omega
            · obtain rfl : k = l.length := by omega
              rw [tooP_end] at hO
              obtain ⟨kx, k0, k1, k2⟩ := id hX
              go_wp2
              go_roundw
              case rel => exact ⟨i + 1, us, by omega, by go_num, hO, hbr, hX⟩
              case measure => simp [intOf]; omega
        · obtain rfl : i = l.length := by omega
          obtain ⟨kx, k0, k1, k2⟩ := id hX
          go_wp2
          go_ret
          exact ⟨_, us, rfl, by rw [HL.out]; exact hO.low hle, hbr⟩
    · have HL := Lib.hid (tooM_no (l := l) (s := s) (t := t) (fun k => tr k.2))
      clear tc
      go_enter Try.func27, Try.ntmps27
      go_wp2_with fail
      rw [← hW]
      clear hW hb1
      refine (cylok_yes (Rd.below h hB) TC.out).mono ?_
      rintro e w1 ⟨rfl, hb1⟩
      have g1 := bstep hB hb1
      have hO1 := hO.step hb1
      go_wp2_with fail
      refine (in_no' _ _ _ tr _).mono ?_
      rintro e w2 ⟨rfl, rfl⟩
      clear hX hB hb1 hO
      go_wp2
      go_ret
      exact ⟨_, [], rfl, by rw [HL.out]; exact hO1.low (Nat.le_succ _), g1⟩
  · have TC := Lib.hid (show cylB s t l = false by simpa using tc)
    have HL := Lib.hid (tooM_no (l := l) (s := s) (t := t) (r := r) (fun k => tc k.1))
    clear tc
    go_enter Try.func27, Try.ntmps27
    go_wp2_with fail
    rw [← hW]
    clear hW hb1
    refine (cylok_no (Rd.below h hB) TC.out).mono ?_
    rintro e w1 ⟨rfl, hb1⟩
    have g1 := bstep hB hb1
    have hO1 := hO.step hb1
    clear hX hB hb1 hO
    go_wp2
    go_ret
    exact ⟨_, [], rfl, by rw [HL.out]; exact hO1.low (Nat.le_succ _), g1⟩
end Go.Proofs.Ytpdjceafjdlknaa
