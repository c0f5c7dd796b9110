/- The contracts of the laws' own helpers on rows of pins: szPinS, toPin, toPinS, eqPin, eqPinS, markPinS, heldPinS. No condition. Made by mk_pins.py. -/
import Derived.Test.YtcbdoldcdgaooaaNotes
namespace Go.Proofs.Ytcbdoldcdgaooaa
open Go.ChangeShapes Go.WideShapes Go.ChangeAt Go.RowKit

theorem infoPin : (Try.prog.info? 32).map (fun i => (i.zero, i.size, i.bytes)) = some (some (.agg #[.int .i64 0, .int .i64 0]), 2, 16) := by kernel_rfl

theorem eqPin_same {w : World} (t p : Int) :
    Calls Try.prog 117 #[.agg #[.int .i64 t, .int .i64 p], .agg #[.int .i64 t, .int .i64 p]] w fun e w' => e = .returned (.bool true) ∧ Below w.heap.size w w' := by
  go_enter Try.func117, Try.ntmps117
  go_wp2
  go_ret
  exact ⟨rfl, ((Below.refl _ _).alloc (Nat.le_refl _) _).alloc (by simp) _⟩

set_option maxHeartbeats 1000000 in
theorem eqPins_same {w : World} {v1 v2 : Value} {l : List (Int × Int)} (h1 : Rd2 w v1 l) (h2 : Rd2 w v2 l) :
    Calls Try.prog 77 #[v1, v2] w fun e w' => e = .returned (.bool true) ∧ Below w.heap.size w w' := by
  obtain ⟨a1, cap1, rfl⟩ := Rd.slice h1
  obtain ⟨a2, cap2, rfl⟩ := Rd.slice h2
  have hm := h1.2.1
  unfold maxLen at hm
  go_enter Try.func77, Try.ntmps77
  go_wp2
  go_loopw [5] (fun v5 wr => ∃ j : Nat, j ≤ l.length ∧ v5 = .int .i64 j ∧ Below w.heap.size w wr) (fun v5 _ => l.length - (intOf v5).toNat)
  case atStart => exact ⟨0, Nat.zero_le _, rfl, Below.refl _ _⟩
  case round =>
    obtain ⟨j, hj, rfl, hbr⟩ := hrel
    by_cases hlt : j < l.length
    · obtain ⟨p, hp⟩ : ∃ p, l[j]? = some p := ⟨_, List.getElem?_eq_getElem hlt⟩
      obtain ⟨b1, o1, c1, hv1, x1, y1⟩ := Rd2.cells (Rd.below h1 hbr) hp
      obtain ⟨b2, o2, c2, hv2, x2, y2⟩ := Rd2.cells (Rd.below h2 hbr) hp
      simp only [Value.slice.injEq, true_and] at hv1 hv2
      obtain ⟨rfl, rfl⟩ := hv1
      obtain ⟨rfl, rfl⟩ := hv2
      clear h1 h2 hp
      go_wp2_with fail
      go_region_held3 (fun w' => w'.cell? ⟨b1, o1 + j * 2, none⟩ = some (.int .i64 p.1) ∧ w'.cell? ⟨b1, o1 + j * 2 + 1, none⟩ = some (.int .i64 p.2) ∧ w'.cell? ⟨b2, o2 + j * 2, none⟩ = some (.int .i64 p.1) ∧ w'.cell? ⟨b2, o2 + j * 2 + 1, none⟩ = some (.int .i64 p.2)) (go_keep)
        ((go_at_call 117; refine (eqPin_same _ _).mono ?_; rintro e w1 ⟨rfl, hb1⟩; have q1 := kept_cell hb1 x1; have q2 := kept_cell hb1 y1; have q3 := kept_cell hb1 x2; have q4 := kept_cell hb1 y2))
      all_goals
        have hb2 := bstep hbr (below_undrew hb1)
        clear hb1 q1 q2 q3 q4 x1 x2 y1 y2 hbr
        go_wp2
        go_roundw
        case rel => exact ⟨j + 1, by omega, by go_num, hb2⟩
        case measure => simp [intOf]; omega
    · obtain rfl : j = l.length := by omega
      go_wp2
      go_ret
      exact ⟨rfl, hbr⟩

set_option maxHeartbeats 2000000 in
theorem markPins_any {B : Nat} {w : World} {v : Value} {n : Nat} {xs : List Value} (k0 : Nat) (hn : k0 + n * 2 ≤ 8000000) (hown : w.ownsRow B 32 2 v n xs) :
    Calls Try.prog 79 #[v, .int .i64 (k0 : Int)] w fun e w' => e = .returned (.int .i64 ((k0 + n * 2 : Nat) : Int)) ∧ w.grownBy w' v.ownBlock ∧ ∃ ys, w'.ownsRow B 32 2 v n ys ∧ Mk k0 (n * 2) ys := by
  obtain ⟨a, cap, rfl⟩ := ownS_slice hown
  go_enter Try.func79, Try.ntmps79
  go_wp2
  go_loopw [1, 5] (fun v1 v5 wr => ∃ (j : Nat) (ys : List Value), j ≤ n ∧ v5 = .int .i64 j ∧ v1 = .int .i64 ((k0 + j * 2 : Nat) : Int) ∧ w.grownBy wr (Value.slice a n cap).ownBlock ∧ wr.ownsRow B 32 2 (.slice a n cap) n ys ∧ Mk k0 (j * 2) ys)
    (fun _ v5 _ => n - (intOf v5).toNat)
  case atStart => exact ⟨0, xs, Nat.zero_le _, rfl, rfl, World.grownBy.refl _ _, hown, fun c hc => by omega⟩
  case round =>
    obtain ⟨j, ys, hj, rfl, rfl, hgr, hys, hmk⟩ := hrel
    have HM := Lib.hid hmk; clear hmk
    by_cases hlt : j < n
    · obtain ⟨g, cap', hv, hB, hc1, hc2⟩ := ownS_pos hys (by omega)
      simp only [Value.slice.injEq, true_and] at hv
      obtain ⟨rfl, rfl⟩ := hv
      have hyl : ys.length = n * 2 := hys.1
      obtain ⟨u0, hu0⟩ : ∃ u, ys[j * 2]? = some u := ⟨_, List.getElem?_eq_getElem (by omega)⟩
      obtain ⟨u1, hu1⟩ : ∃ u, ys[j * 2 + 1]? = some u := ⟨_, List.getElem?_eq_getElem (by omega)⟩
      have hc0 : wr.cell? ⟨g, j * 2, none⟩ = some u0 := by rw [hys.cellAt _ (by omega)]; exact hu0
      have hc1 : wr.cell? ⟨g, j * 2 + 1, none⟩ = some u1 := by rw [hys.cellAt _ (by omega)]; exact hu1
      have hf0 := hys.frozenAt (j * 2)
      have hf1 := hys.frozenAt (j * 2 + 1)
      have hst1 := hys.stored (j * 2) (.int .i64 ((k0 + j * 2 : Nat) : Int))
      have hst2 := hst1.1.stored (j * 2 + 1) (.int .i64 ((k0 + (j * 2 + 1) : Nat) : Int))
      have hm2 := (HM.out.set (by omega)).set (by simp; omega)
      have hgr2 : w.grownBy ((wr.setCell ⟨g, j * 2, none⟩ (.int .i64 ((k0 + j * 2 : Nat) : Int))).setCell ⟨g, j * 2 + 1, none⟩ (.int .i64 ((k0 + (j * 2 + 1) : Nat) : Int))) (some g) := only_trans (only_trans hgr hst1.2) hst2.2
      have HS := Lib.hid hst2.1
      rw [show j * 2 + 1 + 1 = (j + 1) * 2 by omega] at hm2
      have HM2 := Lib.hid hm2
      have HG := Lib.hid hgr2
      clear hst1 hst2 hm2 hgr2 hyl hu0 hu1 hys hgr
      go_wp2
      go_roundw
      case rel => exact ⟨j + 1, _, by omega, by go_num, by go_num, HG.out, HS.out, HM2.out⟩
      case measure => simp [intOf]; omega
    · obtain rfl : j = n := by omega
      go_wp2
      go_ret
      exact ⟨rfl, hgr, ys, hys, HM.out⟩

set_option maxHeartbeats 1000000 in
theorem heldPins_any {w : World} {v : Value} {n : Nat} {ys : List Value} (k0 : Nat) (hn : k0 + n * 2 ≤ 8000000) (hr : Rd 2 w v n ys) (hmk : Mk k0 (n * 2) ys) :
    Calls Try.prog 80 #[v, .int .i64 (k0 : Int)] w fun e w' => e = .returned (.int .i64 ((k0 + n * 2 : Nat) : Int)) ∧ Below w.heap.size w w' := by
  obtain ⟨a, cap, rfl⟩ := Rd.slice hr
  have HM := Lib.hid hmk; clear hmk
  go_enter Try.func80, Try.ntmps80
  go_wp2
  go_loop [1, 5] (fun v1 v5 => ∃ j : Nat, j ≤ n ∧ v5 = .int .i64 j ∧ v1 = .int .i64 ((k0 + j * 2 : Nat) : Int)) (fun _ v5 => n - (intOf v5).toNat)
  case atStart => exact ⟨0, Nat.zero_le _, rfl, rfl⟩
  case round =>
    obtain ⟨j, hj, rfl, rfl⟩ := hrel
    by_cases hlt : j < n
    · obtain ⟨b, off, cap', hv, hc⟩ := Rd.pos hr (by omega)
      simp only [Value.slice.injEq, true_and] at hv
      obtain ⟨rfl, rfl⟩ := hv
      have x1 : w.cell? ⟨b, off + j * 2, none⟩ = some (.int .i64 ((k0 : Int) + (j : Int) * 2)) := by rw [hc _ (by omega), HM.out _ (by omega)]; simp
      have y1 : w.cell? ⟨b, off + j * 2 + 1, none⟩ = some (.int .i64 ((k0 : Int) + (j : Int) * 2 + 1)) := by rw [Nat.add_assoc, hc _ (by omega), HM.out _ (by omega)]; simp; omega
      clear hc
      go_wp2
      go_round
      case rel => exact ⟨j + 1, by omega, by go_num, by go_num⟩
      case measure => simp [intOf]; omega
    · obtain rfl : j = n := by omega
      go_wp2
      go_ret
      exact ⟨rfl, Below.refl _ _⟩
end Go.Proofs.Ytcbdoldcdgaooaa
