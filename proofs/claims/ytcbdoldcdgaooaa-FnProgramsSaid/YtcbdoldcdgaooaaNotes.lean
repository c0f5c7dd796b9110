/- The contracts of the laws' own helpers on rows of notes: szNoteS, toNote, toNoteS, eqNote, eqNoteS, markNoteS, heldNoteS. No condition. -/
import Derived.Test.YtcbdoldcdgaooaaCells
namespace Go.Proofs.Ytcbdoldcdgaooaa
open Go.ChangeShapes Go.WideShapes Go.ChangeAt Go.RowKit

theorem infoNote : (Try.prog.info? 41).map (fun i => (i.zero, i.size, i.bytes)) = some (some (.agg #[.int .i64 0, .int .i64 0]), 2, 16) := by kernel_rfl

theorem szNote_yes {w : World} {n cap : Nat} {a : Option Addr} (left : Nat) (h1 : left ≤ 1048576) (h2 : n ≤ left) :
    Calls Try.prog 22 #[.slice a n cap, .int .i64 (left : Int)] w fun e w' => e = .returned (.int .i64 ((left - n : Nat) : Int)) ∧ w = w' := by
  go_enter Try.func22, Try.ntmps22
  go_wp2
  go_ret
  exact ⟨by simp; omega, rfl⟩
theorem szNote_no {w : World} {n cap : Nat} {a : Option Addr} (left : Nat) (h1 : left ≤ 1048576) (h2 : left < n) (h3 : n ≤ 9223372036854775807) :
    Calls Try.prog 22 #[.slice a n cap, .int .i64 (left : Int)] w fun e w' => e = .returned (.int .i64 (-1)) ∧ w = w' := by
  go_enter Try.func22, Try.ntmps22
  go_wp2
  go_ret
  exact ⟨rfl, rfl⟩

theorem eqNote_same {w : World} (t p : Int) :
    Calls Try.prog 78 #[.agg #[.int .i64 t, .int .i64 p], .agg #[.int .i64 t, .int .i64 p]] w fun e w' => e = .returned (.bool true) ∧ Below w.heap.size w w' := by
  go_enter Try.func78, Try.ntmps78
  go_wp2
  go_ret
  exact ⟨rfl, ((Below.refl _ _).alloc (Nat.le_refl _) _).alloc (by simp) _⟩

theorem toNote_any {w : World} (t p : Int) :
    Calls Try.prog 76 #[.agg #[.int .i64 t, .int .i64 p]] w fun e w' => e = .returned (.agg #[.int .i64 t, .int .i64 p]) ∧ Below w.heap.size w w' := by
  go_enter Try.func76, Try.ntmps76
  go_wp2
  refine bodyPost_ret (v := .agg #[.int .i64 t, .int .i64 p]) (by simp [results, Try.results76, go_sem]) rfl ⟨rfl, ?_⟩
  repeat (first | exact Below.refl _ _ | (refine Below.setCell ?_ (by simp <;> omega) _) | (refine Below.alloc ?_ (by simp <;> omega) _))

theorem below_undrew {w w' : World} (h : Below w.drew.heap.size w.drew w') : Below w.heap.size w w' := ⟨h.os, h.tape, h.output, h.size, h.block⟩
theorem kept_cell {w w' : World} {a : Addr} {v : Value} (hb : Below w.drew.heap.size w.drew w') (h : w.cell? a = some v) : w'.cell? a = some v :=
  ((below_undrew hb).cell (World.block_lt_of_cell? w _ h)).trans h

set_option maxHeartbeats 1000000 in
theorem eqNotes_same {w : World} {v1 v2 : Value} {l : List (Int × Int)} (h1 : Rd2 w v1 l) (h2 : Rd2 w v2 l) :
    Calls Try.prog 27 #[v1, v2] w fun e w' => e = .returned (.bool true) ∧ Below w.heap.size w w' := by
  obtain ⟨a1, cap1, rfl⟩ := Rd.slice h1
  obtain ⟨a2, cap2, rfl⟩ := Rd.slice h2
  have hm := h1.2.1
  unfold maxLen at hm
  go_enter Try.func27, Try.ntmps27
  go_wp2
  go_loopw [5] (fun v5 wr => ∃ j : Nat, j ≤ l.length ∧ v5 = .int .i64 j ∧ Below w.heap.size w wr) (fun v5 _ => l.length - (intOf v5).toNat)
  case atStart => exact ⟨0, Nat.zero_le _, rfl, Below.refl _ _⟩
  case round =>
    obtain ⟨j, hj, rfl, hbr⟩ := hrel
    by_cases hlt : j < l.length
    · obtain ⟨p, hp⟩ : ∃ p, l[j]? = some p := ⟨_, List.getElem?_eq_getElem hlt⟩
      obtain ⟨b1, o1, c1, hv1, x1, y1⟩ := Rd2.cells (Rd.below h1 hbr) hp
      obtain ⟨b2, o2, c2, hv2, x2, y2⟩ := Rd2.cells (Rd.below h2 hbr) hp
      simp only [Value.slice.injEq, true_and] at hv1 hv2
      obtain ⟨rfl, rfl⟩ := hv1
      obtain ⟨rfl, rfl⟩ := hv2
      clear h1 h2 hp
      go_wp2_with fail
      go_region_held3 (fun w' => w'.cell? ⟨b1, o1 + j * 2, none⟩ = some (.int .i64 p.1) ∧ w'.cell? ⟨b1, o1 + j * 2 + 1, none⟩ = some (.int .i64 p.2) ∧ w'.cell? ⟨b2, o2 + j * 2, none⟩ = some (.int .i64 p.1) ∧ w'.cell? ⟨b2, o2 + j * 2 + 1, none⟩ = some (.int .i64 p.2)) (go_keep)
        ((go_at_call 78; refine (eqNote_same _ _).mono ?_; rintro e w1 ⟨rfl, hb1⟩; have q1 := kept_cell hb1 x1; have q2 := kept_cell hb1 y1; have q3 := kept_cell hb1 x2; have q4 := kept_cell hb1 y2))
      all_goals
        have hb2 := bstep hbr (below_undrew hb1)
        clear hb1 q1 q2 q3 q4 x1 x2 y1 y2 hbr
        go_wp2
        go_roundw
        case rel => exact ⟨j + 1, by omega, by go_num, hb2⟩
        case measure => simp [intOf]; omega
    · obtain rfl : j = l.length := by omega
      go_wp2
      go_ret
      exact ⟨rfl, hbr⟩

theorem set2_next {ys : List Value} {l : List (Int × Int)} {j : Nat} {p : Int × Int} (h : ∀ c, c < j * 2 → ys[c]? = (flat2 l)[c]?) (hp : l[j]? = some p) (hj : j * 2 + 1 < ys.length) :
    ∀ c, c < (j + 1) * 2 → ((ys.set (j * 2) (.int .i64 p.1)).set (j * 2 + 1) (.int .i64 p.2))[c]? = (flat2 l)[c]? := by
  intro c hc
  obtain ⟨f1, f2⟩ := flat2_at l j p hp
  by_cases h2 : c = j * 2 + 1
  · subst h2; rw [List.getElem?_set_self (by simpa using hj), f2]; rfl
  · rw [List.getElem?_set_ne (by omega)]
    by_cases h1 : c = j * 2
    · subst h1; rw [List.getElem?_set_self (by omega), f1]; rfl
    · rw [List.getElem?_set_ne (by omega)]; exact h c (by omega)

set_option maxHeartbeats 2000000 in
theorem toNotes_any {w : World} {v : Value} {l : List (Int × Int)} (h1 : Rd2 w v l) (hl : l.length ≤ 1048576) :
    Calls Try.prog 24 #[v] w fun e w' => ∃ v', e = .returned v' ∧ w'.ownsRow w.heap.size 41 2 v' l.length (flat2 l) ∧ Below w.heap.size w w' := by
  obtain ⟨i0, hi, hz0, hz1, hz2⟩ := info_parts infoNote
  obtain ⟨a1, cap1, rfl⟩ := Rd.slice h1
  go_enter Try.func24, Try.ntmps24
  go_wp2_with (at_make; refine wpList_make_full _ rfl _ _ 42 rfl w.heap.size 41 i0 (.agg #[.int .i64 0, .int .i64 0]) 2 Try.underlying42 hi hz0 hz1 _ _ _ _ l.length rfl rfl (by omega) (by omega) (by rw [hz2]; omega) (by unfold maxLen; omega) (Nat.le_refl _) ?_)
  intro w1 hown hgrow
  have hb1 : Below w.heap.size w w1 := (Below.refl _ _).grown hgrow (Nat.le_refl _) (by intro k hk; cases hk)
  go_wp2_with fail
  go_loopw [4] (fun v4 wr => ∃ (j : Nat) (ys : List Value), j ≤ l.length ∧ v4 = .int .i64 j ∧ wr.ownsRow w.heap.size 41 2 (.slice (some ⟨w.heap.size, 0, none⟩) l.length l.length) l.length ys ∧ Below w.heap.size w wr ∧ (∀ c, c < j * 2 → ys[c]? = (flat2 l)[c]?))
    (fun v4 _ => l.length - (intOf v4).toNat)
  case atStart => exact ⟨0, _, Nat.zero_le _, rfl, hown, hb1, fun c hc => by omega⟩
  case round =>
    obtain ⟨j, ys, hj, rfl, hys, hbr, heq⟩ := hrel
    clear hown hgrow hb1
    have HEQ := Lib.hid heq; clear heq
    by_cases hlt : j < l.length
    · obtain ⟨p, hp⟩ : ∃ p, l[j]? = some p := ⟨_, List.getElem?_eq_getElem hlt⟩
      have HP := Lib.hid hp
      obtain ⟨b1, o1, c1, hv1, x1, y1⟩ := Rd2.cells (Rd.below h1 hbr) hp
      simp only [Value.slice.injEq, true_and] at hv1
      obtain ⟨rfl, rfl⟩ := hv1
      clear hp
      go_wp2_with fail
      refine (toNote_any _ _).mono ?_
      rintro e w2 ⟨rfl, hb2⟩
      have hys2 := ownS_below hys hb2
      have hb3 := bstep hbr hb2
      have hyl : ys.length = l.length * 2 := hys.1
      obtain ⟨u0, hu0⟩ : ∃ u, ys[j * 2]? = some u := ⟨_, List.getElem?_eq_getElem (by omega)⟩
      obtain ⟨u1, hu1⟩ : ∃ u, ys[j * 2 + 1]? = some u := ⟨_, List.getElem?_eq_getElem (by omega)⟩
      have hc0 : w2.cell? ⟨w.heap.size, j * 2, none⟩ = some u0 := by rw [hys2.cellAt _ (by omega)]; exact hu0
      have hc1 : w2.cell? ⟨w.heap.size, j * 2 + 1, none⟩ = some u1 := by rw [hys2.cellAt _ (by omega)]; exact hu1
      have hf0 := hys2.frozenAt (j * 2)
      have hf1 := hys2.frozenAt (j * 2 + 1)
      have hst1 := (hys2.stored (j * 2) (.int .i64 p.1)).1
      have hst2 := (hst1.stored (j * 2 + 1) (.int .i64 p.2)).1
      have HST := Lib.hid hst2
      have HYL := Lib.hid hyl
      clear hys hys2 hst1 hst2 hb2 hbr x1 y1 hyl hu0 hu1
      have hnx := set2_next HEQ.out HP.out (by have := HYL.out; omega : j * 2 + 1 < ys.length)
      have HNX := Lib.hid hnx; clear hnx
      have hb4 : Below w.heap.size w ((w2.setCell ⟨w.heap.size, j * 2, none⟩ (.int .i64 p.1)).setCell ⟨w.heap.size, j * 2 + 1, none⟩ (.int .i64 p.2)) := (hb3.setCell (Nat.le_refl _) _).setCell (Nat.le_refl _) _
      clear hb3
      go_wp2
      go_roundw
      case rel => exact ⟨j + 1, _, by omega, by go_num, HST.out, hb4, HNX.out⟩
      case measure => simp [intOf]; omega
    · obtain rfl : j = l.length := by omega
      have hfl : ys = flat2 l := List.ext_getElem? fun c => by
        by_cases hc : c < l.length * 2
        · exact HEQ.out c hc
        · rw [List.getElem?_eq_none (by rw [hys.1]; omega), List.getElem?_eq_none (by rw [flat2_length]; omega)]
      subst hfl
      go_wp2
      go_ret
      exact ⟨_, rfl, hys, hbr⟩

/-- The first m cells are the marks from k0 on. -/
def Mk (k0 m : Nat) (ys : List Value) : Prop := ∀ c, c < m → ys[c]? = some (.int .i64 ((k0 + c : Nat) : Int))
theorem Mk.set {k0 m : Nat} {ys : List Value} (h : Mk k0 m ys) (hm : m < ys.length) : Mk k0 (m + 1) (ys.set m (.int .i64 ((k0 + m : Nat) : Int))) := by
  intro c hc
  by_cases h2 : c = m
  · subst h2; rw [List.getElem?_set_self hm]
  · rw [List.getElem?_set_ne (by omega)]; exact h c (by omega)

set_option maxHeartbeats 2000000 in
theorem markNotes_any {B : Nat} {w : World} {v : Value} {n : Nat} {xs : List Value} (k0 : Nat) (hn : k0 + n * 2 ≤ 8000000) (hown : w.ownsRow B 41 2 v n xs) :
    Calls Try.prog 29 #[v, .int .i64 (k0 : Int)] w fun e w' => e = .returned (.int .i64 ((k0 + n * 2 : Nat) : Int)) ∧ w.grownBy w' v.ownBlock ∧ ∃ ys, w'.ownsRow B 41 2 v n ys ∧ Mk k0 (n * 2) ys := by
  obtain ⟨a, cap, rfl⟩ := ownS_slice hown
  go_enter Try.func29, Try.ntmps29
  go_wp2
  go_loopw [1, 5] (fun v1 v5 wr => ∃ (j : Nat) (ys : List Value), j ≤ n ∧ v5 = .int .i64 j ∧ v1 = .int .i64 ((k0 + j * 2 : Nat) : Int) ∧ w.grownBy wr (Value.slice a n cap).ownBlock ∧ wr.ownsRow B 41 2 (.slice a n cap) n ys ∧ Mk k0 (j * 2) ys)
    (fun _ v5 _ => n - (intOf v5).toNat)
  case atStart => exact ⟨0, xs, Nat.zero_le _, rfl, rfl, World.grownBy.refl _ _, hown, fun c hc => by omega⟩
  case round =>
    obtain ⟨j, ys, hj, rfl, rfl, hgr, hys, hmk⟩ := hrel
    have HM := Lib.hid hmk; clear hmk
    by_cases hlt : j < n
    · obtain ⟨g, cap', hv, hB, hc1, hc2⟩ := ownS_pos hys (by omega)
      simp only [Value.slice.injEq, true_and] at hv
      obtain ⟨rfl, rfl⟩ := hv
      have hyl : ys.length = n * 2 := hys.1
      obtain ⟨u0, hu0⟩ : ∃ u, ys[j * 2]? = some u := ⟨_, List.getElem?_eq_getElem (by omega)⟩
      obtain ⟨u1, hu1⟩ : ∃ u, ys[j * 2 + 1]? = some u := ⟨_, List.getElem?_eq_getElem (by omega)⟩
      have hc0 : wr.cell? ⟨g, j * 2, none⟩ = some u0 := by rw [hys.cellAt _ (by omega)]; exact hu0
      have hc1 : wr.cell? ⟨g, j * 2 + 1, none⟩ = some u1 := by rw [hys.cellAt _ (by omega)]; exact hu1
      have hf0 := hys.frozenAt (j * 2)
      have hf1 := hys.frozenAt (j * 2 + 1)
      have hst1 := hys.stored (j * 2) (.int .i64 ((k0 + j * 2 : Nat) : Int))
      have hst2 := hst1.1.stored (j * 2 + 1) (.int .i64 ((k0 + (j * 2 + 1) : Nat) : Int))
      have hm2 := (HM.out.set (by omega)).set (by simp; omega)
      have hgr2 : w.grownBy ((wr.setCell ⟨g, j * 2, none⟩ (.int .i64 ((k0 + j * 2 : Nat) : Int))).setCell ⟨g, j * 2 + 1, none⟩ (.int .i64 ((k0 + (j * 2 + 1) : Nat) : Int))) (some g) := only_trans (only_trans hgr hst1.2) hst2.2
      have HS := Lib.hid hst2.1
      rw [show j * 2 + 1 + 1 = (j + 1) * 2 by omega] at hm2
      have HM2 := Lib.hid hm2
      have HG := Lib.hid hgr2
      clear hst1 hst2 hm2 hgr2 hyl hu0 hu1 hys hgr
      go_wp2
      go_roundw
      case rel => exact ⟨j + 1, _, by omega, by go_num, by go_num, HG.out, HS.out, HM2.out⟩
      case measure => simp [intOf]; omega
    · obtain rfl : j = n := by omega
      go_wp2
      go_ret
      exact ⟨rfl, hgr, ys, hys, HM.out⟩

set_option maxHeartbeats 1000000 in
theorem heldNotes_any {w : World} {v : Value} {n : Nat} {ys : List Value} (k0 : Nat) (hn : k0 + n * 2 ≤ 8000000) (hr : Rd 2 w v n ys) (hmk : Mk k0 (n * 2) ys) :
    Calls Try.prog 55 #[v, .int .i64 (k0 : Int)] w fun e w' => e = .returned (.int .i64 ((k0 + n * 2 : Nat) : Int)) ∧ Below w.heap.size w w' := by
  obtain ⟨a, cap, rfl⟩ := Rd.slice hr
  have HM := Lib.hid hmk; clear hmk
  go_enter Try.func55, Try.ntmps55
  go_wp2
  go_loop [1, 5] (fun v1 v5 => ∃ j : Nat, j ≤ n ∧ v5 = .int .i64 j ∧ v1 = .int .i64 ((k0 + j * 2 : Nat) : Int)) (fun _ v5 => n - (intOf v5).toNat)
  case atStart => exact ⟨0, Nat.zero_le _, rfl, rfl⟩
  case round =>
    obtain ⟨j, hj, rfl, rfl⟩ := hrel
    by_cases hlt : j < n
    · obtain ⟨b, off, cap', hv, hc⟩ := Rd.pos hr (by omega)
      simp only [Value.slice.injEq, true_and] at hv
      obtain ⟨rfl, rfl⟩ := hv
      have x1 : w.cell? ⟨b, off + j * 2, none⟩ = some (.int .i64 ((k0 : Int) + (j : Int) * 2)) := by rw [hc _ (by omega), HM.out _ (by omega)]; simp
      have y1 : w.cell? ⟨b, off + j * 2 + 1, none⟩ = some (.int .i64 ((k0 : Int) + (j : Int) * 2 + 1)) := by rw [Nat.add_assoc, hc _ (by omega), HM.out _ (by omega)]; simp; omega
      clear hc
      go_wp2
      go_round
      case rel => exact ⟨j + 1, by omega, by go_num, by go_num⟩
      case measure => simp [intOf]; omega
    · obtain rfl : j = n := by omega
      go_wp2
      go_ret
      exact ⟨rfl, Below.refl _ _⟩
end Go.Proofs.Ytcbdoldcdgaooaa
