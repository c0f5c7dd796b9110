/- The contracts of the program's Lasts, PitchRange, NotesAt, SampleTune. No condition. -/
import Derived.Test.YtglehmffmailkaaImplTune
namespace Go.Proofs.Ytglehmffmailkaa
open Go.ChangeShapes Go.WideShapes Go.ChangeAt Go.RowKit

set_option maxHeartbeats 1000000 in
theorem ilasts_any {w : World} {v : Value} {l : List (Int × Int)} (h : Rd2 w v l) :
    Calls Try.prog 45 #[v] w fun e w' => e = .returned (.int .i64 (lastsM l)) ∧ Below w.heap.size w w' := by
  obtain ⟨a1, cap1, rfl⟩ := Rd.slice h
  have hm := h.2.1
  unfold maxLen at hm
  by_cases ht : tuneB l = true
  · have HT := Lib.hid ht
    by_cases h0 : l.length = 0
    · obtain rfl : l = [] := List.length_eq_zero_iff.1 h0
      have h' : Rd2 w (.slice a1 0 cap1) [] := h
      have HL := Lib.hid lastsM_nil
      clear ht h h0
      go_enter Try.func45, Try.ntmps45
      go_wp2_with fail
      refine (itune_yes h' HT.out).mono ?_
      rintro e w1 ⟨rfl, hb1⟩
      go_wp2
      go_ret
      exact ⟨by rw [HL.out]; rfl, hb1⟩
    · obtain ⟨a, ha⟩ : ∃ a, l[0]? = some a := ⟨_, List.getElem?_eq_getElem (by omega)⟩
      obtain ⟨b, hb⟩ : ∃ b, l[l.length - 1]? = some b := ⟨_, List.getElem?_eq_getElem (by omega)⟩
      have tp := tuneB_true.1 ht
      have ra := (tp.2 _ _ ha).1
      have rb := (tp.2 _ _ hb).1
      have HL := Lib.hid (lastsM_yes ht ha hb)
      have HA := Lib.hid ha
      have HB := Lib.hid hb
      have h40 := tp.1
      clear ht tp ha hb
      have hpos : 0 < l.length := by omega
      obtain ⟨ra0, ra1⟩ := ra
      obtain ⟨rb0, rb1⟩ := rb
      have h0' : (l.length == 0) = false := by simpa using h0
      go_enter Try.func45, Try.ntmps45
      go_wp2_with fail
      refine (itune_yes h HT.out).mono ?_
      rintro e w1 ⟨rfl, hb1⟩
      obtain ⟨b1, o1, c1, hv1, x1, y1⟩ := Rd2.cells (Rd.below h hb1) HA.out
      obtain ⟨b2, o2, c2, hv2, x2, y2⟩ := Rd2.cells (Rd.below h hb1) HB.out
      simp only [Value.slice.injEq, true_and] at hv1
      obtain ⟨rfl, rfl⟩ := hv1
      simp only [Value.slice.injEq, true_and, Option.some.injEq, Addr.mk.injEq, and_true] at hv2
      obtain ⟨⟨rfl, rfl⟩, rfl⟩ := hv2
      rw [Nat.zero_mul, Nat.add_zero] at x1 y1
      clear h
      have j1 : (0 : Int) ≤ (l.length : Int) - 1 := by omega
      have j2 : (1 : Int) ≤ (l.length : Int) := by omega
      have j3 : (l.length : Int) - 1 < (l.length : Int) := by omega
      have j4 : 1 ≤ l.length := by omega
      have ej1 : IntKind.i64.wrap ((l.length : Int) - 1) = (l.length : Int) - 1 := IntWalk.i64_in _ (by omega)
      have ej2 : ((l.length : Int) - 1).toNat = l.length - 1 := by omega
      have ej3 : IntKind.i64.wrap (b.1 - a.1) = b.1 - a.1 := IntWalk.i64_in _ (by omega)
      go_wp2_with fail
      go_quiet (fail)
      go_wp2
      go_ret
      exact ⟨by rw [HL.out]; rfl, below_drewN hb1 _⟩
  · have ht' : tuneB l = false := by simpa using ht
    have HT := Lib.hid ht'
    have HL := Lib.hid (lastsM_no ht')
    clear ht ht'
    go_enter Try.func45, Try.ntmps45
    go_wp2_with fail
    refine (itune_no h HT.out).mono ?_
    rintro e w1 ⟨rfl, hb1⟩
    go_wp2
    go_ret
    exact ⟨by rw [HL.out]; rfl, hb1⟩

set_option maxHeartbeats 1000000 in
theorem ipitch_any {w : World} {v : Value} {l : List (Int × Int)} (h : Rd2 w v l) :
    Calls Try.prog 66 #[v] w fun e w' => e = .returned (.tuple #[.int .i64 (pitchM l).1, .int .i64 (pitchM l).2]) ∧ Below w.heap.size w w' := by
  obtain ⟨a1, cap1, rfl⟩ := Rd.slice h
  have hm := h.2.1
  unfold maxLen at hm
  by_cases ht : tuneB l = true
  · have HT := Lib.hid ht
    by_cases h0 : l.length = 0
    · obtain rfl : l = [] := List.length_eq_zero_iff.1 h0
      have h' : Rd2 w (.slice a1 0 cap1) [] := h
      have HL := Lib.hid pitchM_nil
      clear ht h h0
      go_enter Try.func66, Try.ntmps66
      go_wp2_with fail
      refine (itune_yes h' HT.out).mono ?_
      rintro e w1 ⟨rfl, hb1⟩
      go_wp2
      go_ret2
      exact ⟨by rw [HL.out]; rfl, hb1⟩
    · obtain ⟨a, ha⟩ : ∃ a, l[0]? = some a := ⟨_, List.getElem?_eq_getElem (by omega)⟩
      have HL := Lib.hid (pitchM_yes ht ha)
      have HA := Lib.hid ha
      clear ht ha
      have hpos : 0 < l.length := by omega
      have h0' : (l.length == 0) = false := by simpa using h0
      go_enter Try.func66, Try.ntmps66
      go_wp2_with fail
      refine (itune_yes h HT.out).mono ?_
      rintro e w1 ⟨rfl, hb1⟩
      obtain ⟨b1, o1, c1, hv1, x1, y1⟩ := Rd2.cells (Rd.below h hb1) HA.out
      simp only [Value.slice.injEq, true_and] at hv1
      obtain ⟨rfl, rfl⟩ := hv1
      rw [Nat.zero_mul, Nat.add_zero] at x1 y1
      go_wp2_with fail
      go_quiet (fail)
      have hb1' := below_drewN hb1 nq
      generalize w1.drewN nq = w2 at *
      clear x1 y1 hb1
      go_wp2_with fail
      go_loopw [4, 5, 26] (fun v4 v5 v26 wr => ∃ j : Nat, j ≤ l.length ∧ v26 = .int .i64 j ∧ v4 = .int .i64 (minP a.2 (l.take j)) ∧ v5 = .int .i64 (maxP a.2 (l.take j)) ∧ Below w.heap.size w wr) (fun _ _ v26 _ => l.length - (intOf v26).toNat)
      case atStart => exact ⟨0, Nat.zero_le _, rfl, rfl, rfl, hb1'⟩
      case round =>
        obtain ⟨j, hj, rfl, rfl, rfl, hbr⟩ := hrel
        by_cases hlt : j < l.length
        · obtain ⟨p, hp⟩ : ∃ p, l[j]? = some p := ⟨_, List.getElem?_eq_getElem hlt⟩
          obtain ⟨b2, o2, c2, hv2, x2, y2⟩ := Rd2.cells (Rd.below h hbr) hp
          simp only [Value.slice.injEq, true_and, Option.some.injEq, Addr.mk.injEq, and_true] at hv2
          obtain ⟨⟨rfl, rfl⟩, rfl⟩ := hv2
          have hmin := Lib.hid (minP_snoc a.2 l j p hp)
          have hmax := Lib.hid (maxP_snoc a.2 l j p hp)
          clear hp
          generalize minP a.2 (l.take j) = lo at *
          generalize maxP a.2 (l.take j) = hi at *
          go_wp2_with fail
          obtain ⟨z2, hbs⟩ : ((wr.alloc (.cells #[.int .i64 p.1, .int .i64 p.2] 39)).cell? ⟨wr.heap.size, 1, none⟩ = some (.int .i64 p.2)) ∧ Below w.heap.size w (wr.alloc (.cells #[.int .i64 p.1, .int .i64 p.2] 39)) :=
            ⟨cell0 _ _ _ _, hbr.alloc hbr.size _⟩
          generalize wr.alloc (.cells #[.int .i64 p.1, .int .i64 p.2] 39) = W1 at *
          clear x2 y2
          by_cases hl : p.2 < lo <;> by_cases hh : hi < p.2
          all_goals
            go_quiet (fail)
            go_wp2
            go_roundw
            case rel => exact ⟨j + 1, by omega, by go_num, by rw [hmin.out]; first | rw [if_pos hl] | rw [if_neg hl], by rw [hmax.out]; first | rw [if_pos hh] | rw [if_neg hh], below_drewN hbs _⟩
            case measure => simp [intOf]; omega
        · obtain rfl : j = l.length := by omega
          have hfull : l.take l.length = l := List.take_length
          go_wp2
          go_ret2
          exact ⟨by rw [HL.out]; first | rfl | simp, hbr⟩
  · have ht' : tuneB l = false := by simpa using ht
    have HT := Lib.hid ht'
    have HL := Lib.hid (pitchM_no ht')
    clear ht ht'
    go_enter Try.func66, Try.ntmps66
    go_wp2_with fail
    refine (itune_no h HT.out).mono ?_
    rintro e w1 ⟨rfl, hb1⟩
    go_wp2
    go_ret2
    exact ⟨by rw [HL.out]; rfl, hb1⟩

end Go.Proofs.Ytglehmffmailkaa
