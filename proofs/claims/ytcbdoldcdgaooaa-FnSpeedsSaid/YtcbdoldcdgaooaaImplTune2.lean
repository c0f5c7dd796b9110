/- The contracts of the program's Lasts, PitchRange, NotesAt, SampleTune. No condition. -/
import Derived.Test.YtcbdoldcdgaooaaImplTune
namespace Go.Proofs.Ytcbdoldcdgaooaa
open Go.ChangeShapes Go.WideShapes Go.ChangeAt Go.RowKit

set_option maxHeartbeats 1000000 in
theorem ilasts_any {w : World} {v : Value} {l : List (Int × Int)} (h : Rd2 w v l) :
    Calls Try.prog 102 #[v] w fun e w' => e = .returned (.int .i64 (lastsM l)) ∧ Below w.heap.size w w' := by
  obtain ⟨a1, cap1, rfl⟩ := Rd.slice h
  have hm := h.2.1
  unfold maxLen at hm
  by_cases ht : tuneB l = true
  · have HT := Lib.hid ht
    by_cases h0 : l.length = 0
    · obtain rfl : l = [] := List.length_eq_zero_iff.1 h0
      have h' : Rd2 w (.slice a1 0 cap1) [] := h
      have HL := Lib.hid lastsM_nil
      clear ht h h0
      go_enter Try.func102, Try.ntmps102
      go_wp2_with fail
      refine (itune_yes h' HT.out).mono ?_
      rintro e w1 ⟨rfl, hb1⟩
      go_wp2
      go_ret
      exact ⟨by rw [HL.out]; rfl, hb1⟩
    · obtain ⟨a, ha⟩ : ∃ a, l[0]? = some a := ⟨_, List.getElem?_eq_getElem (by omega)⟩
      obtain ⟨b, hb⟩ : ∃ b, l[l.length - 1]? = some b := ⟨_, List.getElem?_eq_getElem (by omega)⟩
      have tp := tuneB_true.1 ht
      have ra := (tp.2 _ _ ha).1
      have rb := (tp.2 _ _ hb).1
      have HL := Lib.hid (lastsM_yes ht ha hb)
      have HA := Lib.hid ha
      have HB := Lib.hid hb
      have h40 := tp.1
      clear ht tp ha hb
      have hpos : 0 < l.length := by omega
      obtain ⟨ra0, ra1⟩ := ra
      obtain ⟨rb0, rb1⟩ := rb
      have h0' : (l.length == 0) = false := by simpa using h0
      go_enter Try.func102, Try.ntmps102
      go_wp2_with fail
      refine (itune_yes h HT.out).mono ?_
      rintro e w1 ⟨rfl, hb1⟩
      obtain ⟨b1, o1, c1, hv1, x1, y1⟩ := Rd2.cells (Rd.below h hb1) HA.out
      obtain ⟨b2, o2, c2, hv2, x2, y2⟩ := Rd2.cells (Rd.below h hb1) HB.out
      simp only [Value.slice.injEq, true_and] at hv1
      obtain ⟨rfl, rfl⟩ := hv1
      simp only [Value.slice.injEq, true_and, Option.some.injEq, Addr.mk.injEq, and_true] at hv2
      obtain ⟨⟨rfl, rfl⟩, rfl⟩ := hv2
      rw [Nat.zero_mul, Nat.add_zero] at x1 y1
      clear h
      have j1 : (0 : Int) ≤ (l.length : Int) - 1 := by omega
      have j2 : (1 : Int) ≤ (l.length : Int) := by omega
      have j3 : (l.length : Int) - 1 < (l.length : Int) := by omega
      have j4 : 1 ≤ l.length := by omega
      have ej1 : IntKind.i64.wrap ((l.length : Int) - 1) = (l.length : Int) - 1 := IntWalk.i64_in _ (by omega)
      have ej2 : ((l.length : Int) - 1).toNat = l.length - 1 := by omega
      have ej3 : IntKind.i64.wrap (b.1 - a.1) = b.1 - a.1 := IntWalk.i64_in _ (by omega)
      go_wp2_with fail
      go_quiet (fail)
      go_wp2
      go_ret
      exact ⟨by rw [HL.out]; rfl, below_drewN hb1 _⟩
  · have ht' : tuneB l = false := by simpa using ht
    have HT := Lib.hid ht'
    have HL := Lib.hid (lastsM_no ht')
    clear ht ht'
    go_enter Try.func102, Try.ntmps102
    go_wp2_with fail
    refine (itune_no h HT.out).mono ?_
    rintro e w1 ⟨rfl, hb1⟩
    go_wp2
    go_ret
    exact ⟨by rw [HL.out]; rfl, hb1⟩

end Go.Proofs.Ytcbdoldcdgaooaa
