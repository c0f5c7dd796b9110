/- The contracts of chapter 3's model: l03Move, Higher, Later, Slower. No condition. -/
import Derived.Test.YtcbdoldcdgaooaaSortSpec
namespace Go.Proofs.Ytcbdoldcdgaooaa
open Go.ChangeShapes Go.WideShapes Go.ChangeAt Go.RowKit

/-- All notes moved, their times multiplied. -/
def shiftL (a b c : Int) (l : List (Int × Int)) : List (Int × Int) := l.map fun p => (p.1 * a + b, p.2 + c)
theorem shiftL_len (a b c : Int) (l : List (Int × Int)) : (shiftL a b c l).length = l.length := by unfold shiftL; simp
theorem shiftL_succ {a b c : Int} {l : List (Int × Int)} {k : Nat} {p : Int × Int} (h : l[k]? = some p) : shiftL a b c (l.take (k + 1)) = shiftL a b c (l.take k) ++ [(p.1 * a + b, p.2 + c)] := by
  unfold shiftL; rw [List.take_add_one, h]; simp
open Classical in
noncomputable def changeM (ok : Bool) (a b c : Int) (l : List (Int × Int)) : List (Int × Int) × Bool := if ok = true ∧ tuneB l = true ∧ tuneB (shiftL a b c l) = true then (shiftL a b c l, true) else (l, false)
theorem changeM_yes {ok : Bool} {a b c : Int} {l : List (Int × Int)} (h1 : ok = true) (h2 : tuneB l = true) (h3 : tuneB (shiftL a b c l) = true) : changeM ok a b c l = (shiftL a b c l, true) := if_pos ⟨h1, h2, h3⟩
theorem changeM_no {ok : Bool} {a b c : Int} {l : List (Int × Int)} (h : ¬ (ok = true ∧ tuneB l = true ∧ tuneB (shiftL a b c l) = true)) : changeM ok a b c l = (l, false) := if_neg h
theorem changeM_len (ok : Bool) (a b c : Int) (l : List (Int × Int)) : (changeM ok a b c l).1.length = l.length := by
  unfold changeM; split
  · exact shiftL_len a b c l
  · rfl

set_option maxHeartbeats 4000000 in
theorem l03move_any {w : World} {v : Value} {l : List (Int × Int)} (a b c : Int) (ha : 0 ≤ a ∧ a ≤ 100) (hb : -1000 ≤ b ∧ b ≤ 1000) (hc : -60 ≤ c ∧ c ≤ 60) (h : Rd2 w v l) (hl : l.length ≤ 1048576) :
    Calls Try.prog 97 #[v, .int .i64 a, .int .i64 b, .int .i64 c] w (NewNotesB w (changeM true a b c l).1 (changeM true a b c l).2) := by
  obtain ⟨a1, cap1, rfl⟩ := Rd.slice h
  by_cases ht : tuneB l = true
  · have HT := Lib.hid ht
    have h40 := (tuneB_true.1 ht).1
    clear ht
    go_enter Try.func97, Try.ntmps97
    go_wp2_with fail
    refine (tuneok_yes h HT.out).mono ?_
    rintro e w1 ⟨rfl, hb1⟩
    go_wp2_with fail
    have hown0 : (w1.alloc (.cells #[] 41)).ownsRow w.heap.size 41 2 (.slice (some ⟨w1.heap.size, 0, none⟩) 0 0) 0 (flat2 []) := World.ownsRow_made w1 #[] 0 hb1.size (by simp) rfl
    have hb2 : Below w.heap.size w (w1.alloc (.cells #[] 41)) := hb1.alloc hb1.size _
    go_loopw [10, 11] (fun v10 v11 wr => ∃ k : Nat, k ≤ l.length ∧ v11 = .int .i64 k ∧ wr.ownsRow w.heap.size 41 2 v10 k (flat2 (shiftL a b c (l.take k))) ∧ Below w.heap.size w wr) (fun _ v11 _ => l.length - (intOf v11).toNat)
    case atStart => exact ⟨0, Nat.zero_le _, rfl, hown0, hb2⟩
    case round =>
      obtain ⟨k, hk, rfl, hown, hbr⟩ := hrel
      clear hown0 hb2
      by_cases hlt : k < l.length
      · obtain ⟨p, hp⟩ : ∃ p, l[k]? = some p := ⟨_, List.getElem?_eq_getElem hlt⟩
        have HN := Lib.hid (shiftL_succ (a := a) (b := b) (c := c) hp)
        have hr := ((tuneB_true.1 HT.out).2 _ _ hp)
        have r1 := hr.1
        have r2 := hr.2.1
        obtain ⟨b1, o1, c1, hv1, x0, y0⟩ := Rd2.cells h hp
        simp only [Value.slice.injEq, true_and] at hv1
        obtain ⟨rfl, rfl⟩ := hv1
        have x1 := kept_b hbr x0
        have y1 := kept_b hbr y0
        clear hp hr
        obtain ⟨hm0, hm1⟩ : 0 ≤ p.1 * a ∧ p.1 * a ≤ 100000 := ⟨Int.mul_nonneg r1.1 ha.1, by have := Int.mul_le_mul r1.2 ha.2 ha.1 (by omega : (0 : Int) ≤ 1000); omega⟩
        have e1 : IntKind.i64.wrap (p.1 * a) = p.1 * a := IntWalk.i64_in _ (by omega)
        have e2 : IntKind.i64.wrap (p.1 * a + b) = p.1 * a + b := IntWalk.i64_in _ (by omega)
        have e3 : IntKind.i64.wrap (p.2 + c) = p.2 + c := IntWalk.i64_in _ (by omega)
        have hbd : k + 1 ≤ 10000 := by omega
        go_wp2_with fail
        go_region_held3 (fun w' => w'.cell? ⟨b1, o1 + k * 2, none⟩ = some (.int .i64 p.1) ∧ w'.cell? ⟨b1, o1 + k * 2 + 1, none⟩ = some (.int .i64 p.2)) (go_keep)
          (first
            | (refine step_append_notes rfl (.tmp 24) (.tmp 42) rfl ((hbr.alloc hbr.size _).drew) (by rfl) ((hown.alloc _).drew) [(p.1 * a + b, p.2 + c)] (by rfl) (by rfl) (fun j u hj => (one_row0 hbr (p.1 * a + b, p.2 + c)).drew.cells (by rfl) j u hj) hbd ?_
               intro v2 w2 hv2 bv2 hg2
               have q1 := kept_b bv2 x0
               have q2 := kept_b bv2 y0))
        rw [← HN.out] at hv2
        clear hown hbr x0 y0 x1 y1 q1 q2 hg2 e1 e2 e3 hm0 hm1 r1 r2
        go_wp2
        go_roundw
        case rel => exact ⟨k + 1, by omega, by go_num, hv2, bv2⟩
        case measure => simp [intOf]; omega
      · obtain rfl : k = l.length := by omega
        have hfull : l.take l.length = l := List.take_length
        rw [hfull] at hown
        clear hfull
        have hR2 : Rd2 wr u10 (shiftL a b c l) := by
          have hlen := shiftL_len a b c l
          rw [← hlen] at hown
          exact Rd.of_own hown
        by_cases hs : tuneB (shiftL a b c l) = true
        · have HS := Lib.hid hs
          have HM := Lib.hid (changeM_yes (ok := true) rfl HT.out hs)
          clear hs
          go_wp2_with fail
          refine (tuneok_yes hR2 HS.out).mono ?_
          rintro e w3 ⟨rfl, hb3⟩
          go_wp2
          go_ret2
          rw [HM.out]
          have hlen := shiftL_len a b c l
          exact ⟨_, rfl, by rw [hlen]; exact ownS_below hown hb3, bstep hbr hb3⟩
        · have hs' : tuneB (shiftL a b c l) = false := by simpa using hs
          have HS := Lib.hid hs'
          have HM := Lib.hid (changeM_no (ok := true) (l := l) (a := a) (b := b) (c := c) (fun hh => by rw [hs'] at hh; cases hh.2.2))
          clear hs hs'
          go_wp2_with fail
          refine (tuneok_no hR2 HS.out).mono ?_
          rintro e w3 ⟨rfl, hb3⟩
          have g3 := bstep hbr hb3
          go_wp2_with fail
          refine (copy_any (Rd.below h g3) hl).mono ?_
          rintro e w7 ⟨v7, rfl, ho8, hb8⟩
          go_wp2
          go_ret2
          rw [HM.out]
          exact newB g3 ho8 hb8
  · have ht' : tuneB l = false := by simpa using ht
    have HT := Lib.hid ht'
    have HM := Lib.hid (changeM_no (ok := true) (l := l) (a := a) (b := b) (c := c) (fun hh => by rw [ht'] at hh; cases hh.2.1))
    clear ht ht'
    go_enter Try.func97, Try.ntmps97
    go_wp2_with fail
    refine (tuneok_no h HT.out).mono ?_
    rintro e w1 ⟨rfl, hb1⟩
    go_wp2_with fail
    refine (copy_any (Rd.below h hb1) hl).mono ?_
    rintro e w7 ⟨v7, rfl, ho8, hb8⟩
    go_wp2
    go_ret2
    rw [HM.out]
    exact newB hb1 ho8 hb8
end Go.Proofs.Ytcbdoldcdgaooaa
