/- The program's stepsIn, isTriad, RootOf: arrays as values. No condition. Made by gen_root.py. -/
import Derived.Test.YtceebblokibapaaDoorArrKit
import Derived.Test.YtceebblokibapaaDoorCmp
import Derived.Lib.SmallJoins
import Derived.Laws.CopyOwn
namespace Go.Proofs.YtceebblokibapaaDoor
open Go.ChangeShapes Go.WideShapes Go.ChangeAt Go.RowKit
set_option maxHeartbeats 1000000 in
theorem stepsIn_any {w : World} {v : Value} {l : List Int} (h : Rd1 w v l) (hl : ∀ (k : Nat) (a : Int), l[k]? = some a → 0 ≤ a) :
    Calls Tryd.prog 40 #[v] w fun e w' => e = .returned (.agg (flagsV (inSt l))) ∧ Below w.heap.size w w' := by
  obtain ⟨a1, cap1, rfl⟩ := Rd.slice h
  have hm := h.2.1
  unfold maxLen at hm
  have hA := (arrB_new w).below ((Below.refl _ _).alloc (Nat.le_refl _) (.cells #[.bool false, .bool false, .bool false, .bool false, .bool false, .bool false, .bool false, .bool false, .bool false, .bool false, .bool false, .bool false] 60))
  have hB := arrB_new (w.alloc (.cells #[.bool false, .bool false, .bool false, .bool false, .bool false, .bool false, .bool false, .bool false, .bool false, .bool false, .bool false, .bool false] 60))
  rw [size_alloc] at hB
  have hb0 := ((Below.refl w.heap.size w).alloc (Nat.le_refl _) (.cells #[.bool false, .bool false, .bool false, .bool false, .bool false, .bool false, .bool false, .bool false, .bool false, .bool false, .bool false, .bool false] 60)).alloc (by simp) (.cells #[.bool false, .bool false, .bool false, .bool false, .bool false, .bool false, .bool false, .bool false, .bool false, .bool false, .bool false, .bool false] 60)
  go_enter Tryd.func40, Tryd.ntmps40
  go_wp2_with fail
  generalize (w.alloc (.cells #[.bool false, .bool false, .bool false, .bool false, .bool false, .bool false, .bool false, .bool false, .bool false, .bool false, .bool false, .bool false] 60)).alloc (.cells #[.bool false, .bool false, .bool false, .bool false, .bool false, .bool false, .bool false, .bool false, .bool false, .bool false, .bool false, .bool false] 60) = W at *
  generalize hbr : w.heap.size = br at hA hB hb0 ⊢
  go_loopw [8] (fun v8 wr => ∃ j : Nat, j ≤ l.length ∧ v8 = .int .i64 j ∧ ArrB wr br (fun _ => false) ∧ ArrB wr (br + 1) (inSt (l.take j)) ∧ Below br w wr) (fun v8 _ => l.length - (intOf v8).toNat)
  case atStart => exact ⟨0, Nat.zero_le _, rfl, hA, hB, hb0⟩
  case round =>
    obtain ⟨j, hj, rfl, hA, hB, hbx⟩ := hrel
    clear hb0
    by_cases hlt : j < l.length
    · obtain ⟨p, hp⟩ : ∃ p, l[j]? = some p := ⟨_, List.getElem?_eq_getElem hlt⟩
      have hp0 := hl j p hp
      obtain ⟨b1, o1, c1, hv1, x1⟩ := Rd1.cell (Rd.below h (by rw [hbr]; exact hbx) : Rd1 wr _ l) hp
      simp only [Value.slice.injEq, true_and] at hv1
      obtain ⟨rfl, rfl⟩ := hv1
      have HQ := Lib.hid (fun s => inSt_step (s := s) hp)
      clear hp
      obtain ⟨s, hs⟩ : ∃ s : Nat, p % 12 = (s : Int) := ⟨(p % 12).toNat, by omega⟩
      have hs12 : s < 12 := by omega
      have c1 := hB.cell hs12
      have f1 := hB.frozen s
      have hA2 := hA.far (b := br + 1) (by omega) s (.bool true)
      have hB2 : ArrB (wr.setCell ⟨br + 1, s, none⟩ (.bool true)) (br + 1) (inSt (l.take (j + 1))) := by
        have e : inSt (l.take (j + 1)) = fun i => inSt (l.take j) i || i == s := by
          funext i
          rw [HQ.out i, hs]
          congr 1
          rw [Bool.eq_iff_iff, beq_iff_eq, beq_iff_eq]; omega
        rw [e]; exact hB.set hs12
      have hb2 := hbx.setCell (p := ⟨br + 1, s, none⟩) (Nat.le_succ br) (.bool true)
      clear hA hB hbx
      go_wp2
      go_roundw
      case rel => exact ⟨j + 1, by omega, by go_num, hA2, hB2, hb2⟩
      case measure => simp [intOf]; omega
    · obtain rfl : j = l.length := by omega
      rw [List.take_length] at hB
      have hg : wr.heap[br + 1]? = some (.cells (flagsV (inSt l)) 60 (0, 0)) := hB
      have hg2 : wr.heap[br]? = some (.cells (flagsV fun _ => false) 60 (0, 0)) := hA
      have hR := hA.row (inSt l)
      have hb2 : Below br w (wr.setRow br (flagsV (inSt l))) := below_setRow hbx (Nat.le_refl _) _
      have hst := hA.store (inSt l)
      have hsz := flagsV_size (inSt l)
      go_wp2_with (refine wpList_load_row rfl 60 (.tmp 3) rfl (br + 1) rfl _ _ _ _ hg Tryd.underlying60 rfl arr_info ?_)
      have r0 := hR.cell (i := 0) (by omega)
      have r1 := hR.cell (i := 1) (by omega)
      have r2 := hR.cell (i := 2) (by omega)
      have r3 := hR.cell (i := 3) (by omega)
      have r4 := hR.cell (i := 4) (by omega)
      have r5 := hR.cell (i := 5) (by omega)
      have r6 := hR.cell (i := 6) (by omega)
      have r7 := hR.cell (i := 7) (by omega)
      have r8 := hR.cell (i := 8) (by omega)
      have r9 := hR.cell (i := 9) (by omega)
      have r10 := hR.cell (i := 10) (by omega)
      have r11 := hR.cell (i := 11) (by omega)
      generalize wr.setRow br (flagsV (inSt l)) = W9 at *
      refine bodyPost_ret (v := .agg (flagsV (inSt l))) (by simp [results, Tryd.results40, go_sem, flagsV, r0, r1, r2, r3, r4, r5, r6, r7, r8, r9, r10, r11]) rfl ⟨rfl, by rw [hbr]; exact hb2⟩
end Go.Proofs.YtceebblokibapaaDoor
