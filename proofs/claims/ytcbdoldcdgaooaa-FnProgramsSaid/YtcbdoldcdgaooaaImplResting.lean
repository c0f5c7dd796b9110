/- The contracts of the program's restOk and resting. No condition. -/
import Derived.Test.YtcbdoldcdgaooaaTeethMath3
import Derived.Test.YtcbdoldcdgaooaaImplTune
namespace Go.Proofs.Ytcbdoldcdgaooaa
open Go.ChangeShapes Go.WideShapes Go.ChangeAt Go.RowKit

theorem irest_yes {r : Int} (h : 1 ≤ r ∧ r ≤ 100) (w : World) : Calls Try.prog 118 #[.int .i64 r] w fun e w' => e = .returned (.bool true) ∧ w = w' := by
  have h1 : decide (1 ≤ r) = true := decide_eq_true h.1
  have h2 : decide (r ≤ 100) = true := decide_eq_true h.2
  go_enter Try.func118, Try.ntmps118
  go_wp2
  go_ret
  exact ⟨rfl, rfl⟩
theorem irest_no {r : Int} (h : ¬ (1 ≤ r ∧ r ≤ 100)) (w : World) : Calls Try.prog 118 #[.int .i64 r] w fun e w' => e = .returned (.bool false) ∧ w = w' := by
  by_cases k : 1 ≤ r
  · have h1 : decide (1 ≤ r) = true := decide_eq_true k
    have h2 : decide (r ≤ 100) = false := decide_eq_false fun j => h ⟨k, j⟩
    go_enter Try.func118, Try.ntmps118
    go_wp2
    go_ret
    exact ⟨rfl, rfl⟩
  · have h1 : decide (1 ≤ r) = false := decide_eq_false k
    go_enter Try.func118, Try.ntmps118
    go_wp2
    go_ret
    exact ⟨rfl, rfl⟩

set_option maxHeartbeats 2000000 in
theorem resting_any {w : World} {v : Value} {t : List (Int × Int)} (r : Int) {q : Int × Int} (h : Rd2 w v t) (hq : t[t.length - 1]? = some q) (hB : ∀ (k : Nat) (u : Int × Int), t[k]? = some u → 0 ≤ u.1 ∧ u.1 ≤ 1000) :
    Calls Try.prog 142 #[v, .int .i64 r] w fun e w' => e = .returned (.int .i64 ((winC t t.length q r : Nat) : Int)) ∧ Below w.heap.size w w' := by
  obtain ⟨a1, cap1, rfl⟩ := Rd.slice h
  have hm := h.2.1
  unfold maxLen at hm
  have hpos : 0 < t.length := by have := (List.getElem?_eq_some_iff.1 hq).1; omega
  have HB := Lib.hid hB
  obtain ⟨hq1, hq2⟩ := hB _ _ hq
  obtain ⟨b1, o1, c1, hv1, x1, y1⟩ := Rd2.cells h hq
  simp only [Value.slice.injEq, true_and] at hv1
  obtain ⟨rfl, rfl⟩ := hv1
  have j1 : (0 : Int) ≤ (t.length : Int) - 1 := by omega
  have j2 : (1 : Int) ≤ (t.length : Int) := by omega
  have j3 : (t.length : Int) - 1 < (t.length : Int) := by omega
  have j4 : 1 ≤ t.length := by omega
  have ej1 : IntKind.i64.wrap ((t.length : Int) - 1) = (t.length : Int) - 1 := IntWalk.i64_in _ (by omega)
  have ej2 : ((t.length : Int) - 1).toNat = t.length - 1 := by omega
  clear hB hq
  go_enter Try.func142, Try.ntmps142
  go_wp2_with fail
  obtain ⟨z0, z1, hb1, hlt1⟩ : (w.alloc (.cells #[.int .i64 q.1, .int .i64 q.2] 41)).cell? ⟨w.heap.size, 0, none⟩ = some (.int .i64 q.1) ∧ (w.alloc (.cells #[.int .i64 q.1, .int .i64 q.2] 41)).cell? ⟨w.heap.size, 1, none⟩ = some (.int .i64 q.2) ∧
      Below w.heap.size w (w.alloc (.cells #[.int .i64 q.1, .int .i64 q.2] 41)) ∧ w.heap.size < (w.alloc (.cells #[.int .i64 q.1, .int .i64 q.2] 41)).heap.size :=
    ⟨cell0 _ _ _ _, cell0 _ _ _ _, (Below.refl _ _).alloc (Nat.le_refl _) _, by simp⟩
  generalize w.alloc (.cells #[.int .i64 q.1, .int .i64 q.2] 41) = W1 at *
  clear x1 y1 ej1 ej2 j1 j2 j3
  go_loopw [6, 17] (fun v6 v17 wr => ∃ j : Nat, j ≤ t.length ∧ v17 = .int .i64 (j : Int) ∧ v6 = .int .i64 ((winC t j q r : Nat) : Int) ∧ Below w.heap.size w wr ∧ Below W1.heap.size W1 wr) (fun _ v17 _ => t.length - (intOf v17).toNat)
  case atStart => exact ⟨0, Nat.zero_le _, rfl, by simp [winC], hb1, Below.refl _ _⟩
  case round =>
    obtain ⟨j, hj, rfl, rfl, hbr, hks⟩ := hrel
    clear hb1
    by_cases hlt : j < t.length
    · obtain ⟨u, hu⟩ : ∃ u, t[j]? = some u := ⟨_, List.getElem?_eq_getElem hlt⟩
      obtain ⟨hu1, hu2⟩ := HB.out j u hu
      obtain ⟨b2, o2, c2, hv2, x2, y2⟩ := Rd2.cells (Rd.below h hbr) hu
      simp only [Value.slice.injEq, true_and, Option.some.injEq, Addr.mk.injEq, and_true] at hv2
      obtain ⟨⟨rfl, rfl⟩, rfl⟩ := hv2
      have HS := Lib.hid (winC_succ q r hu)
      have hwl := winC_le t j q r
      have d0 := (hks.cell (p := ⟨w.heap.size, 0, none⟩) hlt1).trans z0
      have d1 := (hks.cell (p := ⟨w.heap.size, 1, none⟩) hlt1).trans z1
      clear hu
      generalize winC t j q r = wc at *
      have f0 : (wr.alloc (.cells #[.int .i64 u.1, .int .i64 u.2] 41)).cell? ⟨w.heap.size, 0, none⟩ = some (.int .i64 q.1) := Lib.cell?_alloc_some _ d0
      have f1 : (wr.alloc (.cells #[.int .i64 u.1, .int .i64 u.2] 41)).cell? ⟨w.heap.size, 1, none⟩ = some (.int .i64 q.2) := Lib.cell?_alloc_some _ d1
      have hbs : Below w.heap.size w (wr.alloc (.cells #[.int .i64 u.1, .int .i64 u.2] 41)) := hbr.alloc hbr.size _
      have hks2 : Below W1.heap.size W1 (wr.alloc (.cells #[.int .i64 u.1, .int .i64 u.2] 41)) := hks.alloc hks.size _
      clear d0 d1 hbr hks
      by_cases hp : u.2 = q.2
      · have hpb : (u.2 == q.2) = true := by simpa using hp
        have ew : IntKind.i64.wrap (q.1 - u.1) = q.1 - u.1 := IntWalk.i64_in _ (by omega)
        have HP := Lib.hid hp
        clear hp
        by_cases hd : q.1 - u.1 < r
        · have HS2 := Lib.hid (HS.out.trans (by rw [if_pos ⟨HP.out, hd⟩]))
          have hdd : decide (q.1 - u.1 < r) = true := decide_eq_true hd
          go_wp2
          go_roundw
          case rel => exact ⟨j + 1, by omega, by go_num, by rw [HS2.out]; go_num, hbs, hks2⟩
          case measure => simp [intOf]; omega
        · have HS2 := Lib.hid (HS.out.trans (by rw [if_neg (fun hh => hd hh.2), Nat.add_zero]))
          have hdd : decide (q.1 - u.1 < r) = false := decide_eq_false hd
          go_wp2
          go_roundw
          case rel => exact ⟨j + 1, by omega, by go_num, by rw [HS2.out], hbs, hks2⟩
          case measure => simp [intOf]; omega
      · have HS2 := Lib.hid (HS.out.trans (by rw [if_neg (fun hh => hp hh.1), Nat.add_zero]))
        have hpb : (u.2 == q.2) = false := by simpa using hp
        go_wp2
        go_roundw
        case rel => exact ⟨j + 1, by omega, by go_num, by rw [HS2.out], hbs, hks2⟩
        case measure => simp [intOf]; omega
    · obtain rfl : j = t.length := by omega
      go_wp2
      go_ret
      exact ⟨rfl, hbr⟩
end Go.Proofs.Ytcbdoldcdgaooaa
