/- The contracts of slices.Index and slices.Contains at rows of notes and of ints. No condition. -/
import Derived.Test.YtglehmffmailkaaCmp
import Derived.Test.YtglehmffmailkaaSortSpec
import Derived.Test.YtglehmffmailkaaInts
namespace Go.Proofs.Ytglehmffmailkaa
open Go.ChangeShapes Go.WideShapes Go.ChangeAt Go.RowKit

def memB (l : List (Int × Int)) (x : Int × Int) : Bool := decide (x ∈ l)
theorem memB_true {l : List (Int × Int)} {x : Int × Int} : memB l x = true ↔ x ∈ l := by unfold memB; simp
theorem memB_false {l : List (Int × Int)} {x : Int × Int} : memB l x = false ↔ x ∉ l := by unfold memB; simp
def IdxPost (w : World) (l : List (Int × Int)) (x : Int × Int) (e : Ending) (w' : World) : Prop :=
  ∃ r : Int, e = .returned (.int .i64 r) ∧ decide (0 ≤ r) = memB l x ∧ Below w.heap.size w w'

set_option maxHeartbeats 1000000 in
theorem index_any {w : World} {v : Value} {l : List (Int × Int)} (x : Int × Int) (h : Rd2 w v l) (hl : l.length ≤ 1048576) :
    Calls Try.prog 77 #[v, .agg #[.int .i64 x.1, .int .i64 x.2]] w (IdxPost w l x) := by
  obtain ⟨a1, cap1, rfl⟩ := Rd.slice h
  go_enter Try.func77, Try.ntmps77
  go_wp2_with fail
  obtain ⟨z1, z2, hb0⟩ : (w.alloc (.cells #[.int .i64 x.1, .int .i64 x.2] 39)).cell? ⟨w.heap.size, 0, none⟩ = some (.int .i64 x.1) ∧ (w.alloc (.cells #[.int .i64 x.1, .int .i64 x.2] 39)).cell? ⟨w.heap.size, 1, none⟩ = some (.int .i64 x.2) ∧ Below w.heap.size w (w.alloc (.cells #[.int .i64 x.1, .int .i64 x.2] 39)) :=
    ⟨cell0 _ _ _ _, cell0 _ _ _ _, (Below.refl _ _).alloc (Nat.le_refl _) _⟩
  generalize w.alloc (.cells #[.int .i64 x.1, .int .i64 x.2] 39) = W1 at *
  go_loopw [8] (fun v8 wr => ∃ j d : Nat, j ≤ l.length ∧ v8 = .int .i64 j ∧ wr = W1.drewN d ∧ (∀ i p, i < j → l[i]? = some p → p ≠ x)) (fun v8 _ => l.length - (intOf v8).toNat)
  case atStart => exact ⟨0, 0, Nat.zero_le _, rfl, rfl, fun i p hi => by omega⟩
  case round =>
    obtain ⟨j, d, hj, rfl, rfl, hall⟩ := hrel
    have HA := Lib.hid hall; clear hall
    by_cases hlt : j < l.length
    · obtain ⟨p, hp⟩ : ∃ p, l[j]? = some p := ⟨_, List.getElem?_eq_getElem hlt⟩
      have HP := Lib.hid hp
      obtain ⟨b1, o1, c1, hv1, x1, y1⟩ := Rd2.cells (Rd.below h hb0) hp
      simp only [Value.slice.injEq, true_and] at hv1
      obtain ⟨rfl, rfl⟩ := hv1
      clear hp
      by_cases hpx : x = p
      · have he := fun W => eql_yes hpx W
        have HM : Hid (memB l x = true) := Lib.hid (memB_true.2 (List.mem_iff_getElem?.2 ⟨j, by rw [HP.out, hpx]⟩))
        clear hpx
        go_wp2_with fail
        go_quiet (fail)
        go_wp2
        go_ret
        exact ⟨j, rfl, by rw [HM.out]; exact decide_eq_true (by omega), below_drewN (below_drewN hb0 _) _⟩
      · have he := fun W => eql_no hpx W
        have HN : Hid (∀ i q, i < j + 1 → l[i]? = some q → q ≠ x) := Lib.hid (fun i q hi hq => by
          by_cases hij : i < j
          · exact HA.out i q hij hq
          · obtain rfl : i = j := by omega
            rw [HP.out] at hq
            obtain rfl := Option.some.inj hq
            exact fun e => hpx e.symm)
        clear hpx
        go_wp2_with fail
        go_quiet (fail)
        clear he
        go_wp2
        go_roundw
        case rel => exact ⟨j + 1, _, by omega, by go_num, rfl, HN.out⟩
        case measure => simp [intOf]; omega
    · have HM : Hid (memB l x = false) := Lib.hid (memB_false.2 (fun hx => by
        obtain ⟨i, hi⟩ := List.mem_iff_getElem?.1 hx
        exact HA.out i x (by have := (List.getElem?_eq_some_iff.1 hi).1; omega) hi rfl))
      obtain rfl : j = l.length := by omega
      go_wp2
      go_ret
      exact ⟨-1, rfl, by rw [HM.out]; rfl, below_drewN hb0 _⟩

set_option maxHeartbeats 1000000 in
theorem contains_any {w : World} {v : Value} {l : List (Int × Int)} (x : Int × Int) (h : Rd2 w v l) (hl : l.length ≤ 1048576) :
    Calls Try.prog 55 #[v, .agg #[.int .i64 x.1, .int .i64 x.2]] w fun e w' => e = .returned (.bool (memB l x)) ∧ Below w.heap.size w w' := by
  go_enter Try.func55, Try.ntmps55
  go_wp2_with fail
  obtain ⟨z1, z2, hb0⟩ : (w.alloc (.cells #[.int .i64 x.1, .int .i64 x.2] 39)).cell? ⟨w.heap.size, 0, none⟩ = some (.int .i64 x.1) ∧ (w.alloc (.cells #[.int .i64 x.1, .int .i64 x.2] 39)).cell? ⟨w.heap.size, 1, none⟩ = some (.int .i64 x.2) ∧ Below w.heap.size w (w.alloc (.cells #[.int .i64 x.1, .int .i64 x.2] 39)) :=
    ⟨cell0 _ _ _ _, cell0 _ _ _ _, (Below.refl _ _).alloc (Nat.le_refl _) _⟩
  refine (index_any x (Rd.below h hb0) hl).mono ?_
  rintro e w2 ⟨r, rfl, hr, hb2⟩
  have hb3 := bstep hb0 hb2
  have HR := Lib.hid hr
  clear hr hb0 hb2 z1 z2
  go_wp2
  go_ret
  exact ⟨ret_b HR.out, hb3⟩

theorem contains_yes {w : World} {v : Value} {l : List (Int × Int)} {x : Int × Int} (h : Rd2 w v l) (hl : l.length ≤ 1048576) (hx : memB l x = true) :
    Calls Try.prog 55 #[v, .agg #[.int .i64 x.1, .int .i64 x.2]] w fun e w' => e = .returned (.bool true) ∧ Below w.heap.size w w' :=
  (contains_any x h hl).mono fun _ _ ⟨he, hb⟩ => ⟨by rw [he, hx], hb⟩
theorem contains_no {w : World} {v : Value} {l : List (Int × Int)} {x : Int × Int} (h : Rd2 w v l) (hl : l.length ≤ 1048576) (hx : memB l x = false) :
    Calls Try.prog 55 #[v, .agg #[.int .i64 x.1, .int .i64 x.2]] w fun e w' => e = .returned (.bool false) ∧ Below w.heap.size w w' :=
  (contains_any x h hl).mono fun _ _ ⟨he, hb⟩ => ⟨by rw [he, hx], hb⟩

/-- Where x stands in a row of ints: at 0 or later just if it is there. -/
def IdxPostI (w : World) (l : List Int) (x : Int) (e : Ending) (w' : World) : Prop :=
  ∃ r : Int, e = .returned (.int .i64 r) ∧ decide (0 ≤ r) = decide (x ∈ l) ∧ Below w.heap.size w w'
set_option maxHeartbeats 1000000 in
theorem indexI_any {w : World} {v : Value} {l : List Int} (x : Int) (h : Rd1 w v l) (hl : l.length ≤ 1048576) :
    Calls Try.prog 78 #[v, .int .i64 x] w (IdxPostI w l x) := by
  obtain ⟨a1, cap1, rfl⟩ := Rd.slice h
  go_enter Try.func78, Try.ntmps78
  go_wp2
  go_loopw [8] (fun v8 wr => ∃ j : Nat, j ≤ l.length ∧ v8 = .int .i64 j ∧ Below w.heap.size w wr ∧ Hid (∀ (i : Nat) (p : Int), i < j → l[i]? = some p → p ≠ x)) (fun v8 _ => l.length - (intOf v8).toNat)
  case atStart => exact ⟨0, Nat.zero_le _, rfl, Below.refl _ _, Lib.hid fun i p hi => by omega⟩
  case round =>
    obtain ⟨j, hj, rfl, hbr, HA⟩ := hrel
    by_cases hlt : j < l.length
    · obtain ⟨p, hp⟩ : ∃ p, l[j]? = some p := ⟨_, List.getElem?_eq_getElem hlt⟩
      have HP := Lib.hid hp
      obtain ⟨b1, o1, c1, hv1, x1⟩ := Rd1.cell (Rd.below h hbr) hp
      simp only [Value.slice.injEq, true_and] at hv1
      obtain ⟨rfl, rfl⟩ := hv1
      clear hp
      by_cases hpx : x = p
      · have HM : Hid (decide (x ∈ l) = true) := Lib.hid (decide_eq_true (List.mem_iff_getElem?.2 ⟨j, by rw [HP.out, hpx]⟩))
        have hd : (x == p) = true := by simpa using hpx
        clear hpx
        go_wp2
        go_ret
        exact ⟨j, rfl, by rw [HM.out]; exact decide_eq_true (by omega), hbr⟩
      · have HN : Hid (∀ (i : Nat) (q : Int), i < j + 1 → l[i]? = some q → q ≠ x) := Lib.hid (fun i q hi hq => by
          by_cases hij : i < j
          · exact HA.out i q hij hq
          · obtain rfl : i = j := by omega
            rw [HP.out] at hq
            obtain rfl := Option.some.inj hq
            exact fun e => hpx e.symm)
        have hd : (x == p) = false := by simpa using hpx
        clear hpx
        go_wp2
        go_roundw
        case rel => exact ⟨j + 1, by omega, by go_num, hbr, HN⟩
        case measure => simp [intOf]; omega
    · have HM : Hid (decide (x ∈ l) = false) := Lib.hid (decide_eq_false (fun hx => by
        obtain ⟨i, hi⟩ := List.mem_iff_getElem?.1 hx
        exact HA.out i x (by have := (List.getElem?_eq_some_iff.1 hi).1; omega) hi rfl))
      obtain rfl : j = l.length := by omega
      go_wp2
      go_ret
      exact ⟨-1, rfl, by rw [HM.out]; rfl, hbr⟩
theorem containsI_any {w : World} {v : Value} {l : List Int} (x : Int) (h : Rd1 w v l) (hl : l.length ≤ 1048576) :
    Calls Try.prog 56 #[v, .int .i64 x] w fun e w' => e = .returned (.bool (decide (x ∈ l))) ∧ Below w.heap.size w w' := by
  go_enter Try.func56, Try.ntmps56
  go_wp2_with fail
  refine (indexI_any x h hl).mono ?_
  rintro e w2 ⟨r, rfl, hr, hb2⟩
  have HR := Lib.hid hr
  clear hr
  go_wp2
  go_ret
  exact ⟨ret_b HR.out, hb2⟩
end Go.Proofs.Ytglehmffmailkaa
