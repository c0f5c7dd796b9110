/- The contracts of the draws' cursor: l01New, l01Byte, l01Below (a part of the text on all draws). No condition. -/
import Derived.Test.YtcbdoldcdgaooaaKit
namespace Go.Proofs.Ytcbdoldcdgaooaa
open Go.ChangeShapes Go.WideShapes Go.ChangeAt Go.RowKit

theorem three_cells {w : World} {c : Nat} {t : TypeId} {a b d : Value} (h : w.heap[c]? = some (.cells #[a, b, d] t (0, 0))) :
    w.cell? ⟨c, 0, none⟩ = some a ∧ w.cell? ⟨c, 1, none⟩ = some b ∧ w.cell? ⟨c, 2, none⟩ = some d ∧ (∀ o, w.frozen? ⟨c, o, none⟩ = false) := by
  refine ⟨?_, ?_, ?_, fun o => ?_⟩ <;> simp [World.cell?, World.frozen?, h]

theorem heap_set2 {w : World} {c : Nat} {t : TypeId} {a b d : Value} (h : w.heap[c]? = some (.cells #[a, b, d] t (0, 0))) (u : Value) :
    (w.setCell ⟨c, 2, none⟩ u).heap[c]? = some (.cells #[a, b, u] t (0, 0)) := by
  simp [World.setCell, Array.getElem?_modify, h]
theorem heap_set1 {w : World} {c : Nat} {t : TypeId} {a b d : Value} (h : w.heap[c]? = some (.cells #[a, b, d] t (0, 0))) (u : Value) :
    (w.setCell ⟨c, 1, none⟩ u).heap[c]? = some (.cells #[a, u, d] t (0, 0)) := by
  simp [World.setCell, Array.getElem?_modify, h]

set_option maxHeartbeats 400000 in
theorem byte_any {B c : Nat} {w : World} (hC : Cur 120 B w c) :
    Calls Try.prog 128 #[.pointer (some ⟨c, 0, none⟩)] w (Drawn 120 B c w 0 255) := by
  have hlt := hC.lt
  obtain ⟨hB, v, n, i, h, hcode, hi, hb⟩ := hC
  obtain ⟨c0, c1, c2, fz⟩ := three_cells hb
  have HB := Lib.hid hb; clear hb
  have HC := Lib.hid hcode
  rcases hcode with ⟨rfl, a, cap, rfl⟩ | ⟨b, off, cap, rfl, hn, hbB, hcell⟩
  · obtain rfl : i = 0 := by omega
    go_enter Try.func128, Try.ntmps128
    go_wp2
    go_quiet (fail)
    go_wp2
    go_quiet (fail)
    go_wp2
    go_ret
    refine ⟨_, (bits_and_bd _ 255 (by omega)).1, (bits_and_bd _ 255 (by omega)).2, rfl, ?_, ?_⟩
    · repeat (first | exact World.grownBy.refl _ _ | apply only_drewN | apply only_drew | refine only_setCell ?_ (.inl rfl) _)
    · refine ⟨hB, _, _, 0, _, HC.out.below ?_, Nat.le_refl _, heap_set2 HB.out _⟩
      repeat (first | exact Below.refl _ _ | apply below_drewN | apply Below.drew | refine Below.setCell ?_ hB _)
  · unfold maxLen at hn
    have hne : b ≠ c := by omega
    by_cases hin : i < n
    · obtain ⟨z, hz0, hz1, hz⟩ := hcell i hin
      clear hcell
      go_enter Try.func128, Try.ntmps128
      go_wp2
      go_quiet (fail)
      go_wp2
      go_quiet (fail)
      go_wp2
      go_quiet (fail)
      go_wp2
      go_ret
      refine ⟨_, (bits_and_bd _ 255 (by omega)).1, (bits_and_bd _ 255 (by omega)).2, rfl, ?_, ?_⟩
      · repeat (first | exact World.grownBy.refl _ _ | apply only_drewN | apply only_drew | refine only_setCell ?_ (.inl rfl) _)
      · refine ⟨hB, _, _, i + 1, _, HC.out.below ?_, hin, heap_set1 (heap_set2 HB.out _) _⟩
        repeat (first | exact Below.refl _ _ | apply below_drewN | apply Below.drew | refine Below.setCell ?_ hB _)
    · obtain rfl : i = n := by omega
      clear hcell
      go_enter Try.func128, Try.ntmps128
      go_wp2
      go_quiet (fail)
      go_wp2
      go_quiet (fail)
      go_wp2
      go_ret
      refine ⟨_, (bits_and_bd _ 255 (by omega)).1, (bits_and_bd _ 255 (by omega)).2, rfl, ?_, ?_⟩
      · repeat (first | exact World.grownBy.refl _ _ | apply only_drewN | apply only_drew | refine only_setCell ?_ (.inl rfl) _)
      · refine ⟨hB, _, _, i, _, HC.out.below ?_, Nat.le_refl _, heap_set2 HB.out _⟩
        repeat (first | exact Below.refl _ _ | apply below_drewN | apply Below.drew | refine Below.setCell ?_ hB _)

/-- A number is drawn and some lemma on it. -/
theorem Drawn.mono {P : TypeId} {B c : Nat} {w : World} {lo hi lo' hi' : Int} {e : Ending} {w' : World} (h : Drawn P B c w lo hi e w') (h1 : lo' ≤ lo) (h2 : hi ≤ hi') : Drawn P B c w lo' hi' e w' := by
  obtain ⟨x, a, b, r⟩ := h
  exact ⟨x, by omega, by omega, r⟩

set_option maxHeartbeats 400000 in
theorem below_any {B c : Nat} {w : World} (n : Int) (h1 : 1 ≤ n) (h2 : n ≤ 9223372036854775807) (hC : Cur 120 B w c) :
    Calls Try.prog 104 #[.pointer (some ⟨c, 0, none⟩), .int .i64 n] w (Drawn 120 B c w 0 (n - 1)) := by
  by_cases h256 : n ≤ 256
  · go_enter Try.func104, Try.ntmps104
    go_wp2_with (go_at_call 128; refine (byte_any hC).mono ?_; rintro e w1 ⟨x, hx0, hx1, rfl, hg1, hC1⟩)
    go_ret
    exact ⟨_, Int.emod_nonneg _ (by omega), by have := Int.emod_lt_of_pos x (show 0 < n by omega); omega, rfl, hg1, hC1⟩
  · have hg0 : w.grownBy w (some c) := World.grownBy.refl _ _
    go_enter Try.func104, Try.ntmps104
    go_wp2_with (go_at_call 128; refine (byte_any (by assumption)).mono ?_; rintro e w1 ⟨x, hx0, hx1, rfl, hg1, hC1⟩; replace hg1 := only_trans (by assumption) hg1)
    go_ret
    exact ⟨_, Int.emod_nonneg _ (by omega), Int.le_sub_one_of_lt (Int.emod_lt_of_pos _ (by omega)), rfl, hg1, by assumption⟩

theorem cur_made {t : TypeId} {w : World} {v : Value} {n : Nat} {h : Int} (hC : Code w w.heap.size v n) (k : Nat) :
    Cur t w.heap.size ((w.drewN k).alloc (.cells #[v, .int .i64 0, .int .i64 h] t)) w.heap.size :=
  ⟨Nat.le_refl _, v, n, 0, h, hC.below (Below.alloc (below_drewN (Below.refl _ _) _) (Nat.le_refl _) _), Nat.zero_le _, by simp [World.alloc, World.drewN]⟩

set_option maxHeartbeats 400000 in
set_option maxRecDepth 100000 in
theorem new_any {w : World} {v : Value} {n : Nat} (hC : Code w w.heap.size v n) :
    Calls Try.prog 58 #[v] w fun e w' => ∃ c, e = .returned (.pointer (some ⟨c, 0, none⟩)) ∧ Below w.heap.size w w' ∧ Cur 120 w.heap.size w' c := by
  have HC := Lib.hid hC
  rcases hC with ⟨rfl, a, cap, rfl⟩ | ⟨b, off, cap, rfl, hn, hbB, hcell⟩
  · go_enter Try.func58, Try.ntmps58
    go_wp2
    go_loop [3, 4] (fun h i => ∃ x : Int, i = .int .i64 0 ∧ h = .int .i64 x) (fun _ _ => 0)
    case atStart => exact ⟨_, rfl, rfl⟩
    case round =>
      obtain ⟨x, rfl, rfl⟩ := hrel
      go_wp2
      go_ret
      exact ⟨_, rfl, Below.alloc (Below.refl _ _) (Nat.le_refl _) _, cur_made HC.out 0⟩
  · unfold maxLen at hn
    go_enter Try.func58, Try.ntmps58
    go_wp2
    go_loop [3, 4] (fun h i => ∃ (k : Nat) (x : Int), k ≤ n ∧ i = .int .i64 k ∧ h = .int .i64 x) (fun _ i => n - (intOf i).toNat)
    case atStart => exact ⟨0, _, by omega, rfl, rfl⟩
    case round =>
      obtain ⟨k, x, hk, rfl, rfl⟩ := hrel
      by_cases hlt : k < n
      · obtain ⟨z, hz0, hz1, hz⟩ := hcell k hlt
        clear hcell
        go_wp2
        · go_round
          case rel => exact ⟨k + 1, _, by omega, by go_num, rfl⟩
          case measure => simp [intOf]; omega
        · go_ret
          exact ⟨_, rfl, Below.alloc (Below.refl _ _) (Nat.le_refl _) _, cur_made HC.out 0⟩
      · clear hcell
        go_wp2
        go_ret
        exact ⟨_, rfl, Below.alloc (Below.refl _ _) (Nat.le_refl _) _, cur_made HC.out 0⟩

theorem big_any {w : World} {v : Value} {n : Nat} {B : Nat} (hC : Code w B v n) :
    Calls Try.prog 11 #[v] w fun e w' => e = .returned (.bool (decide (1048576 < n))) ∧ w = w' := by
  rcases hC with ⟨rfl, a, cap, rfl⟩ | ⟨b, off, cap, rfl, hn, hbB, hcell⟩
  · go_enter Try.func11, Try.ntmps11
    go_wp2
    go_ret
    exact ⟨rfl, rfl⟩
  · unfold maxLen at hn
    clear hcell
    go_enter Try.func11, Try.ntmps11
    go_wp2
    go_ret
    exact ⟨by simp; omega, rfl⟩
theorem big_yes {w : World} {v : Value} {n : Nat} {B : Nat} (hC : Code w B v n) (h : 1048576 < n) :
    Calls Try.prog 11 #[v] w fun e w' => e = .returned (.bool true) ∧ w = w' :=
  (big_any hC).mono fun _ _ ⟨he, hw⟩ => ⟨by rw [he, decide_eq_true h], hw⟩
theorem big_no {w : World} {v : Value} {n : Nat} {B : Nat} (hC : Code w B v n) (h : ¬ 1048576 < n) :
    Calls Try.prog 11 #[v] w fun e w' => e = .returned (.bool false) ∧ w = w' :=
  (big_any hC).mono fun _ _ ⟨he, hw⟩ => ⟨by rw [he, decide_eq_false h], hw⟩

end Go.Proofs.Ytcbdoldcdgaooaa
