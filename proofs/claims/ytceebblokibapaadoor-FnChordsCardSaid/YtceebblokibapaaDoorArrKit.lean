/- An array of 12 bools: in a block (ArrB), as a value (flagsV). No condition. Made by gen_root.py. -/
import Derived.Test.YtceebblokibapaaDoorStepSpec
import Derived.Laws.Rows
import Derived.DeepKeys
namespace Go.Proofs.YtceebblokibapaaDoor
open Go.ChangeShapes Go.WideShapes Go.ChangeAt Go.RowKit
def flagsV (f : Nat → Bool) : Array Value := #[.bool (f 0), .bool (f 1), .bool (f 2), .bool (f 3), .bool (f 4), .bool (f 5), .bool (f 6), .bool (f 7), .bool (f 8), .bool (f 9), .bool (f 10), .bool (f 11)]
theorem flagsV_at (f : Nat → Bool) {i : Nat} (hi : i < 12) : (flagsV f)[i]? = some (.bool (f i)) := by
  unfold flagsV
  match i, hi with
  | 0, _ => rfl
  | 1, _ => rfl
  | 2, _ => rfl
  | 3, _ => rfl
  | 4, _ => rfl
  | 5, _ => rfl
  | 6, _ => rfl
  | 7, _ => rfl
  | 8, _ => rfl
  | 9, _ => rfl
  | 10, _ => rfl
  | 11, _ => rfl
theorem flagsV_size (f : Nat → Bool) : (flagsV f).size = 12 := rfl
theorem flagsV_ext {f g : Nat → Bool} (h : ∀ i < 12, f i = g i) : flagsV f = flagsV g := by
  unfold flagsV
  rw [h 0 (by omega), h 1 (by omega), h 2 (by omega), h 3 (by omega), h 4 (by omega), h 5 (by omega), h 6 (by omega), h 7 (by omega), h 8 (by omega), h 9 (by omega), h 10 (by omega), h 11 (by omega)]
theorem flagsV_inj {f g : Nat → Bool} (h : flagsV f = flagsV g) : ∀ i < 12, f i = g i := fun i hi => by
  have h1 := flagsV_at f hi
  rw [h, flagsV_at g hi] at h1
  simpa using h1.symm
def ArrB (w : World) (b : Nat) (f : Nat → Bool) : Prop := w.heap[b]? = some (.cells (flagsV f) 60 (0, 0))
theorem ArrB.lt {w : World} {b : Nat} {f : Nat → Bool} (h : ArrB w b f) : b < w.heap.size := (Array.getElem?_eq_some_iff.1 h).1
theorem ArrB.cell {w : World} {b : Nat} {f : Nat → Bool} (h : ArrB w b f) {i : Nat} (hi : i < 12) : w.cell? ⟨b, i, none⟩ = some (.bool (f i)) := by
  unfold ArrB at h
  simp [World.cell?, h, flagsV_at f hi]
theorem ArrB.frozen {w : World} {b : Nat} {f : Nat → Bool} (h : ArrB w b f) (i : Nat) : w.frozen? ⟨b, i, none⟩ = false := by
  unfold ArrB at h
  simp [World.frozen?, h]
theorem ArrB.below {w w' : World} {b : Nat} {f : Nat → Bool} (h : ArrB w b f) (hb : Below w.heap.size w w') : ArrB w' b f := (hb.block b h.lt).trans h
theorem ArrB.set {w : World} {b : Nat} {f : Nat → Bool} (h : ArrB w b f) {s : Nat} (hs : s < 12) : ArrB (w.setCell ⟨b, s, none⟩ (.bool true)) b (fun i => f i || i == s) := by
  unfold ArrB at h ⊢
  rw [setCell_eq_setRow w b s _ _ _ _ h, setRow_heap w b _ _ _ _ h]
  congr 2
  match s, hs with
  | 0, _ => simp [flagsV]
  | 1, _ => simp [flagsV]
  | 2, _ => simp [flagsV]
  | 3, _ => simp [flagsV]
  | 4, _ => simp [flagsV]
  | 5, _ => simp [flagsV]
  | 6, _ => simp [flagsV]
  | 7, _ => simp [flagsV]
  | 8, _ => simp [flagsV]
  | 9, _ => simp [flagsV]
  | 10, _ => simp [flagsV]
  | 11, _ => simp [flagsV]
theorem ArrB.far {w : World} {b c : Nat} {f : Nat → Bool} (h : ArrB w c f) (hne : c ≠ b) (s : Nat) (v : Value) : ArrB (w.setCell ⟨b, s, none⟩ v) c f := by
  unfold ArrB at h ⊢
  rw [← h]
  simp [World.setCell, Array.getElem?_modify, Ne.symm hne]
theorem ArrB.row {w : World} {b : Nat} {f : Nat → Bool} (h : ArrB w b f) (g : Nat → Bool) : ArrB (w.setRow b (flagsV g)) b g := setRow_heap w b _ _ _ _ h
theorem arrB_new (w : World) : ArrB (w.alloc (.cells #[.bool false, .bool false, .bool false, .bool false, .bool false, .bool false, .bool false, .bool false, .bool false, .bool false, .bool false, .bool false] 60)) w.heap.size (fun _ => false) := by
  unfold ArrB flagsV
  show (w.heap.push _)[w.heap.size]? = _
  simp
theorem ArrB.store {w : World} {b : Nat} {f : Nat → Bool} (h : ArrB w b f) (g : Nat → Bool) : Sem.run Tryd.prog (storeCells ⟨b, 0, none⟩ (flagsV g).toList) w = .ok () (w.setRow b (flagsV g)) := by
  have h0 := run_storeCells_from (P := Tryd.prog) b 60 (flagsV g).toList 0 (flagsV f) w h rfl (fun v hv => (Array.all_eq_true_iff_forall_mem.1 (show (flagsV g).all (·.oneCell') = true by simp [flagsV, Value.oneCell'])) v (by simpa using hv))
  simpa using h0
def flagsL (f : Nat → Bool) : List Lit := [.bool (f 0), .bool (f 1), .bool (f 2), .bool (f 3), .bool (f 4), .bool (f 5), .bool (f 6), .bool (f 7), .bool (f 8), .bool (f 9), .bool (f 10), .bool (f 11)]
theorem flagsL_inj {f g : Nat → Bool} (h : flagsL f = flagsL g) : flagsV f = flagsV g := by
  unfold flagsL at h
  simp only [List.cons.injEq, Lit.bool.injEq, and_true] at h
  obtain ⟨h0, h1, h2, h3, h4, h5, h6, h7, h8, h9, h10, h11⟩ := h
  unfold flagsV
  rw [h0, h1, h2, h3, h4, h5, h6, h7, h8, h9, h10, h11]
theorem flags_lits (f : Nat → Bool) : Tryd.prog.keyLits 3 60 (Value.agg (flagsV f)).cells.toList = some (flagsL f) := by kernel_rfl
/-- Two arrays compared. -/
theorem run_flags_eq (w : World) (f g : Nat → Bool) : ∃ r : Bool, Sem.run Tryd.prog (Op.equalIn 10000 60 (.agg (flagsV f)) (.agg (flagsV g))) w = .ok r w ∧ (r = true ↔ flagsV f = flagsV g) := by
  obtain ⟨r, h1, h2⟩ := run_equalIn_deep (P := Tryd.prog) 9998 2 60 (by kernel_rfl) w 3 3 (.agg (flagsV f)) (.agg (flagsV g)) _ _ (by kernel_rfl) (by kernel_rfl) (flags_lits f) (flags_lits g)
  refine ⟨r, h1, h2.trans ⟨flagsL_inj, fun h => ?_⟩⟩
  have := flagsV_inj h
  unfold flagsL
  rw [this 0 (by omega), this 1 (by omega), this 2 (by omega), this 3 (by omega), this 4 (by omega), this 5 (by omega), this 6 (by omega), this 7 (by omega), this 8 (by omega), this 9 (by omega), this 10 (by omega), this 11 (by omega)]
theorem run_flags_yes (w : World) {f g : Nat → Bool} (h : flagsV f = flagsV g) : Sem.run Tryd.prog (Op.equalIn 10000 60 (.agg (flagsV f)) (.agg (flagsV g))) w = .ok true w := by
  obtain ⟨r, h1, h2⟩ := run_flags_eq w f g
  rw [h2.2 h] at h1; exact h1
theorem run_flags_no (w : World) {f g : Nat → Bool} (h : ¬ flagsV f = flagsV g) : Sem.run Tryd.prog (Op.equalIn 10000 60 (.agg (flagsV f)) (.agg (flagsV g))) w = .ok false w := by
  obtain ⟨r, h1, h2⟩ := run_flags_eq w f g
  cases r with
  | false => exact h1
  | true => exact absurd (h2.1 rfl) h
/-- A row that has just been made of its values. -/
theorem rd1_made (w : World) (l : List Int) (e : TypeId) (hm : l.length ≤ maxLen) : Rd1 (w.alloc (.cells (l.map intV).toArray e)) (.slice (some ⟨w.heap.size, 0, none⟩) l.length l.length) l := by
  have h : (w.alloc (.cells (l.map intV).toArray e)).ownsRow w.heap.size e 1 (.slice (some ⟨w.heap.size, 0, none⟩) l.length l.length) l.length (l.map intV) :=
    ⟨by simp, .inr ⟨w.heap.size, l.length, (l.map intV).toArray, rfl, Nat.le_refl _, heap_alloc_new w _, Nat.le_refl _, hm, by simp, by rw [List.toList_toArray, List.take_of_length_le (by simp)]⟩⟩
  exact Rd.of_own h
theorem arr_list {w : World} {b : Nat} {f : Nat → Bool} (h : ArrB w b f) {j : Nat} {v : Value} (hj : (flagsV f).toList[j]? = some v) : w.cell? ⟨b, j, none⟩ = some v := by
  rw [Array.getElem?_toList] at hj
  have hlt : j < 12 := (Array.getElem?_eq_some_iff.1 hj).1
  rw [flagsV_at f hlt] at hj
  rw [h.cell hlt]; exact hj
theorem arr_info : (Tryd.prog.info? 60).map (·.size) = some 12 := by kernel_rfl
end Go.Proofs.YtceebblokibapaaDoor
