/- Laws of rows of notes in memory of the call's own: sorted, cleared, copied into, cut. No condition. -/
import Derived.Test.YtcbdoldcdgaooaaSortMath
import Derived.Shelf.SlSortCmp.NoneTotal
import Derived.Laws.CopyRow
import Derived.Lib.AppendZerosOnto
namespace Go.Proofs.Ytcbdoldcdgaooaa
open Go.ChangeShapes Go.WideShapes Go.ChangeAt Go.RowKit

def encP (p : Int × Int) : List Value := [intV p.1, intV p.2]
theorem encP_len (p : Int × Int) : (encP p).length = 2 := rfl
theorem encP_one (p : Int × Int) : ∀ v ∈ encP p, v.oneCell' = true := by
  intro v hv
  simp [encP] at hv
  rcases hv with rfl | rfl <;> rfl
theorem flatK_eq (o : List (Int × Int)) : Sort.flatK encP 2 o.toArray = (flat2 o).toArray := by
  apply Array.ext_getElem?
  intro t
  by_cases ht : t < o.length * 2
  · have hk : t / 2 < o.length := by omega
    obtain ⟨p, hp⟩ : ∃ p, o[t / 2]? = some p := ⟨_, List.getElem?_eq_getElem hk⟩
    obtain ⟨h1, h2⟩ := flat2_at o _ p hp
    have hp' : o.toArray[t / 2]! = p := by simp [hp]
    have hsz : t < (Sort.flatK encP 2 o.toArray).size := by simp; exact ht
    have e := Sort.get_flatK encP 2 o.toArray t (by simpa using ht)
    rw [getElem!_pos _ t hsz, hp'] at e
    rw [Array.getElem?_eq_getElem hsz, e, List.getElem?_toArray]
    rcases Nat.mod_two_eq_zero_or_one t with hm | hm
    · rw [hm, show t = t / 2 * 2 by omega, h1]; rfl
    · rw [hm, show t = t / 2 * 2 + 1 by omega, h2]; rfl
  · rw [Array.getElem?_eq_none (by simp; omega), Array.getElem?_eq_none (by simp [flat2_length]; omega)]

section
variable {w : World} {B g cap n : Nat} {e : TypeId} {o : List (Int × Int)}
theorem holdsK_own (h : w.ownsRow B e 2 (.slice (some ⟨g, 0, none⟩) o.length cap) o.length (flat2 o)) : Sort.HoldsK encP 2 w g 0 o.toArray := by
  intro j hj
  rw [flatK_eq] at hj ⊢
  have hj' : j < (flat2 o).length := by simpa using hj
  refine ⟨?_, h.frozenAt _⟩
  rw [Nat.zero_add, h.cellAt _ (by rw [← flat2_length]; exact hj'), List.getElem?_eq_getElem hj']
  simp [hj']

/-- Behind the sort the same slice owns the sorted row. -/
theorem own_sortedK {k : Nat} {os : Array Obj} {d : List (Int × Int)} (hl : d.length = o.length) (h : w.ownsRow B e 2 (.slice (some ⟨g, 0, none⟩) o.length cap) o.length (flat2 o)) :
    (sortWorldK encP 2 w g 0 k d.toArray os).ownsRow B e 2 (.slice (some ⟨g, 0, none⟩) o.length cap) o.length (flat2 d) ∧ w.grownBy (sortWorldK encP 2 w g 0 k d.toArray os) (some g) := by
  rcases h.2 with ⟨h0, _⟩ | ⟨g', cap', cur, hv, hB, hg, h1, h2, h3, h4⟩
  · cases h0
  simp only [Value.slice.injEq, Option.some.injEq, Addr.mk.injEq, and_true, true_and] at hv
  obtain ⟨rfl, rfl⟩ := hv
  have hlt : g < w.heap.size := (Array.getElem?_eq_some_iff.1 hg).1
  have hF : Sort.flatK encP 2 d.toArray = (flat2 d).toArray := flatK_eq d
  have hheap : (sortWorldK encP 2 w g 0 k d.toArray os).heap[g]? = some (.cells (Sort.putCells id 0 (Sort.flatK encP 2 d.toArray) cur) e (0, 0)) := by
    unfold sortWorldK Sort.putRowK
    rw [Sort.heap_grow_old _ _ (by simpa using hlt)]
    simp [Sort.putRow, Sort.mapBlock, Sort.ahead, Array.getElem?_modify, hg, Sort.onCells]
  have hfl : (flat2 d).length = o.length * 2 := by rw [flat2_length, hl]
  refine ⟨⟨hfl, Or.inr ⟨g, cap, _, rfl, hB, hheap, h1, h2, by simp [Sort.putCells, h3], ?_⟩⟩, ?_⟩
  · apply List.ext_getElem?
    intro j
    by_cases hj : j < o.length * 2
    · rw [List.getElem?_take_of_lt hj, Array.getElem?_toList, hF]
      have hjc : j < cur.size := by rw [h3]; have := Nat.mul_le_mul_right 2 h1; omega
      simp [Sort.putCells, hjc, hfl, hj]
    · rw [List.getElem?_take_eq_none (by omega), List.getElem?_eq_none (by omega)]
  · refine ⟨rfl, rfl, rfl, by simp [sortWorldK, Sort.putRowK, Sort.putRow, Sort.mapBlock, Sort.ahead], fun k hk hne => ?_⟩
    unfold sortWorldK Sort.putRowK
    rw [Sort.heap_grow_old _ _ (by simpa using hk)]
    have : g ≠ k := fun e => hne (by rw [e])
    simp [Sort.putRow, Sort.mapBlock, Sort.ahead, Array.getElem?_modify, this]
end

section
variable {P : Program} {w : World} {B g cap n s : Nat} {e : TypeId} {xs : List Value}
theorem zeroCells_len (z : Array Value) (n : Nat) : (Builtin.zeroCells z n).toList.length = n * z.size := by simp [Builtin.zeroCells]
theorem zeroCells_one {z : Array Value} (h : ∀ i, i < z.size → (z[i]!).oneCell' = true) (n : Nat) : ∀ v ∈ (Builtin.zeroCells z n).toList, v.oneCell' = true := by
  intro v hv
  simp only [Builtin.zeroCells, Array.toList_map, Array.toList_range, List.mem_map, List.mem_range] at hv
  obtain ⟨i, hi, rfl⟩ := hv
  refine h _ (Nat.mod_lt _ ?_)
  rcases Nat.eq_zero_or_pos z.size with h0 | h0
  · rw [h0] at hi; simp at hi
  · exact h0

theorem setRow_grown (g : Nat) (cs : Array Value) : w.grownBy (w.setRow g cs) (some g) :=
  ⟨rfl, rfl, rfl, by simp [World.setRow], fun k _ hne => setRow_other w g k cs (fun e => hne (by rw [e]))⟩

/-- 'clear(s[m:])' on an own row: what is ahead of m stays. -/
theorem run_clear_own {t : TypeId} {z : Value} (ht : P.underlying t = some (.slice e)) (hv : ∀ w, (zeroValue e).run P w = .ok z w) (hzs : z.cells.size = s) (hz1 : ∀ i, i < z.cells.size → (z.cells[i]!).oneCell' = true)
    (h : w.ownsRow B e s (.slice (some ⟨g, 0, none⟩) n cap) n xs) {m : Nat} (hm : m ≤ n) :
    ∃ w', (∀ ty c, (Builtin.clear_ #[t] ty #[.slice (some ⟨g, m * s, none⟩) (n - m) c]).run P w = .ok (.tuple #[]) w') ∧ w'.ownsRow B e s (.slice (some ⟨g, 0, none⟩) m cap) m (xs.take (m * s)) ∧ w.grownBy w' (some g) := by
  have hxs := h.1
  rcases h.2 with ⟨h0, _⟩ | ⟨g', cap', cur, hvv, hB, hg, h1, h2, h3, h4⟩
  · cases h0
  simp only [Value.slice.injEq, Option.some.injEq, Addr.mk.injEq, and_true, true_and] at hvv
  obtain ⟨rfl, rfl⟩ := hvv
  have hms : m * s ≤ n * s := Nat.mul_le_mul_right s hm
  have hns : n * s ≤ cap * s := Nat.mul_le_mul_right s h1
  have htake : ∀ cur' : List Value, cur'.take (m * s) = cur.toList.take (m * s) → cur'.take (m * s) = xs.take (m * s) := fun cur' hc => by
    rw [hc, ← h4, List.take_take, Nat.min_eq_left hms]
  rcases Nat.eq_or_lt_of_le hm with rfl | hlt
  · refine ⟨w, fun _ c => ?_, ⟨by rw [List.length_take]; omega, Or.inr ⟨g, cap, cur, rfl, hB, hg, by omega, h2, h3, htake _ rfl⟩⟩, World.grownBy.refl _ _⟩
    rw [Nat.sub_self]
    simp [Builtin.clear_, run_underlying ht]
  · obtain ⟨d, hd⟩ : ∃ d, n - m = d + 1 := ⟨n - m - 1, by omega⟩
    have hzl : (Builtin.zeroCells z.cells (n - m)).toList.length = (n - m) * s := by rw [zeroCells_len, hzs]
    have hfit : m * s + 0 + (Builtin.zeroCells z.cells (n - m)).toList.length ≤ cur.size := by
      rw [hzl, h3, Nat.sub_mul]; omega
    have hst := run_storeCells_at P g (m * s) e (Builtin.zeroCells z.cells (n - m)).toList 0 cur w hg hfit (zeroCells_one hz1 _)
    refine ⟨_, fun _ c => ?_, ⟨by rw [List.length_take]; omega, Or.inr ⟨g, cap, _, rfl, hB, setRow_heap w g cur (cur.toList.take (m * s + 0) ++ (Builtin.zeroCells z.cells (n - m)).toList ++ cur.toList.drop (m * s + 0 + (Builtin.zeroCells z.cells (n - m)).toList.length)).toArray e (0, 0) hg, by omega, h2, ?_, htake _ ?_⟩⟩, setRow_grown g _⟩
    · rw [hd] at hst ⊢
      simp [Builtin.clear_, run_underlying ht, hv, hst]
    · simp only [List.size_toArray, List.length_append, List.length_take, List.length_drop, Array.length_toList]
      rw [Array.length_toList] at hfit
      omega
    · simp only [Nat.add_zero]
      rw [List.append_assoc, List.take_append_of_le_length (by rw [List.length_take, Array.length_toList]; omega), List.take_take, Nat.min_self]
end
end Go.Proofs.Ytcbdoldcdgaooaa
