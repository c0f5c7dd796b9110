/- A readable row of ints, of whatever length, appended to an own row of ints; by its own run. No condition. -/
import Derived.Test.YtcbdoldcdgaooaaAssignSpec
import Derived.Test.YtcbdoldcdgaooaaSortSpec
import Derived.Maps.AppendAt
namespace Go.Proofs.Ytcbdoldcdgaooaa
open Go.ChangeShapes Go.WideShapes Go.ChangeAt Go.RowKit

theorem intV_one (l : List Int) : ∀ u ∈ l.map intV, u.oneCell' = true := fun u hu => by
  obtain ⟨y, _, rfl⟩ := List.mem_map.1 hu
  rfl
theorem append_noneI {w : World} {B : Nat} {v : Value} {n : Nat} {xs : List Value} (hown : w.ownsRow B 3 1 v n xs) (ty : TypeId) (cap : Nat) :
    (Builtin.append_ #[33, 33] ty #[v, .slice none 0 cap]).run Try.prog w = .ok v w := by
  obtain ⟨i0, hi, hz0, hz1, hz2⟩ := info_parts infoInt
  rcases hown.2 with ⟨rfl, rfl⟩ | ⟨g, c, cur, rfl, _, _, hnc, _⟩
  · simp [Builtin.append_, run_underlying Try.underlying33, sizeOf, typeInfo, hi, Builtin.lenOf, Builtin.firstCells]
  · simp [Builtin.append_, run_underlying Try.underlying33, sizeOf, typeInfo, hi, Builtin.lenOf, Builtin.firstCells, hnc, storeCells]
theorem append_rdI {w : World} {B : Nat} {u va : Value} {n : Nat} {xs l : List Int} (hown : w.ownsRow B 3 1 u n (xs.map intV)) (h : Rd1 w va l) (hn : n + l.length ≤ 1000000) (hB : B ≤ w.heap.size) :
    ∃ v' w', (Builtin.append_ #[33, 33] 33 #[u, va]).run Try.prog w = .ok v' w' ∧ w'.ownsRow B 3 1 v' (n + l.length) ((xs ++ l).map intV) ∧ w.grownBy w' u.ownBlock ∧ (v'.ownBlock = u.ownBlock ∨ v'.ownBlock = some w.heap.size) := by
  obtain ⟨i0, hi, hz0, hz1, hz2⟩ := info_parts infoInt
  rcases h.2.2 with ⟨h0, a, cap, rfl⟩ | ⟨b, off, cap, rfl, hpos, hc⟩
  · obtain rfl : l = [] := List.length_eq_zero_iff.1 h0
    cases a with
    | none => exact ⟨u, w, append_noneI hown _ cap, by simpa using hown, World.grownBy.refl _ _, Or.inl rfl⟩
    | some ad =>
      obtain ⟨v', w', e, o, g, _, hb⟩ := run_append_own_at (P := Try.prog) (w := w) B 33 33 3 i0 _ 1 8 Try.underlying33 hi hz0 hz1 hz2 rfl (by decide) u n (xs.map intV) hown ad 0 cap [] rfl (fun j u hu => by simp at hu) (fun u hu => by simp at hu) (by unfold maxLen; simp at hn; omega) (by simp at hn; omega) hB
      exact ⟨v', w', e, by simpa using o, g, hb⟩
  · obtain ⟨v', w', e, o, g, _, hb⟩ := run_append_own_at (P := Try.prog) (w := w) B 33 33 3 i0 _ 1 8 Try.underlying33 hi hz0 hz1 hz2 rfl (by decide) u n (xs.map intV) hown ⟨b, off, none⟩ l.length cap (l.map intV) (by simp) (fun j u hu => by
      have hlt : j < (l.map intV).length := (List.getElem?_eq_some_iff.1 hu).1
      rw [List.length_map] at hlt
      rw [add_plain, hc j (by omega)]; exact hu) (intV_one l) (by unfold maxLen; omega) (by omega) hB
    exact ⟨v', w', e, by rw [List.map_append]; exact o, g, hb⟩
end Go.Proofs.Ytcbdoldcdgaooaa
