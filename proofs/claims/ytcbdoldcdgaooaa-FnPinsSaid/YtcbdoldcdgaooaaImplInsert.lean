/- The contract of slices.Insert of one note into a row of notes of the call's own. No condition. -/
import Derived.Test.YtcbdoldcdgaooaaImplAdd
import Derived.Lib.Overlaps
import Derived.Shelf.Spec.SlicesInsert
namespace Go.Proofs.Ytcbdoldcdgaooaa
open Go.ChangeShapes Go.WideShapes Go.ChangeAt Go.RowKit

section
variable {P : Program}
theorem run_copy_rowS (w : World) (dT sT ty elem : TypeId) {i0 : TypeInfo} {s : Nat} (g o dLen dCap : Nat) (a : Addr) (sLen sCap : Nat) (cur : Array Value) (t : TypeId) (cs : List Value)
    (hu : P.underlying dT = some (.slice elem)) (hi : P.info? elem = some i0) (hs : i0.size = s)
    (hg : w.heap[g]? = some (.cells cur t (0, 0))) (hn : cs.length = Nat.min sLen dLen * s)
    (hsrc : ∀ j v, cs[j]? = some v → w.cell? (a.add j) = some v) (hfit : o + cs.length ≤ cur.size) (h1 : ∀ v ∈ cs, v.oneCell' = true) :
    (Builtin.copy_ #[dT, sT] ty #[.slice (some ⟨g, o, none⟩) dLen dCap, .slice (some a) sLen sCap]).run P w =
      .ok (goInt (Nat.min sLen dLen)) (w.setRow g (cur.toList.take o ++ cs ++ cur.toList.drop (o + cs.length)).toArray) := by
  have hl := run_loadCells_list (P := P) w a cs hsrc
  have hst := run_storeCells_at P g o t cs 0 cur w hg (by simpa using hfit) h1
  rw [hn] at hl
  simp only [Nat.add_zero] at hst
  simp [Builtin.copy_, run_underlying hu, Builtin.lenOf, Builtin.firstCells, sizeOf, typeInfo, hi, hs, hl, hst]
end

/-- One run of cells laid over a row at place a, and a second at place a + b, in either order. -/
theorem lay2 {L A X C : List Value} (hA : L.take A.length = A) :
    ((((L.take A.length ++ X ++ L.drop (A.length + X.length)).take (A.length + X.length)) ++ C ++ ((L.take A.length ++ X ++ L.drop (A.length + X.length)).drop (A.length + X.length + C.length))).take (A.length + X.length + C.length)) = A ++ X ++ C := by
  rw [hA]
  have e1 : (A ++ X ++ L.drop (A.length + X.length)).take (A.length + X.length) = A ++ X := by
    rw [List.take_left' (by simp)]
  rw [e1, List.take_left' (by simp; omega)]
theorem lay2' {L A X C : List Value} (hA : L.take A.length = A) (hL : A.length + X.length + C.length ≤ L.length) :
    ((((L.take (A.length + X.length) ++ C ++ L.drop (A.length + X.length + C.length)).take A.length) ++ X ++ ((L.take (A.length + X.length) ++ C ++ L.drop (A.length + X.length + C.length)).drop (A.length + X.length))).take (A.length + X.length + C.length)) = A ++ X ++ C := by
  have l1 : (L.take (A.length + X.length)).length = A.length + X.length := by rw [List.length_take]; omega
  have e1 : (L.take (A.length + X.length) ++ C ++ L.drop (A.length + X.length + C.length)).take A.length = A := by
    rw [List.append_assoc, List.take_append_of_le_length (by omega), List.take_take, Nat.min_eq_left (by omega), hA]
  have e2 : (L.take (A.length + X.length) ++ C ++ L.drop (A.length + X.length + C.length)).drop (A.length + X.length) = C ++ L.drop (A.length + X.length + C.length) := by
    rw [List.append_assoc, List.drop_left' l1]
  rw [e1, e2, ← List.append_assoc, List.take_left' (by simp; omega)]

theorem flat2_take (o : List (Int × Int)) (i : Nat) (h : i ≤ o.length) : flat2 (o.take i) = (flat2 o).take (i * 2) := by
  have e : flat2 o = flat2 (o.take i) ++ flat2 (o.drop i) := by rw [← flat2_append, List.take_append_drop]
  have hl : (flat2 (o.take i)).length = i * 2 := by rw [flat2_length, List.length_take, Nat.min_eq_left h]
  rw [e, List.take_left' hl]
theorem flat2_drop (o : List (Int × Int)) (i : Nat) (h : i ≤ o.length) : flat2 (o.drop i) = (flat2 o).drop (i * 2) := by
  have e : flat2 o = flat2 (o.take i) ++ flat2 (o.drop i) := by rw [← flat2_append, List.take_append_drop]
  have hl : (flat2 (o.take i)).length = i * 2 := by rw [flat2_length, List.length_take, Nat.min_eq_left h]
  rw [e, List.drop_left' hl]
def InsPost (w : World) (B : Nat) (v : Value) (l : List (Int × Int)) (e : Ending) (w' : World) : Prop :=
  ∃ v', e = .returned v' ∧ w'.ownsRow B 41 2 v' l.length (flat2 l) ∧ w.grownBy w' v.ownBlock

end Go.Proofs.Ytcbdoldcdgaooaa
