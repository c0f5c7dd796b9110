/- The contracts of the laws' own helpers on rows of notes: szNoteS, toNote, toNoteS, eqNote, eqNoteS, markNoteS, heldNoteS. No condition. -/
import Derived.Test.YtceebblokibapaaCells
namespace Go.Proofs.Ytceebblokibapaa
open Go.ChangeShapes Go.WideShapes Go.ChangeAt Go.RowKit

theorem below_undrew {w w' : World} (h : Below w.drew.heap.size w.drew w') : Below w.heap.size w w' := ⟨h.os, h.tape, h.output, h.size, h.block⟩
theorem kept_cell {w w' : World} {a : Addr} {v : Value} (hb : Below w.drew.heap.size w.drew w') (h : w.cell? a = some v) : w'.cell? a = some v :=
  ((below_undrew hb).cell (World.block_lt_of_cell? w _ h)).trans h

theorem set2_next {ys : List Value} {l : List (Int × Int)} {j : Nat} {p : Int × Int} (h : ∀ c, c < j * 2 → ys[c]? = (flat2 l)[c]?) (hp : l[j]? = some p) (hj : j * 2 + 1 < ys.length) :
    ∀ c, c < (j + 1) * 2 → ((ys.set (j * 2) (.int .i64 p.1)).set (j * 2 + 1) (.int .i64 p.2))[c]? = (flat2 l)[c]? := by
  intro c hc
  obtain ⟨f1, f2⟩ := flat2_at l j p hp
  by_cases h2 : c = j * 2 + 1
  · subst h2; rw [List.getElem?_set_self (by simpa using hj), f2]; rfl
  · rw [List.getElem?_set_ne (by omega)]
    by_cases h1 : c = j * 2
    · subst h1; rw [List.getElem?_set_self (by omega), f1]; rfl
    · rw [List.getElem?_set_ne (by omega)]; exact h c (by omega)

/-- The first m cells are the marks from k0 on. -/
def Mk (k0 m : Nat) (ys : List Value) : Prop := ∀ c, c < m → ys[c]? = some (.int .i64 ((k0 + c : Nat) : Int))
theorem Mk.set {k0 m : Nat} {ys : List Value} (h : Mk k0 m ys) (hm : m < ys.length) : Mk k0 (m + 1) (ys.set m (.int .i64 ((k0 + m : Nat) : Int))) := by
  intro c hc
  by_cases h2 : c = m
  · subst h2; rw [List.getElem?_set_self hm]
  · rw [List.getElem?_set_ne (by omega)]; exact h c (by omega)

end Go.Proofs.Ytceebblokibapaa
