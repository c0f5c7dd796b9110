/- Rows of cells that are read, whatever their elements' size: slices of ints and of plain structs. No condition. -/
import Derived.Test.YtcbdoldcdgaooaaKit
import Derived.Deep.RegionHeld3
import Derived.Deep.AppendLies
namespace Go.Proofs.Ytcbdoldcdgaooaa
open Go.ChangeShapes Go.WideShapes Go.ChangeAt Go.RowKit

/-- v is a slice of n elements of s cells each, and cs are their cells. -/
def Rd (s : Nat) (w : World) (v : Value) (n : Nat) (cs : List Value) : Prop :=
  cs.length = n * s ∧ n ≤ maxLen ∧ ((n = 0 ∧ ∃ a cap, v = .slice a 0 cap) ∨ ∃ b off cap, v = .slice (some ⟨b, off, none⟩) n cap ∧ 0 < n ∧ ∀ c, c < n * s → w.cell? ⟨b, off + c, none⟩ = cs[c]?)

theorem Rd.slice {s : Nat} {w : World} {v : Value} {n : Nat} {cs : List Value} (h : Rd s w v n cs) : ∃ a cap, v = .slice a n cap := by
  rcases h.2.2 with ⟨rfl, a, cap, rfl⟩ | ⟨b, off, cap, rfl, _⟩
  · exact ⟨_, _, rfl⟩
  · exact ⟨_, _, rfl⟩
theorem Rd.pos {s : Nat} {w : World} {v : Value} {n : Nat} {cs : List Value} (h : Rd s w v n cs) (hn : 0 < n) : ∃ b off cap, v = .slice (some ⟨b, off, none⟩) n cap ∧ ∀ c, c < n * s → w.cell? ⟨b, off + c, none⟩ = cs[c]? := by
  rcases h.2.2 with ⟨rfl, a, cap, rfl⟩ | ⟨b, off, cap, rfl, _, hc⟩
  · omega
  · exact ⟨b, off, cap, rfl, hc⟩
theorem Rd.below {s : Nat} {w w' : World} {v : Value} {n : Nat} {cs : List Value} (h : Rd s w v n cs) (hb : Below w.heap.size w w') : Rd s w' v n cs := by
  refine ⟨h.1, h.2.1, ?_⟩
  rcases h.2.2 with h0 | ⟨b, off, cap, rfl, hn, hc⟩
  · exact Or.inl h0
  · refine Or.inr ⟨b, off, cap, rfl, hn, fun c hcn => ?_⟩
    have h1 := hc c hcn
    have hlt : c < cs.length := by rw [h.1]; exact hcn
    rw [List.getElem?_eq_getElem hlt] at h1
    rw [hb.cell (World.block_lt_of_cell? w _ h1), hc c hcn]
theorem own_len {w : World} {B e s : Nat} {v : Value} {n : Nat} {xs : List Value} (h : w.ownsRow B e s v n xs) : n ≤ maxLen := by
  rcases h.2 with ⟨rfl, rfl⟩ | ⟨g, cap, cur, rfl, hb, hg, h1, h2, h3, h4⟩
  · exact Nat.zero_le _
  · omega
theorem Rd.of_own {w : World} {B e s : Nat} {v : Value} {n : Nat} {xs : List Value} (h : w.ownsRow B e s v n xs) : Rd s w v n xs := by
  refine ⟨h.1, own_len h, ?_⟩
  rcases h.2 with ⟨rfl, rfl⟩ | ⟨g, cap, cur, rfl, hb, hg, h1, h2, h3, h4⟩
  · exact Or.inl ⟨rfl, none, 0, rfl⟩
  · by_cases hn : n = 0
    · subst hn; exact Or.inl ⟨rfl, _, _, rfl⟩
    · refine Or.inr ⟨g, 0, cap, rfl, by omega, fun c hc => ?_⟩
      rw [Nat.zero_add]
      exact h.cellAt c hc
theorem ownS_below {a b : World} {B e s : Nat} {v : Value} {n : Nat} {xs : List Value} (h : a.ownsRow B e s v n xs) (hb : Below a.heap.size a b) : b.ownsRow B e s v n xs :=
  h.kept (only_of_below hb none) (by cases h : v.ownBlock <;> simp)
theorem ownS_slice {w : World} {B e s : Nat} {v : Value} {n : Nat} {xs : List Value} (h : w.ownsRow B e s v n xs) : ∃ a cap, v = .slice a n cap := by
  rcases h.2 with ⟨rfl, rfl⟩ | ⟨g, cap, cur, rfl, _⟩
  · exact ⟨_, _, rfl⟩
  · exact ⟨_, _, rfl⟩
theorem ownS_pos {w : World} {B e s : Nat} {v : Value} {n : Nat} {xs : List Value} (h : w.ownsRow B e s v n xs) (hn : 0 < n) : ∃ g cap, v = .slice (some ⟨g, 0, none⟩) n cap ∧ B ≤ g ∧ n ≤ cap ∧ cap ≤ maxLen := by
  rcases h.2 with ⟨rfl, rfl⟩ | ⟨g, cap, cur, rfl, hb, hg, h1, h2, h3, h4⟩
  · omega
  · exact ⟨g, cap, rfl, hb, h1, h2⟩
theorem apartS {a b : World} {B e e' s s' : Nat} {v v' : Value} {n n' : Nat} {xs xs' : List Value} (h : a.ownsRow B e s v n xs) (h' : b.ownsRow a.heap.size e' s' v' n' xs') : v.ownBlock = none ∨ v.ownBlock ≠ v'.ownBlock := by
  cases h1 : v.ownBlock with
  | none => exact Or.inl rfl
  | some k =>
    refine Or.inr (fun e => ?_)
    have a1 := (h.lt k h1).2
    have a2 := (h'.lt k (by rw [← e])).1
    omega
/-- What is read stays while rows from block B on are written. -/
theorem Rd.grown {s : Nat} {w w1 w' : World} {v : Value} {n : Nat} {cs : List Value} {row : Option Nat} (h : Rd s w v n cs) (hb : Below w.heap.size w w1) (hg : w1.grownBy w' row) (hrow : ∀ k, row = some k → w.heap.size ≤ k) : Rd s w' v n cs :=
  h.below (hb.grown hg hb.size hrow)
theorem bstep {w a b : World} (h : Below w.heap.size w a) (k : Below a.heap.size a b) : Below w.heap.size w b := h.trans (k.mono h.size)

def intV (x : Int) : Value := .int .i64 x
/-- The cells of a row of pairs. -/
def flat2 (l : List (Int × Int)) : List Value := l.flatMap fun p => [intV p.1, intV p.2]
theorem flat2_length (l : List (Int × Int)) : (flat2 l).length = l.length * 2 := by
  induction l with
  | nil => rfl
  | cons p l ih => simp only [flat2, List.flatMap_cons, List.length_append] at ih ⊢; rw [ih]; simp; omega
theorem flat2_append (a b : List (Int × Int)) : flat2 (a ++ b) = flat2 a ++ flat2 b := by simp [flat2]
theorem flat2_at : ∀ (l : List (Int × Int)) (k : Nat) (p : Int × Int), l[k]? = some p → (flat2 l)[k * 2]? = some (intV p.1) ∧ (flat2 l)[k * 2 + 1]? = some (intV p.2)
  | [], k, p, h => by simp at h
  | q :: r, 0, p, h => by
    have e : q = p := by simpa using h
    subst e
    have e2 : flat2 (q :: r) = intV q.1 :: intV q.2 :: flat2 r := by simp [flat2]
    rw [e2]; exact ⟨rfl, rfl⟩
  | q :: r, k + 1, p, h => by
    have ih := flat2_at r k p (by simpa using h)
    have e : flat2 (q :: r) = intV q.1 :: intV q.2 :: flat2 r := by simp [flat2]
    rw [e, show (k + 1) * 2 = k * 2 + 1 + 1 by omega]
    simpa using ih
/-- A row of pairs, read. -/
def Rd2 (w : World) (v : Value) (l : List (Int × Int)) : Prop := Rd 2 w v l.length (flat2 l)
theorem Rd2.cells {w : World} {v : Value} {l : List (Int × Int)} (h : Rd2 w v l) {k : Nat} {p : Int × Int} (hk : l[k]? = some p) :
    ∃ b off cap, v = .slice (some ⟨b, off, none⟩) l.length cap ∧ w.cell? ⟨b, off + k * 2, none⟩ = some (.int .i64 p.1) ∧ w.cell? ⟨b, off + k * 2 + 1, none⟩ = some (.int .i64 p.2) := by
  have hlt : k < l.length := (List.getElem?_eq_some_iff.1 hk).1
  obtain ⟨b, off, cap, rfl, hc⟩ := Rd.pos h (by omega)
  obtain ⟨h1, h2⟩ := flat2_at l k p hk
  refine ⟨b, off, cap, rfl, ?_, ?_⟩
  · rw [hc _ (by omega), h1]; rfl
  · rw [Nat.add_assoc, hc _ (by omega), h2]; rfl
end Go.Proofs.Ytcbdoldcdgaooaa
