/- What is held of the world while speeds are sent: the boxed numbers and the variable that holds the channel; what stays so. N: the heap's size at the call. No condition. Made by gen_govrec.py. -/
import Derived.Test.YtodpkfohihfndaaRunDefer
import Derived.Test.YtodpkfohihfndaaRunOn
import Derived.Conc.LoneCalls
import Derived.Below
namespace Go.Proofs.Ytodpkfohihfndaa
open Go Go.Conc Go.RowKit

/-- The parts of a piece of code. -/
def sq1 : Go.Code → Go.Code
  | .seq x _ => x
  | c => c
def sq2 : Go.Code → Go.Code
  | .seq _ y => y
  | c => c
def inn : Go.Code → Go.Code
  | .block _ c => c
  | .loop c => c
  | c => c
def opz : Go.Code → Array Oper
  | .region _ o _ => o
  | _ => #[]
/-- Block N: speed; N + 1: force; N + 2: brake; N + 3: steps; N + 4: the channel; N + 5: the variable that holds it. -/
abbrev spA (N : Nat) : Addr := ⟨N, 0, none⟩
abbrev foA (N : Nat) : Addr := ⟨N + 1, 0, none⟩
abbrev brA (N : Nat) : Addr := ⟨N + 2, 0, none⟩
abbrev stA (N : Nat) : Addr := ⟨N + 3, 0, none⟩
abbrev chA (N : Nat) : Addr := ⟨N + 5, 0, none⟩
/-- What whoever waits for speeds leans on. -/
structure KS (W : World) (N : Nat) (w : World) : Prop where
  low : Below N W w
  c : w.cell? (chA N) = some (.chan (some (N + 4)))
  cz : w.frozen? (chA N) = false
def StillS (N : Nat) : Loc → Prop := fun l => l = .cell (chA N)
/-- What whoever sends them knows. -/
structure WS (W : World) (N : Nat) (f b n x : Int) (w : World) : Prop where
  k : KS W N w
  x : w.cell? (spA N) = some (.int .i64 x)
  xz : w.frozen? (spA N) = false
  f : w.cell? (foA N) = some (.int .i64 f)
  fz : w.frozen? (foA N) = false
  b : w.cell? (brA N) = some (.int .i64 b)
  bz : w.frozen? (brA N) = false
  n : w.cell? (stA N) = some (.int .i64 n)
  nz : w.frozen? (stA N) = false
  ch : ∃ k, w.heap[N + 4]? = some (.chan 0 #[] false k k false)
theorem below_at {B : Nat} {a w : World} (h : Below B a w) (d : Nat) : Below B a (w.at d) := ⟨h.os, h.tape, h.output, h.size, h.block⟩
theorem KS.at {W : World} {N : Nat} {w : World} (h : KS W N w) (d : Nat) : KS W N (w.at d) := ⟨below_at h.low d, h.c, h.cz⟩
theorem WS.at {W : World} {N : Nat} {f b n x : Int} {w : World} (h : WS W N f b n x w) (d : Nat) : WS W N f b n x (w.at d) := ⟨h.k.at d, h.x, h.xz, h.f, h.fz, h.b, h.bz, h.n, h.nz, h.ch⟩
theorem cell_setChan {w : World} {c : Nat} {a : Addr} (h : a.block ≠ c) (cap : Nat) (buf : Array Value) (cl : Bool) (s r : Nat) (tm : Bool) : (w.setChan c cap buf cl s r tm).cell? a = w.cell? a := by
  simp [World.cell?, World.setChan, Array.getElem?_setIfInBounds_ne (Ne.symm h)]
theorem frozen_setChan {w : World} {c : Nat} {a : Addr} (h : a.block ≠ c) (cap : Nat) (buf : Array Value) (cl : Bool) (s r : Nat) (tm : Bool) : (w.setChan c cap buf cl s r tm).frozen? a = w.frozen? a := by
  simp [World.frozen?, World.setChan, Array.getElem?_setIfInBounds_ne (Ne.symm h)]
theorem cell_other {w : World} {p a : Addr} {u : Value} (h : p ≠ a) : (w.setCell p u).cell? a = w.cell? a := World.cell?_setCell_other _ _ _ _ h
theorem cell_same {w : World} {p : Addr} {u v : Value} (h : w.cell? p = some u) : (w.setCell p v).cell? p = some v := World.cell?_setCell_same _ _ _ h
theorem frozen_setCell {w : World} {p a : Addr} (h : a.block ≠ p.block) (u : Value) : (w.setCell p u).frozen? a = w.frozen? a := by
  unfold World.frozen?
  rw [Below.heap_setCell w p u a.block h]
theorem KS.setChan {W : World} {N : Nat} {w : World} (h : KS W N w) (cap : Nat) (buf : Array Value) (cl : Bool) (s r : Nat) (tm : Bool) : KS W N (w.setChan (N + 4) cap buf cl s r tm) :=
  ⟨below_setChan h.low (by omega) _ _ _ _ _ _, by rw [cell_setChan (by simp)]; exact h.c, by rw [frozen_setChan (by simp)]; exact h.cz⟩
theorem WS.setChan {W : World} {N : Nat} {f b n x : Int} {w : World} (h : WS W N f b n x w) (k : Nat) : WS W N f b n x (w.setChan (N + 4) 0 #[] false k k false) := by
  obtain ⟨k0, hk⟩ := h.ch
  exact ⟨h.k.setChan _ _ _ _ _ _, by rw [cell_setChan (by simp)]; exact h.x, by rw [frozen_setChan (by simp)]; exact h.xz, by rw [cell_setChan (by simp)]; exact h.f, by rw [frozen_setChan (by simp)]; exact h.fz, by rw [cell_setChan (by simp)]; exact h.b, by rw [frozen_setChan (by simp)]; exact h.bz,
    by rw [cell_setChan (by simp)]; exact h.n, by rw [frozen_setChan (by simp)]; exact h.nz, ⟨k, heap_setChan_self w hk _ _ _ _ _ _⟩⟩
theorem KS.setCell {W : World} {N : Nat} {w : World} (h : KS W N w) (u : Value) : KS W N (w.setCell (spA N) u) :=
  ⟨h.low.setCell (Nat.le_refl _) u, by rw [cell_other (by simp)]; exact h.c, by rw [World.frozen?_setCell]; exact h.cz⟩
theorem frozen_self {w : World} {a : Addr} {u v : Value} (h : w.cell? a = some u) (hz : w.frozen? a = false) : (w.setCell a v).frozen? a = false := by
  rw [World.frozen?_setCell]; exact hz
theorem WS.setCell {W : World} {N : Nat} {f b n x : Int} {w : World} (h : WS W N f b n x w) (y : Int) : WS W N f b n y (w.setCell (spA N) (.int .i64 y)) := by
  obtain ⟨k0, hk⟩ := h.ch
  exact ⟨h.k.setCell _, cell_same h.x, frozen_self h.x h.xz, by rw [cell_other (by simp)]; exact h.f, by rw [World.frozen?_setCell]; exact h.fz, by rw [cell_other (by simp)]; exact h.b, by rw [World.frozen?_setCell]; exact h.bz,
    by rw [cell_other (by simp)]; exact h.n, by rw [World.frozen?_setCell]; exact h.nz, ⟨k0, by rw [Below.heap_setCell _ _ _ _ (by simp)]; exact hk⟩⟩
end Go.Proofs.Ytodpkfohihfndaa
