/- Rows that are read and whose length is within their capacity. No condition. -/
import Derived.Test.YtcbdoldcdgaooaaInts
namespace Go.Proofs.Ytcbdoldcdgaooaa
open Go.ChangeShapes Go.WideShapes Go.ChangeAt Go.RowKit

def CapOk (v : Value) : Prop := ∃ a n cap, v = .slice a n cap ∧ n ≤ cap
theorem capOk_of_own {w : World} {B e s n : Nat} {v : Value} {xs : List Value} (h : w.ownsRow B e s v n xs) : CapOk v := by
  rcases h.2 with ⟨rfl, rfl⟩ | ⟨g, cap, cur, rfl, hb, hg, h1, h2, h3, h4⟩
  · exact ⟨none, 0, 0, rfl, Nat.le_refl _⟩
  · exact ⟨_, _, _, rfl, h1⟩
theorem CapOk.le {a : Option Addr} {n cap : Nat} (h : CapOk (.slice a n cap)) : n ≤ cap := by
  obtain ⟨a', n', cap', e, hle⟩ := h
  simp only [Value.slice.injEq] at e
  obtain ⟨_, rfl, rfl⟩ := e
  exact hle
def Rc1 (w : World) (v : Value) (l : List Int) : Prop := Rd1 w v l ∧ CapOk v
def Rc2 (w : World) (v : Value) (l : List (Int × Int)) : Prop := Rd2 w v l ∧ CapOk v
theorem Rc1.of_own {w : World} {B e : Nat} {v : Value} {l : List Int} (h : w.ownsRow B e 1 v l.length (l.map intV)) : Rc1 w v l := ⟨Rd.of_own h, capOk_of_own h⟩
theorem Rc2.of_own {w : World} {B e : Nat} {v : Value} {l : List (Int × Int)} (h : w.ownsRow B e 2 v l.length (flat2 l)) : Rc2 w v l := ⟨Rd.of_own h, capOk_of_own h⟩
theorem Rc1.below {w w' : World} {v : Value} {l : List Int} (h : Rc1 w v l) (hb : Below w.heap.size w w') : Rc1 w' v l := ⟨Rd.below h.1 hb, h.2⟩
theorem Rc2.below {w w' : World} {v : Value} {l : List (Int × Int)} (h : Rc2 w v l) (hb : Below w.heap.size w w') : Rc2 w' v l := ⟨Rd.below h.1 hb, h.2⟩
/-- The first k elements of a row. -/
theorem rd2_pre {w : World} {b off cap c2 : Nat} {l : List (Int × Int)} (h : Rd2 w (.slice (some ⟨b, off, none⟩) l.length cap) l) {k : Nat} (hk : k ≤ l.length) : Rd2 w (.slice (some ⟨b, off, none⟩) k c2) (l.take k) := by
  have hl : (l.take k).length = k := by rw [List.length_take]; omega
  have hm := h.2.1
  refine ⟨flat2_length _, by omega, ?_⟩
  by_cases h0 : k = 0
  · left
    exact ⟨by omega, some ⟨b, off, none⟩, c2, by rw [h0]⟩
  · right
    refine ⟨b, off, c2, by rw [hl], by omega, fun c hc => ?_⟩
    obtain ⟨b1, o1, cp, hv, hcs⟩ := Rd.pos h (by omega)
    simp only [Value.slice.injEq, Option.some.injEq, Addr.mk.injEq, true_and, and_true] at hv
    obtain ⟨⟨rfl, rfl⟩, rfl⟩ := hv
    rw [hl] at hc
    rw [hcs c (by have : k * 2 ≤ l.length * 2 := Nat.mul_le_mul_right _ hk; omega)]
    conv => lhs; rw [← List.take_append_drop k l]
    rw [flat2_append, List.getElem?_append_left (by rw [flat2_length, hl]; exact hc)]
end Go.Proofs.Ytcbdoldcdgaooaa
