/- The contract of the model's PullPin. No condition but the row's length. -/
import Derived.Test.YtcbdoldcdgaooaaBoxKit
namespace Go.Proofs.Ytcbdoldcdgaooaa
open Go.ChangeShapes Go.WideShapes Go.ChangeAt Go.RowKit

noncomputable def pullP (s t : Int) (l : List (Int × Int)) (k : Int) : List (Int × Int) × Bool := if cylB s t l = true ∧ (0 ≤ k ∧ k ≤ (l.length : Int) - 1) then (cutP l k.toNat, true) else (l, false)
theorem pullP_le (s t : Int) (l : List (Int × Int)) (k : Int) (h : l.length ≤ 1048576) : (pullP s t l k).1.length ≤ 1048576 := by
  unfold pullP; split
  · exact Nat.le_trans (cutP_le _ _) h
  · exact h
theorem rd_pre {w : World} {g cap : Nat} {o : List (Int × Int)} (h : Rd2 w (.slice (some ⟨g, 0, none⟩) o.length cap) o) {a : Nat} (ha : a ≤ o.length) : Rd2 w (.slice (some ⟨g, 0, none⟩) a cap) (o.take a) := by
  have hl : (o.take a).length = a := by rw [List.length_take]; omega
  refine ⟨flat2_length _, by rw [hl]; exact Nat.le_trans ha h.2.1, ?_⟩
  by_cases h0 : a = 0
  · left; subst h0; exact ⟨by simp, some ⟨g, 0, none⟩, cap, by simp⟩
  · right
    refine ⟨g, 0, cap, by rw [hl], by omega, fun c hc => ?_⟩
    obtain ⟨u, hu⟩ : ∃ u, (flat2 (o.take a))[c]? = some u := ⟨_, List.getElem?_eq_getElem (by rw [flat2_length]; exact hc)⟩
    have := rd_take h a c u hu
    rw [hu, ← this, add_plain]
theorem rd_suf {w : World} {g cap : Nat} {o : List (Int × Int)} (h : Rd2 w (.slice (some ⟨g, 0, none⟩) o.length cap) o) {a c2 : Nat} (ha : a ≤ o.length) : Rd2 w (.slice (some ⟨g, a * 2, none⟩) (o.length - a) c2) (o.drop a) := by
  have hl : (o.drop a).length = o.length - a := by rw [List.length_drop]
  refine ⟨flat2_length _, by rw [hl]; have := h.2.1; omega, ?_⟩
  by_cases h0 : o.length - a = 0
  · left; exact ⟨by rw [hl, h0], some ⟨g, a * 2, none⟩, c2, by rw [h0]⟩
  · right
    refine ⟨g, a * 2, c2, by rw [hl], by omega, fun c hc => ?_⟩
    obtain ⟨u, hu⟩ : ∃ u, (flat2 (o.drop a))[c]? = some u := ⟨_, List.getElem?_eq_getElem (by rw [flat2_length]; exact hc)⟩
    have := rd_drop h a c u hu
    rw [hu, ← this, add_plain]
theorem rd_zero {w : World} (a : Option Addr) (cap : Nat) : Rd2 w (.slice a 0 cap) [] := ⟨rfl, Nat.zero_le _, Or.inl ⟨rfl, _, _, rfl⟩⟩
end Go.Proofs.Ytcbdoldcdgaooaa
