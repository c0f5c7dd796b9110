/- Re-slices of a row of notes: t[i : i+n]. No condition. Made by gen_motif.py. -/
import Derived.Test.YtglehmffmailkaaMotifMath
import Derived.Test.YtglehmffmailkaaRdCap
import Derived.Test.YtglehmffmailkaaCmp
namespace Go.Proofs.Ytglehmffmailkaa
open Go.ChangeShapes Go.WideShapes Go.ChangeAt Go.RowKit

theorem flat_split (l : List (Int × Int)) (i : Nat) : flat2 l = flat2 (l.take i) ++ flat2 (l.drop i) := by rw [← flat2_append, List.take_append_drop]
theorem flat_sub {l : List (Int × Int)} {i n c : Nat} (h : i + n ≤ l.length) (hc : c < n * 2) : (flat2 (sub18 l i n))[c]? = (flat2 l)[i * 2 + c]? := by
  have e1 : (flat2 (l.take i)).length = i * 2 := by rw [flat2_length, List.length_take]; omega
  have e2 : (flat2 (sub18 l i n)).length = n * 2 := by rw [flat2_length, sub_len h]
  rw [flat_split l i, List.getElem?_append_right (by omega), e1, Nat.add_sub_cancel_left, flat_split (l.drop i) n]
  unfold sub18 at e2 ⊢
  rw [List.getElem?_append_left (by omega)]
theorem rd2_sub {w : World} {b off cap c2 : Nat} {l : List (Int × Int)} (h : Rd2 w (.slice (some ⟨b, off, none⟩) l.length cap) l) {i n : Nat} (hin : i + n ≤ l.length) : Rd2 w (.slice (some ⟨b, off + i * 2, none⟩) n c2) (sub18 l i n) := by
  have hl := sub_len hin
  have hm := h.2.1
  refine ⟨flat2_length _, by omega, ?_⟩
  by_cases h0 : n = 0
  · left
    exact ⟨by omega, some ⟨b, off + i * 2, none⟩, c2, by rw [h0]⟩
  · right
    refine ⟨b, off + i * 2, c2, by rw [hl], by omega, fun c hc => ?_⟩
    obtain ⟨b1, o1, cp, hv, hcs⟩ := Rd.pos h (by omega)
    simp only [Value.slice.injEq, Option.some.injEq, Addr.mk.injEq, true_and, and_true] at hv
    obtain ⟨⟨rfl, rfl⟩, rfl⟩ := hv
    rw [hl] at hc
    rw [flat_sub hin hc, Nat.add_assoc]
    exact hcs _ (by omega)
end Go.Proofs.Ytglehmffmailkaa
