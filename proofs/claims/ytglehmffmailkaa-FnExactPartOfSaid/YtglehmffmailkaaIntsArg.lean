/- Slices of ints as arguments: opened to their cells, and copied by the laws' helper. No condition. -/
import Derived.Test.YtglehmffmailkaaInts
import Derived.Test.YtglehmffmailkaaTuneOpen
namespace Go.Proofs.Ytglehmffmailkaa
open Go.ChangeShapes Go.WideShapes Go.ChangeAt Go.RowKit

theorem row_of_trod {H : Type} {enc : TypeId × Value → H} {P : Program} {W : World} {t e : TypeId} {v : Value} {d : DataW H} {ps : List MemPlace} {r : Reach} {b0 : Nat}
    (ht : P.underlying t = some (.slice e)) (he : P.underlying e = some (.int .i64)) (hc : P.cellsOf e = 1)
    (hval : Value.okWide P W r b0 t v) (hd : DataW.Trod enc P W 0 (fun _ => true) true t v d ps) : ∃ l : List Int, Rd1 W v l ∧ ∀ x ∈ l, (Lit.int .i64 x).wf = true := by
  obtain ⟨a0, len, cap, rfl⟩ := okWide_slice ht hval
  obtain ⟨fuel, hf⟩ := hd
  rcases open_ints ht he hc hf with ⟨hcs, hx⟩ | ⟨a, len', cap', zs, hcs, _, hl, hm, hz, hx, hcell, hwz⟩
  · simp [Value.cells] at hcs
    obtain ⟨rfl, rfl, rfl⟩ := hcs
    exact ⟨[], ⟨rfl, Nat.zero_le _, Or.inl ⟨rfl, _, _, rfl⟩⟩, fun x hx => by simp at hx⟩
  · simp [Value.cells] at hcs
    obtain ⟨rfl, rfl, rfl⟩ := hcs
    simp only [if_true] at hz
    have htl : (zs.take len).length = len := by rw [List.length_take]; omega
    refine ⟨zs.take len, ⟨by simp, by rw [htl]; omega, ?_⟩, fun x hx => hwz x (List.mem_of_mem_take hx)⟩
    by_cases h0 : len = 0
    · subst h0; exact Or.inl ⟨by simp, _, _, rfl⟩
    · right
      have hs : a.spot = none := spot_none (hcell 0 (by omega))
      obtain ⟨b, off, spot⟩ := a
      simp only at hs
      subst hs
      refine ⟨b, off, cap, by rw [htl], by omega, fun c hc => ?_⟩
      rw [htl] at hc
      have h := hcell c (by omega)
      rw [add_plain] at h
      rw [h, List.getElem?_map, List.getElem?_take_of_lt (by omega), List.getElem?_eq_getElem (by omega)]
      simp [List.getD, List.getElem?_eq_getElem (show c < zs.length by omega), intV]
set_option maxRecDepth 100000 in
theorem ints_of_trod {H : Type} {enc : TypeId × Value → H} {W : World} {v : Value} {d : DataW H} {ps : List MemPlace} {r : Reach} {b0 : Nat}
    (hval : Value.okWide Try.prog W r b0 31 v) (hd : DataW.Trod enc Try.prog W 0 (fun _ => true) true 31 v d ps) : ∃ l : List Int, Rd1 W v l ∧ ∀ x ∈ l, (Lit.int .i64 x).wf = true :=
  row_of_trod Try.underlying31 Try.underlying3 (by kernel_rfl) hval hd

theorem set1_next {ys : List Value} {l : List Int} {j : Nat} {p : Int} (h : ∀ c, c < j → ys[c]? = (l.map intV)[c]?) (hp : l[j]? = some p) (hj : j < ys.length) :
    ∀ c, c < j + 1 → (ys.set j (.int .i64 p))[c]? = (l.map intV)[c]? := by
  intro c hc
  by_cases h1 : c = j
  · subst h1; rw [List.getElem?_set_self (by omega), List.getElem?_map, hp]; rfl
  · rw [List.getElem?_set_ne (by omega)]; exact h c (by omega)

end Go.Proofs.Ytglehmffmailkaa
