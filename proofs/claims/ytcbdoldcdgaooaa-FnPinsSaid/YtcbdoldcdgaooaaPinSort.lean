/- The contract of slices.SortFunc at rows of pins. No condition. Made by mk_implpin.py. -/
import Derived.Test.YtcbdoldcdgaooaaPinClone
import Derived.Test.YtcbdoldcdgaooaaRowLaws
import Derived.Test.YtcbdoldcdgaooaaPinShelf
namespace Go.Proofs.Ytcbdoldcdgaooaa
open Go.ChangeShapes Go.WideShapes Go.ChangeAt Go.RowKit

theorem lt_eqP : ltOf cmpP = pless := by
  funext x y
  unfold ltOf
  by_cases h : pless x y = true
  · rw [h]; exact decide_eq_true (cmpP_lt.2 h)
  · have h' : pless x y = false := by simpa using h
    rw [h']; exact decide_eq_false (fun k => h (cmpP_lt.1 k))

theorem swoP : Sort.SWO (ltOf cmpP) where
  irrefl x := by rw [lt_eqP]; exact pless_irrefl x
  trans x y z h k := by rw [lt_eqP] at *; exact pless_trans h k
  ntrans x y z h k := by rw [lt_eqP] at *; rw [← Bool.not_eq_true, pless_iff] at *; omega

theorem totP : ∀ x y, ltOf cmpP x y = false → ltOf cmpP y x = false → x = y := by
  rw [lt_eqP]; intro x y h k; exact pless_total h k

/-- The sort of a row of the call's own. -/
theorem sortfP_any {w : World} {B : Nat} {v : Value} {o : List (Int × Int)} (hown : w.ownsRow B 32 2 v o.length (flat2 o)) (h40 : o.length ≤ 1048576) :
    Calls Try.prog 62 #[v, .func (.func 63) #[] #[]] w fun e w' => e = .returned (.tuple #[]) ∧ w.grownBy w' v.ownBlock ∧ w'.ownsRow B 32 2 v o.length (flat2 (mergeP o)) := by
  by_cases h0 : o.length = 0
  · obtain rfl : o = [] := List.length_eq_zero_iff.1 h0
    obtain ⟨a, cap, rfl⟩ := ownS_slice hown
    have hm : mergeP [] = [] := List.mergeSort_nil
    rw [hm]
    exact (AnyF.slices_SortFunc_none { Try.laysSortP with } a cap _ w).mono fun e w' ⟨he, hw⟩ => ⟨he, by rw [hw]; exact World.grownBy.refl _ _, by rw [hw]; exact hown⟩
  · obtain ⟨g, cap, rfl, hB, h1, h2⟩ := ownS_pos hown (by omega)
    have hlt : g < w.heap.size := (hown.lt g rfl).2
    have hm := own_len hown
    unfold maxLen at hm h2
    have eg : ∀ args w, (callFunc 63 args).run Try.prog w = .ok (.enter 63 args) w := enters_of Try.func63 (by kernel_rfl) rfl
    have hcmp : CmpLays Try.prog 63 #[] encP 2 cmpP g 0 o.toArray.size w := fun _ _ _ _ x y => compP_any x y _
    have hcon := AnyQ.slices_SortFunc_total Try.laysSortP 2 Try.isAgg32 Try.sizeOf32 encP encP_len encP_one cmpP swoP 63 #[] g 0 cap o.toArray w eg hcmp (holdsK_own hown) hlt (by simp; omega) totP
    refine hcon.mono fun e w' ⟨he, n, os, hw⟩ => ⟨he, ?_⟩
    have hl : ((o.mergeSort fun x y => !ltOf cmpP y x)) = mergeP o := by unfold mergeP; rw [lt_eqP]
    rw [hw]
    simp only [hl]
    obtain ⟨k1, k2⟩ := own_sortedK (k := n) (os := os) (mergeP_len o) hown
    exact ⟨k2, k1⟩
end Go.Proofs.Ytcbdoldcdgaooaa
