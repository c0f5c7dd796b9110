/- The contracts of the laws' helpers on rows of rows of notes: szNoteSS, toNoteSS, eqNoteSS, markNoteSS. No condition. -/
import Derived.Test.YtglehmffmailkaaNestKit
namespace Go.Proofs.Ytglehmffmailkaa
open Go.ChangeShapes Go.WideShapes Go.ChangeAt Go.RowKit

def lensN (ll : List (List (Int × Int))) : Nat := (ll.map List.length).sum
def bulkN (ll : List (List (Int × Int))) : Nat := ll.length + lensN ll
theorem lensN_succ {ll : List (List (Int × Int))} {k : Nat} {l : List (Int × Int)} (h : ll[k]? = some l) : lensN (ll.take (k + 1)) = lensN (ll.take k) + l.length := by
  unfold lensN; rw [List.take_add_one, h]; simp
theorem lensN_le (ll : List (List (Int × Int))) (k : Nat) : lensN (ll.take k) ≤ lensN ll := by
  have h : ll = ll.take k ++ ll.drop k := (List.take_append_drop k ll).symm
  have e : lensN ll = lensN (ll.take k) + lensN (ll.drop k) := by
    conv => lhs; rw [h]
    unfold lensN; rw [List.map_append, List.sum_append]
  omega
theorem lensN_at {ll : List (List (Int × Int))} {k : Nat} {l : List (Int × Int)} (h : ll[k]? = some l) : l.length ≤ lensN ll := by
  have h1 := lensN_succ h
  have h2 := lensN_le ll (k + 1)
  omega

/-- What szNoteSS leaves. -/
def leftN (L : Nat) (ll : List (List (Int × Int))) : Int := if bulkN ll ≤ L then ((L - bulkN ll : Nat) : Int) else -1
theorem leftN_no {L : Nat} {ll : List (List (Int × Int))} (h : L < bulkN ll) : leftN L ll = -1 := if_neg (by omega)
theorem leftN_yes {L : Nat} {ll : List (List (Int × Int))} (h : bulkN ll ≤ L) : leftN L ll = ((L - bulkN ll : Nat) : Int) := if_pos h

theorem infoSl : (Try.prog.info? 24).map (fun i => (i.zero, i.size, i.bytes)) = some (some (.slice none 0 0), 1, 24) := by kernel_rfl
theorem ap_of {u v : Value} {g : Nat} (hv : v.ownBlock = some g) (h : u.ownBlock ≠ some g) : u.ownBlock = none ∨ u.ownBlock ≠ v.ownBlock := Or.inr (by rw [hv]; exact h)
/-- What holds of the first j rows of a copy. -/
def CopyInv (B j : Nat) (w : World) (ys : List Value) (ll : List (List (Int × Int))) : Prop :=
  (∀ (i : Nat) (u : Value) (l : List (Int × Int)), i < j → ys[i]? = some u → ll[i]? = some l → w.ownsRow B 39 2 u l.length (flat2 l) ∧ u.ownBlock ≠ some B) ∧
    (∀ (i k : Nat) (u t : Value) (g : Nat), i < j → k < j → ys[i]? = some u → ys[k]? = some t → i ≠ k → u.ownBlock = some g → t.ownBlock ≠ some g)
theorem copy_next {B j : Nat} {w w2 w3 : World} {ys : List Value} {ll : List (List (Int × Int))} {u : Value} {l : List (Int × Int)} (h : CopyInv B j w ys ll) (hj : j < ys.length) (hl : ll[j]? = some l) (hB : B < w.heap.size)
    (hu : w2.ownsRow w.heap.size 39 2 u l.length (flat2 l)) (hb : Below w.heap.size w w2) (hg : w2.grownBy w3 (some B)) : CopyInv B (j + 1) w3 (ys.set j u) ll := by
  have hub : ∀ g, u.ownBlock = some g → w.heap.size ≤ g := fun g hgu => (World.ownsRow.lt hu g hgu).1
  have hne : u.ownBlock ≠ some B := fun e => by have := hub B e; omega
  have old : ∀ (i : Nat) (t : Value) (l' : List (Int × Int)), i < j → ys[i]? = some t → ll[i]? = some l' → ∀ g, t.ownBlock = some g → g < w.heap.size := fun i t l' hi ht hl' g hgt => (World.ownsRow.lt (h.1 i t l' hi ht hl').1 g hgt).2
  have hll : ∀ i, i < j → ∃ l', ll[i]? = some l' := fun i hi => ⟨_, List.getElem?_eq_getElem (by have := (List.getElem?_eq_some_iff.1 hl).1; omega)⟩
  refine ⟨fun i t l' hi ht hl' => ?_, fun i k t r g hi hk ht hr hik hgt => ?_⟩
  · by_cases hij : i = j
    · subst hij
      rw [List.getElem?_set_self hj] at ht
      obtain rfl := Option.some.inj ht
      rw [hl] at hl'
      obtain rfl := Option.some.inj hl'
      exact ⟨ownS_mono (World.ownsRow.kept hu hg (Or.inr hne)) (by omega), hne⟩
    · rw [List.getElem?_set_ne (by omega)] at ht
      obtain ⟨h1, h2⟩ := h.1 i t l' (by omega) ht hl'
      exact ⟨World.ownsRow.kept (ownS_below h1 hb) hg (Or.inr h2), h2⟩
  · by_cases hij : i = j
    · subst hij
      rw [List.getElem?_set_self hj] at ht
      obtain rfl := Option.some.inj ht
      rw [List.getElem?_set_ne (by omega)] at hr
      intro e
      obtain ⟨l', hl'⟩ := hll k (by omega)
      have := old k r l' (by omega) hr hl' g e
      have := hub g hgt
      omega
    · rw [List.getElem?_set_ne (by omega)] at ht
      by_cases hkj : k = j
      · subst hkj
        rw [List.getElem?_set_self hj] at hr
        obtain rfl := Option.some.inj hr
        intro e
        obtain ⟨l', hl'⟩ := hll i (by omega)
        have := old i t l' (by omega) ht hl' g hgt
        have := hub g e
        omega
      · rw [List.getElem?_set_ne (by omega)] at hr
        exact h.2 i k t r g (by omega) (by omega) ht hr hik hgt

theorem rowcell {w : World} {v : Value} {us : List Value} {ll : List (List (Int × Int))} (h1 : us.length = ll.length) (h2 : Rd 1 w v us.length us) {i : Nat} {l : List (Int × Int)} (hi : ll[i]? = some l) :
    ∃ b off cap u, us[i]? = some u ∧ v = .slice (some ⟨b, off, none⟩) ll.length cap ∧ w.cell? ⟨b, off + i, none⟩ = some u ∧ True := by
  have hlt : i < ll.length := (List.getElem?_eq_some_iff.1 hi).1
  have hlt' : i < us.length := by omega
  obtain ⟨b, off, cap, rfl, hc⟩ := Rd.pos h2 (by omega)
  have hu : us[i]? = some us[i] := List.getElem?_eq_getElem hlt'
  exact ⟨b, off, cap, us[i], hu, by rw [h1], by rw [hc i (by omega)]; exact hu, trivial⟩
/-- What is left to be marked behind j rows. -/
def MarkInv (lo j : Nat) (w : World) (v : Value) (us : List Value) (ll : List (List (Int × Int))) : Prop :=
  w.ownsRow lo 24 1 v us.length us ∧ ∀ (i : Nat) (u : Value) (l : List (Int × Int)), j ≤ i → us[i]? = some u → ll[i]? = some l → w.ownsRow lo 39 2 u l.length (flat2 l)

/-! The same, the cells unnamed. -/
def RdT (w : World) (v : Value) (ll : List (List (Int × Int))) : Prop := ∃ us, RdN w v us ll
def OwT (lo hi : Nat) (w : World) (v : Value) (ll : List (List (Int × Int))) : Prop := ∃ us, OwN lo hi w v us ll
theorem RdT.below {w w' : World} {v : Value} {ll : List (List (Int × Int))} (h : RdT w v ll) (hb : Below w.heap.size w w') : RdT w' v ll := h.imp fun _ k => k.below hb
theorem RdT.slice {w : World} {v : Value} {ll : List (List (Int × Int))} (h : RdT w v ll) : ∃ a cap, v = .slice a ll.length cap := by obtain ⟨us, k⟩ := h; exact k.slice
theorem RdT.len {w : World} {v : Value} {ll : List (List (Int × Int))} (h : RdT w v ll) : ll.length ≤ maxLen := by obtain ⟨us, k⟩ := h; exact k.len
theorem OwT.rd {lo hi : Nat} {w : World} {v : Value} {ll : List (List (Int × Int))} (h : OwT lo hi w v ll) : RdT w v ll := h.imp fun _ k => k.rd
theorem OwT.below {lo hi : Nat} {a b : World} {v : Value} {ll : List (List (Int × Int))} (h : OwT lo hi a v ll) (k : Below a.heap.size a b) : OwT lo hi b v ll := h.imp fun _ q => q.below k
theorem bulk_parts {ll : List (List (Int × Int))} (h : bulkN ll ≤ 1048576) : lensN ll ≤ 1048576 ∧ ll.length ≤ 1048576 := by unfold bulkN at h; omega
end Go.Proofs.Ytglehmffmailkaa
