/- A table of rows of ints that a program keeps: read, owned, one row more. No condition. -/
import Derived.Test.YtcbdoldcdgaooaaNeedsMath
import Derived.Test.YtcbdoldcdgaooaaSortSpec
import Derived.Maps.AppendAt
namespace Go.Proofs.Ytcbdoldcdgaooaa
open Go.ChangeShapes Go.WideShapes Go.ChangeAt Go.RowKit

theorem infoNS : (Try.prog.info? 33).map (fun i => (i.zero, i.size, i.bytes)) = some (some (.slice none 0 0), 1, 24) := by kernel_rfl
/-- v is a slice of rows of ints: its cells are us, the i-th one reads as the i-th of ns. -/
def RdV (w : World) (v : Value) (us : List Value) (ns : List (List Int)) : Prop :=
  us.length = ns.length ∧ Rd 1 w v us.length us ∧ ∀ (i : Nat) (u : Value) (l : List Int), us[i]? = some u → ns[i]? = some l → Rd1 w u l
theorem RdV.below {w w' : World} {v : Value} {us : List Value} {ns : List (List Int)} (h : RdV w v us ns) (hb : Below w.heap.size w w') : RdV w' v us ns :=
  ⟨h.1, Rd.below h.2.1 hb, fun i u l hu hl => Rd.below (h.2.2 i u l hu hl) hb⟩
theorem RdV.slice {w : World} {v : Value} {us : List Value} {ns : List (List Int)} (h : RdV w v us ns) : ∃ a cap, v = .slice a ns.length cap := by
  rw [← h.1]; exact Rd.slice h.2.1
theorem RdV.len {w : World} {v : Value} {us : List Value} {ns : List (List Int)} (h : RdV w v us ns) : ns.length ≤ maxLen := by rw [← h.1]; exact h.2.1.2.1
theorem RdV.cell {w : World} {v : Value} {us : List Value} {ns : List (List Int)} (h : RdV w v us ns) {i : Nat} {l : List Int} (hi : ns[i]? = some l) :
    ∃ b off cap u, us[i]? = some u ∧ v = .slice (some ⟨b, off, none⟩) ns.length cap ∧ w.cell? ⟨b, off + i, none⟩ = some u ∧ Rd1 w u l := by
  have hlt : i < ns.length := (List.getElem?_eq_some_iff.1 hi).1
  have hlt' : i < us.length := by rw [h.1]; exact hlt
  obtain ⟨b, off, cap, rfl, hc⟩ := Rd.pos h.2.1 (by omega)
  have hu : us[i]? = some us[i] := List.getElem?_eq_getElem hlt'
  exact ⟨b, off, cap, us[i], hu, by rw [h.1], by rw [hc i (by omega)]; exact hu, h.2.2 i _ l hu hi⟩
/-- A table that a call owns, none of its rows in the table's own block. -/
def OwV (lo : Nat) (w : World) (v : Value) (us : List Value) (ns : List (List Int)) : Prop :=
  us.length = ns.length ∧ w.ownsRow lo 33 1 v us.length us ∧ ∀ (i : Nat) (u : Value) (l : List Int), us[i]? = some u → ns[i]? = some l → w.ownsRow lo 3 1 u l.length (l.map intV) ∧ ∀ g, v.ownBlock = some g → u.ownBlock ≠ some g
theorem OwV.rd {lo : Nat} {w : World} {v : Value} {us : List Value} {ns : List (List Int)} (h : OwV lo w v us ns) : RdV w v us ns :=
  ⟨h.1, Rd.of_own h.2.1, fun i u l hu hl => Rd.of_own (h.2.2 i u l hu hl).1⟩
theorem OwV.below {lo : Nat} {a b : World} {v : Value} {us : List Value} {ns : List (List Int)} (h : OwV lo a v us ns) (k : Below a.heap.size a b) : OwV lo b v us ns :=
  ⟨h.1, ownS_below h.2.1 k, fun i u l hu hl => ⟨ownS_below (h.2.2 i u l hu hl).1 k, (h.2.2 i u l hu hl).2⟩⟩
theorem OwV.nil (lo : Nat) (w : World) : OwV lo w (.slice none 0 0) [] [] := ⟨rfl, World.ownsRow_nil _ _ _ _, fun i u l hu => by simp at hu⟩
/-- One row more. -/
theorem OwV.push {lo : Nat} {a b c : World} {v v' u : Value} {us : List Value} {ns : List (List Int)} {l : List Int} (h : OwV lo a v us ns) (hlo : lo ≤ a.heap.size) (hb : Below a.heap.size a b)
    (hu : b.ownsRow a.heap.size 3 1 u l.length (l.map intV)) (ho : c.ownsRow lo 33 1 v' (us.length + 1) (us ++ [u])) (hg : b.grownBy c v.ownBlock) (hat : v'.ownBlock = v.ownBlock ∨ v'.ownBlock = some b.heap.size) :
    OwV lo c v' (us ++ [u]) (ns ++ [l]) := by
  have hul : ∀ g, u.ownBlock = some g → a.heap.size ≤ g ∧ g < b.heap.size := fun g hg => World.ownsRow.lt hu g hg
  have hvb : ∀ g, v.ownBlock = some g → g < a.heap.size := fun g hg => (World.ownsRow.lt h.2.1 g hg).2
  have apart : ∀ {t : Value}, (∀ g, v.ownBlock = some g → t.ownBlock ≠ some g) → t.ownBlock = none ∨ t.ownBlock ≠ v.ownBlock := fun {t} q => by
    cases ht : t.ownBlock with
    | none => exact Or.inl rfl
    | some g => exact Or.inr fun e => q g e.symm ht
  refine ⟨by rw [List.length_append, List.length_append, h.1]; rfl, by rw [List.length_append]; exact ho, fun i t l' ht hl' => ?_⟩
  by_cases hi : i < us.length
  · rw [List.getElem?_append_left hi] at ht
    rw [List.getElem?_append_left (by rw [← h.1]; exact hi)] at hl'
    obtain ⟨k1, k2⟩ := h.2.2 i t l' ht hl'
    refine ⟨World.ownsRow.kept (ownS_below k1 hb) hg (apart k2), fun g hg' e => ?_⟩
    rcases hat with e2 | e2
    · rw [e2] at hg'; exact k2 g hg' e
    · rw [e2] at hg'
      obtain rfl := Option.some.inj hg'
      have := (World.ownsRow.lt k1 _ e).2
      have := hb.size
      omega
  · rw [List.getElem?_append_right (by omega)] at ht
    have hlt := (List.getElem?_eq_some_iff.1 ht).1
    rw [List.length_singleton] at hlt
    obtain rfl : i = us.length := by omega
    rw [Nat.sub_self] at ht
    obtain rfl : u = t := Option.some.inj ht
    rw [h.1, List.getElem?_append_right (Nat.le_refl _), Nat.sub_self] at hl'
    obtain rfl : l = l' := Option.some.inj hl'
    refine ⟨ownS_mono (World.ownsRow.kept hu hg (apart fun g hgv e => by have := hvb g hgv; have := (hul g e).1; omega)) hlo, fun g hg' e => ?_⟩
    rcases hat with e2 | e2
    · rw [e2] at hg'; have := hvb g hg'; have := (hul g e).1; omega
    · rw [e2] at hg'
      obtain rfl := Option.some.inj hg'
      have := (hul _ e).2
      omega
end Go.Proofs.Ytcbdoldcdgaooaa
