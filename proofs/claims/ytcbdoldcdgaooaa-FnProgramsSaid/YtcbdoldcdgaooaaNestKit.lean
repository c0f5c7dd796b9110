/- Rows of rows of notes: what is read, what a call owns, and bands of blocks. No condition. -/
import Derived.Test.YtcbdoldcdgaooaaSortSpec
import Derived.Test.YtcbdoldcdgaooaaTuneOpen
import Derived.Test.YtcbdoldcdgaooaaWalkKit
namespace Go.Proofs.Ytcbdoldcdgaooaa
open Go.ChangeShapes Go.WideShapes Go.ChangeAt Go.RowKit

/-- v is a slice of slices of notes: its cells are us, the i-th one reads as the i-th of ll. -/
def RdN (w : World) (v : Value) (us : List Value) (ll : List (List (Int × Int))) : Prop :=
  us.length = ll.length ∧ Rd 1 w v us.length us ∧ ∀ (i : Nat) (u : Value) (l : List (Int × Int)), us[i]? = some u → ll[i]? = some l → Rd2 w u l
theorem RdN.below {w w' : World} {v : Value} {us : List Value} {ll : List (List (Int × Int))} (h : RdN w v us ll) (hb : Below w.heap.size w w') : RdN w' v us ll :=
  ⟨h.1, Rd.below h.2.1 hb, fun i u l hu hl => Rd.below (h.2.2 i u l hu hl) hb⟩
theorem RdN.slice {w : World} {v : Value} {us : List Value} {ll : List (List (Int × Int))} (h : RdN w v us ll) : ∃ a cap, v = .slice a ll.length cap := by
  rw [← h.1]; exact Rd.slice h.2.1
theorem RdN.len {w : World} {v : Value} {us : List Value} {ll : List (List (Int × Int))} (h : RdN w v us ll) : ll.length ≤ maxLen := by rw [← h.1]; exact h.2.1.2.1
theorem RdN.cell {w : World} {v : Value} {us : List Value} {ll : List (List (Int × Int))} (h : RdN w v us ll) {i : Nat} {l : List (Int × Int)} (hi : ll[i]? = some l) :
    ∃ b off cap u, us[i]? = some u ∧ v = .slice (some ⟨b, off, none⟩) ll.length cap ∧ w.cell? ⟨b, off + i, none⟩ = some u ∧ Rd2 w u l := by
  have hlt : i < ll.length := (List.getElem?_eq_some_iff.1 hi).1
  have hlt' : i < us.length := by rw [h.1]; exact hlt
  obtain ⟨b, off, cap, rfl, hc⟩ := Rd.pos h.2.1 (by omega)
  have hu : us[i]? = some us[i] := List.getElem?_eq_getElem hlt'
  exact ⟨b, off, cap, us[i], hu, by rw [h.1], by rw [hc i (by omega)]; exact hu, h.2.2 i _ l hu hi⟩

/-- What w' keeps of w: all but the blocks from lo to hi, and new ones. -/
def Band (lo hi : Nat) (w w' : World) : Prop := w'.os = w.os ∧ w'.tape = w.tape ∧ w'.output = w.output ∧ w.heap.size ≤ w'.heap.size ∧ ∀ k, k < w.heap.size → (k < lo ∨ hi ≤ k) → w'.heap[k]? = w.heap[k]?
theorem Band.refl (lo hi : Nat) (w : World) : Band lo hi w w := ⟨rfl, rfl, rfl, Nat.le_refl _, fun _ _ _ => rfl⟩
theorem Band.trans {lo hi : Nat} {a b c : World} (h : Band lo hi a b) (k : Band lo hi b c) : Band lo hi a c :=
  ⟨k.1.trans h.1, k.2.1.trans h.2.1, k.2.2.1.trans h.2.2.1, Nat.le_trans h.2.2.2.1 k.2.2.2.1, fun i hi hr => (k.2.2.2.2 i (Nat.lt_of_lt_of_le hi h.2.2.2.1) hr).trans (h.2.2.2.2 i hi hr)⟩
theorem band_of_below {lo hi : Nat} {a b : World} (h : Below a.heap.size a b) : Band lo hi a b := ⟨h.os, h.tape, h.output, h.size, fun k hk _ => h.block k hk⟩
theorem band_of_grown {lo hi : Nat} {a b : World} {row : Option Nat} (h : a.grownBy b row) (hr : ∀ k, row = some k → lo ≤ k ∧ k < hi) : Band lo hi a b :=
  ⟨h.os, h.tape, h.output, h.size, fun k hk ho => h.block k hk fun e => by have := hr k e.symm; omega⟩
theorem Band.below {lo hi B : Nat} {w a b : World} (h : Below B w a) (k : Band lo hi a b) (hB : B ≤ lo) (hs : B ≤ a.heap.size) : Below B w b :=
  h.trans ⟨k.1, k.2.1, k.2.2.1, Nat.le_trans hs k.2.2.2.1 |> fun _ => k.2.2.2.1, fun i hi => k.2.2.2.2 i (by omega) (Or.inl (by omega))⟩
theorem own_band {lo hi B e s n : Nat} {a b : World} {v : Value} {xs : List Value} (h : a.ownsRow B e s v n xs) (k : Band lo hi a b) (hv : ∀ g, v.ownBlock = some g → g < lo ∨ hi ≤ g) : b.ownsRow B e s v n xs := by
  refine ⟨h.1, ?_⟩
  rcases h.2 with h0 | ⟨g, cap, cur, rfl, hb, hg, h1, h2, h3, h4⟩
  · exact Or.inl h0
  · refine Or.inr ⟨g, cap, cur, rfl, hb, ?_, h1, h2, h3, h4⟩
    have hlt : g < a.heap.size := (World.ownsRow.lt h g rfl).2
    rw [k.2.2.2.2 g hlt (hv g rfl)]; exact hg

/-- An own slice of own rows, all in the blocks from lo to hi, no two in one block. -/
def OwN (lo hi : Nat) (w : World) (v : Value) (us : List Value) (ll : List (List (Int × Int))) : Prop :=
  us.length = ll.length ∧ w.ownsRow lo 42 1 v us.length us ∧ (∀ (g : Nat), v.ownBlock = some g → g < hi) ∧
    (∀ (i : Nat) (u : Value) (l : List (Int × Int)), us[i]? = some u → ll[i]? = some l → w.ownsRow lo 41 2 u l.length (flat2 l) ∧ (∀ (g : Nat), u.ownBlock = some g → g < hi ∧ v.ownBlock ≠ some g)) ∧
    (∀ (i j : Nat) (u t : Value) (g : Nat), us[i]? = some u → us[j]? = some t → i ≠ j → u.ownBlock = some g → t.ownBlock ≠ some g)
theorem OwN.rd {lo hi : Nat} {w : World} {v : Value} {us : List Value} {ll : List (List (Int × Int))} (h : OwN lo hi w v us ll) : RdN w v us ll :=
  ⟨h.1, Rd.of_own h.2.1, fun i u l hu hl => Rd.of_own (h.2.2.2.1 i u l hu hl).1⟩
theorem OwN.band {lo hi lo' hi' : Nat} {a b : World} {v : Value} {us : List Value} {ll : List (List (Int × Int))} (h : OwN lo hi a v us ll) (k : Band lo' hi' a b) (hd : hi ≤ lo' ∨ hi' ≤ lo) : OwN lo hi b v us ll := by
  refine ⟨h.1, own_band h.2.1 k fun g hg => ?_, h.2.2.1, fun i u l hu hl => ⟨own_band (h.2.2.2.1 i u l hu hl).1 k fun g hg => ?_, (h.2.2.2.1 i u l hu hl).2⟩, h.2.2.2.2⟩
  · have h1 := h.2.2.1 g hg
    have h2 := (World.ownsRow.lt h.2.1 g hg).1
    omega
  · have h1 := ((h.2.2.2.1 i u l hu hl).2 g hg).1
    have h2 := (World.ownsRow.lt (h.2.2.2.1 i u l hu hl).1 g hg).1
    omega
theorem OwN.below {lo hi : Nat} {a b : World} {v : Value} {us : List Value} {ll : List (List (Int × Int))} (h : OwN lo hi a v us ll) (k : Below a.heap.size a b) : OwN lo hi b v us ll := by
  refine ⟨h.1, ownS_below h.2.1 k, h.2.2.1, fun i u l hu hl => ⟨ownS_below (h.2.2.2.1 i u l hu hl).1 k, (h.2.2.2.1 i u l hu hl).2⟩, h.2.2.2.2⟩

/-- A slice of slices of structs of two ints that reads as data. -/
theorem nest_of_trod {H : Type} {enc : TypeId × Value → H} {P : Program} {W : World} {t e1 e : TypeId} {f0 f1 : Field} {v : Value} {d : DataW H} {ps : List MemPlace} {r : Reach} {b0 : Nat}
    (hu : P.underlying t = some (.slice e1)) (cu : P.cellsOf e1 = 1)
    (ht : P.underlying e1 = some (.slice e)) (he : P.underlying e = some (.struct #[f0, f1])) (ce : P.cellsOf e = 2) (o0 : f0.offset = 0) (o1 : f1.offset = 1) (c0 : P.cellsOf f0.type = 1) (c1 : P.cellsOf f1.type = 1)
    (i0 : P.underlying f0.type = some (.int .i64)) (i1 : P.underlying f1.type = some (.int .i64))
    (hval : Value.okWide P W r b0 t v) (hd : DataW.Trod enc P W 0 (fun _ => true) true t v d ps) : ∃ us ll, RdN W v us ll := by
  obtain ⟨a0, len, cap, rfl⟩ := okWide_slice hu hval
  obtain ⟨fuel, hf⟩ := hd
  rcases Deep.open_slice hu hf with ⟨hcs, _⟩ | ⟨a, len', cap', m, n, D, Pl, hcs, _, hl, hcap, hm, _, hall⟩
  · simp [Value.cells] at hcs
    obtain ⟨rfl, rfl, rfl⟩ := hcs
    exact ⟨[], [], rfl, ⟨rfl, Nat.zero_le _, Or.inl ⟨rfl, _, _, rfl⟩⟩, fun i u l hu => by simp at hu⟩
  · simp [Value.cells] at hcs
    obtain ⟨rfl, rfl, rfl⟩ := hcs
    simp only [if_true] at hm
    subst hm
    have each : ∀ i, i < len → ∃ q : Value × List (Int × Int), W.cell? (a.add i) = some q.1 ∧ Rd2 W q.1 q.2 := by
      intro i hi
      obtain ⟨cs', h1, h2⟩ := hall i (by omega)
      rw [cu] at h1
      obtain ⟨_, hlen, hcell⟩ := World.cells?_some h1
      match cs', hlen with
      | [u], _ =>
        have e0 := hcell 0 (by omega)
        obtain ⟨l, hl'⟩ := pairs_of_cells ht he ce o0 o1 c0 c1 i0 i1 h2
        refine ⟨(u, l), ?_, hl'⟩
        have e1 : (a.add i).add 0 = a.add i := by unfold Addr.add; simp
        rw [← e1]; simpa using e0
    obtain ⟨q, hq⟩ := Deep.choose_lt each
    refine ⟨(List.range len).map fun i => (q i).1, (List.range len).map fun i => (q i).2, by simp, ?_, fun i u l hu hl' => ?_⟩
    · have hlen : ((List.range len).map fun i => (q i).1).length = len := by simp
      refine ⟨by simp, by rw [hlen]; omega, ?_⟩
      by_cases hz : len = 0
      · subst hz; exact Or.inl ⟨rfl, _, _, rfl⟩
      · right
        have hs : a.spot = none := spot_none (hq 0 (by omega)).1
        obtain ⟨b, off, spot⟩ := a
        simp only at hs
        subst hs
        refine ⟨b, off, m, by rw [hlen], by omega, fun c hc => ?_⟩
        have hk : c < len := by rw [hlen] at hc; omega
        rw [← add_plain, (hq c hk).1]; simp [hk]
    · have hk : i < len := by
        have := (List.getElem?_eq_some_iff.1 hu).1
        simpa using this
      have e1 : (q i).1 = u := by simpa [hk] using hu
      have e2 : (q i).2 = l := by simpa [hk] using hl'
      rw [← e1, ← e2]; exact (hq i hk).2
set_option maxRecDepth 100000 in
theorem tunes_of_trod {H : Type} {enc : TypeId × Value → H} {W : World} {v : Value} {d : DataW H} {ps : List MemPlace} {r : Reach} {b0 : Nat}
    (hval : Value.okWide Try.prog W r b0 62 v) (hd : DataW.Trod enc Try.prog W 0 (fun _ => true) true 62 v d ps) : ∃ us ll, RdN W v us ll :=
  nest_of_trod Try.underlying62 (by kernel_rfl) Try.underlying44 Try.underlying98 (by kernel_rfl) rfl rfl (by kernel_rfl) (by kernel_rfl) (by kernel_rfl) (by kernel_rfl) hval hd
end Go.Proofs.Ytcbdoldcdgaooaa
