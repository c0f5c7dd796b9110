/- An argument that is a slice of notes, opened to its cells. No condition. -/
import Derived.Test.YtcbdoldcdgaooaaInts
import Derived.Deep.SlicePairs
namespace Go.Proofs.Ytcbdoldcdgaooaa
open Go.ChangeShapes Go.WideShapes Go.ChangeAt Go.RowKit

theorem spot_none {W : World} {a : Addr} {u : Value} (h : W.cell? (a.add 0) = some u) : a.spot = none := by
  have ha : (a.add 0).spot = a.spot := by unfold Addr.add; rfl
  unfold World.cell? at h
  rw [ha] at h
  cases hs : a.spot with
  | none => rfl
  | some s =>
    rw [hs] at h
    split at h <;> simp at h

/-- A slice of structs of two ints that reads as data is a row of pairs. -/
theorem pairs_of_cells {H : Type} {enc : TypeId × Value → H} {P : Program} {W : World} {t e : TypeId} {f0 f1 : Field} {u : Value} {x : DataW H × List MemPlace} {fuel : Nat}
    (ht : P.underlying t = some (.slice e)) (he : P.underlying e = some (.struct #[f0, f1])) (ce : P.cellsOf e = 2) (o0 : f0.offset = 0) (o1 : f1.offset = 1) (c0 : P.cellsOf f0.type = 1) (c1 : P.cellsOf f1.type = 1)
    (i0 : P.underlying f0.type = some (.int .i64)) (i1 : P.underlying f1.type = some (.int .i64))
    (hf : DataW.trod enc P W 0 (fun _ => true) true fuel t [u] = some x) : ∃ l : List (Int × Int), Rd2 W u l := by
  rcases Deep.open_slice_pairs ht he ce o0 o1 c0 c1 hf with ⟨hcs, _⟩ | ⟨a, len, cap, m, n, V0, V1, D0, D1, P0, P1, hcs, _, hl, hcap, hm, _, hall⟩
  · obtain rfl : u = _ := (List.cons.inj hcs).1
    exact ⟨[], rfl, Nat.zero_le _, Or.inl ⟨rfl, _, _, rfl⟩⟩
  · obtain rfl : u = _ := (List.cons.inj hcs).1
    simp only [if_true] at hm
    subst hm
    have each : ∀ i, i < len → ∃ q : Int × Int, W.cell? (a.add (i * 2)) = some (.int .i64 q.1) ∧ W.cell? (a.add (i * 2 + 1)) = some (.int .i64 q.2) := by
      intro i hi
      obtain ⟨x0, x1, t0, t1⟩ := hall i (by omega)
      obtain ⟨y0, h0, _⟩ := DataW.trod_int i0 t0
      obtain ⟨y1, h1, _⟩ := DataW.trod_int i1 t1
      have e0 : V0 i = .int .i64 y0 := by simpa using h0
      have e1 : V1 i = .int .i64 y1 := by simpa using h1
      exact ⟨(y0, y1), by rw [x0, e0], by rw [x1, e1]⟩
    obtain ⟨q, hq⟩ := Deep.choose_lt each
    refine ⟨(List.range len).map q, ?_⟩
    have hlen : ((List.range len).map q).length = len := by simp
    refine ⟨flat2_length _, by rw [hlen]; omega, ?_⟩
    by_cases hz : len = 0
    · subst hz; exact Or.inl ⟨rfl, _, _, rfl⟩
    · right
      have hs : a.spot = none := spot_none (by simpa using (hq 0 (by omega)).1)
      obtain ⟨b, off, spot⟩ := a
      simp only at hs
      subst hs
      refine ⟨b, off, m, by rw [hlen], by omega, fun c hc => ?_⟩
      have hk : c / 2 < len := by rw [hlen] at hc; omega
      have hqk : ((List.range len).map q)[c / 2]? = some (q (c / 2)) := by simp [hk]
      obtain ⟨g0, g1⟩ := flat2_at _ _ _ hqk
      obtain ⟨w0, w1⟩ := hq (c / 2) hk
      rcases Nat.mod_two_eq_zero_or_one c with hp | hp
      · have e : c / 2 * 2 = c := by omega
        rw [e] at g0 w0; rw [g0, ← add_plain, w0]; rfl
      · have e : c / 2 * 2 + 1 = c := by omega
        rw [e] at g1 w1; rw [g1, ← add_plain, w1]; rfl

set_option maxRecDepth 100000 in
theorem pairs_of_trod {H : Type} {enc : TypeId × Value → H} {P : Program} {W : World} {t e : TypeId} {f0 f1 : Field} {v : Value} {d : DataW H} {ps : List MemPlace} {r : Reach} {b0 : Nat}
    (ht : P.underlying t = some (.slice e)) (he : P.underlying e = some (.struct #[f0, f1])) (ce : P.cellsOf e = 2) (o0 : f0.offset = 0) (o1 : f1.offset = 1) (c0 : P.cellsOf f0.type = 1) (c1 : P.cellsOf f1.type = 1)
    (i0 : P.underlying f0.type = some (.int .i64)) (i1 : P.underlying f1.type = some (.int .i64))
    (hval : Value.okWide P W r b0 t v) (hd : DataW.Trod enc P W 0 (fun _ => true) true t v d ps) : ∃ l : List (Int × Int), Rd2 W v l := by
  obtain ⟨a0, len, cap, rfl⟩ := okWide_slice ht hval
  obtain ⟨fuel, hf⟩ := hd
  exact pairs_of_cells ht he ce o0 o1 c0 c1 i0 i1 hf

set_option maxRecDepth 100000 in
theorem notes_of_trod {H : Type} {enc : TypeId × Value → H} {W : World} {v : Value} {d : DataW H} {ps : List MemPlace} {r : Reach} {b0 : Nat}
    (hval : Value.okWide Try.prog W r b0 44 v) (hd : DataW.Trod enc Try.prog W 0 (fun _ => true) true 44 v d ps) : ∃ l : List (Int × Int), Rd2 W v l :=
  pairs_of_trod Try.underlying44 Try.underlying98 (by kernel_rfl) rfl rfl (by kernel_rfl) (by kernel_rfl) (by kernel_rfl) (by kernel_rfl) hval hd
end Go.Proofs.Ytcbdoldcdgaooaa
