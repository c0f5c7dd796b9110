/- Rows of cylinders: what is read, what a call owns, an argument opened; szCylinderS, eqCylinderS, toCylinderS, markCylinderS. No condition. -/
import Derived.Test.YtemhmbaacpfnaaaMergeWalk
import Derived.Test.YtemhmbaacpfnaaaNestKit
import Derived.Test.YtemhmbaacpfnaaaCylOpen
namespace Go.Proofs.Ytemhmbaacpfnaaa
open Go.ChangeShapes Go.WideShapes Go.ChangeAt Go.RowKit

/-- The cells of a row of cylinders: us their rows of pins. -/
def flatY (us : List Value) (cs : List Cyl) : List Value := (cs.zip us).flatMap fun r => [intV r.1.1, intV r.1.2.1, r.2]
theorem flatY_nil : flatY [] [] = [] := rfl
theorem flatY_cons (u : Value) (us : List Value) (c : Cyl) (cs : List Cyl) : flatY (u :: us) (c :: cs) = intV c.1 :: intV c.2.1 :: u :: flatY us cs := by simp [flatY]
theorem flatY_len : ∀ {us : List Value} {cs : List Cyl}, us.length = cs.length → (flatY us cs).length = cs.length * 3
  | [], [], _ => rfl
  | u :: us, c :: cs, h => by rw [flatY_cons, List.length_cons, List.length_cons, List.length_cons, flatY_len (by simpa using h), List.length_cons]; omega
  | [], _ :: _, h => by simp at h
  | _ :: _, [], h => by simp at h
theorem flatY_at : ∀ {us : List Value} {cs : List Cyl} {k : Nat} {u : Value} {c : Cyl}, us[k]? = some u → cs[k]? = some c → (flatY us cs)[k * 3]? = some (intV c.1) ∧ (flatY us cs)[k * 3 + 1]? = some (intV c.2.1) ∧ (flatY us cs)[k * 3 + 2]? = some u
  | [], _, k, u, c, h, _ => by simp at h
  | _ :: _, [], k, u, c, _, h => by simp at h
  | x :: us, d :: cs, 0, u, c, h, h' => by
    obtain rfl : x = u := by simpa using h
    obtain rfl : d = c := by simpa using h'
    rw [flatY_cons]; exact ⟨rfl, rfl, rfl⟩
  | x :: us, d :: cs, k + 1, u, c, h, h' => by
    have ih := flatY_at (us := us) (cs := cs) (k := k) (u := u) (c := c) (by simpa using h) (by simpa using h')
    rw [flatY_cons, show (k + 1) * 3 = k * 3 + 1 + 1 + 1 by omega]
    simpa using ih
theorem flatY_snoc : ∀ {us : List Value} {cs : List Cyl} (u : Value) (c : Cyl), us.length = cs.length → flatY (us ++ [u]) (cs ++ [c]) = flatY us cs ++ [intV c.1, intV c.2.1, u]
  | [], [], u, c, _ => by simp [flatY]
  | x :: us, d :: cs, u, c, h => by rw [List.cons_append, List.cons_append, flatY_cons, flatY_cons, flatY_snoc u c (by simpa using h)]; rfl
  | [], _ :: _, _, _, h => by simp at h
  | _ :: _, [], _, _, h => by simp at h

/-- v is a slice of cylinders cs, us their slices of pins. -/
def RdY (w : World) (v : Value) (us : List Value) (cs : List Cyl) : Prop :=
  us.length = cs.length ∧ Rd 3 w v cs.length (flatY us cs) ∧ ∀ (i : Nat) (u : Value) (c : Cyl), us[i]? = some u → cs[i]? = some c → Rd2 w u c.2.2
theorem RdY.below {w w' : World} {v : Value} {us : List Value} {cs : List Cyl} (h : RdY w v us cs) (hb : Below w.heap.size w w') : RdY w' v us cs :=
  ⟨h.1, Rd.below h.2.1 hb, fun i u c hu hc => Rd.below (h.2.2 i u c hu hc) hb⟩
theorem RdY.slice {w : World} {v : Value} {us : List Value} {cs : List Cyl} (h : RdY w v us cs) : ∃ a cap, v = .slice a cs.length cap := Rd.slice h.2.1
theorem RdY.len {w : World} {v : Value} {us : List Value} {cs : List Cyl} (h : RdY w v us cs) : cs.length ≤ maxLen := h.2.1.2.1
theorem RdY.cell {w : World} {v : Value} {us : List Value} {cs : List Cyl} (h : RdY w v us cs) {i : Nat} {c : Cyl} (hi : cs[i]? = some c) :
    ∃ b off cap u, us[i]? = some u ∧ v = .slice (some ⟨b, off, none⟩) cs.length cap ∧ w.cell? ⟨b, off + i * 3, none⟩ = some (.int .i64 c.1) ∧ w.cell? ⟨b, off + i * 3 + 1, none⟩ = some (.int .i64 c.2.1) ∧ w.cell? ⟨b, off + i * 3 + 2, none⟩ = some u ∧ Rd2 w u c.2.2 := by
  have hlt : i < cs.length := (List.getElem?_eq_some_iff.1 hi).1
  have hlt' : i < us.length := by rw [h.1]; exact hlt
  obtain ⟨b, off, cap, rfl, hc⟩ := Rd.pos h.2.1 (by omega)
  have hu : us[i]? = some us[i] := List.getElem?_eq_getElem hlt'
  obtain ⟨h0, h1, h2⟩ := flatY_at hu hi
  refine ⟨b, off, cap, us[i], hu, rfl, ?_, ?_, ?_, h.2.2 i _ c hu hi⟩
  · rw [hc _ (by omega), h0]; rfl
  · rw [Nat.add_assoc, hc _ (by omega), h1]; rfl
  · rw [Nat.add_assoc, hc _ (by omega), h2]
/-- An own slice of cylinders with own rows of pins, all in the blocks from lo to hi, no two in one block. -/
def OwY (lo hi : Nat) (w : World) (v : Value) (us : List Value) (cs : List Cyl) : Prop :=
  us.length = cs.length ∧ w.ownsRow lo 26 3 v cs.length (flatY us cs) ∧ (∀ (g : Nat), v.ownBlock = some g → g < hi) ∧
    (∀ (i : Nat) (u : Value) (c : Cyl), us[i]? = some u → cs[i]? = some c → w.ownsRow lo 34 2 u c.2.2.length (flat2 c.2.2) ∧ (∀ (g : Nat), u.ownBlock = some g → g < hi ∧ v.ownBlock ≠ some g)) ∧
    (∀ (i j : Nat) (u t : Value) (g : Nat), us[i]? = some u → us[j]? = some t → i ≠ j → u.ownBlock = some g → t.ownBlock ≠ some g)
theorem OwY.rd {lo hi : Nat} {w : World} {v : Value} {us : List Value} {cs : List Cyl} (h : OwY lo hi w v us cs) : RdY w v us cs :=
  ⟨h.1, Rd.of_own h.2.1, fun i u c hu hc => Rd.of_own (h.2.2.2.1 i u c hu hc).1⟩
theorem OwY.below {lo hi : Nat} {a b : World} {v : Value} {us : List Value} {cs : List Cyl} (h : OwY lo hi a v us cs) (k : Below a.heap.size a b) : OwY lo hi b v us cs :=
  ⟨h.1, ownS_below h.2.1 k, h.2.2.1, fun i u c hu hc => ⟨ownS_below (h.2.2.2.1 i u c hu hc).1 k, (h.2.2.2.1 i u c hu hc).2⟩, h.2.2.2.2⟩
def lensY (cs : List Cyl) : Nat := (cs.map fun c => c.2.2.length).sum
def bulkY (cs : List Cyl) : Nat := cs.length + lensY cs
theorem lensY_succ {cs : List Cyl} {k : Nat} {c : Cyl} (h : cs[k]? = some c) : lensY (cs.take (k + 1)) = lensY (cs.take k) + c.2.2.length := by
  unfold lensY; rw [List.take_add_one, h]; simp
theorem lensY_le (cs : List Cyl) (k : Nat) : lensY (cs.take k) ≤ lensY cs := by
  have h : cs = cs.take k ++ cs.drop k := (List.take_append_drop k cs).symm
  have e : lensY cs = lensY (cs.take k) + lensY (cs.drop k) := by
    conv => lhs; rw [h]
    unfold lensY; rw [List.map_append, List.sum_append]
  omega
theorem lensY_at {cs : List Cyl} {k : Nat} {c : Cyl} (h : cs[k]? = some c) : c.2.2.length ≤ lensY cs := by
  have h1 := lensY_succ h
  have h2 := lensY_le cs (k + 1)
  omega

theorem cyl_cells {H : Type} {enc : TypeId × Value → H} {P : Program} {W : World} {t ep : TypeId} {f0 f1 f2 g0 g1 : Field} {x0 x1 x2 : Value} {y : DataW H × List MemPlace} {fuel : Nat}
    (hs : P.underlying t = some (.struct #[f0, f1, f2])) (hone : Deep.oneCellFields P #[f0, f1, f2] = true) (i0 : P.underlying f0.type = some (.int .i64)) (i1 : P.underlying f1.type = some (.int .i64))
    (ht : P.underlying f2.type = some (.slice ep)) (he : P.underlying ep = some (.struct #[g0, g1])) (ce : P.cellsOf ep = 2) (o0 : g0.offset = 0) (o1 : g1.offset = 1) (c0 : P.cellsOf g0.type = 1) (c1 : P.cellsOf g1.type = 1)
    (j0 : P.underlying g0.type = some (.int .i64)) (j1 : P.underlying g1.type = some (.int .i64))
    (h : DataW.trod enc P W 0 (fun _ => true) true fuel t [x0, x1, x2] = some y) : ∃ q : Cyl, x0 = .int .i64 q.1 ∧ x1 = .int .i64 q.2.1 ∧ Rd2 W x2 q.2.2 := by
  obtain ⟨y0, y1, y2, n, hx, _, h0, h1, h2⟩ := Deep.trod_struct3 hs h
  obtain ⟨p0, k0⟩ := Deep.hone_of hone 0 f0 rfl
  obtain ⟨p1, k1⟩ := Deep.hone_of hone 1 f1 rfl
  obtain ⟨p2, k2⟩ := Deep.hone_of hone 2 f2 rfl
  have h0' : DataW.trod enc P W 0 (fun _ => true) true n f0.type [x0] = some y0 := by simpa [p0, k0] using h0
  have h1' : DataW.trod enc P W 0 (fun _ => true) true n f1.type [x1] = some y1 := by simpa [p1, k1] using h1
  have h2' : DataW.trod enc P W 0 (fun _ => true) true n f2.type [x2] = some y2 := by simpa [p2, k2] using h2
  obtain ⟨a, e0, _⟩ := DataW.trod_int i0 h0'
  obtain ⟨b, e1, _⟩ := DataW.trod_int i1 h1'
  obtain ⟨l, hl⟩ := pairs_of_cells ht he ce o0 o1 c0 c1 j0 j1 h2'
  exact ⟨(a, b, l), by simpa using e0, by simpa using e1, hl⟩
set_option maxRecDepth 100000 in
theorem cyls_of_trod {H : Type} {enc : TypeId × Value → H} {W : World} {v : Value} {d : DataW H} {ps : List MemPlace} {r : Reach} {b0 : Nat}
    (hval : Value.okWide Try.prog W r b0 47 v) (hd : DataW.Trod enc Try.prog W 0 (fun _ => true) true 47 v d ps) : ∃ us cs, RdY W v us cs := by
  obtain ⟨a0, len, cap, rfl⟩ := okWide_slice Try.underlying47 hval
  obtain ⟨fuel, hf⟩ := hd
  have cu : (Try.prog).cellsOf 40 = 3 := by kernel_rfl
  rcases Deep.open_slice Try.underlying47 hf with ⟨hcs, _⟩ | ⟨a, len', cap', m, n, D, Pl, hcs, _, hl, hcap, hm, _, hall⟩
  · simp [Value.cells] at hcs
    obtain ⟨rfl, rfl, rfl⟩ := hcs
    exact ⟨[], [], rfl, ⟨rfl, Nat.zero_le _, Or.inl ⟨rfl, _, _, rfl⟩⟩, fun i u c hu => by simp at hu⟩
  · simp [Value.cells] at hcs
    obtain ⟨rfl, rfl, rfl⟩ := hcs
    simp only [if_true] at hm
    subst hm
    have each : ∀ i, i < len → ∃ q : Cyl × Value, W.cell? (a.add (i * 3)) = some (.int .i64 q.1.1) ∧ W.cell? (a.add (i * 3 + 1)) = some (.int .i64 q.1.2.1) ∧ W.cell? (a.add (i * 3 + 2)) = some q.2 ∧ Rd2 W q.2 q.1.2.2 := by
      intro i hi
      obtain ⟨cs', h1, h2⟩ := hall i (by omega)
      rw [cu] at h1
      obtain ⟨_, hlen, hcell⟩ := World.cells?_some h1
      match cs', hlen with
      | [x0, x1, x2], _ =>
        have e0 := hcell 0 (by omega)
        have e1 := hcell 1 (by omega)
        have e2 := hcell 2 (by omega)
        have ea : ∀ j, (a.add (i * 3)).add j = a.add (i * 3 + j) := fun j => by unfold Addr.add; by_cases h3 : i * 3 = 0 <;> by_cases h4 : j = 0 <;> simp [h3, h4, Nat.add_assoc] <;> omega
        rw [ea] at e0 e1 e2
        obtain ⟨q, rfl, rfl, hq⟩ := cyl_cells Try.underlying40 (by kernel_rfl) (by kernel_rfl) (by kernel_rfl) Try.underlying38 Try.underlying93 (by kernel_rfl) rfl rfl (by kernel_rfl) (by kernel_rfl) (by kernel_rfl) (by kernel_rfl) h2
        exact ⟨(q, x2), by simpa using e0, by simpa using e1, by simpa using e2, hq⟩
    obtain ⟨q, hq⟩ := Deep.choose_lt each
    have hat : ∀ k, k < len → ((List.range len).map fun i => (q i).2)[k]? = some (q k).2 ∧ ((List.range len).map fun i => (q i).1)[k]? = some (q k).1 := fun k hk => by simp [hk]
    refine ⟨(List.range len).map fun i => (q i).2, (List.range len).map fun i => (q i).1, by simp, ?_, fun i u c hu hc => ?_⟩
    · have hlen : ((List.range len).map fun i => (q i).1).length = len := by simp
      refine ⟨flatY_len (by simp), by rw [hlen]; omega, ?_⟩
      by_cases hz : len = 0
      · subst hz; exact Or.inl ⟨rfl, _, _, rfl⟩
      · right
        have hs : a.spot = none := spot_none (by simpa using (hq 0 (by omega)).1)
        obtain ⟨b, off, spot⟩ := a
        simp only at hs
        subst hs
        refine ⟨b, off, m, by rw [hlen], by omega, fun c hc => ?_⟩
        have hk : c / 3 < len := by rw [hlen] at hc; omega
        obtain ⟨k1, k2⟩ := hat _ hk
        obtain ⟨g0, g1, g2⟩ := flatY_at k1 k2
        obtain ⟨z0, z1, z2, _⟩ := hq _ hk
        have hmod : c % 3 = 0 ∨ c % 3 = 1 ∨ c % 3 = 2 := by omega
        rcases hmod with hp | hp | hp
        · have e : c / 3 * 3 = c := by omega
          rw [e] at g0 z0; rw [g0, ← add_plain, z0]; rfl
        · have e : c / 3 * 3 + 1 = c := by omega
          rw [e] at g1 z1; rw [g1, ← add_plain, z1]; rfl
        · have e : c / 3 * 3 + 2 = c := by omega
          rw [e] at g2 z2; rw [g2, ← add_plain, z2]
    · have hk : i < len := by
        have := (List.getElem?_eq_some_iff.1 hu).1
        simpa using this
      obtain ⟨k1, k2⟩ := hat i hk
      rw [k1] at hu
      rw [k2] at hc
      obtain rfl := Option.some.inj hu
      obtain rfl := Option.some.inj hc
      exact (hq i hk).2.2.2
end Go.Proofs.Ytemhmbaacpfnaaa
