/- Slices of ints as arguments: opened to their cells, and copied by the laws' helper. No condition. -/
import Derived.Test.YtcbdoldcdgaooaaInts
import Derived.Test.YtcbdoldcdgaooaaTuneOpen
namespace Go.Proofs.Ytcbdoldcdgaooaa
open Go.ChangeShapes Go.WideShapes Go.ChangeAt Go.RowKit

theorem row_of_trod {H : Type} {enc : TypeId × Value → H} {P : Program} {W : World} {t e : TypeId} {v : Value} {d : DataW H} {ps : List MemPlace} {r : Reach} {b0 : Nat}
    (ht : P.underlying t = some (.slice e)) (he : P.underlying e = some (.int .i64)) (hc : P.cellsOf e = 1)
    (hval : Value.okWide P W r b0 t v) (hd : DataW.Trod enc P W 0 (fun _ => true) true t v d ps) : ∃ l : List Int, Rd1 W v l ∧ ∀ x ∈ l, (Lit.int .i64 x).wf = true := by
  obtain ⟨a0, len, cap, rfl⟩ := okWide_slice ht hval
  obtain ⟨fuel, hf⟩ := hd
  rcases open_ints ht he hc hf with ⟨hcs, hx⟩ | ⟨a, len', cap', zs, hcs, _, hl, hm, hz, hx, hcell, hwz⟩
  · simp [Value.cells] at hcs
    obtain ⟨rfl, rfl, rfl⟩ := hcs
    exact ⟨[], ⟨rfl, Nat.zero_le _, Or.inl ⟨rfl, _, _, rfl⟩⟩, fun x hx => by simp at hx⟩
  · simp [Value.cells] at hcs
    obtain ⟨rfl, rfl, rfl⟩ := hcs
    simp only [if_true] at hz
    have htl : (zs.take len).length = len := by rw [List.length_take]; omega
    refine ⟨zs.take len, ⟨by simp, by rw [htl]; omega, ?_⟩, fun x hx => hwz x (List.mem_of_mem_take hx)⟩
    by_cases h0 : len = 0
    · subst h0; exact Or.inl ⟨by simp, _, _, rfl⟩
    · right
      have hs : a.spot = none := spot_none (hcell 0 (by omega))
      obtain ⟨b, off, spot⟩ := a
      simp only at hs
      subst hs
      refine ⟨b, off, cap, by rw [htl], by omega, fun c hc => ?_⟩
      rw [htl] at hc
      have h := hcell c (by omega)
      rw [add_plain] at h
      rw [h, List.getElem?_map, List.getElem?_take_of_lt (by omega), List.getElem?_eq_getElem (by omega)]
      simp [List.getD, List.getElem?_eq_getElem (show c < zs.length by omega), intV]
set_option maxRecDepth 100000 in
theorem ints_of_trod {H : Type} {enc : TypeId × Value → H} {W : World} {v : Value} {d : DataW H} {ps : List MemPlace} {r : Reach} {b0 : Nat}
    (hval : Value.okWide Try.prog W r b0 33 v) (hd : DataW.Trod enc Try.prog W 0 (fun _ => true) true 33 v d ps) : ∃ l : List Int, Rd1 W v l ∧ ∀ x ∈ l, (Lit.int .i64 x).wf = true :=
  row_of_trod Try.underlying33 Try.underlying3 (by kernel_rfl) hval hd

theorem set1_next {ys : List Value} {l : List Int} {j : Nat} {p : Int} (h : ∀ c, c < j → ys[c]? = (l.map intV)[c]?) (hp : l[j]? = some p) (hj : j < ys.length) :
    ∀ c, c < j + 1 → (ys.set j (.int .i64 p))[c]? = (l.map intV)[c]? := by
  intro c hc
  by_cases h1 : c = j
  · subst h1; rw [List.getElem?_set_self (by omega), List.getElem?_map, hp]; rfl
  · rw [List.getElem?_set_ne (by omega)]; exact h c (by omega)

set_option maxHeartbeats 2000000 in
theorem toInts_any {w : World} {v : Value} {l : List Int} (h1 : Rd1 w v l) (hl : l.length ≤ 1048576) :
    Calls Try.prog 25 #[v] w fun e w' => ∃ v', e = .returned v' ∧ w'.ownsRow w.heap.size 3 1 v' l.length (l.map intV) ∧ Below w.heap.size w w' := by
  obtain ⟨i0, hi, hz0, hz1, hz2⟩ := info_parts infoInt
  obtain ⟨a1, cap1, rfl⟩ := Rd.slice h1
  go_enter Try.func25, Try.ntmps25
  go_wp2_with (at_make; refine wpList_make_full _ rfl _ _ 33 rfl w.heap.size 3 i0 (.int .i64 0) 1 Try.underlying33 hi hz0 hz1 _ _ _ _ l.length rfl rfl (by omega) (by omega) (by rw [hz2]; omega) (by unfold maxLen; omega) (Nat.le_refl _) ?_)
  intro w1 hown hgrow
  have hb1 : Below w.heap.size w w1 := (Below.refl _ _).grown hgrow (Nat.le_refl _) (by intro k hk; cases hk)
  go_wp2_with fail
  go_loopw [4] (fun v4 wr => ∃ (j : Nat) (ys : List Value), j ≤ l.length ∧ v4 = .int .i64 j ∧ wr.ownsRow w.heap.size 3 1 (.slice (some ⟨w.heap.size, 0, none⟩) l.length l.length) l.length ys ∧ Below w.heap.size w wr ∧ (∀ c, c < j → ys[c]? = (l.map intV)[c]?))
    (fun v4 _ => l.length - (intOf v4).toNat)
  case atStart => exact ⟨0, _, Nat.zero_le _, rfl, hown, hb1, fun c hc => by omega⟩
  case round =>
    obtain ⟨j, ys, hj, rfl, hys, hbr, heq⟩ := hrel
    clear hown hgrow hb1
    have HEQ := Lib.hid heq; clear heq
    by_cases hlt : j < l.length
    · obtain ⟨p, hp⟩ : ∃ p, l[j]? = some p := ⟨_, List.getElem?_eq_getElem hlt⟩
      have HP := Lib.hid hp
      obtain ⟨b1, o1, c1, hv1, x1⟩ := Rd1.cell (Rd.below h1 hbr) hp
      simp only [Value.slice.injEq, true_and] at hv1
      obtain ⟨rfl, rfl⟩ := hv1
      clear hp
      have hyl : ys.length = l.length := by simpa using hys.1
      obtain ⟨u0, hu0⟩ : ∃ u, ys[j]? = some u := ⟨_, List.getElem?_eq_getElem (by omega)⟩
      have hc0 : wr.cell? ⟨w.heap.size, j, none⟩ = some u0 := by rw [hys.cellAt _ (by omega)]; exact hu0
      have hf0 := hys.frozenAt j
      have hst1 := (hys.stored j (.int .i64 p)).1
      have HST := Lib.hid hst1
      have HYL := Lib.hid hyl
      have hnx := set1_next HEQ.out HP.out (by omega : j < ys.length)
      have HNX := Lib.hid hnx; clear hnx
      have hb4 : Below w.heap.size w (wr.setCell ⟨w.heap.size, j, none⟩ (.int .i64 p)) := hbr.setCell (Nat.le_refl _) _
      clear hys hst1 hyl hu0
      go_wp2
      go_roundw
      case rel => exact ⟨j + 1, _, by omega, by go_num, HST.out, hb4, HNX.out⟩
      case measure => simp [intOf]; omega
    · obtain rfl : j = l.length := by omega
      have hfl : ys = l.map intV := List.ext_getElem? fun c => by
        by_cases hc : c < l.length
        · exact HEQ.out c hc
        · rw [List.getElem?_eq_none (by rw [hys.1]; omega), List.getElem?_eq_none (by rw [List.length_map]; omega)]
      subst hfl
      go_wp2
      go_ret
      exact ⟨_, rfl, hys, hbr⟩
end Go.Proofs.Ytcbdoldcdgaooaa
