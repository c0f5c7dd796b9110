/- The contracts of the laws' toCylinderS, markCylinderS. No condition. -/
import Derived.Test.YtemhmbaacpfnaaaRowCyl2
namespace Go.Proofs.Ytemhmbaacpfnaaa
open Go.ChangeShapes Go.WideShapes Go.ChangeAt Go.RowKit

theorem infoCyl : (Try.prog.info? 26).map (fun i => (i.zero, i.size, i.bytes)) = some (some (.agg #[.int .i64 0, .int .i64 0, .slice none 0 0]), 3, 40) := by kernel_rfl
theorem set3_next {ys F : List Value} {j : Nat} {x y z : Value} (hF : F.length = j * 3) (h : ∀ c, c < j * 3 → ys[c]? = F[c]?) (hj : j * 3 + 2 < ys.length) :
    ∀ c, c < (j + 1) * 3 → (((ys.set (j * 3) x).set (j * 3 + 1) y).set (j * 3 + 2) z)[c]? = (F ++ [x, y, z])[c]? := by
  intro c hc
  by_cases h0 : c < j * 3
  · rw [List.getElem?_set_ne (by omega), List.getElem?_set_ne (by omega), List.getElem?_set_ne (by omega), h c h0, List.getElem?_append_left (by omega)]
  · rw [List.getElem?_append_right (by omega), hF]
    have : c = j * 3 ∨ c = j * 3 + 1 ∨ c = j * 3 + 2 := by omega
    rcases this with rfl | rfl | rfl
    · rw [List.getElem?_set_ne (by omega), List.getElem?_set_ne (by omega), List.getElem?_set_self (by omega), Nat.sub_self]; rfl
    · rw [List.getElem?_set_ne (by omega), List.getElem?_set_self (by rw [List.length_set]; omega), show j * 3 + 1 - j * 3 = 1 by omega]; rfl
    · rw [List.getElem?_set_self (by rw [List.length_set, List.length_set]; omega), show j * 3 + 2 - j * 3 = 2 by omega]; rfl
/-- What holds of the first j cylinders of a copy. -/
def CopyY (B j : Nat) (w : World) (ys : List Value) (us : List Value) (cs : List Cyl) : Prop :=
  us.length = j ∧ (∀ c, c < j * 3 → ys[c]? = (flatY us (cs.take j))[c]?) ∧
    (∀ (i : Nat) (u : Value) (c : Cyl), us[i]? = some u → cs[i]? = some c → w.ownsRow B 34 2 u c.2.2.length (flat2 c.2.2) ∧ u.ownBlock ≠ some B) ∧
    (∀ (i k : Nat) (u t : Value) (g : Nat), us[i]? = some u → us[k]? = some t → i ≠ k → u.ownBlock = some g → t.ownBlock ≠ some g)
theorem copyY_next {B j : Nat} {w w2 w3 : World} {ys us : List Value} {cs : List Cyl} {u : Value} {c : Cyl} (h : CopyY B j w ys us cs) (hj : j * 3 + 2 < ys.length) (hc : cs[j]? = some c) (hB : B < w.heap.size)
    (hu : w2.ownsRow w.heap.size 34 2 u c.2.2.length (flat2 c.2.2)) (hb : Below w.heap.size w w2) (hg : w2.grownBy w3 (some B)) :
    CopyY B (j + 1) w3 (((ys.set (j * 3) (.int .i64 c.1)).set (j * 3 + 1) (.int .i64 c.2.1)).set (j * 3 + 2) u) (us ++ [u]) cs := by
  have hlt : j < cs.length := (List.getElem?_eq_some_iff.1 hc).1
  have hub : ∀ g, u.ownBlock = some g → w.heap.size ≤ g := fun g hgu => (World.ownsRow.lt hu g hgu).1
  have hne : u.ownBlock ≠ some B := fun e => by have := hub B e; omega
  have hcs : ∀ i, i < us.length → ∃ c', cs[i]? = some c' := fun i hi => ⟨_, List.getElem?_eq_getElem (by have := h.1; omega)⟩
  have old : ∀ (i : Nat) (t : Value), us[i]? = some t → ∀ g, t.ownBlock = some g → g < w.heap.size := fun i t ht g hgt => by
    obtain ⟨c', hc'⟩ := hcs i (List.getElem?_eq_some_iff.1 ht).1
    exact (World.ownsRow.lt (h.2.2.1 i t c' ht hc').1 g hgt).2
  have cases_ : ∀ (i : Nat) (t : Value), (us ++ [u])[i]? = some t → (i < us.length ∧ us[i]? = some t) ∨ (i = us.length ∧ t = u) := fun i t ht => by
    by_cases hi : i < us.length
    · rw [List.getElem?_append_left hi] at ht; exact Or.inl ⟨hi, ht⟩
    · rw [List.getElem?_append_right (by omega)] at ht
      have hlt := (List.getElem?_eq_some_iff.1 ht).1
      rw [List.length_singleton] at hlt
      have e : i - us.length = 0 := by omega
      rw [e] at ht
      exact Or.inr ⟨by omega, (Option.some.inj ht).symm⟩
  have hlen : us.length = (cs.take j).length := by rw [h.1, List.length_take]; omega
  refine ⟨by rw [List.length_append, h.1]; rfl, ?_, fun i t c' ht hc' => ?_, fun i k t s g ht hs hik hgt => ?_⟩
  · have e : cs.take (j + 1) = cs.take j ++ [c] := by rw [List.take_add_one, hc]; rfl
    rw [e, flatY_snoc u c hlen]
    exact set3_next (by rw [flatY_len hlen, List.length_take]; omega) h.2.1 hj
  · rcases cases_ i t ht with ⟨hi, ht'⟩ | ⟨rfl, rfl⟩
    · obtain ⟨k1, k2⟩ := h.2.2.1 i t c' ht' hc'
      exact ⟨World.ownsRow.kept (ownS_below k1 hb) hg (Or.inr k2), k2⟩
    · rw [h.1, hc] at hc'
      obtain rfl := Option.some.inj hc'
      exact ⟨ownS_mono (World.ownsRow.kept hu hg (Or.inr hne)) (by omega), hne⟩
  · rcases cases_ i t ht with ⟨hi, ht'⟩ | ⟨rfl, rfl⟩
    · rcases cases_ k s hs with ⟨hk, hs'⟩ | ⟨rfl, rfl⟩
      · exact h.2.2.2 i k t s g ht' hs' hik hgt
      · intro e
        have := old i t ht' g hgt
        have := hub g e
        omega
    · rcases cases_ k s hs with ⟨hk, hs'⟩ | ⟨rfl, rfl⟩
      · intro e
        have := old k s hs' g e
        have := hub g hgt
        omega
      · exact absurd rfl hik

set_option maxHeartbeats 2000000 in
set_option maxRecDepth 100000 in
theorem toYY_any {w : World} {v : Value} {us : List Value} {cs : List Cyl} (h : RdY w v us cs) (hl : bulkY cs ≤ 1048576) :
    Calls Try.prog 27 #[v] w fun e w' => ∃ v' ts, e = .returned v' ∧ OwY w.heap.size w'.heap.size w' v' ts cs ∧ Below w.heap.size w w' := by
  obtain ⟨i0, hi, hz0, hz1, hz2⟩ := info_parts infoCyl
  obtain ⟨a1, cap1, rfl⟩ := h.slice
  have hll : cs.length ≤ 1048576 := by unfold bulkY at hl; omega
  have HLE : Hid (∀ (k : Nat) (c : Cyl), cs[k]? = some c → c.2.2.length ≤ 1048576) := Lib.hid fun k c hk => by have := lensY_at hk; unfold bulkY at hl; omega
  go_enter Try.func27, Try.ntmps27
  go_wp2_with (at_make; refine wpList_make_full _ rfl _ _ 31 rfl w.heap.size 26 i0 (.agg #[.int .i64 0, .int .i64 0, .slice none 0 0]) 3 Try.underlying31 hi hz0 hz1 _ _ _ _ cs.length rfl rfl (by omega) (by omega) (by rw [hz2]; omega) (by unfold maxLen; omega) (Nat.le_refl _) ?_)
  intro w1 hown hgrow
  have hb1 : Below w.heap.size w w1 := (Below.refl _ _).grown hgrow (Nat.le_refl _) (by intro k hk; cases hk)
  have hsz1 : w.heap.size < w1.heap.size := (World.ownsRow.lt hown w.heap.size rfl).2
  go_wp2_with fail
  go_loopw [4] (fun v4 wr => ∃ (j : Nat) (ys us : List Value), j ≤ cs.length ∧ v4 = .int .i64 (j : Int) ∧ wr.ownsRow w.heap.size 26 3 (.slice (some ⟨w.heap.size, 0, none⟩) cs.length cs.length) cs.length ys ∧ Below w.heap.size w wr ∧ Hid (CopyY w.heap.size j wr ys us cs))
    (fun v4 _ => cs.length - (intOf v4).toNat)
  case atStart => exact ⟨0, _, [], Nat.zero_le _, rfl, hown, hb1, Lib.hid ⟨rfl, fun c hc => by omega, fun i u l hi => by simp at hi, fun i k u t g hi => by simp at hi⟩⟩
  case round =>
    obtain ⟨j, ys, ts, hj, rfl, hys, hbr, HI⟩ := hrel
    clear hown hgrow hb1 hsz1
    by_cases hlt : j < cs.length
    · obtain ⟨c, hc⟩ : ∃ c, cs[j]? = some c := ⟨_, List.getElem?_eq_getElem hlt⟩
      have HC := Lib.hid hc
      obtain ⟨b1, o1, c1, u1, -, hv1, x1, x2, x3, hr1⟩ := (h.below hbr).cell hc
      simp only [Value.slice.injEq, true_and] at hv1
      obtain ⟨rfl, rfl⟩ := hv1
      have hl1 := HLE.out j c hc
      clear hc
      have hsz : w.heap.size < wr.heap.size := (World.ownsRow.lt hys w.heap.size rfl).2
      go_wp2_with fail
      refine (toCyl_any c.1 c.2.1 hr1 hl1).mono ?_
      rintro e w2 ⟨v2, rfl, ho2, hb2⟩
      obtain ⟨a2, cap2, rfl⟩ := ownS_slice ho2
      have hys2 := ownS_below hys hb2
      have hb3 := bstep hbr hb2
      have hyl : ys.length = cs.length * 3 := hys.1
      obtain ⟨u0, hu0⟩ : ∃ u, ys[j * 3]? = some u := ⟨_, List.getElem?_eq_getElem (by omega)⟩
      obtain ⟨u1, hu1⟩ : ∃ u, ys[j * 3 + 1]? = some u := ⟨_, List.getElem?_eq_getElem (by omega)⟩
      obtain ⟨u2, hu2⟩ : ∃ u, ys[j * 3 + 2]? = some u := ⟨_, List.getElem?_eq_getElem (by omega)⟩
      have hc0 : w2.cell? ⟨w.heap.size, j * 3, none⟩ = some u0 := by rw [hys2.cellAt _ (by omega)]; exact hu0
      have hc1 : w2.cell? ⟨w.heap.size, j * 3 + 1, none⟩ = some u1 := by rw [hys2.cellAt _ (by omega)]; exact hu1
      have hc2 : w2.cell? ⟨w.heap.size, j * 3 + 2, none⟩ = some u2 := by rw [hys2.cellAt _ (by omega)]; exact hu2
      have hf0 := hys2.frozenAt (j * 3)
      have hf1 := hys2.frozenAt (j * 3 + 1)
      have hf2 := hys2.frozenAt (j * 3 + 2)
      have hst1 := hys2.stored (j * 3) (.int .i64 c.1)
      have hst2 := hst1.1.stored (j * 3 + 1) (.int .i64 c.2.1)
      have hst3 := hst2.1.stored (j * 3 + 2) (.slice a2 c.2.2.length cap2)
      have HST := Lib.hid hst3.1
      have HI2 := Lib.hid (copyY_next HI.out (by omega) HC.out hsz ho2 hb2 ((hst1.2.trans hst2.2).trans hst3.2))
      have hb4 : Below w.heap.size w (((w2.setCell ⟨w.heap.size, j * 3, none⟩ (.int .i64 c.1)).setCell ⟨w.heap.size, j * 3 + 1, none⟩ (.int .i64 c.2.1)).setCell ⟨w.heap.size, j * 3 + 2, none⟩ (.slice a2 c.2.2.length cap2)) := ((hb3.setCell (Nat.le_refl _) _).setCell (Nat.le_refl _) _).setCell (Nat.le_refl _) _
      clear hst1 hst2 hst3 hys hys2 ho2 hb2 hb3 hyl hu0 hu1 hu2 hsz x1 x2 x3 hr1 hbr
      go_wp2
      go_roundw
      case rel => exact ⟨j + 1, _, _, by omega, by go_num, HST.out, hb4, HI2⟩
      case measure => simp [intOf]; omega
    · obtain rfl : j = cs.length := by omega
      have hyl : ys.length = cs.length * 3 := hys.1
      have HO : Hid (OwY w.heap.size wr.heap.size wr (.slice (some ⟨w.heap.size, 0, none⟩) cs.length cs.length) ts cs) := Lib.hid (by
        have hI := HI.out
        have e : ys = flatY ts cs := List.ext_getElem? fun c => by
          by_cases hc : c < cs.length * 3
          · have := hI.2.1 c hc; rwa [List.take_length] at this
          · rw [List.getElem?_eq_none (by omega), List.getElem?_eq_none (by rw [flatY_len hI.1]; omega)]
        rw [← e.symm] at hyl
        subst e
        refine ⟨hI.1, hys, fun g hg => (World.ownsRow.lt hys g hg).2, fun i u c hu hc => ?_, hI.2.2.2⟩
        obtain ⟨h1, h2⟩ := hI.2.2.1 i u c hu hc
        exact ⟨h1, fun g hg => ⟨(World.ownsRow.lt h1 g hg).2, fun e => h2 (by rw [hg]; exact e.symm ▸ rfl)⟩⟩)
      clear hyl
      go_wp2
      go_ret
      exact ⟨_, ts, rfl, HO.out, hbr⟩

/-- What is left to be marked behind j cylinders. -/
def MarkY (lo j : Nat) (w : World) (v : Value) (us : List Value) (cs : List Cyl) : Prop :=
  (∃ ys, w.ownsRow lo 26 3 v cs.length ys ∧ ∀ (i : Nat) (u : Value), j ≤ i → us[i]? = some u → ys[i * 3 + 2]? = some u) ∧
    ∀ (i : Nat) (u : Value) (c : Cyl), j ≤ i → us[i]? = some u → cs[i]? = some c → w.ownsRow lo 34 2 u c.2.2.length (flat2 c.2.2)
theorem apart_of2 {u t : Value} (h : ∀ g, u.ownBlock = some g → t.ownBlock ≠ some g) : t.ownBlock = none ∨ t.ownBlock ≠ u.ownBlock := by
  cases ht : t.ownBlock with
  | none => exact Or.inl rfl
  | some g => exact Or.inr fun e => h g e.symm ht

set_option maxHeartbeats 2000000 in
set_option maxRecDepth 100000 in
theorem markYY_any {lo hi : Nat} {w : World} {v : Value} {us : List Value} {cs : List Cyl} (h : OwY lo hi w v us cs) (hm : bulkY cs ≤ 1048576) :
    Calls Try.prog 29 #[v, .int .i64 1] w fun e w' => ∃ x : Int, 0 ≤ x ∧ e = .returned (.int .i64 x) ∧ Band lo hi w w' := by
  obtain ⟨a1, cap1, rfl⟩ := h.rd.slice
  have HH := Lib.hid h
  have hmb := Lib.hid hm
  have hll : cs.length ≤ 1048576 := by unfold bulkY at hm; omega
  go_enter Try.func29, Try.ntmps29
  go_wp2
  go_loopw [1, 5] (fun v1 v5 wr => ∃ j K : Nat, j ≤ cs.length ∧ v5 = .int .i64 (j : Int) ∧ v1 = .int .i64 (K : Int) ∧ Hid (K = 1 + 2 * j + lensY (cs.take j) * 2) ∧ Hid (Band lo hi w wr) ∧ Hid (MarkY lo j wr (.slice a1 cs.length cap1) us cs)) (fun _ v5 _ => cs.length - (intOf v5).toNat)
  case atStart => exact ⟨0, 1, Nat.zero_le _, rfl, rfl, Lib.hid (by simp [lensY]), Lib.hid (Band.refl _ _ _), Lib.hid ⟨⟨_, h.2.1, fun i u _ hu => (flatY_at hu (List.getElem?_eq_getElem (show i < cs.length by have := (List.getElem?_eq_some_iff.1 hu).1; have := h.1; omega))).2.2⟩, fun i u c _ hu hc => (h.2.2.2.1 i u c hu hc).1⟩⟩
  case round =>
    obtain ⟨j, K, hj, rfl, rfl, HK, HB, HM⟩ := hrel
    by_cases hlt : j < cs.length
    · obtain ⟨c, hc⟩ : ∃ c, cs[j]? = some c := ⟨_, List.getElem?_eq_getElem hlt⟩
      obtain ⟨u, hu⟩ : ∃ u, us[j]? = some u := ⟨_, List.getElem?_eq_getElem (by rw [HH.out.1]; exact hlt)⟩
      obtain ⟨⟨ys, hown, hat⟩, hpin⟩ := HM.out
      have hpins := hpin j u c (Nat.le_refl _) hu hc
      have hyu := hat j u (Nat.le_refl _) hu
      obtain ⟨g, cap, hgv, hBg, -, -⟩ := ownS_pos hown (by omega)
      simp only [Value.slice.injEq, true_and] at hgv
      obtain ⟨rfl, rfl⟩ := hgv
      have hgh := HH.out.2.2.1 g rfl
      have HS := Lib.hid (lensY_succ hc)
      have HE := Lib.hid (lensY_le cs (j + 1))
      have hKb : K + 2 + c.2.2.length * 2 ≤ 8000000 := by have := HK.out; have := HS.out; have := HE.out; have := hmb.out; unfold bulkY at this; omega
      have hKb2 : (K + 1 + 1) + c.2.2.length * 2 ≤ 8000000 := by omega
      have ek1 : IntKind.i64.wrap ((K : Int) + 1) = (K : Int) + 1 := IntWalk.i64_in _ (by omega)
      have ek2 : IntKind.i64.wrap ((K : Int) + 1 + 1) = (K : Int) + 1 + 1 := IntWalk.i64_in _ (by omega)
      have HU := Lib.hid (h.2.2.2.1 j u c hu hc).2
      have HU2 := Lib.hid hu
      have hyl : ys.length = cs.length * 3 := hown.1
      obtain ⟨u0, hu0⟩ : ∃ z, ys[j * 3]? = some z := ⟨_, List.getElem?_eq_getElem (by omega)⟩
      obtain ⟨u1, hu1⟩ : ∃ z, ys[j * 3 + 1]? = some z := ⟨_, List.getElem?_eq_getElem (by omega)⟩
      have hc0 : wr.cell? ⟨g, j * 3, none⟩ = some u0 := by rw [hown.cellAt _ (by omega)]; exact hu0
      have hc1 : wr.cell? ⟨g, j * 3 + 1, none⟩ = some u1 := by rw [hown.cellAt _ (by omega)]; exact hu1
      have hc2 : wr.cell? ⟨g, j * 3 + 2, none⟩ = some u := by rw [hown.cellAt _ (by omega)]; exact hyu
      have hf0 := hown.frozenAt (j * 3)
      have hf1 := hown.frozenAt (j * 3 + 1)
      have hst1 := hown.stored (j * 3) (.int .i64 (K : Int))
      have hst2 := hst1.1.stored (j * 3 + 1) (.int .i64 ((K : Int) + 1))
      obtain ⟨W, hW⟩ : ∃ W, W = (wr.setCell ⟨g, j * 3, none⟩ (.int .i64 (K : Int))).setCell ⟨g, j * 3 + 1, none⟩ (.int .i64 ((K : Int) + 1)) := ⟨_, rfl⟩
      rw [← hW] at hst2
      have hgr : wr.grownBy W (some g) := hst1.2.trans hst2.2
      have hapu : u.ownBlock ≠ some g := fun e => (HU.out g e).2 rfl
      have hpinW := World.ownsRow.kept hpins hgr (Or.inr hapu)
      have hkeepW : ∀ (i : Nat) (t : Value) (c' : Cyl), j + 1 ≤ i → us[i]? = some t → cs[i]? = some c' → W.ownsRow lo 34 2 t c'.2.2.length (flat2 c'.2.2) := fun i t c' hi' ht hc' => World.ownsRow.kept (hpin i t c' (by omega) ht hc') hgr (Or.inr fun e => ((HH.out.2.2.2.1 i t c' ht hc').2 g e).2 rfl)
      have hrowW : ∀ (i : Nat) (t : Value), j + 1 ≤ i → us[i]? = some t → ((ys.set (j * 3) (.int .i64 (K : Int))).set (j * 3 + 1) (.int .i64 ((K : Int) + 1)))[i * 3 + 2]? = some t := fun i t hi' ht => by
        rw [List.getElem?_set_ne (by omega), List.getElem?_set_ne (by omega)]; exact hat i t (by omega) ht
      have HBW : Hid (Band lo hi w W) := Lib.hid (HB.out.trans (band_of_grown hgr fun k hk => by obtain rfl := Option.some.inj hk; exact ⟨hBg, hgh⟩))
      have HKW := Lib.hid hkeepW
      have HRW := Lib.hid hrowW
      have HOW := Lib.hid hst2.1
      have hcW2 : W.cell? ⟨g, j * 3 + 2, none⟩ = some u := by rw [hW, World.cell?_setCell_other (h := by simp), World.cell?_setCell_other (h := by simp)]; exact hc2
      have hc1' : (wr.setCell ⟨g, j * 3, none⟩ (.int .i64 (K : Int))).cell? ⟨g, j * 3 + 1, none⟩ = some u1 := by rw [World.cell?_setCell_other (h := by simp)]; exact hc1
      have hf1' : (wr.setCell ⟨g, j * 3, none⟩ (.int .i64 (K : Int))).frozen? ⟨g, j * 3 + 1, none⟩ = false := by rw [froz_set]; exact hf1
      have hcW2' := hcW2
      rw [hW] at hcW2'
      clear hc hu hown hat hpin hpins hst1 hst2 hgr hkeepW hrowW hyl hu0 hu1 hyu
      go_wp2_with fail
      rw [← hW]
      clear hW hcW2' hc0 hc1 hc2 hf0 hf1 hc1' hf1'
      have C1 := markPins_any (K + 1 + 1) hKb2 hpinW
      rw [show ((K + 1 + 1 : Nat) : Int) = (K : Int) + 1 + 1 by omega] at C1
      refine C1.mono ?_
      rintro e w1 ⟨rfl, hg, -⟩
      clear C1
      have HB2 : Hid (Band lo hi w w1) := Lib.hid (HBW.out.trans (band_of_grown hg fun k hk => ⟨(World.ownsRow.lt hpinW k hk).1, (HU.out k hk).1⟩))
      have HK2 : Hid (K + 1 + 1 + c.2.2.length * 2 = 1 + 2 * (j + 1) + lensY (cs.take (j + 1)) * 2) := Lib.hid (by have := HK.out; have := HS.out; omega)
      have HM2 : Hid (MarkY lo (j + 1) w1 (.slice (some ⟨g, 0, none⟩) cs.length cap1) us cs) := Lib.hid (by
        refine ⟨⟨_, World.ownsRow.kept HOW.out hg (apart_of2 fun k hk e => (HU.out k hk).2 e), HRW.out⟩, fun i t c' hi' ht hc' => World.ownsRow.kept (HKW.out i t c' hi' ht hc') hg (apart_of2 fun k hk => HH.out.2.2.2.2 j i u t k HU2.out ht (by omega) hk)⟩)
      clear hpinW hg hcW2 HBW HKW HRW HOW
      generalize K + 1 + 1 + c.2.2.length * 2 = K2 at *
      go_wp2
      go_roundw
      case rel => exact ⟨j + 1, K2, by omega, by go_num, rfl, HK2, HB2, HM2⟩
      case measure => simp [intOf]; omega
    · obtain rfl : j = cs.length := by omega
      go_wp2
      go_ret
      exact ⟨_, by omega, rfl, HB.out⟩
end Go.Proofs.Ytemhmbaacpfnaaa
